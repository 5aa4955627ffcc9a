/- base.Fields and the document's, walked. -/
import Derived.Test.YtcgecflebplgaaaBsFieldsM
import Derived.Test.YtcgecflebplgaaaBsIdx
import Derived.Test.YtcgecflebplgaaaBsShelf
import Derived.Test.YtcgecflebplgaaaAppB
import Derived.Test.YtcgecflebplgaaaOwns
set_option linter.unusedSimpArgs false
set_option linter.unusedVariables false
namespace Go.Proofs.Ytcgecflebplgaaa
open Go Go.RowKit

theorem info_str : (Try.prog.info? 9).map (fun i => (i.zero, i.size, i.bytes)) = some (some (.string ⟨#[]⟩), 1, 16) := by kernel_rfl
theorem wpList_append_str {w : World} {ops : Array Oper} {rest : List Oper} {o : Oper} {a : Act} {Q : Exit → Act → World → Prop} (hgd : o.guard = none) (s x : Operand)
    (ho : o.op = .call { callee := .builtin .append, args := #[s, x], argTypes := #[36, 36] })
    (base : Nat) (v : Value) (n : Nat) (xs : List Value) (hs : a.eval s = v) (hown : w.ownsRow base 9 1 v n xs)
    (ad : Addr) (c : Nat) (y : ByteArray) (hx : a.eval x = .slice (some ad) 1 c) (hy : w.cell? ad = some (.string y)) (hn : n + 1 ≤ 8796093022208) (hbase : base ≤ w.heap.size)
    (h : ∀ v' w', w'.ownsRow base 9 1 v' (n + 1) (xs ++ [.string y]) → w.grownBy w' v.ownBlock → wpList Try.prog ops Q rest (a.put o.dst v') w') : wpList Try.prog ops Q (o :: rest) a w := by
  obtain ⟨i0, hi, hz0, hz1, hz2⟩ := info_parts info_str
  refine wpList_append_own w hgd s x 36 ho base 9 i0 (.string ⟨#[]⟩) 1 16 Try.underlying36 hi hz0 hz1 hz2 rfl (by decide) v n xs hs hown ad 1 c [.string y] hx rfl ?_ ?_ (by unfold maxLen; omega) (by omega) hbase fun v' w' h1 h2 _ => h v' w' h1 h2
  · intro j u hj
    match j, hj with
    | 0, hj =>
      simp only [List.getElem?_cons_zero, Option.some.injEq] at hj
      subst hj
      obtain ⟨b, off, sp⟩ := ad
      simpa [Addr.add] using hy
    | (j + 1), hj => simp at hj
  · intro u hu; simp at hu; subst hu; rfl

set_option maxHeartbeats 1000000 in
theorem sclone_str (w : World) (s : ByteArray) (hs : s.size ≤ 281474976710656) :
    Calls Try.prog 38 #[.string s] w fun e w' => e = .returned (.string s) ∧ Below w.heap.size w w' := by
  have C := hid (Try.stringslite_Clone s w hs)
  go_enter Try.func38, Try.ntmps38
  go_wp2_with fail
  refine C.out.mono ?_
  rintro e w' ⟨rfl, hb⟩
  go_wp2
  go_ret
  exact ⟨rfl, hb⟩

theorem drop_split {l : List Int} {a b : Nat} (h : a ≤ b) (hb : b < l.length) : l.drop a = (l.drop a).take (b - a) ++ l.getD b 0 :: l.drop (b + 1) := by
  conv => lhs; rw [← List.take_append_drop (b - a) (l.drop a)]
  congr 1
  rw [List.drop_drop, show a + (b - a) = b by omega, List.drop_eq_getElem_cons hb, getD_of_lt hb]
theorem take_grow {l : List Int} {a b : Nat} (h : a ≤ b) (hb : b < l.length) : (l.drop a).take (b + 1 - a) = (l.drop a).take (b - a) ++ [l.getD b 0] := by
  rw [show b + 1 - a = (b - a) + 1 by omega, List.take_succ_eq_append_getElem (by rw [List.length_drop]; omega), List.getElem_drop, getD_of_lt hb]
  congr 2
  simp [show a + (b - a) = b by omega]

set_option maxRecDepth 100000 in
set_option maxHeartbeats 4000000 in
theorem fields_any (w : World) (s : ByteArray) (hs : s.size ≤ 8796093022000) :
    Calls Try.prog 23 #[.string s] w fun e w' => ∃ v', e = .returned v' ∧ w'.ownsRow w.heap.size 9 1 v' (fieldsL (sB s)).length ((fieldsL (sB s)).map strV) ∧ Below w.heap.size w w' := by
  obtain ⟨l, HL⟩ : ∃ l, Hid (sB s = l) := ⟨_, rfl⟩
  have hll : l.length = s.size := by rw [← HL.out]; exact sB_length s
  rw [HL.out]
  obtain ⟨G, HG⟩ : ∃ G, Hid (fieldsL l = G) := ⟨_, rfl⟩
  have hgl : G.length ≤ s.size + 1 := by rw [← HG.out, ← hll]; exact fieldsL_len l
  rw [HG.out]
  go_enter Try.func23, Try.ntmps23
  go_wp2
  go_loopw [3, 4, 8] (fun o f i wr => ∃ I FR : Nat, ∃ fs : List (List Int), I ≤ s.size ∧ FR ≤ I ∧ f = .int .i64 (FR : Int) ∧ i = .int .i64 (I : Int) ∧ fs.length ≤ s.size ∧ Hid (wr.ownsRow w.heap.size 9 1 o fs.length (fs.map strV)) ∧ Hid (fs ++ fieldsL (l.drop FR) = G) ∧ Hid (58 ∉ (l.drop FR).take (I - FR)) ∧ Hid (Below w.heap.size w wr)) (fun _ _ i _ => s.size - (intOf i).toNat)
  case atStart => exact ⟨0, 0, [], Nat.zero_le _, Nat.le_refl _, rfl, rfl, Nat.zero_le _, World.ownsRow_nil _ _ _ _, by rw [List.drop_zero]; exact HG.out, hid (by simp), Below.refl _ _⟩
  case round =>
    obtain ⟨I, FR, fs, hI, hF, rfl, rfl, hfl, HO, HE, HN, HBw⟩ := hrel
    by_cases hlt : I < s.size
    · have q1 := idx_str wr s I hlt
      rw [HL.out] at q1
      by_cases hc : l.getD I 0 = 58
      · rw [hc] at q1
        have q2 := cut_str wr s FR I hF (by omega)
        rw [HL.out] at q2
        obtain ⟨f, Hf⟩ : ∃ f, Hid ((l.drop FR).take (I - FR) = f) := ⟨_, rfl⟩
        rw [Hf.out] at q2
        have HNf : Hid (58 ∉ f) := by rw [← Hf.out]; exact HN.out
        have hfs : (bS f).size ≤ 281474976710656 := by rw [bS_size, ← Hf.out]; simp; omega
        have C := hid (sclone_str wr (bS f) hfs)
        have HE2 : Hid ((fs ++ [f]) ++ fieldsL (l.drop (I + 1)) = G) := by
          refine hid ?_
          rw [← HE.out, drop_split hF (by omega : I < l.length), hc, Hf.out, fieldsL_cut _ _ HNf.out]
          simp
        have hlen2 : (fs ++ [f]).length + 1 ≤ s.size + 1 := by
          have h1 := congrArg List.length HE2.out
          have h2 := fieldsL_pos (l.drop (I + 1))
          rw [List.length_append] at h1
          omega
        go_wp2_with fail
        refine C.out.mono ?_
        rintro e w1 ⟨rfl, hb1⟩
        have B1 := hid hb1
        have HO1 := hid (own_below HO.out hb1)
        have hsz1 := B1.out.size
        have hsz0 := HBw.out.size
        have B2 := hid (HBw.out.trans (B1.out.mono HBw.out.size))
        clear hb1 C q2 q1
        go_wp2_with (at_builtin; refine wpList_append_str rfl _ _ rfl w.heap.size _ fs.length _ rfl (HO1.out.alloc _) ⟨w1.heap.size, 0, none⟩ 1 (bS f) rfl (by simp) ?q1 ?q2 ?_)
        case q1 => omega
        case q2 => simp; omega
        intro v' w2 hown2 hgr2
        have HO2 : Hid (w2.ownsRow w.heap.size 9 1 v' (fs ++ [f]).length ((fs ++ [f]).map strV)) := by
          rw [List.length_append, List.map_append]
          exact hown2
        have HB2 := hid ((B2.out.alloc (by omega) _).grown hgr2 (by simp; omega) (fun k e => (HO1.out.lt k e).1))
        clear hown2 hgr2
        go_wp2
        exact ⟨⟨I + 1, I + 1, fs ++ [f], by omega, Nat.le_refl _, by go_num, by go_num, by omega, HO2, HE2, hid (by simp), HB2⟩, by simp [intOf]; omega⟩
      · obtain ⟨x, Hx⟩ : ∃ x, Hid (l.getD I 0 = x) := ⟨_, rfl⟩
        rw [Hx.out] at q1 hc
        have HN2 : Hid (58 ∉ (l.drop FR).take (I + 1 - FR)) := by
          refine hid ?_
          rw [take_grow hF (by omega), Hx.out]
          intro h
          rcases List.mem_append.1 h with h | h
          · exact HN.out h
          · simp at h; exact hc h.symm
        go_wp2
        exact ⟨⟨I + 1, FR, fs, by omega, by omega, rfl, by go_num, hfl, HO, HE, HN2, HBw⟩, by simp [intOf]; omega⟩
    · have hI' : I = s.size := by omega
      have q2 := cut_str_end wr s FR (by omega)
      rw [HL.out] at q2
      have HG2 : Hid (G = fs ++ [l.drop FR]) := by
        refine hid ?_
        have := HN.out
        rw [List.take_of_length_le (by rw [List.length_drop]; omega)] at this
        rw [← HE.out, fieldsL_none _ this]
      obtain ⟨f, Hf⟩ : ∃ f, Hid (l.drop FR = f) := ⟨_, rfl⟩
      rw [Hf.out] at q2 HG2
      have hfs : (bS f).size ≤ 281474976710656 := by rw [bS_size, ← Hf.out]; simp; omega
      have C := hid (sclone_str wr (bS f) hfs)
      subst hI'
      go_wp2_with fail
      refine C.out.mono ?_
      rintro e w1 ⟨rfl, hb1⟩
      have B1 := hid hb1
      have HO1 := hid (own_below HO.out hb1)
      have hsz1 := B1.out.size
      have hsz0 := HBw.out.size
      have B2 := hid (HBw.out.trans (B1.out.mono HBw.out.size))
      clear hb1 C q2
      go_wp2_with (at_builtin; refine wpList_append_str rfl _ _ rfl w.heap.size _ fs.length _ rfl (HO1.out.alloc _) ⟨w1.heap.size, 0, none⟩ 1 (bS f) rfl (by simp) ?q1 ?q2 ?_)
      case q1 => omega
      case q2 => simp; omega
      intro v' w2 hown2 hgr2
      have HO2 : Hid (w2.ownsRow w.heap.size 9 1 v' G.length (G.map strV)) := by
        rw [HG2.out, List.length_append, List.map_append]
        exact hown2
      have HB2 := hid ((B2.out.alloc (by omega) _).grown hgr2 (by simp; omega) (fun k e => (HO1.out.lt k e).1))
      clear hown2 hgr2
      go_wp2
      go_ret
      exact ⟨_, rfl, HO2.out, HB2.out⟩
end Go.Proofs.Ytcgecflebplgaaa
