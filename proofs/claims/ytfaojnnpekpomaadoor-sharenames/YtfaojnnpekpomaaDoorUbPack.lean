/- Pack of ueb, walked. -/
import Derived.Test.YtfaojnnpekpomaaDoorUbApp
import Derived.Test.YtfaojnnpekpomaaDoorUbMay
import Derived.Test.YtfaojnnpekpomaaDoorBsIdx
import Derived.Laws.BytesString
set_option linter.unusedSimpArgs false
set_option linter.unusedVariables false
namespace Go.Proofs.YtfaojnnpekpomaaDoor
open Go Go.RowKit

theorem wpList_bytes_strD {ops : Array Oper} {rest : List Oper} {o : Oper} {a : Act} {w : World} {Q : Exit → Act → World → Prop} (hgd : o.guard = none) (x : Operand) (ho : o.op = .convert 9 41 x) (s : ByteArray) (hx : a.eval x = .string s) (hs : s.size ≤ 140737488355328)
    (h : ∀ c w', HB w' (.slice (some ⟨w.heap.size, 0, none⟩) s.size c) (sB s) → Below w.heap.size w w' → w'.heap.size = w.heap.size + 1 → wpList Tryd.prog ops Q rest (a.put o.dst (.slice (some ⟨w.heap.size, 0, none⟩) s.size c)) w') : wpList Tryd.prog ops Q (o :: rest) a w :=
  wpList_plain hgd fun _ hK => by
    have hr := run_bytes_of_string (P := Tryd.prog) w 9 41 5 s Tryd.underlying9 Tryd.underlying41 Tryd.underlying5
    unfold Oper.wp
    simp only [execOp, ho, hx, Sem.run_bind, hr, Result.andThen_ok]
    have hge := grownCap_ge w s.size 0 5
    have hle := grownCap_le_maxLen w s.size 0 5 (by unfold maxLen; omega)
    refine hK _ _ (h _ _ ⟨⟨_, _, by rw [sB_length], by rw [sB_length]; exact hge, hle, (fun e => by cases e), fun _ => ⟨w.heap.size, 0, rfl, fun j hj => ?_⟩⟩, sB_byt s⟩ ((Below.refl _ w).drew.alloc (Nat.le_refl _) _) (by simp))
    have hb : (w.drew.alloc (.cells (bytesRow s (grownCap w s.size 0 5)) 5 ((bytesRow s (grownCap w s.size 0 5)).size, (bytesRow s (grownCap w s.size 0 5)).size + 1))).heap[w.heap.size]? = some (.cells (bytesRow s (grownCap w s.size 0 5)) 5 ((bytesRow s (grownCap w s.size 0 5)).size, (bytesRow s (grownCap w s.size 0 5)).size + 1)) := heap_alloc_new w.drew _
    rw [cell_of_row _ _ _ _ _ _ hb]
    have hj2 : j < s.data.size := by rw [sB_length] at hj; exact hj
    have hj3 : j < s.size := hj2
    simp [bytesRow, Array.getElem?_append, hj3, sB, List.getD, Array.getElem?_eq_getElem hj2]
theorem row_len_le {r : Rw} {last : ByteArray} (h : okRow last r) : (rowL r).length ≤ 70000 := by
  obtain ⟨_, h1, h2⟩ := h
  unfold rowL
  rw [List.length_append, fld_len, fld_len, sB_length]
  have := dec_len_small r.1.size (by omega)
  have := dec_len_small r.2.length (by omega)
  omega
theorem pack_len_le : ∀ (rs : List Rw) (last : ByteArray), okRows last rs → (packL rs).length ≤ rs.length * 70000
  | [], _, _ => by simp [packL]
  | r :: t, last, h => by
    rw [packL, List.length_append, List.length_cons]
    have := row_len_le h.1
    have := pack_len_le t r.1 h.2
    omega
/-- What Pack answers. -/
def pkL (rs : List Rw) : List Int := if mayT rs then packL rs else []
def pkE (rs : List Rw) : Int := if mayT rs then 0 else 130
theorem okRows_get {rs : List Rw} {k : Nat} (h : k < rs.length) (hm : mayT rs) : okRow (lastN noS (rs.take k)) (rs.getD k rw0) := by
  have := okRows_take hm.2 (k + 1)
  rw [take_snoc h, okRows_snoc] at this
  exact this.2

set_option maxRecDepth 100000 in
set_option maxHeartbeats 4000000 in
theorem pack_any (w : World) (v : Value) (rs : List Rw) (h : HRw w v rs) (hk : KP w) :
    Calls Tryd.prog 26 #[v] w fun e w' => ∃ v', e = .returned (.tuple #[v', .int .i64 (pkE rs)]) ∧ w'.ownsRow w.heap.size 5 1 v' (pkL rs).length ((pkL rs).map (Value.int .u8)) ∧ Below w.heap.size w w' := by
  have C := hid (mayBe_any w v rs h)
  obtain ⟨p, c, rfl, hlc, hcm, hrow⟩ := h.open
  have HR := hid hrow
  have HK := hid hk
  clear hrow h hk
  have hm63 : rs.length ≤ 9223372036854775807 := by unfold maxLen at hcm; omega
  obtain ⟨n, HN⟩ : ∃ n, Hid (rs.length = n) := ⟨_, rfl⟩
  rw [HN.out] at hlc hm63 C
  rw [HN.out]
  by_cases hm : mayT rs
  · have e1 : pkE rs = 0 := by unfold pkE; rw [if_pos hm]
    have e2 : pkL rs = packL rs := by unfold pkL; rw [if_pos hm]
    have HM := hid hm
    rw [decide_eq_true hm] at C
    rw [e1, e2]
    have h64 : n ≤ 64 := by have := hm.1; have := HN.out; omega
    clear e1 e2 hm
    go_enter Tryd.func26, Tryd.ntmps26
    go_wp2_with fail
    refine C.out.mono ?_
    rintro e w1 ⟨rfl, hb1⟩
    have B1 := hid hb1
    clear hb1 C
    go_wp2
    go_loopw [4, 12] (fun o i wr => ∃ k : Nat, k ≤ n ∧ i = .int .i64 (k : Int) ∧ Hid (wr.ownsRow w.heap.size 5 1 o (packL (rs.take k)).length ((packL (rs.take k)).map (Value.int .u8))) ∧ Hid (Below w.heap.size w wr)) (fun _ i _ => n - (intOf i).toNat)
    case atStart => exact ⟨0, Nat.zero_le _, rfl, by simp [packL]; exact World.ownsRow_nil _ _ _ _, B1.out⟩
    case round =>
      obtain ⟨k, hk, rfl, HO, HB0⟩ := hrel
      have hsz := HB0.out.size
      obtain ⟨lo, HL⟩ : ∃ x, Hid (packL (rs.take k) = x) := ⟨_, rfl⟩
      rw [HL.out] at HO
      have hll : lo.length ≤ 5000000 := by
        rw [← HL.out]
        have := pack_len_le _ _ (okRows_take HM.out.2 k)
        have h2 : (rs.take k).length ≤ 64 := by rw [List.length_take]; omega
        omega
      by_cases hlt : k < n
      · obtain ⟨b, off, rfl, hbl, hcell⟩ := HR.out (by have := HN.out; omega)
        obtain ⟨u, hu, hv⟩ := hcell k (by have := HN.out; omega)
        have hok := okRows_get (k := k) (by have := HN.out; omega) HM.out
        obtain ⟨⟨s, l⟩, Hx⟩ : ∃ x, Hid (rs.getD k rw0 = x) := ⟨_, rfl⟩
        rw [Hx.out] at hu hv hok
        have HU := hid (range_below2 hu HB0.out hbl)
        have hs64 : s.size ≤ 64 := hok.2.1
        have hl6 : l.length ≤ 65536 := hok.2.2
        obtain ⟨pu, cu, rfl, hlu, hcu⟩ := hv.open
        have HV0 := hid hv
        have HV := hid (hv.below HB0.out)
        clear hu hv hcell hok
        have HSZ := hid size_row
        have hs47 : s.size ≤ 140737488355328 := by omega
        go_wp2_with (first | (refine wpList_load_mid rfl 58 _ rfl b (off + k * 2) rfl [.string s, .slice pu l.length cu] _ HU.out Tryd.underlying58 rfl HSZ.out ?_) | (refine wpList_bytes_strD rfl _ rfl s rfl hs47 ?_))
        intro c2 w2 hf2 hb2 hz2
        have hA := (Below.refl wr.heap.size wr).alloc (Nat.le_refl _) (.cells #[.string s, .slice pu l.length cu] 58)
        have B2 := hid ((HB0.out.alloc hsz (.cells #[.string s, .slice pu l.length cu] 58)).trans (hb2.mono (by omega)))
        have hzz : (wr.alloc (.cells #[.string s, .slice pu l.length cu] 58)).heap.size = wr.heap.size + 1 := by simp
        rw [← hzz] at hb2
        have HO2 := hid (own_below (own_below HO.out hA) hb2)
        have hs2 : w2.heap.size = wr.heap.size + 2 := by omega
        have hc2 : w2.cell? ⟨wr.heap.size, 1, none⟩ = some (.slice pu l.length cu) := by
          rw [hb2.cell (by simp)]
          simp
        have HL0 : Hid (∀ q, u4.ownBlock = some q → w.heap.size ≤ q ∧ q < wr.heap.size) := hid fun q e => HO.out.lt q e
        have HV2 := hid ((HV.out.below hA).below hb2)
        have C1 := appendField_any w2 w.heap.size u4 _ lo (sB s) HO2.out hf2 (by
          intro b' o' n' c' hv' _ he
          have := HL0.out _ he
          injection hv' with hv'
          injection hv' with hv'
          injection hv' with hv'
          omega) (by rw [sB_length]; omega) (by omega) (by omega) (HK.out.below B2.out)
        have C1 := hid C1
        clear hf2 hb2 hA hz2 hzz
        go_wp2_with fail
        refine C1.out.mono ?_
        rintro e w3 ⟨v3, rfl, hown3, hb3, hg3⟩
        have B3 := hid (B2.out.trans (hb3.mono (Nat.le_refl _)))
        have hc3 : w3.cell? ⟨wr.heap.size, 1, none⟩ = some (.slice pu l.length cu) := hg3.cell hc2 (by
          intro q
          have := HL0.out wr.heap.size q.symm
          omega)
        obtain ⟨l3, H3⟩ : ∃ x : List Int, Hid (lo ++ fld (sB s) = x) := ⟨_, hid rfl⟩
        rw [H3.out] at hown3
        have HO3 := hid hown3
        have hl3 : l3.length ≤ 5000100 := by
          rw [← H3.out, List.length_append, fld_len, sB_length]
          have := dec_len_small s.size (by omega)
          omega
        have hs3 := hb3.size
        have HV3 := hid (HV0.out.below B3.out)
        have C2 := appendField_any w3 w.heap.size v3 (.slice pu l.length cu) l3 l HO3.out HV3.out (by
          intro b' o' n' c' hv' h0 he
          have h1 := HO3.out.lt _ he
          have h2 := HV0.out.lt h0 hv'
          omega) (by omega) (by omega) (by omega) (HK.out.below B3.out)
        have C2 := hid C2
        clear hown3 hb3 hg3 C1 hc2
        go_wp2_with fail
        refine C2.out.mono ?_
        rintro e w4 ⟨v4, rfl, hown4, hb4, hg4⟩
        have B4 := hid (B3.out.trans (hb4.mono (Nat.le_refl _)))
        have HO4 : Hid (w4.ownsRow w.heap.size 5 1 v4 (packL (rs.take (k + 1))).length ((packL (rs.take (k + 1))).map (Value.int .u8))) := by
          refine hid ?_
          have e : packL (rs.take (k + 1)) = l3 ++ fld l := by
            rw [take_snoc (by have := HN.out; omega), packL_snoc, Hx.out, HL.out, ← H3.out]
            unfold rowL
            simp
          rw [e]
          exact hown4
        clear hown4 hb4 hg4 C2 hc3
        go_wp2
        exact ⟨⟨k + 1, by omega, by go_num, HO4, B4⟩, by simp [intOf]; omega⟩
      · have e : rs.take k = rs := List.take_of_length_le (by have := HN.out; omega)
        have HO' : Hid (wr.ownsRow w.heap.size 5 1 u4 (packL rs).length ((packL rs).map (Value.int .u8))) := by
          refine hid ?_
          have := HL.out
          rw [e] at this
          rw [this]
          exact HO.out
        go_wp2
        go_ret2
        exact ⟨_, rfl, HO'.out, HB0.out⟩
  · have e1 : pkE rs = 130 := by unfold pkE; rw [if_neg hm]
    have e2 : pkL rs = [] := by unfold pkL; rw [if_neg hm]
    rw [decide_eq_false hm] at C
    rw [e1, e2]
    clear e1 e2 hm
    go_enter Tryd.func26, Tryd.ntmps26
    go_wp2_with fail
    refine C.out.mono ?_
    rintro e w1 ⟨rfl, hb1⟩
    have B1 := hid hb1
    clear hb1 C
    go_wp2
    go_ret2
    exact ⟨_, rfl, World.ownsRow_nil _ _ _ _, B1.out⟩
end Go.Proofs.YtfaojnnpekpomaaDoor
