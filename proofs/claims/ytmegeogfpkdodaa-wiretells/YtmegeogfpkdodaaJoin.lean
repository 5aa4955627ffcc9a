/- octet.Join, walked: the lists laid one behind the other, in memory of the call's own. -/
import Derived.Test.YtmegeogfpkdodaaU8
import Derived.Laws.AppendOwnNone
namespace Go.Proofs.Ytmegeogfpkdodaa
open Go.RowKit

/-- append of a slice of bytes, whatever it is, onto a row of the call's own. -/
theorem wpList_append_HB {w : World} {ops : Array Oper} {rest : List Oper} {o : Oper} {a : Act} {Q : Exit → Act → World → Prop} (hgd : o.guard = none) (s x : Operand)
    (ho : o.op = .call { callee := .builtin .append, args := #[s, x], argTypes := #[36, 36] })
    (base : Nat) (v : Value) (n : Nat) (xs : List Value) (hs : a.eval s = v) (hown : w.ownsRow base 5 1 v n xs)
    (u : Value) (l : List Int) (hx : a.eval x = u) (hu : HB w u l) (hbytes : n + l.length ≤ 140737488355328) (hbase : base ≤ w.heap.size)
    (h : ∀ v' w', w'.ownsRow base 5 1 v' (n + l.length) (xs ++ l.map (Value.int .u8)) → w.grownBy w' v.ownBlock → wpList Try.prog ops Q rest (a.put o.dst v') w') : wpList Try.prog ops Q (o :: rest) a w := by
  obtain ⟨i0, hi, hz0, hz1, hz2⟩ := info_parts info_u8
  obtain ⟨⟨p, c, rfl, hlc, hm, hpc, hcell⟩, hby⟩ := hu
  cases p with
  | none =>
    have e : l = [] := by
      apply Classical.byContradiction
      intro hne
      obtain ⟨b, off, e, _⟩ := hcell hne
      cases e
    subst e
    have := hpc rfl
    subst this
    refine wpList_append_own_none hgd s x 36 ho base 5 i0 1 Try.underlying36 hi v n xs hs hown hx ?_
    exact h v w (by simpa using hown) ⟨rfl, rfl, rfl, Nat.le_refl _, fun _ _ _ => rfl⟩
  | some ad =>
    refine wpList_append_own w hgd s x 36 ho base 5 i0 (.int .u8 0) 1 1 Try.underlying36 hi hz0 hz1 hz2 rfl (by decide) v n xs hs hown ad l.length c (l.map (Value.int .u8)) hx (by simp) ?_ ?_ (by unfold maxLen; omega) (by omega) hbase (fun v' w' h1 h2 _ => h v' w' h1 h2)
    · intro j y hj
      have hjn : j < l.length := by
        have := (List.getElem?_eq_some_iff.1 hj).1
        simpa using this
      obtain ⟨b, off, e, hh⟩ := hcell (by intro e; subst e; simp at hjn)
      cases e
      rw [Go.WideShapes.add_plain, hh j hjn]
      have e : (l.map (Value.int .u8))[j]? = some (Value.int .u8 (l.getD j 0)) := by simp [List.getD, List.getElem?_eq_getElem hjn]
      rw [e] at hj
      exact hj
    · intro u hu; obtain ⟨x, _, rfl⟩ := List.mem_map.1 hu; rfl

theorem flat_snoc (ls : List (List Int)) (k : Nat) (hk : k < ls.length) : (ls.take (k + 1)).flatten = (ls.take k).flatten ++ ls.getD k [] := by
  rw [List.take_succ_eq_append_getElem hk, List.flatten_append]
  simp [List.getD, List.getElem?_eq_getElem hk]

theorem flat_take_le (ls : List (List Int)) (k : Nat) : (ls.take k).flatten.length ≤ ls.flatten.length := by
  conv => rhs; rw [← List.take_append_drop k ls, List.flatten_append, List.length_append]
  omega

/-- How many bytes the first k lists have. -/
def lensTo (ls : List (List Int)) (k : Nat) : Nat := (ls.take k).flatten.length
/-- The bytes of the first k lists. -/
def flatTo (ls : List (List Int)) (k : Nat) : List Int := (ls.take k).flatten

set_option maxHeartbeats 1000000 in
theorem join_any (w : World) (v : Value) (ls : List (List Int)) (h : HL w v ls) (hbig : ls.flatten.length ≤ 140737488355328) :
    Calls Try.prog 59 #[v] w fun e w' => ∃ v', e = .returned v' ∧ w'.ownsRow w.heap.size 5 1 v' ls.flatten.length (ls.flatten.map (Value.int .u8)) ∧ Below w.heap.size w w' := by
  obtain ⟨i0, hi, hz0, hz1, hz2⟩ := info_parts info_u8
  obtain ⟨p, c, e, hlc, hm⟩ := h.open
  unfold maxLen at hm
  have A : Hid (0 < ls.length → ∃ b off, p = some ⟨b, off, none⟩ ∧ ∀ j, j < ls.length → ∃ u, w.cell? ⟨b, off + j, none⟩ = some u ∧ HB w u (ls.getD j [])) := by
    intro h0
    obtain ⟨b, off, c', e', _, _, hh⟩ := h.ne h0
    rw [e] at e'
    simp only [Value.slice.injEq, true_and] at e'
    exact ⟨b, off, e'.1, hh⟩
  clear h
  subst e
  obtain ⟨fl, HF⟩ : ∃ fl : List Int, Hid (fl = ls.flatten) := ⟨_, rfl⟩
  rw [← HF.out] at hbig ⊢
  obtain ⟨N, HN⟩ : ∃ N, Hid (N = fl.length) := ⟨_, rfl⟩
  rw [← HN.out] at hbig ⊢
  have hle : ∀ k, lensTo ls k ≤ N := fun k => by rw [HN.out, HF.out]; exact flat_take_le ls k
  go_enter Try.func59, Try.ntmps59
  go_wp2
  go_loop [3, 11] (fun s i => ∃ k : Nat, k ≤ ls.length ∧ i = .int .i64 k ∧ s = .int .i64 (lensTo ls k)) (fun _ i => ls.length - (intOf i).toNat)
  case atStart => exact ⟨0, Nat.zero_le _, rfl, rfl⟩
  case round =>
    obtain ⟨k, hk, rfl, rfl⟩ := hrel
    have hf := hle k
    by_cases hlt : k < ls.length
    · obtain ⟨b, off, rfl, hh⟩ := A.out (by omega)
      obtain ⟨u, hu, hb⟩ := hh k hlt
      obtain ⟨p2, c2, rfl, _, _⟩ := hb.open
      have hf2 := hle (k + 1)
      obtain ⟨m, HM⟩ : ∃ m, Hid (m = (ls.getD k []).length) := ⟨_, rfl⟩
      have HS : Hid (lensTo ls (k + 1) = lensTo ls k + m) := by
        show _ = _
        unfold lensTo
        rw [flat_snoc ls k hlt, List.length_append, HM.out]
      rw [HS.out] at hf2
      rw [← HM.out] at hu
      clear hh hb hle
      go_wp2
      exact ⟨⟨k + 1, by omega, by go_num, by rw [HS.out]; go_num⟩, by simp [intOf]; omega⟩
    · have HK : Hid (lensTo ls k = N) := by
        show _ = _
        unfold lensTo
        rw [List.take_of_length_le (by omega), HN.out, HF.out]
      rw [HK.out] at hf ⊢
      obtain ⟨w1, hmk, hown, hgr⟩ := run_make_own (P := Try.prog) w w.heap.size 36 5 i0 (.int .u8 0) 1 Try.underlying36 hi hz0 hz1 .i64 .i64 N (by rw [hz2]; omega) (by unfold maxLen; omega) (Nat.le_refl _)
      have hB1 : Below w.heap.size w w1 := (Below.refl _ w).grown hgr (Nat.le_refl _) (fun k e => by cases e)
      have hsz : w.heap.size ≤ w1.heap.size := hB1.size
      clear hk hf hgr hle
      go_wp2
      go_loopw [6, 24] (fun o i wr => ∃ k : Nat, k ≤ ls.length ∧ i = .int .i64 k ∧ wr.ownsRow w.heap.size 5 1 o (flatTo ls k).length ((flatTo ls k).map (Value.int .u8)) ∧ Below w.heap.size w wr) (fun _ i _ => ls.length - (intOf i).toNat)
      case atStart => exact ⟨0, Nat.zero_le _, rfl, hown, hB1⟩
      case round =>
        clear hmk hown hB1 hsz HK hlt
        obtain ⟨k, hk, rfl, hown, hB⟩ := hrel
        by_cases hlt : k < ls.length
        · obtain ⟨b, off, rfl, hh⟩ := A.out (by omega)
          obtain ⟨u, hu0, hb⟩ := hh k hlt
          have hu : wr.cell? ⟨b, off + k, none⟩ = some u := (hB.cell (World.block_lt_of_cell? w _ hu0)).trans hu0
          have HBu := hid (hb.below hB)
          have HS : Hid (flatTo ls (k + 1) = flatTo ls k ++ ls.getD k []) := flat_snoc ls k hlt
          have HL2 : Hid ((flatTo ls k).length + (ls.getD k []).length ≤ 140737488355328) := by
            have := flat_take_le ls (k + 1)
            rw [flat_snoc ls k hlt, List.length_append, ← HF.out, ← HN.out] at this
            exact Nat.le_trans this hbig
          have HO := hid hown
          have HBel := hid hB
          obtain ⟨lk, HK⟩ : ∃ lk, Hid (lk = ls.getD k []) := ⟨_, rfl⟩
          rw [← HK.out] at HBu HS HL2 hb
          obtain ⟨p2, c2, hu2, _, _⟩ := hb.open
          clear hh hb hu0 hown hB
          subst hu2
          go_wp2_with (at_builtin; refine wpList_append_HB rfl _ _ rfl w.heap.size _ _ _ rfl HO.out _ _ rfl HBu.out ?q1 ?q2 ?_)
          case q1 => exact HL2.out
          case q2 => exact HBel.out.size
          intro v' w2 hown2 hgr2
          have HO2 : Hid (w2.ownsRow w.heap.size 5 1 v' (flatTo ls (k + 1)).length ((flatTo ls (k + 1)).map (Value.int .u8))) := by
            show World.ownsRow _ _ _ _ _ _ _
            rw [HS.out, List.length_append, List.map_append]
            exact hown2
          have HB2 : Hid (Below w.heap.size w w2) := HBel.out.grown hgr2 HBel.out.size (fun k e => (HO.out.lt k e).1)
          clear hown2 hgr2
          go_wp2
          exact ⟨⟨k + 1, by omega, by go_num, HO2.out, HB2.out⟩, by simp [intOf]; omega⟩
        · have HK : Hid (flatTo ls k = fl) := by
            show _ = _
            unfold flatTo
            rw [List.take_of_length_le (by omega), HF.out]
          go_wp2
          go_ret
          refine ⟨_, rfl, ?_, hB⟩
          rw [HK.out, ← HN.out] at hown
          exact hown
end Go.Proofs.Ytmegeogfpkdodaa
