/- wire: laid. -/
import Derived.Test.YtmegeogfpkdodaaJoin
import Derived.Test.YtmegeogfpkdodaaLists
import Derived.Test.YtmegeogfpkdodaaNumbers
set_option linter.unusedVariables false
set_option linter.unusedSimpArgs false
namespace Go.Proofs.Ytmegeogfpkdodaa
open Go Go.RowKit

/-- The slices of a row of slices. -/
theorem HL.vals {w : World} {v : Value} {ls : List (List Int)} (h : HL w v ls) (h0 : 0 < ls.length) :
    ∃ (b off c : Nat) (us : List Value), v = .slice (some ⟨b, off, none⟩) ls.length c ∧ us.length = ls.length ∧ ∀ j u, us[j]? = some u → w.cell? ⟨b, off + j, none⟩ = some u ∧ HB w u (ls.getD j []) := by
  obtain ⟨b, off, c, rfl, _, _, hh⟩ := h.ne h0
  refine ⟨b, off, c, (List.range ls.length).map (fun j => (w.cell? ⟨b, off + j, none⟩).getD undef), rfl, by simp, fun j u hj => ?_⟩
  have hj2 : j < ls.length := by have := (List.getElem?_eq_some_iff.1 hj).1; simpa using this
  obtain ⟨u', h1, h2⟩ := hh j hj2
  simp [List.getElem?_range, hj2, h1] at hj
  subst hj
  exact ⟨h1, h2⟩
theorem HB.one {w : World} {u : Value} {l : List Int} (h : HB w u l) : u.oneCell' = true := by obtain ⟨p, c, rfl, _⟩ := h.open; rfl
/-- A row of slices of the call's own. -/
theorem HL.of_own {w : World} {B : Nat} {v : Value} {us : List Value} {ls : List (List Int)} (h : w.ownsRow B 36 1 v us.length us) (hl : us.length = ls.length) (hu : ∀ j u, us[j]? = some u → HB w u (ls.getD j [])) : HL w v ls := by
  rcases h.2 with ⟨rfl, e0⟩ | ⟨g, cap, cur, rfl, hb, hh, hn, hm, hs, ht⟩
  · have : ls = [] := List.length_eq_zero_iff.1 (by omega)
    subst this
    exact HL.nil w
  · refine ⟨_, cap, by rw [hl], by omega, hm, (fun e => by cases e), fun _ => ⟨g, 0, rfl, fun j hj => ?_⟩⟩
    have hj2 : j < us.length := by omega
    refine ⟨us[j], ?_, hu j _ (List.getElem?_eq_getElem hj2)⟩
    rw [cell_of_row _ _ _ _ _ _ hh, Nat.zero_add, ← Array.getElem?_toList]
    have e : cur.toList[j]? = (cur.toList.take (us.length * 1))[j]? := by rw [List.getElem?_take, if_pos (by omega)]
    rw [e, ht, List.getElem?_eq_getElem hj2]
theorem bigL_one (k : Nat) (h : k < 256) : bigL 1 k = [(k : Int)] := by
  have : k % 256 = k := Nat.mod_eq_of_lt h
  simp [bigL, this]
set_option maxRecDepth 100000 in
set_option maxHeartbeats 4000000 in
theorem laid_any (w : World) (k : Nat) (hk : k < 256) (v : Value) (ls : List (List Int)) (h : HL w v ls) (h0 : 0 < ls.length) (h1 : ls.length ≤ 1000) (hbig : ls.flatten.length + 1 ≤ 140737488355328) :
    Calls Try.prog 40 #[.int .u8 (k : Int), v] w fun e w' => ∃ v', e = .returned v' ∧ w'.ownsRow w.heap.size 5 1 v' (ls.flatten.length + 1) (((k : Int) :: ls.flatten).map (Value.int .u8)) ∧ Below w.heap.size w w' := by
  obtain ⟨b, off, c, us, rfl, hlu, hus⟩ := h.vals h0
  have C1 := hid (big_uint8 k hk w)
  rw [bigL_one k hk] at C1
  have HUS := hid hus
  obtain ⟨n, HN⟩ : ∃ n, Hid (ls.length = n) := ⟨_, hid rfl⟩
  rw [HN.out] at h1 hlu
  rw [HN.out]
  clear h hus
  obtain ⟨i0, hi, hz0, hz1, hz2⟩ := info_parts info_bytes
  go_enter Try.func40, Try.ntmps40
  go_wp2_with fail
  refine C1.out.mono ?_
  rintro e w1 ⟨v1, rfl, ho1, hB1⟩
  have hb1 : HB w1 v1 [(k : Int)] := HB.of_own ho1 (by simp; omega)
  obtain ⟨W2, HW2⟩ : ∃ W : World, Hid (w1.alloc (.cells #[v1] 36) = W) := ⟨_, hid rfl⟩
  have O2 : Hid (W2.ownsRow w1.heap.size 36 1 (.slice (some ⟨w1.heap.size, 0, none⟩) 1 1) 1 [v1]) := hid ⟨rfl, .inr ⟨_, _, _, rfl, Nat.le_refl _, by rw [← HW2.out]; exact heap_alloc_new w1 _, Nat.le_refl _, by decide, rfl, rfl⟩⟩
  have B2 : Hid (Below w1.heap.size w1 W2) := by rw [← HW2.out]; exact hid ((Below.refl _ w1).alloc (Nat.le_refl _) _)
  have C3 : Hid (∀ W v', W.ownsRow w1.heap.size 36 1 v' (1 + n) ([v1] ++ us) → Below w1.heap.size w1 W → Calls Try.prog 59 #[v'] W fun e w' => ∃ v', e = .returned v' ∧ w'.ownsRow W.heap.size 5 1 v' (ls.flatten.length + 1) (((k : Int) :: ls.flatten).map (Value.int .u8)) ∧ Below W.heap.size W w') := hid (fun W v' ho hb => by
    have hh : HL W v' ([(k : Int)] :: ls) := HL.of_own (us := [v1] ++ us) (by rw [List.length_append, hlu]; exact ho) (by simp [hlu, HN.out]) (fun j u hj => by
      cases j with
      | zero =>
        simp at hj
        subst hj
        exact hb1.later fun a _ hx => (hb.cell (World.block_lt_of_cell? w1 a hx)).trans hx
      | succ j =>
        have hj' : us[j]? = some u := by simpa using hj
        have := (HUS.out j u hj').2
        have h2 := this.below hB1
        exact h2.later fun a _ hx => (hb.cell (World.block_lt_of_cell? w1 a hx)).trans hx)
    have e1 : ([(k : Int)] :: ls).flatten = (k : Int) :: ls.flatten := by simp
    have := join_any W v' _ hh (by rw [e1, List.length_cons]; exact hbig)
    rw [e1, List.length_cons] at this
    exact this)
  have HB1 := hid hB1
  have hc2 : Hid (∀ j u, us[j]? = some u → W2.cell? (Addr.add ⟨b, off, none⟩ j) = some u) := hid (fun j u hj => by
    rw [Go.WideShapes.add_plain]
    have h1 := (HUS.out j u hj).1
    have hlt := World.block_lt_of_cell? w _ h1
    rw [B2.out.cell (p := ⟨b, off + j, none⟩) (Nat.lt_of_lt_of_le hlt hB1.size), hB1.cell (p := ⟨b, off + j, none⟩) hlt]
    exact h1)
  have hu1 : Hid (∀ u ∈ us, u.oneCell' = true) := hid (fun u hu => by
    obtain ⟨j, hj, rfl⟩ := List.getElem_of_mem hu
    exact (HUS.out j _ (List.getElem?_eq_getElem hj)).2.one)
  obtain ⟨p1, c1, e1, -, -⟩ := hb1.open
  have e1' : v1 = .slice p1 1 c1 := e1
  clear hb1 ho1 hB1 C1 e1
  subst e1'
  go_wp2_with (first | rw [HW2.out] | (at_builtin; refine wpList_append_own _ rfl _ _ 24 rfl w1.heap.size 36 i0 _ 1 24 Try.underlying24 hi hz0 hz1 hz2 rfl (by decide) _ 1 _ rfl O2.out ⟨b, off, none⟩ n c us rfl (by rw [hlu, Nat.mul_one]) hc2.out hu1.out (by unfold maxLen; omega) (by omega) B2.out.size ?_) | fail)
  intro v3 w3 ho3 hg3 _
  have B3 : Hid (Below w1.heap.size w1 w3) := hid (B2.out.grown hg3 B2.out.size (fun k e => (O2.out.lt k e).1))
  have C4 := hid (C3.out w3 v3 ho3 B3.out)
  clear ho3 hg3 C3
  go_wp2_with fail
  refine C4.out.mono ?_
  rintro e w4 ⟨v4, rfl, ho4, hB4⟩
  have HO4 := hid ho4
  have BB : Hid (Below w.heap.size w w4) := hid (HB1.out.trans ((B3.out.mono HB1.out.size).trans (hB4.mono (Nat.le_trans HB1.out.size B3.out.size))))
  have OM : Hid (w4.ownsRow w.heap.size 5 1 v4 (ls.flatten.length + 1) (((k : Int) :: ls.flatten).map (Value.int .u8))) := hid ⟨ho4.1, ho4.2.elim .inl fun ⟨gg, cap, cur, z1, z2, z3⟩ => .inr ⟨gg, cap, cur, z1, Nat.le_trans (Nat.le_trans HB1.out.size B3.out.size) z2, z3⟩⟩
  clear ho4 hB4
  go_wp2_with fail
  go_ret
  exact ⟨v4, rfl, OM.out, BB.out⟩
end Go.Proofs.Ytmegeogfpkdodaa
