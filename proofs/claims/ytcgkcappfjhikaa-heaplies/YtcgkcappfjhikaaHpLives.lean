/- lives: two numbers come out in their order. -/
import Derived.Test.YtcgkcappfjhikaaHpOrd
set_option linter.unusedVariables false
set_option linter.unusedSimpArgs false
namespace Go.Proofs.Ytcgkcappfjhikaa
open Go Go.RowKit

theorem Ex.down {S U : Nat → Prop} {a b : World} (h : Ex (SU S U) a b) {B : Nat} (hB : B ≤ a.heap.size) (hs : ∀ k, S k → B ≤ k) (hu : ∀ k, U k → B ≤ k) : Below B a b := h.below hB (fun k hk => by rcases hk with q | q; exact hs k q; exact hu k q)
/-- The first of a heap in order: none stands ahead of it. -/
theorem hp.least {key : Int → Int} {L : List (Rw Int)} (h : hp key L) (hl : 0 < L.length) : rat L 0 ∈ L ∧ ∀ r ∈ L, ¬ ahd key r (rat L 0) := by
  refine ⟨rat_mem hl, fun r hr => ?_⟩
  obtain ⟨i, hi⟩ := List.mem_iff_getElem?.1 hr
  have := h.first i (List.getElem?_eq_some_iff.1 hi).1
  rw [rat_eq hi] at this
  exact this
set_option maxRecDepth 100000 in
set_option maxHeartbeats 4000000 in
theorem lives_any (w : World) : Calls Try.prog 9 #[] w fun e w' => e = .returned (.bool true) ∧ Below w.heap.size w w' := by
  have C0 := hid (order_any w 0)
  have hO := order_ord 0
  have O := order_orc w.heap.size 0 (by unfold In64; omega)
  go_enter Try.func9, Try.ntmps9
  go_wp2_with fail
  refine C0.out.mono ?_
  rintro e w1 ⟨rfl, hw1⟩
  have hj1 : OrJ w.heap.size 0 w1 := by rw [hw1]; exact heap_alloc_new w _
  have hs1 : w1.heap.size = w.heap.size + 1 := by rw [hw1]; show (w.heap.push _).size = _; rw [Array.size_push]
  have B1 : Hid (Below w.heap.size w w1) := hid (by rw [hw1]; exact (Below.refl _ _).alloc (Nat.le_refl _) _)
  have C1 := hid (new_ok w1 34 #[.pointer (some ⟨w.heap.size, 0, none⟩)])
  have L1 := hid (nh_lv O w1 hj1)
  have HS1 := hid hs1
  clear hw1 C0 hj1 hs1
  go_wp2_with fail
  refine C1.out.mono ?_
  rintro e w2 ⟨rfl, hw2⟩
  have B2 : Hid (Below w.heap.size w w2) := hid (by rw [hw2]; exact B1.out.trans ((nh_ex (fun _ => False) w1 _).below (by have := HS1.out; omega) (fun k hk => hk.elim)))
  rw [← hw2] at L1
  clear hw2 C1
  have hpE : ¬ (Value.pointer (some ⟨w1.heap.size + 1, 0, none⟩) = Value.pointer none) := by simp
  obtain ⟨S0, HS0⟩ : ∃ S0, Hid ((fun k => w1.heap.size ≤ k ∧ k < w2.heap.size) = S0) := ⟨_, rfl⟩
  rw [HS0.out] at L1
  have hlow0 : Hid (∀ k, S0 k → w.heap.size ≤ k) := hid (by rw [← HS0.out]; intro k hk; have := HS1.out; omega)
  clear HS0
  obtain ⟨G, HG⟩ : ∃ G, Hid (w1.heap.size + 1 = G) := ⟨_, rfl⟩
  obtain ⟨M, HM⟩ : ∃ M, Hid (w1.heap.size = M) := ⟨_, rfl⟩
  rw [HG.out, HM.out] at L1
  rw [HG.out]
  clear HG HM hpE
  have hu : Hid (∀ k, (fun k => k = w.heap.size) k → w.heap.size ≤ k) := hid (fun k hk => by have : k = w.heap.size := hk; omega)
  have C2 := hid (push_ok O hO L1.out rfl 5 (by unfold In64; omega) (by omega))
  go_wp2_with fail
  refine C2.out.mono ?_
  rintro e w3 ⟨rfl, LL1, v1, S1, b1, hL1, hE1, hP1, hq1, hs1⟩
  have HL1 := hid hL1
  have B3 : Hid (Below w.heap.size w w3) := hid (B2.out.trans (hE1.down B2.out.size hlow0.out hu.out))
  have HP1 := hid hP1
  have HQ1 := hid (hq1 trivial hp_nil)
  have hlow1 : Hid (∀ k, S1 k → w.heap.size ≤ k) := hid fun k hk => by
    rcases hs1 k hk with q | q
    · exact hlow0.out k q
    · have := B2.out.size; omega
  clear hL1 hE1 hP1 hq1 hs1 C2 L1
  have C3 := hid (push_ok O hO HL1.out rfl 3 (by unfold In64; omega) (by omega))
  go_wp2_with fail
  refine C3.out.mono ?_
  rintro e w4 ⟨rfl, LL2, v2, S2, b2, hL2, hE2, hP2, hq2, hs2⟩
  have HL2 := hid hL2
  have B4 : Hid (Below w.heap.size w w4) := hid (B3.out.trans (hE2.down B3.out.size hlow1.out hu.out))
  have HQ2 := hid (hq2 trivial HQ1.out)
  have hlow2 : Hid (∀ k, S2 k → w.heap.size ≤ k) := hid fun k hk => by
    rcases hs2 k hk with q | q
    · exact hlow1.out k q
    · have := B3.out.size; omega
  have e1 : LL1 = [⟨b1, 0, 5⟩] := List.perm_singleton.1 HP1.out
  rw [e1] at hP2
  have l2 : 0 < LL2.length := by rw [hP2.length_eq]; simp
  have HP2 := hid hP2
  have r0 : rat LL2 0 = ⟨b2, 1, 3⟩ := by
    obtain ⟨hm, hle⟩ := HQ2.out.least l2
    rcases List.mem_cons.1 (hP2.subset hm) with q | q
    · exact q
    · exfalso
      have q' := List.mem_singleton.1 q
      refine hle ⟨b2, 1, 3⟩ (hP2.symm.subset (by simp)) ?_
      rw [q']
      unfold ahd keyB
      simp
  have C4 := hid (pop_some O hO HL2.out l2)
  rw [r0] at C4
  clear hL2 hE2 hP2 hq2 hs2 C3 HL1 e1 r0
  go_wp2_with fail
  refine C4.out.mono ?_
  rintro e w5 ⟨rfl, LL3, v3, hL3, hE3, hP3, hq3⟩
  have B5 : Hid (Below w.heap.size w w5) := hid (B4.out.trans (hE3.down B4.out.size hlow2.out hu.out))
  have e3 : LL3 = [⟨b1, 0, 5⟩] := List.perm_singleton.1 (List.Perm.cons_inv (hP3.symm.trans HP2.out))
  subst e3
  have HL3 := hid hL3
  have C5 := hid (peek_some O HL3.out (by simp))
  have r0 : rat [(⟨b1, 0, 5⟩ : Rw Int)] 0 = ⟨b1, 0, 5⟩ := rfl
  rw [r0] at C5
  clear hL3 hE3 hP3 hq3 C4 r0
  go_wp2_with fail
  refine C5.out.mono ?_
  rintro e w6 ⟨rfl, hL4, hE4⟩
  have B6 : Hid (Below w.heap.size w w6) := hid (B5.out.trans (hE4.below B5.out.size (fun k hk => hlow2.out k hk.1)))
  have C6 := hid (len_ok hL4.hp)
  clear hL4 hE4 C5
  go_wp2_with fail
  refine C6.out.mono ?_
  rintro e w7 ⟨rfl, hw7⟩
  rw [hw7]
  clear hw7
  go_wp2_with fail
  go_ret
  exact ⟨rfl, B6.out⟩
end Go.Proofs.Ytcgkcappfjhikaa
