/- ServerMays, walked. -/
import Derived.Test.YtnikojpdkbkdmaaSvRMay
set_option linter.unusedVariables false
set_option linter.unusedSimpArgs false
namespace Go.Proofs.Ytnikojpdkbkdmaa
open Go Go.RowKit
set_option maxRecDepth 100000 in
set_option maxHeartbeats 8000000 in
theorem smays_walk (w : World) (r : Rq) (hr : r.ok) (p : Option Addr) (n c : Nat) : Calls Try.prog 3 #[.agg (rqA r (.slice p n c))] w fun e w' => e = .returned (.bool true) ∧ Below w.heap.size w w' := by
  have C1 := hid fun w => may_any w r hr p n c
  have C2 := hid fun w => rmay_any w r hr p n c
  have HR := hid (range_new w (rqL r (.slice p n c)) 30)
  have HZ := hid (size_rq hr (.slice p n c))
  have hA : (rqL r (.slice p n c)).toArray = rqA r (.slice p n c) := rfl
  rw [hA] at HR
  have HA := hid hA
  clear hA
  obtain ⟨m, HM⟩ : ∃ x, Hid (rqA r (.slice p n c) = x) := ⟨_, rfl⟩
  obtain ⟨ml, HML⟩ : ∃ x, Hid (rqL r (.slice p n c) = x) := ⟨_, rfl⟩
  rw [HM.out, HML.out] at HA HR
  rw [HML.out] at HZ
  rw [HM.out] at C1 C2 ⊢
  generalize mayB r n = M at C1 C2
  clear HM HML hr
  have B0 := hid ((Below.refl w.heap.size w).alloc (Nat.le_refl _) (.cells m 30))
  have HLT : Hid (w.heap.size < (w.alloc (.cells m 30)).heap.size) := hid (by simp)
  obtain ⟨W1, HW1⟩ : ∃ x, Hid (w.alloc (.cells m 30) = x) := ⟨_, rfl⟩
  rw [HW1.out] at B0 HR HLT
  have B1 := hid (Below.refl W1.heap.size W1)
  go_enter Try.func3, Try.ntmps3
  go_wp2_with fail
  rw [HW1.out]
  refine wp_region_held_drew (S := Below W1.heap.size W1) (by kernel_rfl) B1.out.drew (fun hHeld => ?_)
  have HS := hid hHeld
  clear hHeld
  change wpAnyH _ _ _ _ _ _ _ _ (World.drew _)
  refine wpAnyH_take (i := 0) rfl (by kernel_rfl) (by kernel_rfl) (by kernel_rfl) (fun _ _ _ h => h) (yieldsIf_load_mid (by rfl) 30 _ rfl w.heap.size 0 rfl ml _ (fun W hW => range_belowS HR.out hW HLT.out) Try.underlying30 rfl HZ.out) HS.out ?_
  simp only [Act.put, List.getElem_toArray, List.getElem_cons_zero, List.getElem_cons_succ, List.setIfInBounds_toArray, List.set_cons_zero, List.set_cons_succ]
  rw [HA.out]
  refine wpAnyH_take (i := 2) rfl (by kernel_rfl) (by kernel_rfl) (by kernel_rfl) (fun _ _ _ h => h) (yieldsIf_load_mid (by rfl) 30 _ rfl w.heap.size 0 rfl ml _ (fun W hW => range_belowS HR.out hW HLT.out) Try.underlying30 rfl HZ.out) HS.out ?_
  simp only [Act.put, List.getElem_toArray, List.getElem_cons_zero, List.getElem_cons_succ, List.setIfInBounds_toArray, List.set_cons_zero, List.set_cons_succ]
  rw [HA.out]
  refine wpAnyH_ready (rs := [1]) (by kernel_rfl) (by simp) ?_
  refine AllReadyH.cons rfl (fun K hK => ?_) AllReadyH.nil
  replace hK := hid hK
  go_simp
  refine (C1.out _).mono ?_
  rintro e w1 ⟨rfl, hb1⟩
  have B2 := hid (hb1)
  clear hb1
  have B3 := hid (HS.out.trans (B2.out.mono HS.out.size))
  refine hK.out _ _ B3.out (fun _ => ?_)
  clear hK K HS
  have HS := B3
  refine wpAnyH_ready (rs := [3]) (by kernel_rfl) (by simp) ?_
  refine AllReadyH.cons rfl (fun K hK => ?_) AllReadyH.nil
  replace hK := hid hK
  go_simp
  refine (C2.out _).mono ?_
  rintro e w2 ⟨rfl, hb2⟩
  have B4 := hid (HS.out.trans (hb2.mono HS.out.size))
  clear hb2
  refine hK.out _ _ B4.out (fun _ => ?_)
  clear hK K HS
  have HS := B4
  refine wpAnyH_take (i := 4) (v := ?_) rfl (by kernel_rfl) (by kernel_rfl) (by kernel_rfl) (fun _ _ _ h => h) (Or.inl ⟨by rfl, ?q4⟩) HS.out ?_
  case q4 => intro w hSw; go_simp; rfl
  simp only [Act.put, List.getElem_toArray, List.getElem_cons_zero, List.getElem_cons_succ, List.setIfInBounds_toArray, List.set_cons_zero, List.set_cons_succ]
  refine wpAnyH_take (i := 5) (v := ?_) rfl (by kernel_rfl) (by kernel_rfl) (by kernel_rfl) (fun _ _ _ h => h) (Or.inl ⟨by rfl, ?q5⟩) HS.out ?_
  case q5 => intro w hSw; go_simp; rfl
  simp only [Act.put, List.getElem_toArray, List.getElem_cons_zero, List.getElem_cons_succ, List.setIfInBounds_toArray, List.set_cons_zero, List.set_cons_succ]
  refine wpAnyH_done (by kernel_rfl) ?_ _
  go_wp2
  go_ret
  exact ⟨rfl, B0.out.trans (HS.out.mono B0.out.size)⟩
end Go.Proofs.Ytnikojpdkbkdmaa
