/- wire: what may be. -/
import Derived.Test.YtmegeogfpkdodaaRqB
set_option linter.unusedVariables false
set_option linter.unusedSimpArgs false
namespace Go.Proofs.Ytmegeogfpkdodaa
open Go Go.RowKit

def plB (t : Int) : Bool := decide (0 ≤ t ∧ t ≤ 33554432)
def flB (t : Int) : Bool := decide (1 ≤ t ∧ t ≤ 131072)
set_option maxRecDepth 100000 in
set_option maxHeartbeats 4000000 in
theorem isNumber_any (w : World) (t : Int) : Calls Try.prog 51 #[.int .i64 t] w fun e w' => e = .returned (.bool (nbB t)) ∧ w' = w := by
  go_enter Try.func51, Try.ntmps51
  go_wp2
  all_goals go_ret
  all_goals (refine ⟨?_, rfl⟩; simp [nbB]; try omega)
set_option maxRecDepth 100000 in
set_option maxHeartbeats 4000000 in
theorem isTick_any (w : World) (t : Int) : Calls Try.prog 52 #[.int .i64 t] w fun e w' => e = .returned (.bool (tkB t)) ∧ w' = w := by
  go_enter Try.func52, Try.ntmps52
  go_wp2
  all_goals go_ret
  all_goals (refine ⟨?_, rfl⟩; simp [tkB]; try omega)
set_option maxRecDepth 100000 in
set_option maxHeartbeats 4000000 in
theorem isAt_any (w : World) (t : Int) : Calls Try.prog 54 #[.int .i64 t] w fun e w' => e = .returned (.bool (plB t)) ∧ w' = w := by
  go_enter Try.func54, Try.ntmps54
  go_wp2
  all_goals go_ret
  all_goals (refine ⟨?_, rfl⟩; simp [plB]; try omega)
set_option maxRecDepth 100000 in
set_option maxHeartbeats 4000000 in
theorem isShareLen_any (w : World) (t : Int) : Calls Try.prog 53 #[.int .i64 t] w fun e w' => e = .returned (.bool (plB t)) ∧ w' = w := by
  go_enter Try.func53, Try.ntmps53
  go_wp2
  all_goals go_ret
  all_goals (refine ⟨?_, rfl⟩; simp [plB]; try omega)
set_option maxRecDepth 100000 in
set_option maxHeartbeats 4000000 in
theorem isFetchLen_any (w : World) (t : Int) : Calls Try.prog 55 #[.int .i64 t] w fun e w' => e = .returned (.bool (flB t)) ∧ w' = w := by
  go_enter Try.func55, Try.ntmps55
  go_wp2
  all_goals go_ret
  all_goals (refine ⟨?_, rfl⟩; simp [flB]; try omega)
set_option maxRecDepth 100000 in
set_option maxHeartbeats 4000000 in
theorem mayReq_any (w : World) (r : Rq) (hr : r.ok) (p : Option Addr) (n c : Nat) : Calls Try.prog 36 #[.agg (rqA r (.slice p n c))] w fun e w' => e = .returned (.bool (mayB r n)) ∧ Below w.heap.size w w' := by
  have C1 := hid isNumber_any
  have C2 := hid isTick_any
  have C3 := hid isAt_any
  have C4 := hid isShareLen_any
  have C5 := hid isFetchLen_any
  have q0 : (rqA r (.slice p n c))[0]? = some (.int .u8 r.k) := rfl
  have q17 := rqA_17 hr (.slice p n c)
  have q18 := rqA_18 hr (.slice p n c)
  have q19 := rqA_19 hr (.slice p n c)
  have q20 := rqA_20 hr (.slice p n c)
  have q21 := rqA_21 hr (.slice p n c)
  have q22 := rqA_22 hr (.slice p n c)
  have HS := hid (rqA_size hr (.slice p n c))
  obtain ⟨m, HM⟩ : ∃ x, Hid (rqA r (.slice p n c) = x) := ⟨_, rfl⟩
  rw [HM.out] at HS q0 q17 q18 q19 q20 q21 q22 ⊢
  have E : Hid (mayB r n = mayB r n) := rfl
  obtain ⟨k, ix, nb, pl, ln, who, til⟩ := r
  simp only at q0 q17 q18 q19 q20 q21 q22
  generalize hM : mayB ⟨k, ix, nb, pl, ln, who, til⟩ n = M
  have HMM := hid hM
  clear hM HM hr E
  have heq := run_eql_lease
  have HB := hid fun q => bel_drewN ((Below.refl w.heap.size w).alloc (Nat.le_refl _) (.cells m 38)) q
  cases hb : (pl == 0) <;> (
    go_enter Try.func36, Try.ntmps36
    go_wp2_with fail
    go_quiet (fail)
    go_wp2_with fail
    go_quiet (fail)
    go_wp2_with (first | (go_at_call 51; refine (C1.out _ _).mono ?_; rintro e w' ⟨rfl, hw'⟩; subst hw') | (go_at_call 52; refine (C2.out _ _).mono ?_; rintro e w' ⟨rfl, hw'⟩; subst hw') | (go_at_call 54; refine (C3.out _ _).mono ?_; rintro e w' ⟨rfl, hw'⟩; subst hw') | (go_at_call 53; refine (C4.out _ _).mono ?_; rintro e w' ⟨rfl, hw'⟩; subst hw') | (go_at_call 55; refine (C5.out _ _).mono ?_; rintro e w' ⟨rfl, hw'⟩; subst hw'))
    all_goals go_ret
    all_goals (refine ⟨?_, HB.out _⟩; rw [← HMM.out]; clear HB HMM C1 C2 C3 C4 C5 HS q0 q17 q18 q19 q20 q21 q22 heq; simp_all [mayB, nat0, stB, plB, flB]; try omega))
end Go.Proofs.Ytmegeogfpkdodaa
