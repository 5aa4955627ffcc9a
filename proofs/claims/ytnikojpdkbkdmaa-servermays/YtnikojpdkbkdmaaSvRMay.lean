/- The document's May. -/
import Derived.Test.YtnikojpdkbkdmaaSvRq
import Derived.Deep.MidRow
import Derived.Deep.RegionHeld
import Derived.OrdersHeld
set_option linter.unusedVariables false
set_option linter.unusedSimpArgs false
namespace Go.Proofs.Ytnikojpdkbkdmaa
open Go Go.RowKit

/-- Has a request nothing but what is named? -/
def bareB (r : Rq) (n : Nat) (b1 b2 b3 b4 : Bool) : Bool := decide ((b1 = false → r.nb = 0) ∧ (b2 = false → r.pl = 0 ∧ r.ln = 0) ∧ (b3 = false → r.who = 0 ∧ r.til = 0) ∧ (b4 = false → n = 0) ∧ 0 ≤ r.nb ∧ r.nb < 255 ∧ 0 ≤ r.til ∧ r.til ≤ 1099511627776)
set_option maxRecDepth 100000 in
set_option maxHeartbeats 4000000 in
theorem bare_have_ (w : World) (r : Rq) (hr : r.ok) (p : Option Addr) (n c : Nat) : Calls Try.prog 33 #[.agg (rqA r (.slice p n c)), .bool false, .bool false, .bool false, .bool false] w fun e w' => e = .returned (.bool (bareB r n false false false false)) ∧ Below w.heap.size w w' := by
  have q17 := rqA_17 hr (.slice p n c)
  have q18 := rqA_18 hr (.slice p n c)
  have q19 := rqA_19 hr (.slice p n c)
  have q20 := rqA_20 hr (.slice p n c)
  have q21 := rqA_21 hr (.slice p n c)
  have q22 := rqA_22 hr (.slice p n c)
  obtain ⟨m, HM⟩ : ∃ x, Hid (rqA r (.slice p n c) = x) := ⟨_, rfl⟩
  rw [HM.out] at q17 q18 q19 q20 q21 q22 ⊢
  obtain ⟨k, ix, nb, pl, ln, who, til⟩ := r
  simp only at q17 q18 q19 q20 q21 q22
  generalize hM : bareB ⟨k, ix, nb, pl, ln, who, til⟩ n false false false false = M
  have HMM := hid hM
  clear hM HM hr
  have heq := run_neq_lease
  have HB := hid fun q => bel_drewN ((Below.refl w.heap.size w).alloc (Nat.le_refl _) (.cells m 30)) q
  have HB0 := hid ((Below.refl w.heap.size w).alloc (Nat.le_refl _) (.cells m 30))
  go_enter Try.func33, Try.ntmps33
  go_wp2
  all_goals go_ret
  all_goals (refine ⟨?_, by first | exact HB0.out | exact HB.out _⟩; rw [← HMM.out]; clear HB HB0 HMM q17 q18 q19 q20 q21 q22 heq; simp_all [bareB, nat0]; try omega)
set_option maxRecDepth 100000 in
set_option maxHeartbeats 4000000 in
theorem bare_store (w : World) (r : Rq) (hr : r.ok) (p : Option Addr) (n c : Nat) : Calls Try.prog 33 #[.agg (rqA r (.slice p n c)), .bool true, .bool false, .bool true, .bool true] w fun e w' => e = .returned (.bool (bareB r n true false true true)) ∧ Below w.heap.size w w' := by
  have q17 := rqA_17 hr (.slice p n c)
  have q18 := rqA_18 hr (.slice p n c)
  have q19 := rqA_19 hr (.slice p n c)
  have q20 := rqA_20 hr (.slice p n c)
  have q21 := rqA_21 hr (.slice p n c)
  have q22 := rqA_22 hr (.slice p n c)
  obtain ⟨m, HM⟩ : ∃ x, Hid (rqA r (.slice p n c) = x) := ⟨_, rfl⟩
  rw [HM.out] at q17 q18 q19 q20 q21 q22 ⊢
  obtain ⟨k, ix, nb, pl, ln, who, til⟩ := r
  simp only at q17 q18 q19 q20 q21 q22
  generalize hM : bareB ⟨k, ix, nb, pl, ln, who, til⟩ n true false true true = M
  have HMM := hid hM
  clear hM HM hr
  have heq := run_neq_lease
  have HB := hid fun q => bel_drewN ((Below.refl w.heap.size w).alloc (Nat.le_refl _) (.cells m 30)) q
  have HB0 := hid ((Below.refl w.heap.size w).alloc (Nat.le_refl _) (.cells m 30))
  go_enter Try.func33, Try.ntmps33
  go_wp2
  all_goals go_ret
  all_goals (refine ⟨?_, by first | exact HB0.out | exact HB.out _⟩; rw [← HMM.out]; clear HB HB0 HMM q17 q18 q19 q20 q21 q22 heq; simp_all [bareB, nat0]; try omega)
set_option maxRecDepth 100000 in
set_option maxHeartbeats 4000000 in
theorem bare_fetch (w : World) (r : Rq) (hr : r.ok) (p : Option Addr) (n c : Nat) : Calls Try.prog 33 #[.agg (rqA r (.slice p n c)), .bool true, .bool true, .bool false, .bool false] w fun e w' => e = .returned (.bool (bareB r n true true false false)) ∧ Below w.heap.size w w' := by
  have q17 := rqA_17 hr (.slice p n c)
  have q18 := rqA_18 hr (.slice p n c)
  have q19 := rqA_19 hr (.slice p n c)
  have q20 := rqA_20 hr (.slice p n c)
  have q21 := rqA_21 hr (.slice p n c)
  have q22 := rqA_22 hr (.slice p n c)
  obtain ⟨m, HM⟩ : ∃ x, Hid (rqA r (.slice p n c) = x) := ⟨_, rfl⟩
  rw [HM.out] at q17 q18 q19 q20 q21 q22 ⊢
  obtain ⟨k, ix, nb, pl, ln, who, til⟩ := r
  simp only at q17 q18 q19 q20 q21 q22
  generalize hM : bareB ⟨k, ix, nb, pl, ln, who, til⟩ n true true false false = M
  have HMM := hid hM
  clear hM HM hr
  have heq := run_neq_lease
  have HB := hid fun q => bel_drewN ((Below.refl w.heap.size w).alloc (Nat.le_refl _) (.cells m 30)) q
  have HB0 := hid ((Below.refl w.heap.size w).alloc (Nat.le_refl _) (.cells m 30))
  go_enter Try.func33, Try.ntmps33
  go_wp2
  all_goals go_ret
  all_goals (refine ⟨?_, by first | exact HB0.out | exact HB.out _⟩; rw [← HMM.out]; clear HB HB0 HMM q17 q18 q19 q20 q21 q22 heq; simp_all [bareB, nat0]; try omega)
set_option maxRecDepth 100000 in
set_option maxHeartbeats 4000000 in
theorem bare_renew (w : World) (r : Rq) (hr : r.ok) (p : Option Addr) (n c : Nat) : Calls Try.prog 33 #[.agg (rqA r (.slice p n c)), .bool false, .bool false, .bool true, .bool false] w fun e w' => e = .returned (.bool (bareB r n false false true false)) ∧ Below w.heap.size w w' := by
  have q17 := rqA_17 hr (.slice p n c)
  have q18 := rqA_18 hr (.slice p n c)
  have q19 := rqA_19 hr (.slice p n c)
  have q20 := rqA_20 hr (.slice p n c)
  have q21 := rqA_21 hr (.slice p n c)
  have q22 := rqA_22 hr (.slice p n c)
  obtain ⟨m, HM⟩ : ∃ x, Hid (rqA r (.slice p n c) = x) := ⟨_, rfl⟩
  rw [HM.out] at q17 q18 q19 q20 q21 q22 ⊢
  obtain ⟨k, ix, nb, pl, ln, who, til⟩ := r
  simp only at q17 q18 q19 q20 q21 q22
  generalize hM : bareB ⟨k, ix, nb, pl, ln, who, til⟩ n false false true false = M
  have HMM := hid hM
  clear hM HM hr
  have heq := run_neq_lease
  have HB := hid fun q => bel_drewN ((Below.refl w.heap.size w).alloc (Nat.le_refl _) (.cells m 30)) q
  have HB0 := hid ((Below.refl w.heap.size w).alloc (Nat.le_refl _) (.cells m 30))
  go_enter Try.func33, Try.ntmps33
  go_wp2
  all_goals go_ret
  all_goals (refine ⟨?_, by first | exact HB0.out | exact HB.out _⟩; rw [← HMM.out]; clear HB HB0 HMM q17 q18 q19 q20 q21 q22 heq; simp_all [bareB, nat0]; try omega)
theorem range_belowS {w w' : World} {B b o : Nat} {cs : List Value} (h : w.rangeAt b o cs) (hB : Below B w w') (hb : b < B) : w'.rangeAt b o cs := fun j v hv => (hB.cell (p := ⟨b, o + j, none⟩) hb).trans (h j v hv)
theorem range_new (w : World) (cs : List Value) (T : TypeId) : (w.alloc (.cells cs.toArray T)).rangeAt w.heap.size 0 cs := fun j v hv => by
  have h := heap_alloc_new w (.cells cs.toArray T)
  rw [cell_of_row _ _ _ _ _ _ h]
  simpa using hv
theorem size_req : (Try.prog.info? 30).map (·.size) = some 23 := by kernel_rfl
theorem size_rq {r : Rq} (h : r.ok) (v : Value) : (Try.prog.info? 30).map (·.size) = some (rqL r v).length := by
  rw [show (rqL r v).length = 23 by simp [rqL, h.1]]; exact size_req
theorem rq_und : ∃ fs, Try.prog.underlying 30 = some (.struct fs) := ⟨_, Try.underlying30⟩
set_option maxRecDepth 100000 in
set_option maxHeartbeats 8000000 in
/-- The document's May is the program's. -/
theorem rmay_any (w : World) (r : Rq) (hr : r.ok) (p : Option Addr) (n c : Nat) : Calls Try.prog 10 #[.agg (rqA r (.slice p n c))] w fun e w' => e = .returned (.bool (mayB r n)) ∧ Below w.heap.size w w' := by
  have B1 := hid fun w => bare_have_ w r hr p n c
  have B2 := hid fun w => bare_store w r hr p n c
  have B3 := hid fun w => bare_fetch w r hr p n c
  have B4 := hid fun w => bare_renew w r hr p n c
  have q0 : (rqA r (.slice p n c))[0]? = some (.int .u8 r.k) := rfl
  have q17 := rqA_17 hr (.slice p n c)
  have q18 := rqA_18 hr (.slice p n c)
  have q19 := rqA_19 hr (.slice p n c)
  have q20 := rqA_20 hr (.slice p n c)
  have q21 := rqA_21 hr (.slice p n c)
  have q22 := rqA_22 hr (.slice p n c)
  have HR := hid (range_new w (rqL r (.slice p n c)) 30)
  have HS := hid (size_rq hr (.slice p n c))
  have hA : (rqL r (.slice p n c)).toArray = rqA r (.slice p n c) := rfl
  rw [hA] at HR
  have HA := hid hA
  clear hA
  obtain ⟨m, HM⟩ : ∃ x, Hid (rqA r (.slice p n c) = x) := ⟨_, rfl⟩
  obtain ⟨ml, HML⟩ : ∃ x, Hid (rqL r (.slice p n c) = x) := ⟨_, rfl⟩
  rw [HM.out, HML.out] at HA HR
  rw [HML.out] at HS
  rw [HM.out] at B1 B2 B3 B4 q0 q17 q18 q19 q20 q21 q22 ⊢
  generalize hM : mayB r n = M
  have HMM := hid hM
  generalize hM1 : bareB r n false false false false = M1 at B1
  generalize hM2 : bareB r n true false true true = M2 at B2
  generalize hM3 : bareB r n true true false false = M3 at B3
  generalize hM4 : bareB r n false false true false = M4 at B4
  have HM1 := hid hM1
  have HM2 := hid hM2
  have HM3 := hid hM3
  have HM4 := hid hM4
  obtain ⟨k, ix, nb, pl, ln, who, til⟩ := r
  simp only at q0 q17 q18 q19 q20 q21 q22
  clear hM hM1 hM2 hM3 hM4 HM HML hr
  have B0 := hid ((Below.refl w.heap.size w).alloc (Nat.le_refl _) (.cells m 30))
  have HC : Hid (∀ w', Below (w.alloc (.cells m 30)).heap.size (w.alloc (.cells m 30)) w' → ∀ i, w'.cell? ⟨w.heap.size, i, none⟩ = m[i]?) := hid fun w' hb i => by
    rw [hb.cell (p := ⟨w.heap.size, i, none⟩) (by simp), cell_of_row _ _ _ _ _ _ (heap_alloc_new w _)]
  go_enter Try.func10, Try.ntmps10
  go_wp2_with (refine wpList_load_mid rfl 30 _ rfl w.heap.size 0 rfl ml _ HR.out Try.underlying30 rfl HS.out ?_; rw [HA.out])
  · refine (B1.out _).mono ?_
    rintro e w1 ⟨rfl, hb1⟩
    have c0 := HC.out _ hb1 0
    have c18 := HC.out _ hb1 18
    have c19 := HC.out _ hb1 19
    have c21 := HC.out _ hb1 21
    have c22 := HC.out _ hb1 22
    rw [q18] at c18
    rw [q19] at c19
    rw [q21] at c21
    rw [q22] at c22
    clear c0
    have HB := hid (B0.out.trans (hb1.mono B0.out.size))
    clear hb1
    go_wp2
    all_goals go_ret
    all_goals (refine ⟨?_, HB.out⟩; rw [← HMM.out]; (have e1 := HM1.out; have e2 := HM2.out; have e3 := HM3.out; have e4 := HM4.out); clear HB HMM HM1 HM2 HM3 HM4 B1 B2 B3 B4 B0 HC HA HR HS q0 q17 q18 q19 q20 q21 q22 c18 c19 c21 c22; subst e1 e2 e3 e4; simp_all [mayB, bareB, nbB, tkB, stB]; try (first | omega | (rw [Bool.eq_iff_iff]; simp; done) | (rw [Bool.eq_iff_iff]; simp only [Bool.and_eq_true, decide_eq_true_eq]; omega)))
  · refine (B2.out _).mono ?_
    rintro e w1 ⟨rfl, hb1⟩
    have c0 := HC.out _ hb1 0
    have c18 := HC.out _ hb1 18
    have c19 := HC.out _ hb1 19
    have c21 := HC.out _ hb1 21
    have c22 := HC.out _ hb1 22
    rw [q18] at c18
    rw [q19] at c19
    rw [q21] at c21
    rw [q22] at c22
    clear c0
    have HB := hid (B0.out.trans (hb1.mono B0.out.size))
    clear hb1
    go_wp2
    all_goals go_ret
    all_goals (refine ⟨?_, HB.out⟩; rw [← HMM.out]; (have e1 := HM1.out; have e2 := HM2.out; have e3 := HM3.out; have e4 := HM4.out); clear HB HMM HM1 HM2 HM3 HM4 B1 B2 B3 B4 B0 HC HA HR HS q0 q17 q18 q19 q20 q21 q22 c18 c19 c21 c22; subst e1 e2 e3 e4; simp_all [mayB, bareB, nbB, tkB, stB]; try (first | omega | (rw [Bool.eq_iff_iff]; simp; done) | (rw [Bool.eq_iff_iff]; simp only [Bool.and_eq_true, decide_eq_true_eq]; omega)))
  · refine (B3.out _).mono ?_
    rintro e w1 ⟨rfl, hb1⟩
    have c0 := HC.out _ hb1 0
    have c18 := HC.out _ hb1 18
    have c19 := HC.out _ hb1 19
    have c21 := HC.out _ hb1 21
    have c22 := HC.out _ hb1 22
    rw [q18] at c18
    rw [q19] at c19
    rw [q21] at c21
    rw [q22] at c22
    clear c0
    have HB := hid (B0.out.trans (hb1.mono B0.out.size))
    clear hb1
    go_wp2
    all_goals go_ret
    all_goals (refine ⟨?_, HB.out⟩; rw [← HMM.out]; (have e1 := HM1.out; have e2 := HM2.out; have e3 := HM3.out; have e4 := HM4.out); clear HB HMM HM1 HM2 HM3 HM4 B1 B2 B3 B4 B0 HC HA HR HS q0 q17 q18 q19 q20 q21 q22 c18 c19 c21 c22; subst e1 e2 e3 e4; simp_all [mayB, bareB, nbB, tkB, stB]; try (first | omega | (rw [Bool.eq_iff_iff]; simp; done) | (rw [Bool.eq_iff_iff]; simp only [Bool.and_eq_true, decide_eq_true_eq]; omega)))
  · refine (B4.out _).mono ?_
    rintro e w1 ⟨rfl, hb1⟩
    have c0 := HC.out _ hb1 0
    have c18 := HC.out _ hb1 18
    have c19 := HC.out _ hb1 19
    have c21 := HC.out _ hb1 21
    have c22 := HC.out _ hb1 22
    rw [q18] at c18
    rw [q19] at c19
    rw [q21] at c21
    rw [q22] at c22
    clear c0
    have HB := hid (B0.out.trans (hb1.mono B0.out.size))
    clear hb1
    go_wp2
    all_goals go_ret
    all_goals (refine ⟨?_, HB.out⟩; rw [← HMM.out]; (have e1 := HM1.out; have e2 := HM2.out; have e3 := HM3.out; have e4 := HM4.out); clear HB HMM HM1 HM2 HM3 HM4 B1 B2 B3 B4 B0 HC HA HR HS q0 q17 q18 q19 q20 q21 q22 c18 c19 c21 c22; subst e1 e2 e3 e4; simp_all [mayB, bareB, nbB, tkB, stB]; try (first | omega | (rw [Bool.eq_iff_iff]; simp; done) | (rw [Bool.eq_iff_iff]; simp only [Bool.and_eq_true, decide_eq_true_eq]; omega)))
  · refine (B4.out _).mono ?_
    rintro e w1 ⟨rfl, hb1⟩
    have c0 := HC.out _ hb1 0
    have c18 := HC.out _ hb1 18
    have c19 := HC.out _ hb1 19
    have c21 := HC.out _ hb1 21
    have c22 := HC.out _ hb1 22
    rw [q18] at c18
    rw [q19] at c19
    rw [q21] at c21
    rw [q22] at c22
    clear c0
    have HB := hid (B0.out.trans (hb1.mono B0.out.size))
    clear hb1
    go_wp2
    all_goals go_ret
    all_goals (refine ⟨?_, HB.out⟩; rw [← HMM.out]; (have e1 := HM1.out; have e2 := HM2.out; have e3 := HM3.out; have e4 := HM4.out); clear HB HMM HM1 HM2 HM3 HM4 B1 B2 B3 B4 B0 HC HA HR HS q0 q17 q18 q19 q20 q21 q22 c18 c19 c21 c22; subst e1 e2 e3 e4; simp_all [mayB, bareB, nbB, tkB, stB]; try (first | omega | (rw [Bool.eq_iff_iff]; simp; done) | (rw [Bool.eq_iff_iff]; simp only [Bool.and_eq_true, decide_eq_true_eq]; omega)))
  · go_ret
    refine ⟨?_, B0.out⟩
    rw [← HMM.out]
    clear HMM HM1 HM2 HM3 HM4 B1 B2 B3 B4 B0 HC HA HR HS q0 q17 q18 q19 q20 q21 q22
    simp_all [mayB]
end Go.Proofs.Ytnikojpdkbkdmaa
