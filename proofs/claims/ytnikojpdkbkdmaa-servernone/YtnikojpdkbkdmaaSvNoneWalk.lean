/- ServerNone, walked: the beginning by hand, the rest by the evaluator. -/
import Derived.Test.YtnikojpdkbkdmaaSvNew
import Derived.Test.YtnikojpdkbkdmaaEvPartR
set_option linter.unusedVariables false
set_option linter.unusedSimpArgs false
namespace Go.Proofs.Ytnikojpdkbkdmaa
open Go Go.RowKit Ev

theorem mixedOrders : Try.prog.follows .mixedOrders = true := by kernel_rfl
noncomputable def callN (n : Nat) : CallF := callR Try.prog noLore (callStep Try.prog noCon) 1000 (evGF Try.prog noLore (callR Try.prog noLore (callStep Try.prog noCon) 1000) n)
noncomputable def selfN (n : Nat) : CodeF := evGF Try.prog noLore (callR Try.prog noLore (callStep Try.prog noCon) 1000) n
theorem selfN_ok (ρ : Env) (n : Nat) : CodeOkG Try.prog ρ (selfN n) := by
  unfold selfN
  rw [evGF_eq]
  exact evG_both (noLore_ok ρ) (callR_ok (noLore_ok ρ) mixedOrders (fun self hs => callStep_ok (noCon_ok Try.prog ρ) hs) 1000) mixedOrders n
theorem callN_ok (ρ : Env) (n : Nat) : CallOk Try.prog ρ (callN n) := callR_ok (noLore_ok ρ) mixedOrders (fun self hs => callStep_ok (noCon_ok Try.prog ρ) hs) 1000 _ (selfN_ok ρ n)
/-- The law's code from where the servers that are none are laid out. -/
noncomputable def noneRest : Code := tailN 3 (Try.f4.body.getD .skip)
def acE : List SV := [.int .i64 (.var 0), .int .i64 (.var 1), .int .i64 (.var 2), .int .i64 (.var 3), .int .u8 (.var 4), .int .u8 (.var 5), .int .u8 (.var 6), .int .u8 (.var 7), .int .u8 (.var 8), .int .u8 (.var 9), .int .u8 (.var 10), .int .u8 (.var 11), .int .u8 (.var 12), .int .u8 (.var 13), .int .u8 (.var 14), .int .u8 (.var 15), .int .u8 (.var 16), .int .u8 (.var 17), .int .u8 (.var 18), .int .u8 (.var 19), .int .u8 (.var 20), .int .i64 (.var 21), .int .i64 (.var 22), .int .i64 (.var 23), .int .u32 (.var 24), .int .i64 (.var 25), .opq 0]
def HNone : List Blk := (H0 ++ [newBlk acE]) ++ [newBlk [.bool false]]
def tNone : Tm := tm2 101 1 (.tv (.sc (.ptr 0 0))) 2 (.tv (.sc (.ptr 1 0)))
set_option maxRecDepth 100000 in
theorem noneRest_ev : (evR Try.prog noLore (callN 200) (selfN 200) 1000 noneRest tNone HNone).map (fun r => (r.1.ends, evResults Try.prog Try.f4 r.2.1 r.2.2)) = some (true, some (.tv (.sc (.bool true)))) := by kernel_rfl
theorem list16 (l : List Int) (h : l.length = 16) : ∃ x0 x1 x2 x3 x4 x5 x6 x7 x8 x9 x10 x11 x12 x13 x14 x15 : Int, l = [x0, x1, x2, x3, x4, x5, x6, x7, x8, x9, x10, x11, x12, x13, x14, x15] := by
  match l, h with
  | [x0, x1, x2, x3, x4, x5, x6, x7, x8, x9, x10, x11, x12, x13, x14, x15], _ => exact ⟨x0, x1, x2, x3, x4, x5, x6, x7, x8, x9, x10, x11, x12, x13, x14, x15, rfl⟩
/-- The cells of an act. -/
def acL (on kd tk st : Int) (r : Rq) (v : Value) : List Value := [.int .i64 on, .int .i64 kd, .int .i64 tk, .int .i64 st] ++ rqL r v
def envN (on kd tk st : Int) (r : Rq) (v : Value) : Env := ⟨fun i => ([on, kd, tk, st, r.k] ++ r.ix ++ [r.nb, r.pl, r.ln, r.who, r.til]).getD i 0, fun _ => v, fun _ _ _ => 0⟩
set_option maxRecDepth 100000 in
theorem acE_inst (on kd tk st : Int) (r : Rq) (hr : r.ok) (v : Value) (hv : v.oneCell' = true) (ms : List Nat) : acE.map (SV.inst (envN on kd tk st r v) ms) = (acL on kd tk st r v).map some := by
  obtain ⟨x0, x1, x2, x3, x4, x5, x6, x7, x8, x9, x10, x11, x12, x13, x14, x15, hx⟩ := list16 r.ix hr.1
  obtain ⟨k, ix, nb, pl, ln, who, til⟩ := r
  simp only at hx
  subst hx
  simp [acE, acL, rqL, SV.inst, Ex.den, envN, hv]
set_option maxRecDepth 100000 in
set_option maxHeartbeats 4000000 in
theorem snone_walk (w : World) (on kd tk st : Int) (r : Rq) (hr : r.ok) (v : Value) (hv : v.oneCell' = true) : Calls Try.prog 4 #[.agg (acL on kd tk st r v).toArray] w fun e w' => e = .returned (.bool true) ∧ Below w.heap.size w w' := by
  have HI := hid (acE_inst on kd tk st r hr v hv)
  obtain ⟨ρ, HR⟩ : ∃ x, Hid (envN on kd tk st r v = x) := ⟨_, rfl⟩
  obtain ⟨ml, HL⟩ : ∃ x, Hid (acL on kd tk st r v = x) := ⟨_, rfl⟩
  rw [HR.out, HL.out] at HI
  rw [HL.out]
  clear HR HL hr hv
  obtain ⟨m, HM⟩ : ∃ x, Hid (ml.toArray = x) := ⟨_, rfl⟩
  rw [HM.out]
  obtain ⟨W1, HW1⟩ : ∃ x, Hid ((w.alloc (.cells m 33)).alloc (.cells #[.bool false] 4) = x) := ⟨_, rfl⟩
  have C1 := hid (snew_ok W1 5 (by decide))
  refine (callsIn_wide (n := 1)).1 (callsIn_of_wp_marks Try.func4 rfl trivial (wpIn_wide.2 ?_) rfl)
  simp only [Try.ntmps4, List.size_toArray, List.length_cons, List.length_nil, Nat.reduceAdd, Nat.reduceSub, Array.replicate_succ, Array.replicate_zero, List.push_toArray, List.append_toArray, List.nil_append, List.cons_append]
  refine wp_seq_k fun K0 h0 => ?_
  have H0' := hid h0
  clear h0
  go_wp2
  rw [HW1.out]
  refine H0'.out _ _ ?_
  refine wp_seq_k fun K1 h1 => ?_
  have H1' := hid h1
  clear h1
  go_wp2_with fail
  refine C1.out.mono ?_
  rintro e w2 ⟨g, b, c, rfl, q1, q2, q3, q4, q5⟩
  have CT := hid (tick_none w2 g b c 5 0 3 q1 q2 (by decide) (by decide))
  have Q := hid (And.intro q3 q5)
  clear q1 q2 q3 q4 q5
  go_wp2
  refine H1'.out _ _ ?_
  refine wp_seq_k fun K2 h2 => ?_
  have H2' := hid h2
  clear h2
  go_wp2_with fail
  refine CT.out.mono ?_
  rintro e w3 ⟨rfl, hx⟩
  have X := hid hx
  clear hx
  go_wp2
  refine H2'.out _ _ ?_
  have Z1 : W1.heap.size = w.heap.size + 2 := by rw [← HW1.out]; simp
  have BA : Below w.heap.size w W1 := by rw [← HW1.out]; exact ((Below.refl _ w).alloc (Nat.le_refl _) _).alloc (by simp) _
  have BB : Below W1.heap.size W1 w3 := Q.out.2.trans (X.out.below Q.out.2.size (fun k hk => by rw [hk]; exact Q.out.1))
  have a0 : W1.heap[w.heap.size]? = some (.cells m 33 (0, 0)) := by rw [← HW1.out]; exact (Below.heap_alloc _ _ _ (by simp)).trans (heap_alloc_new w _)
  have a1 : W1.heap[w.heap.size + 1]? = some (.cells #[.bool false] 4 (0, 0)) := by
    rw [← HW1.out]
    have := heap_alloc_new (w.alloc (.cells m 33)) (.cells #[.bool false] 4)
    simpa using this
  have b0 := (BB.block w.heap.size (by omega)).trans a0
  have b1 := (BB.block (w.heap.size + 1) (by omega)).trans a1
  have hs3 := BB.size
  have hH0 := holds_any ρ w3 (B := w.heap.size) (by omega)
  have hH1 := hH0.known (l := acE) (vs := ml) (HI.out _) (b0 := w.heap.size) (Nat.le_refl _) (by omega) (fun i b k h1 h2 h3 => absurd (dead0 h2) h3) (fun j u hj => by
    refine ⟨?_, free_of b0 j⟩
    rw [cell_of_row _ _ _ _ _ _ b0, ← HM.out]
    simpa using hj)
  have hH2 := hH1.known (l := [.bool false]) (vs := [.bool false]) rfl (b0 := w.heap.size + 1) (by omega) (by omega) (fun i b k h1 h2 h3 => by
    by_cases hi : i < (ms0).length
    · rw [List.getElem?_append_left (by simpa [ms0, H0] using hi)] at h2
      exact absurd (dead0 h2) h3
    · rw [List.getElem?_append_right (by omega)] at h1
      have := List.mem_of_getElem? h1
      simp at this
      omega) (fun j u hj => by
    refine ⟨?_, free_of b1 j⟩
    rw [cell_of_row _ _ _ _ _ _ b1]
    simpa using hj)
  clear Z1
  refine part_R (ρ := ρ) (noLore_ok ρ) mixedOrders (callN_ok ρ 200) (selfN_ok ρ 200) noneRest_ev (t := tNone) (RelT.two rfl (by decide) (u := .pointer (some ⟨w.heap.size, 0, none⟩)) rfl rfl (v := .pointer (some ⟨w.heap.size + 1, 0, none⟩)) rfl rfl hH2.gl) hH2 rfl fun ms' u w' hu hb => ?_
  simp only [AV.inst, TV.inst, SV.inst, Option.some.injEq] at hu
  exact ⟨by rw [← hu], (BA.trans (BB.mono BA.size)).trans hb⟩
end Go.Proofs.Ytnikojpdkbkdmaa
