/- wire: newSource and ends. -/
import Derived.Test.YtmegeogfpkdodaaWrSeq
set_option linter.unusedVariables false
set_option linter.unusedSimpArgs false
namespace Go.Proofs.Ytmegeogfpkdodaa
open Go Go.RowKit

theorem results_cell1 {P : Program} {fn : Func} {p : Tmp} {ty : TypeId} (h : fn.results = #[.cell p ty]) (tmps : Array Value) (w : World) (g : Nat) (t : TypeId) (cs : Array Value) (fr : Nat × Nat) (d : TypeDesc)
    (hp : tmps.getD p undef = .pointer (some ⟨g, 0, none⟩)) (hg : w.heap[g]? = some (.cells cs t fr)) (hu : P.underlying ty = some d) (hd : (match d with | .struct _ | .array _ _ => true | _ => false) = true) (hi : (P.info? ty).map (·.size) = some cs.size) :
    (results fn tmps).run P w = .ok (.agg cs) w := by
  have hp' : tmps[p]?.getD undef = .pointer (some ⟨g, 0, none⟩) := by simpa using hp
  simp [results, h, hp', asAddr, run_loadVar_row w g t ty cs fr d hg hu hd hi]
theorem heap_setA {w : World} {b : Nat} {cs : Array Value} {T : TypeId} (h : w.heap[b]? = some (.cells cs T (0, 0))) (i : Nat) (v : Value) :
    (w.setCell ⟨b, i, none⟩ v).heap[b]? = some (.cells (cs.setIfInBounds i v) T (0, 0)) := by
  simp [World.setCell, Array.getElem?_modify, h]
set_option maxRecDepth 100000 in
set_option maxHeartbeats 4000000 in
theorem newSource_any (w : World) (v : Value) (l : List Int) (h : HB w v l) (hbig : l.length ≤ 140737488355328) :
    Calls Try.prog 41 #[v] w fun e w' => ∃ g, e = .returned (.agg #[.pointer (some ⟨g, 0, none⟩), .int .i64 (l.length : Int)]) ∧ RD w' g true false l ∧ w.heap.size ≤ g ∧ Below w.heap.size w w' := by
  obtain ⟨W1, HW1⟩ : ∃ W : World, Hid (w.alloc (.cells #[.pointer none, .int .i64 0] 80) = W) := ⟨_, hid rfl⟩
  have B1 : Hid (Below w.heap.size w W1) := by rw [← HW1.out]; exact hid ((Below.refl _ w).alloc (Nat.le_refl _) _)
  have hs1 : Hid (W1.heap.size = w.heap.size + 1) := hid (by rw [← HW1.out]; simp)
  have hbx : Hid (W1.heap[w.heap.size]? = some (.cells #[.pointer none, .int .i64 0] 80 (0, 0))) := hid (by rw [← HW1.out]; exact heap_alloc_new w _)
  have C1 := hid (newReader_any W1 v l ((h.later fun a _ hx => (B1.out.cell (World.block_lt_of_cell? w a hx)).trans hx)) hbig)
  obtain ⟨p, c, e, hlc, hm⟩ := h.open
  clear h
  subst e
  go_enter Try.func41, Try.ntmps41
  go_wp2_with (first | rw [HW1.out] | fail)
  refine C1.out.mono ?_
  rintro e w2 ⟨g, rfl, hr, hg, hB⟩
  have hb2 : w2.heap[w.heap.size]? = some (.cells #[.pointer none, .int .i64 0] 80 (0, 0)) := (hB.block _ (by have := hs1.out; omega)).trans hbx.out
  have c0 : w2.cell? ⟨w.heap.size, 0, none⟩ = some (.pointer none) := by simp [World.cell?, hb2]
  have c1 : w2.cell? ⟨w.heap.size, 1, none⟩ = some (.int .i64 0) := by simp [World.cell?, hb2]
  have f0 := free_of hb2 0
  have f1 := free_of hb2 1
  have HB2 := hid hb2
  have HR := hid hr
  have HG : Hid (w.heap.size < g) := hid (by have := hs1.out; omega)
  have HBB : Hid (Below w.heap.size w w2) := hid (B1.out.trans (hB.mono B1.out.size))
  clear hb2 hr hg hB C1
  go_wp2_with fail
  have hcell := heap_setA (heap_setA HB2.out 0 (.pointer (some ⟨g, 0, none⟩))) 1 (.int .i64 (l.length : Int))
  have EE := ((Ex.refl (fun k => k = w.heap.size) w2).setCell (x := w.heap.size) (o := 0) rfl (.pointer (some ⟨g, 0, none⟩))).setCell (x := w.heap.size) (o := 1) rfl (.int .i64 (l.length : Int))
  refine bodyPost_ret (v := .agg #[.pointer (some ⟨g, 0, none⟩), .int .i64 (l.length : Int)]) (results_cell1 (p := 2) (ty := 80) rfl _ _ w.heap.size 80 _ (0, 0) _ rfl hcell Try.underlying80 rfl (by kernel_rfl)) rfl ?_
  refine ⟨g, rfl, HR.out.ex EE (by have := HG.out; omega) (fun k e _ => by subst e; exact ⟨_, _, _, HB2.out, by decide⟩), by have := HG.out; omega, HBB.out.trans (EE.below HBB.out.size (fun k e => by omega))⟩
def edA (n : Nat) (l : List Int) (m : Int) : Int := (n : Int) - max ((l.length : Int) - m) 0
set_option maxRecDepth 100000 in
set_option maxHeartbeats 4000000 in
theorem ends_any (w : World) (g n : Nat) (f : Bool) (l : List Int) (h : RD w g true f l) (m : Int) (hn : n ≤ 140737488355328) (hl : l.length ≤ 140737488355328) (hm : 0 ≤ m ∧ m ≤ 140737488355328) :
    Calls Try.prog 64 #[.agg #[.pointer (some ⟨g, 0, none⟩), .int .i64 (n : Int)], .int .i64 m] w fun e w' => e = .returned (.tuple #[.int .i64 (edA n l m), .bool (decide ((l.length : Int) = m))]) ∧ Below w.heap.size w w' := by
  obtain ⟨W1, HW1⟩ : ∃ W : World, Hid (w.alloc (.cells #[.pointer (some ⟨g, 0, none⟩), .int .i64 (n : Int)] 80) = W) := ⟨_, hid rfl⟩
  have B1 : Hid (Below w.heap.size w W1) := by rw [← HW1.out]; exact hid ((Below.refl _ w).alloc (Nat.le_refl _) _)
  have hbx : W1.heap[w.heap.size]? = some (.cells #[.pointer (some ⟨g, 0, none⟩), .int .i64 (n : Int)] 80 (0, 0)) := by rw [← HW1.out]; exact heap_alloc_new w _
  have c0 : W1.cell? ⟨w.heap.size, 0, none⟩ = some (.pointer (some ⟨g, 0, none⟩)) := by simp [World.cell?, hbx]
  have c1 : W1.cell? ⟨w.heap.size, 1, none⟩ = some (.int .i64 (n : Int)) := by simp [World.cell?, hbx]
  have C1 := hid (left_any W1 g true f l (h.grow B1.out))
  have HE : Hid (edA n l m = (n : Int) - max ((l.length : Int) - m) 0) := hid rfl
  obtain ⟨ed, HED⟩ : ∃ x, Hid (edA n l m = x) := ⟨_, hid rfl⟩
  rw [HED.out] at HE ⊢
  generalize l.length = L at hl C1 HE ⊢
  have h1 : IntKind.i64.wrap ((L : Int) - m) = (L : Int) - m := by rw [IntKind.wrap_i64]; omega
  obtain ⟨M, HM⟩ : ∃ x, Hid (max ((L : Int) - m) 0 = x) := ⟨_, hid rfl⟩
  have h2 : IntKind.i64.wrap ((n : Int) - M) = (n : Int) - M := by rw [IntKind.wrap_i64, ← HM.out]; omega
  rw [HM.out] at HE
  clear h hbx
  go_enter Try.func64, Try.ntmps64
  go_wp2_with (first | rw [HW1.out] | fail)
  refine C1.out.mono ?_
  rintro e w2 ⟨rfl, hw2⟩
  subst hw2
  go_wp2_with fail
  all_goals go_ret2
  all_goals refine ⟨?_, B1.out⟩
  · have e1 : M = 0 := by rw [← HM.out]; omega
    rw [HE.out, e1]
    have e2 : ((L : Int) == m) = decide ((L : Int) = m) := rfl
    simp [e2]
  · have e1 : M = (L : Int) - m := by rw [← HM.out]; omega
    rw [HE.out, e1]
    rfl
end Go.Proofs.Ytmegeogfpkdodaa
