/- A server that is new; a tick of one that holds nothing. -/
import Derived.Test.YtnikojpdkbkdmaaSvRq
import Derived.Test.YtnikojpdkbkdmaaHpS0
import Derived.Maps.RangeRun
set_option linter.unusedVariables false
set_option linter.unusedSimpArgs false
namespace Go.Proofs.Ytnikojpdkbkdmaa
open Go Go.RowKit

/-- At g stands a server, its map at b. -/
def HSt (w : World) (g b : Nat) (room tick used : Int) : Prop := w.heap[g]? = some (.cells #[.pointer (some ⟨g, 0, none⟩), .int .i64 room, .int .i64 tick, .int .i64 used, .map (some b)] 41 (0, 0))
def rmB (n : Int) : Bool := decide (0 ≤ n ∧ n ≤ 1073741824)
set_option maxRecDepth 100000 in
set_option maxHeartbeats 4000000 in
theorem isRoom_any (w : World) (t : Int) : Calls Try.prog 34 #[.int .i64 t] w fun e w' => e = .returned (.bool (rmB t)) ∧ w' = w := by
  go_enter Try.func34, Try.ntmps34
  go_wp2
  all_goals go_ret
  all_goals (refine ⟨?_, rfl⟩; simp [rmB]; try omega)
set_option maxRecDepth 100000 in
set_option maxHeartbeats 4000000 in
theorem empty_any (w : World) (room tick : Int) : Calls Try.prog 35 #[.int .i64 room, .int .i64 tick] w fun e w' => ∃ g b c, e = .returned (.pointer (some ⟨g, 0, none⟩)) ∧ HSt w' g b room tick 0 ∧ w'.heap[b]? = some (.map #[] c) ∧ w.heap.size ≤ g ∧ w.heap.size ≤ b ∧ Below w.heap.size w w' := by
  have hmm := @run_makeMap Try.prog
  go_enter Try.func35, Try.ntmps35
  go_wp2
  go_ret
  refine ⟨w.heap.size + 1, w.heap.size, 0, rfl, ?_, ?_, by omega, Nat.le_refl _, ((Below.refl _ w).alloc (Nat.le_refl _) _).alloc (by simp) _⟩
  · have h := heap_alloc_new (w.alloc (.map #[] 0)) (.cells #[.pointer (some ⟨w.heap.size + 1, 0, none⟩), .int .i64 room, .int .i64 tick, .int .i64 0, .map (some w.heap.size)] 41)
    have e : (w.alloc (.map #[] 0)).heap.size = w.heap.size + 1 := by simp
    rw [e] at h
    exact h
  · exact (Below.heap_alloc _ _ _ (by simp)).trans (heap_alloc_new w _)
set_option maxRecDepth 100000 in
set_option maxHeartbeats 4000000 in
theorem snew_ok (w : World) (room : Int) (h : rmB room = true) : Calls Try.prog 11 #[.int .i64 room] w fun e w' => ∃ g b c, e = .returned (.tuple #[.pointer (some ⟨g, 0, none⟩), .int .i64 0]) ∧ HSt w' g b room 0 0 ∧ w'.heap[b]? = some (.map #[] c) ∧ w.heap.size ≤ g ∧ w.heap.size ≤ b ∧ Below w.heap.size w w' := by
  have C1 := isRoom_any w room
  rw [h] at C1
  clear h
  go_enter Try.func11, Try.ntmps11
  go_wp2_with (go_at_call 34; refine C1.mono ?_; rintro e w' ⟨rfl, hw'⟩; subst hw')
  refine (empty_any _ room 0).mono ?_
  rintro e w1 ⟨g, b, c, rfl, h1, h2, h3, h4, h5⟩
  have H := hid (And.intro h1 (And.intro h2 (And.intro h3 (And.intro h4 h5))))
  clear h1 h2 h3 h4 h5
  go_wp2
  go_ret2
  exact ⟨g, b, c, rfl, H.out⟩
theorem info_sv : ∃ j, Try.prog.info? 41 = some j := Option.isSome_iff_exists.1 (by kernel_rfl)
theorem eq_sv (a : Addr) (w : World) : (binOp .eql 34 (.pointer (some a)) (.pointer (some a))).run Try.prog w = .ok (.bool true) w := by
  obtain ⟨j, hj⟩ := info_sv
  exact run_eql_ptr_same w a Try.underlying34 hj
theorem HSt.c {w : World} {g b : Nat} {room tick used : Int} (h : HSt w g b room tick used) : w.cell? ⟨g, 0, none⟩ = some (.pointer (some ⟨g, 0, none⟩)) ∧ w.cell? ⟨g, 1, none⟩ = some (.int .i64 room) ∧ w.cell? ⟨g, 2, none⟩ = some (.int .i64 tick) ∧ w.cell? ⟨g, 3, none⟩ = some (.int .i64 used) ∧ w.cell? ⟨g, 4, none⟩ = some (.map (some b)) := by
  refine ⟨?_, ?_, ?_, ?_, ?_⟩ <;> (rw [cell_of_row _ _ _ _ _ _ h]; rfl)
set_option maxRecDepth 100000 in
set_option maxHeartbeats 4000000 in
theorem made_yes (w : World) (g b : Nat) (room tick used : Int) (h : HSt w g b room tick used) : Calls Try.prog 36 #[.pointer (some ⟨g, 0, none⟩)] w fun e w' => e = .returned (.bool true) ∧ w' = w := by
  have c0 := h.c.1
  have heq := eq_sv
  clear h
  go_enter Try.func36, Try.ntmps36
  go_wp2
  go_ret
  exact ⟨rfl, rfl⟩
set_option maxRecDepth 100000 in
set_option maxHeartbeats 4000000 in
theorem ends_none (w : World) (g b c : Nat) (room tick used : Int) (h : HSt w g b room tick used) (hb : w.heap[b]? = some (.map #[] c)) (k : Nat) (caps : Array Value) : Calls Try.prog 37 #[.pointer (some ⟨g, 0, none⟩), .func (.func k) #[] caps] w fun e w' => e = .returned (.tuple #[]) ∧ Below w.heap.size w w' := by
  have c4 := h.c.2.2.2.2
  have hg : g < w.heap.size := (Array.getElem?_eq_some_iff.1 h).1
  have hr : ∀ x, (Instr.range 39 (.map (some b))).run Try.prog (w.alloc (.cells #[x] 89)) = .ok (.pointer (some ⟨w.heap.size + 1, 0, none⟩)) ((w.alloc (.cells #[x] 89)).alloc (.mapIter (some b) c #[] c)) := fun x => by
    have hb1 : (w.alloc (.cells #[x] 89)).heap[b]? = some (.map #[] c) := (Below.heap_alloc _ _ _ (Array.getElem?_eq_some_iff.1 hb).1).trans hb
    have := run_range_map (P := Try.prog) _ 39 _ _ b #[] c Try.underlying39 hb1
    simpa using this
  clear h
  go_enter Try.func37, Try.ntmps37
  go_wp2
  obtain ⟨W2, HW2⟩ : ∃ x, Hid ((w.alloc (.cells #[.func (.func k) #[] caps] 89)).alloc (.mapIter (some b) c #[] c) = x) := ⟨_, rfl⟩
  rw [HW2.out]
  have hn : ∀ ty, (Instr.next (.pointer (some ⟨w.heap.size + 1, 0, none⟩)) false ty).run Try.prog W2 = .ok (.tuple #[.bool false]) W2 := fun ty => by
    have h1 : W2.heap[w.heap.size + 1]? = some (.mapIter (some b) c #[] c) := by
      rw [← HW2.out]
      have := heap_alloc_new (w.alloc (.cells #[.func (.func k) #[] caps] 89)) (.mapIter (some b) c #[] c)
      simpa using this
    have h2 : W2.heap[b]? = some (.map #[] c) := by
      have hlt := (Array.getElem?_eq_some_iff.1 hb).1
      rw [← HW2.out]
      exact (Below.heap_alloc _ _ _ (by simp; omega)).trans ((Below.heap_alloc _ _ _ hlt).trans hb)
    rcases run_next_at (P := Try.prog) W2 ty (w.heap.size + 1) b c c #[] #[] c h1 h2 (fun x hx => by simp at hx) (Nat.le_refl _) with ⟨_, h⟩ | ⟨e, he, _⟩
    · exact h
    · simp [leftOf] at he
  have BB : Hid (Below w.heap.size w W2) := by
    rw [← HW2.out]
    exact hid (((Below.refl _ w).alloc (Nat.le_refl _) _).alloc (by simp) _)
  clear hr hb c4
  refine wp_loop_rounds 1 ?_
  rw [rounds_succ]
  go_wp2
  go_end0
  exact ⟨rfl, BB.out⟩
theorem HSt.setTick {w : World} {g b : Nat} {room tick used : Int} (h : HSt w g b room tick used) (t : Int) : HSt (w.setCell ⟨g, 2, none⟩ (.int .i64 t)) g b room t used := by
  unfold HSt at h ⊢
  simp [World.setCell, Array.getElem?_modify, h]
theorem HSt.setUsed {w : World} {g b : Nat} {room tick used : Int} (h : HSt w g b room tick used) (t : Int) : HSt (w.setCell ⟨g, 3, none⟩ (.int .i64 t)) g b room tick t := by
  unfold HSt at h ⊢
  simp [World.setCell, Array.getElem?_modify, h]
theorem heap_setCell_ne {w : World} {g k : Nat} (hne : k ≠ g) (i : Nat) (v : Value) : (w.setCell ⟨g, i, none⟩ v).heap[k]? = w.heap[k]? := by
  simp [World.setCell, Array.getElem?_modify, Ne.symm hne]
theorem HSt.ne {w : World} {g b c : Nat} {es : Array MapEntry} {room tick used : Int} (h : HSt w g b room tick used) (hb : w.heap[b]? = some (.map es c)) : b ≠ g := fun e => by
  unfold HSt at h
  rw [e, h] at hb
  cases hb
set_option maxRecDepth 100000 in
set_option maxHeartbeats 4000000 in
theorem tick_none (w : World) (g b c : Nat) (room used t : Int) (h : HSt w g b room 0 used) (hb : w.heap[b]? = some (.map #[] c)) (h0 : 0 < t) (h9 : t ≤ 1099511627776) : Calls Try.prog 12 #[.pointer (some ⟨g, 0, none⟩), .int .i64 t] w fun e w' => e = .returned (.int .i64 0) ∧ Ex (fun k => k = g) w w' := by
  have hg : g < w.heap.size := (Array.getElem?_eq_some_iff.1 h).1
  have hbl : b < w.heap.size := (Array.getElem?_eq_some_iff.1 hb).1
  obtain ⟨W1, HW1⟩ : ∃ x, Hid (w.alloc (.cells #[.int .i64 t] 3) = x) := ⟨_, rfl⟩
  have E1 : Hid (Ex (fun k => k = g) w W1) := by rw [← HW1.out]; exact (Ex.refl _ w).alloc _
  have h1 : HSt W1 g b room 0 used := by rw [← HW1.out]; exact (Below.heap_alloc _ _ _ hg).trans h
  have hb1 : W1.heap[b]? = some (.map #[] c) := by rw [← HW1.out]; exact (Below.heap_alloc _ _ _ hbl).trans hb
  have CM := hid (made_yes W1 g b room 0 used h1)
  have c2 := h1.c.2.2.1
  have f2 : W1.frozen? ⟨g, 2, none⟩ = false := free_of h1 2
  have ct : W1.cell? ⟨w.heap.size, 0, none⟩ = some (.int .i64 t) := by rw [← HW1.out, cell_of_row _ _ _ _ _ _ (heap_alloc_new w _)]; rfl
  have HH := hid h1
  have HBB := hid hb1
  have d1 : decide (t < 0) = false := decide_eq_false (by omega)
  have d2 : decide (1099511627776 < t) = false := decide_eq_false (by omega)
  have d3 : decide (0 < t) = true := decide_eq_true (by omega)
  have CE := hid fun n : Nat => ends_none ((W1.drewN n).setCell ⟨g, 2, none⟩ (.int .i64 t)) g b c room t used (HSt.setTick (w := W1.drewN n) h1 t) ((heap_setCell_ne (w := W1.drewN n) (h1.ne hb1) _ _).trans hb1) 38 #[.pointer (some ⟨w.heap.size, 0, none⟩)]
  clear h1 hb1 h hb
  go_enter Try.func12, Try.ntmps12
  go_wp2_with fail
  rw [HW1.out]
  refine CM.out.mono ?_
  rintro e w' ⟨rfl, hw'⟩
  subst hw'
  go_wp2_with fail
  go_quiet (fail)
  go_wp2_with fail
  go_quiet (fail)
  go_wp2_with fail
  refine (CE.out _).mono ?_
  rintro e w2 ⟨rfl, hb2⟩
  have E2 : Hid (Ex (fun k => k = g) w w2) := hid (Ex.trans (S' := fun _ => False) (Ex.setCell (x := g) (Ex.drewN E1.out _) rfl _) (Ex.of_below hb2) (fun k hk => hk.elim))
  clear hb2
  go_wp2
  go_ret
  exact ⟨rfl, E2.out⟩
end Go.Proofs.Ytnikojpdkbkdmaa
