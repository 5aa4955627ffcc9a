/- HeapNone, by the evaluator; lives by its contract. -/
import Derived.Test.YtcgkcappfjhikaaHpLives
import Derived.Test.YtcgkcappfjhikaaEvMarks
import Derived.Test.YtcgkcappfjhikaaEvPart
set_option linter.unusedVariables false
set_option linter.unusedSimpArgs false
namespace Go.Proofs.Ytcgkcappfjhikaa
open Go Go.RowKit Ev
def conLv : ConF := fun g xs _ => if g = 9 then (match xs with | [] => some (.tv (.sc (.bool true))) | _ => none) else none
theorem conLv_ok (ρ : Env) : ConOk Try.prog ρ conLv := by
  intro g xs H v hv ms B w args ha hH
  unfold conLv at hv
  split at hv
  case isFalse => cases hv
  rename_i hg
  subst hg
  split at hv
  case h_2 => cases hv
  cases hv
  have e : args = #[] := by
    obtain ⟨l⟩ := args
    have hl : l.length = 0 := by have := congrArg List.length ha; simpa using this.symm
    rw [List.length_eq_zero_iff.1 hl]
  subst e
  exact (lives_any w).mono fun e w' ⟨q1, q2⟩ => ⟨_, q1, rfl, q2⟩
theorem mixedOrders : Try.prog.follows .mixedOrders = true := by kernel_rfl
noncomputable def evHp (n : Nat) : CallF := evCallR Try.prog noLore (callStep Try.prog conLv) 1000 n
theorem evHp_ok (ρ : Env) (n : Nat) : CallOk Try.prog ρ (evHp n) := evCallR_ok (noLore_ok ρ) mixedOrders (fun self hs => callStep_ok (conLv_ok ρ) hs) 1000 n
def envN (x t : Int) : Env := ⟨fun i => if i = 0 then x else t, fun i => if i = 0 then .nilFunc else .map none, fun _ _ _ => 0⟩
def zL : List SV := [.nilp, .opq 0, .nils 0 0, .opq 1, .int .i64 (.lit 0), .int .i64 (.lit 0)]
def zV : List Value := [.pointer none, .nilFunc, .slice none 0 0, .map none, .int .i64 0, .int .i64 0]
theorem empty0_ev : (evHp 100 32 [.tv (.sc .nilp), .tv (.sc (.int .i64 (.var 0))), .tv (.sc (.int .i64 (.var 1)))] []).map (·.1) = some (.tv (.sc (.bool true))) := by kernel_rfl
theorem empty1_ev : (evHp 100 32 [.tv (.sc (.ptr 0 0)), .tv (.sc (.int .i64 (.var 0))), .tv (.sc (.int .i64 (.var 1)))] [newBlk zL]).map (·.1) = some (.tv (.sc (.bool true))) := by kernel_rfl
theorem sorted0_ev : (evHp 100 16 [.tv (.sc (.opq 0)), .tv (.sc .nilf)] []).map (·.1) = some (.tup [.sc (.nils 0 0), .sc (.int .i64 (.lit 170))]) := by kernel_rfl
theorem map_fst' {α β : Type} {o : Option (α × β)} {a : α} (h : o.map (·.1) = some a) : ∃ b, o = some (a, b) := by
  cases o with
  | none => cases h
  | some p => obtain ⟨x, y⟩ := p; simp only [Option.map_some, Option.some.injEq] at h; exact ⟨y, by rw [h]⟩
theorem empty0 (w : World) (x t : Int) : Calls Try.prog 32 #[.pointer none, .int .i64 x, .int .i64 t] w fun e w' => e = .returned (.bool true) ∧ Below w.heap.size w w' := by
  obtain ⟨H', h1⟩ := map_fst' empty0_ev
  refine (evHp_ok (envN x t) 100 _ _ [] _ H' h1 [] w.heap.size w #[.pointer none, .int .i64 x, .int .i64 t] ?_ (holds_nil _ w)).mono ?_
  · simp [AV.inst, TV.inst, SV.inst, Ex.den, envN]
  · rintro e w' ⟨ms', u, rfl, _, h2, _, h4⟩
    simp only [AV.inst, TV.inst, SV.inst, Option.some.injEq] at h2
    exact ⟨by rw [← h2], h4.toBelow⟩
theorem empty1 (w : World) (x t : Int) (g : Nat) (hg : w.heap[g]? = some (.cells zV.toArray 75 (0, 0))) : Calls Try.prog 32 #[ptr g, .int .i64 x, .int .i64 t] w fun e w' => e = .returned (.bool true) ∧ Below g w w' := by
  obtain ⟨H', h1⟩ := map_fst' empty1_ev
  have hl := (Array.getElem?_eq_some_iff.1 hg).1
  have hH : Holds (envN x t) ([] ++ [g]) ([] ++ [newBlk zL]) g w := by
    refine (holds_any (envN x t) w (B := g) (by omega)).known (l := zL) (vs := zV) ?_ (Nat.le_refl _) hl (fun i b k h _ _ => by cases h) (fun j v hv => ⟨?_, free_of hg j⟩)
    · simp [zL, zV, SV.inst, Ex.den, envN, Value.oneCell']
    · rw [cell_of_row _ _ _ _ _ _ hg]; simpa using hv
  refine (evHp_ok (envN x t) 100 _ _ [newBlk zL] _ H' h1 [g] g w #[ptr g, .int .i64 x, .int .i64 t] ?_ hH).mono ?_
  · simp [AV.inst, TV.inst, SV.inst, Ex.den, envN]
    rfl
  · rintro e w' ⟨ms', u, rfl, _, h2, _, h4⟩
    simp only [AV.inst, TV.inst, SV.inst, Option.some.injEq] at h2
    exact ⟨by rw [← h2], h4.toBelow⟩
theorem sorted0 (w : World) (v : Value) (hv : v.oneCell' = true) : Calls Try.prog 16 #[v, .nilFunc] w fun e w' => e = .returned (.tuple #[.slice none 0 0, .int .i64 170]) ∧ Below w.heap.size w w' := by
  obtain ⟨H', h1⟩ := map_fst' sorted0_ev
  refine (evHp_ok ⟨fun _ => 0, fun _ => v, fun _ _ _ => 0⟩ 100 _ _ [] _ H' h1 [] w.heap.size w #[v, .nilFunc] ?_ (holds_nil _ w)).mono ?_
  · simp [AV.inst, TV.inst, SV.inst, hv]
  · rintro e w' ⟨ms', u, rfl, _, h2, _, h4⟩
    refine ⟨?_, h4.toBelow⟩
    have h3 : (.tuple #[.slice none 0 0, .int .i64 170] : Value) = u := Option.some.inj (by rw [← h2]; rfl)
    rw [← h3]
set_option maxRecDepth 100000 in
set_option maxHeartbeats 4000000 in
theorem hnone_walk (w : World) (x t : Int) : Calls Try.prog 7 #[.int .i64 x, .int .i64 t] w fun e w' => e = .returned (.bool true) ∧ Below w.heap.size w w' := by
  have C0 := hid (lives_any w)
  go_enter Try.func7, Try.ntmps7
  go_wp2_with fail
  refine C0.out.mono ?_
  rintro e w1 ⟨rfl, hb1⟩
  have B1 := hid hb1
  have C1 := hid (new_nil w1)
  clear hb1 C0
  go_wp2_with fail
  refine C1.out.mono ?_
  rintro e w2 ⟨rfl, hw2⟩
  rw [hw2]
  clear hw2 C1
  have C2 := hid (fun W a n c => sorted0 W (.slice a n c) rfl)
  go_wp2_with fail
  refine (C2.out _ _ _ _).mono ?_
  rintro e w3 ⟨rfl, hb3⟩
  have B3 : Hid (Below w.heap.size w w3) := hid ((B1.out.alloc B1.out.size _).trans (hb3.mono (by have := B1.out.size; simp; omega)))
  have C3 := hid (empty0 w3 x t)
  clear hb3 C2
  go_wp2_with fail
  refine C3.out.mono ?_
  rintro e w4 ⟨rfl, hb4⟩
  have B4 : Hid (Below w.heap.size w w4) := hid (B3.out.trans (hb4.mono B3.out.size))
  have C4 := hid (empty1 (w4.alloc (.cells zV.toArray 75)) x t w4.heap.size (heap_alloc_new w4 _))
  clear hb4 C3
  go_wp2_with fail
  refine C4.out.mono ?_
  rintro e w5 ⟨rfl, hb5⟩
  have B5 : Hid (Below w.heap.size w w5) := hid ((B4.out.alloc B4.out.size _).trans (hb5.mono B4.out.size))
  clear hb5 C4
  go_wp2_with fail
  go_ret
  exact ⟨rfl, B5.out⟩
end Go.Proofs.Ytcgkcappfjhikaa
