/- Contracts and facts by tables, of whole numbers that go by names, and rows of them. -/
import Derived.Test.YtfaojnnpekpomaaDoorEvMarks
import Derived.Test.YtfaojnnpekpomaaDoorCutLeaf
set_option linter.unusedVariables false
set_option linter.unusedSimpArgs false
namespace Go.Proofs.YtfaojnnpekpomaaDoor
open Go Go.RowKit Ev

theorem mixedOrders : Tryd.prog.follows .mixedOrders = true := by kernel_rfl
def envI (f : List Int) (v : Value) : Env := ⟨fun i => f.getD i 0, fun _ => v, fun _ _ _ => 0⟩
def e64 (e : Ex) : TV := .sc (.int .i64 e)
def E64 (e : Ex) : AV := .tv (e64 e)
def B64 (i : Nat) : AV := E64 (.var i)
/-- A row of numbers. -/
def rw64 (l : List Ex) : TV := .agg (l.map (SV.int .i64))
def vs64 (o n : Nat) : List Ex := (List.range' o n).map .var
def zs64 : List Ex := [.lit 0, .lit 0, .lit 0, .lit 0, .lit 0, .lit 0, .lit 0, .lit 0]
def ints (l : List Int) : Array Value := (l.map (Value.int .i64)).toArray
theorem e64_inst (ρ : Env) (ms : List Nat) (e : Ex) : (e64 e).inst ρ ms = some (.int .i64 (e.den ρ)) := rfl
theorem E64_inst (ρ : Env) (ms : List Nat) (e : Ex) : (E64 e).inst ρ ms = some (.int .i64 (e.den ρ)) := rfl
def tabCon (t : List (Nat × List AV × AV)) : ConF := fun g xs _ => (t.find? fun e => decide (e.1 = g) && decide (e.2.1 = xs)).map (·.2.2)
/-- An entry holds. -/
def EntOk (ρ : Env) (e : Nat × List AV × AV) : Prop :=
  ∀ (ms : List Nat) (w : World) (args : Array Value), e.2.1.map (AV.inst ρ ms) = args.toList.map some → Calls Tryd.prog e.1 args w fun r w' => ∃ u, r = .returned u ∧ e.2.2.inst ρ ms = some u ∧ Below w.heap.size w w'
theorem tabCon_ok {ρ : Env} {t : List (Nat × List AV × AV)} (h : ∀ e ∈ t, EntOk ρ e) : ConOk Tryd.prog ρ (tabCon t) := by
  intro g xs H v hv ms B w args ha hH
  unfold tabCon at hv
  rw [Option.map_eq_some_iff] at hv
  obtain ⟨e, h1, rfl⟩ := hv
  have h2 := List.find?_some h1
  simp only [Bool.and_eq_true, decide_eq_true_eq] at h2
  obtain ⟨rfl, rfl⟩ := h2
  exact h e (List.mem_of_find?_eq_some h1) ms w args ha
theorem some_inj {α : Type} : ∀ {a b : List α}, a.map some = b.map some → a = b
  | [], [], _ => rfl
  | [], _ :: _, h => by simp at h
  | _ :: _, [], h => by simp at h
  | x :: a, y :: b, h => by
    simp only [List.map_cons, List.cons.injEq, Option.some.injEq] at h
    rw [h.1, some_inj h.2]
theorem ent {ρ : Env} {g : Nat} {xs : List AV} {v : AV} (vs : List Value) (u : Value) (hx : ∀ ms, xs.map (AV.inst ρ ms) = vs.map some) (hv : ∀ ms, v.inst ρ ms = some u)
    (h : ∀ w, Calls Tryd.prog g vs.toArray w fun e w' => e = .returned u ∧ Below w.heap.size w w') : EntOk ρ (g, xs, v) := by
  intro ms w args ha
  have e : args = vs.toArray := by
    have := some_inj ((hx ms).symm.trans ha)
    rw [this]
  subst e
  exact (h w).mono fun e w' ⟨q1, q2⟩ => ⟨u, q1, hv ms, q2⟩
/-- A contract that leaves the world as it was. -/
theorem still {g : Nat} {args : Array Value} {u : Value} {w : World} (h : Calls Tryd.prog g args w fun e w' => e = .returned u ∧ w' = w) : Calls Tryd.prog g args w fun e w' => e = .returned u ∧ Below w.heap.size w w' :=
  h.mono fun e w' ⟨q1, q2⟩ => ⟨q1, q2 ▸ Below.refl _ _⟩
theorem retold {g : Nat} {args : Array Value} {u v : Value} {w : World} (h : Calls Tryd.prog g args w fun e w' => e = .returned u ∧ Below w.heap.size w w') (e : u = v) : Calls Tryd.prog g args w fun e w' => e = .returned v ∧ Below w.heap.size w w' := e ▸ h
def tabCmp (t : List (BinOp × Ex × Ex × Bool)) (op : BinOp) (a b : Ex) : Option Bool := (t.find? fun e => decide (e.1 = op) && decide (e.2.1 = a) && decide (e.2.2.1 = b)).map (·.2.2.2)
def CmpOk (ρ : Env) (e : BinOp × Ex × Ex × Bool) : Prop := cmpOf e.1 (e.2.1.den ρ) (e.2.2.1.den ρ) = some e.2.2.2
/-- Rows of whole numbers, held against one another. -/
def tabRow (t : List (List Ex × List Ex × Bool)) (l l' : List SV) : Option Bool := (t.find? fun e => decide (e.1.map (SV.int .i64) = l) && decide (e.2.1.map (SV.int .i64) = l')).map (·.2.2)
def RowOk (ρ : Env) (e : List Ex × List Ex × Bool) : Prop := e.1.length = e.2.1.length ∧ decide (e.1.map (Ex.den ρ) = e.2.1.map (Ex.den ρ)) = e.2.2
def tabLore (c : List (BinOp × Ex × Ex × Bool)) (r : List (List Ex × List Ex × Bool)) : Lore := ⟨tabCmp c, id, tabRow r⟩
theorem row_inst (ρ : Env) (ms : List Nat) : ∀ (l : List Ex) (vs : List Value), (l.map (SV.int .i64)).map (SV.inst ρ ms) = vs.map some → vs = (l.map (Ex.den ρ)).map (Value.int .i64)
  | [], [], _ => rfl
  | [], _ :: _, h => by simp at h
  | _ :: _, [], h => by simp at h
  | e :: l, v :: vs, h => by
    simp only [List.map_cons, List.cons.injEq] at h
    rw [row_inst ρ ms l vs h.2]
    have := h.1
    simp only [SV.inst, Option.some.injEq] at this
    rw [← this]
    rfl
theorem ints_eqv : ∀ (a b : List Int), a.length = b.length → all2 alike (a.map (Value.int .i64)) (b.map (Value.int .i64)) = true ∧ all2 eqv (a.map (Value.int .i64)) (b.map (Value.int .i64)) = decide (a = b)
  | [], [], _ => ⟨rfl, rfl⟩
  | [], _ :: _, h => by simp at h
  | _ :: _, [], h => by simp at h
  | x :: a, y :: b, h => by
    obtain ⟨h1, h2⟩ := ints_eqv a b (by simpa using h)
    refine ⟨by simp only [List.map_cons, all2, h1, alike]; simp, ?_⟩
    simp only [List.map_cons, all2, h2, eqv]
    by_cases e : x = y
    · subst e; simp
    · simp [e]
theorem tabLore_ok {ρ : Env} {c : List (BinOp × Ex × Ex × Bool)} {r : List (List Ex × List Ex × Bool)} (hc : ∀ e ∈ c, CmpOk ρ e) (hr : ∀ e ∈ r, RowOk ρ e) : LoreOk ρ (tabLore c r) := by
  refine ⟨fun op a b r hr => ?_, fun _ => rfl, fun l l' b hb ms vs us hv hu => ?_⟩
  · simp only [tabLore, tabCmp] at hr
    rw [Option.map_eq_some_iff] at hr
    obtain ⟨e, h1, rfl⟩ := hr
    have h2 := List.find?_some h1
    simp only [Bool.and_eq_true, decide_eq_true_eq] at h2
    obtain ⟨⟨rfl, rfl⟩, rfl⟩ := h2
    exact hc e (List.mem_of_find?_eq_some h1)
  · simp only [tabLore, tabRow] at hb
    rw [Option.map_eq_some_iff] at hb
    obtain ⟨e, h1, rfl⟩ := hb
    have h2 := List.find?_some h1
    simp only [Bool.and_eq_true, decide_eq_true_eq] at h2
    obtain ⟨rfl, rfl⟩ := h2
    obtain ⟨q1, q2⟩ := hr e (List.mem_of_find?_eq_some h1)
    rw [row_inst ρ ms _ vs hv, row_inst ρ ms _ us hu, ← q2]
    exact ints_eqv _ _ (by simpa using q1)
theorem ret_true {P : Program} {ρ : Env} {g : Nat} {args : Array Value} {w : World} {H : List Blk} (h : Calls P g args w fun e w' => ∃ ms u, e = .returned u ∧ (AV.tv (.sc (.bool true))).inst ρ ms = some u ∧ Holds ρ ms H w.heap.size w' ∧ Below w.heap.size w w') :
    Calls P g args w fun e w' => e = .returned (.bool true) ∧ Below w.heap.size w w' :=
  h.mono fun e w' ⟨ms, u, q1, q2, _, q3⟩ => by
    simp only [AV.inst, TV.inst, SV.inst, Option.some.injEq] at q2
    subst q2
    exact ⟨q1, q3⟩
theorem map_fst {α β : Type} {o : Option (α × β)} {a : α} (h : o.map (·.1) = some a) : ∃ b, o = some (a, b) := by
  cases o with
  | none => cases h
  | some p => simp only [Option.map_some, Option.some.injEq] at h; exact ⟨p.2, by rw [← h]⟩
/-- A call by the evaluator whose answer does not name memory. -/
theorem ev_row {ρ : Env} {c : List (BinOp × Ex × Ex × Bool)} {r : List (List Ex × List Ex × Bool)} {t : List (Nat × List AV × AV)} {n g : Nat} {xs : List AV} {v : AV}
    (hc : ∀ e ∈ c, CmpOk ρ e) (hr : ∀ e ∈ r, RowOk ρ e) (ht : ∀ e ∈ t, EntOk ρ e) (h : (evCallF Tryd.prog (tabLore c r) (tabCon t) n g xs H0).map (·.1) = some v)
    (vs : List Value) (u : Value) (hx : xs.map (AV.inst ρ ms0) = vs.map some) (hv : ∀ ms, v.inst ρ ms = some u) (w : World) :
    Calls Tryd.prog g vs.toArray w fun e w' => e = .returned u ∧ Below w.heap.size w w' := by
  obtain ⟨H', h1⟩ := map_fst h
  refine (calls_of_evF (tabLore_ok hc hr) (tabCon_ok ht) mixedOrders n h1 (args := vs.toArray) w (by rw [List.toList_toArray]; exact hx)).mono ?_
  rintro e w' ⟨ms, u', rfl, q1, _, q3⟩
  rw [hv ms] at q1
  cases q1
  exact ⟨rfl, q3⟩
end Go.Proofs.YtfaojnnpekpomaaDoor
