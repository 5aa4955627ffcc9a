/- Contracts and facts by tables, of numbers that go by names. -/
import Derived.Test.YtadpehidefbmhaaGfTab
set_option linter.unusedVariables false
namespace Go.Proofs.Ytadpehidefbmhaa
open Go Go.RowKit Ev

def envI (f : List Int) : Env := ⟨fun i => f.getD i 0, fun _ => .tuple #[], fun _ _ _ => 0⟩
def e8 (e : Ex) : TV := .sc (.int .u8 e)
def e64 (e : Ex) : TV := .sc (.int .i64 e)
def E8 (e : Ex) : AV := .tv (e8 e)
def E64 (e : Ex) : AV := .tv (e64 e)
def B8 (i : Nat) : AV := E8 (.var i)
def B64 (i : Nat) : AV := E64 (.var i)
def tabCon (t : List (Nat × List AV × AV)) : ConF := fun g xs _ => (t.find? fun e => decide (e.1 = g) && decide (e.2.1 = xs)).map (·.2.2)
/-- An entry holds. -/
def EntOk (ρ : Env) (e : Nat × List AV × AV) : Prop :=
  ∀ (ms : List Nat) (w : World) (args : Array Value), e.2.1.map (AV.inst ρ ms) = args.toList.map some → Calls Try.prog e.1 args w fun r w' => ∃ u, r = .returned u ∧ e.2.2.inst ρ ms = some u ∧ Below w.heap.size w w'
theorem tabCon_ok {ρ : Env} {t : List (Nat × List AV × AV)} (h : ∀ e ∈ t, EntOk ρ e) : ConOk Try.prog ρ (tabCon t) := by
  intro g xs H v hv ms B w args ha hH
  unfold tabCon at hv
  rw [Option.map_eq_some_iff] at hv
  obtain ⟨e, h1, rfl⟩ := hv
  have h2 := List.find?_some h1
  simp only [Bool.and_eq_true, decide_eq_true_eq] at h2
  obtain ⟨rfl, rfl⟩ := h2
  exact h e (List.mem_of_find?_eq_some h1) ms w args ha
theorem some_inj {α : Type} : ∀ {a b : List α}, a.map some = b.map some → a = b
  | [], [], _ => rfl
  | [], _ :: _, h => by simp at h
  | _ :: _, [], h => by simp at h
  | x :: a, y :: b, h => by
    simp only [List.map_cons, List.cons.injEq, Option.some.injEq] at h
    rw [h.1, some_inj h.2]
theorem ent {ρ : Env} {g : Nat} {xs : List AV} {v : AV} (vs : List Value) (u : Value) (hx : ∀ ms, xs.map (AV.inst ρ ms) = vs.map some) (hv : ∀ ms, v.inst ρ ms = some u)
    (h : ∀ w, Calls Try.prog g vs.toArray w fun e w' => e = .returned u ∧ Below w.heap.size w w') : EntOk ρ (g, xs, v) := by
  intro ms w args ha
  have e : args = vs.toArray := by
    have := some_inj ((hx ms).symm.trans ha)
    rw [this]
  subst e
  exact (h w).mono fun e w' ⟨q1, q2⟩ => ⟨u, q1, hv ms, q2⟩
/-- A contract that leaves the world as it was. -/
theorem still {g : Nat} {args : Array Value} {u : Value} {w : World} (h : Calls Try.prog g args w fun e w' => e = .returned u ∧ w' = w) : Calls Try.prog g args w fun e w' => e = .returned u ∧ Below w.heap.size w w' :=
  h.mono fun e w' ⟨q1, q2⟩ => ⟨q1, q2 ▸ Below.refl _ _⟩
theorem retold {g : Nat} {args : Array Value} {u v : Value} {w : World} (h : Calls Try.prog g args w fun e w' => e = .returned u ∧ Below w.heap.size w w') (e : u = v) : Calls Try.prog g args w fun e w' => e = .returned v ∧ Below w.heap.size w w' := e ▸ h
def tabCmp (t : List (BinOp × Ex × Ex × Bool)) (op : BinOp) (a b : Ex) : Option Bool := (t.find? fun e => decide (e.1 = op) && decide (e.2.1 = a) && decide (e.2.2.1 = b)).map (·.2.2.2)
def CmpOk (ρ : Env) (e : BinOp × Ex × Ex × Bool) : Prop := cmpOf e.1 (e.2.1.den ρ) (e.2.2.1.den ρ) = some e.2.2.2
def tabLore (c : List (BinOp × Ex × Ex × Bool)) : Lore := ⟨tabCmp c, id, fun _ _ => none⟩
theorem tabLore_ok {ρ : Env} {c : List (BinOp × Ex × Ex × Bool)} (hc : ∀ e ∈ c, CmpOk ρ e) : LoreOk ρ (tabLore c) := by
  refine ⟨fun op a b r hr => ?_, fun _ => rfl, (noLore_ok ρ).factA⟩
  simp only [tabLore, tabCmp] at hr
  rw [Option.map_eq_some_iff] at hr
  obtain ⟨e, h1, rfl⟩ := hr
  have h2 := List.find?_some h1
  simp only [Bool.and_eq_true, decide_eq_true_eq] at h2
  obtain ⟨⟨rfl, rfl⟩, rfl⟩ := h2
  exact hc e (List.mem_of_find?_eq_some h1)
theorem ret_true {P : Program} {ρ : Env} {g : Nat} {args : Array Value} {w : World} {H : List Blk} (h : Calls P g args w fun e w' => ∃ ms u, e = .returned u ∧ (AV.tv (.sc (.bool true))).inst ρ ms = some u ∧ Holds ρ ms H w.heap.size w' ∧ Below w.heap.size w w') :
    Calls P g args w fun e w' => e = .returned (.bool true) ∧ Below w.heap.size w w' :=
  h.mono fun e w' ⟨ms, u, q1, q2, _, q3⟩ => by
    simp only [AV.inst, TV.inst, SV.inst, Option.some.injEq] at q2
    subst q2
    exact ⟨q1, q3⟩
end Go.Proofs.Ytadpehidefbmhaa
