/- Contracts and facts by tables: rows of bytes that go by names. -/
import Derived.Test.YtbafegpiipkmbaaAesFun
set_option linter.unusedVariables false
namespace Go.Proofs.Ytbafegpiipkmbaa
open Go Go.RowKit Ev

/-- The bytes that the names o to o + n - 1 stand for. -/
def named (f : Nat → Nat) (o n : Nat) : List Nat := (List.range n).map fun i => f (o + i)
theorem named_length (f : Nat → Nat) (o n : Nat) : (named f o n).length = n := by simp [named]
theorem named_byt {f : Nat → Nat} (hf : ∀ i, f i < 256) (o n : Nat) : Byt (named f o n) := fun x hx => by
  obtain ⟨i, _, rfl⟩ := List.mem_map.1 hx
  exact hf _
theorem named_inst {f : Nat → Nat} (hf : ∀ i, f i < 256) (ms : List Nat) (o n : Nat) : (TV.agg (vars o n)).inst (envB f) ms = some (.agg (cells8 (named f o n))) :=
  vars_inst hf ms o n _ (named_length f o n) fun i hi => by simp [named, List.getD, hi]
def V (o n : Nat) : AV := .tv (.agg (vars o n))
def N64 (n : Int) : AV := .tv (.sc (.int .i64 (.lit n)))
def B8 (i : Nat) : AV := .tv (.sc (.int .u8 (.var i)))
theorem V_inst {f : Nat → Nat} (hf : ∀ i, f i < 256) (ms : List Nat) (o n : Nat) : (V o n).inst (envB f) ms = some (.agg (cells8 (named f o n))) := by
  unfold V
  simp only [AV.inst]
  exact named_inst hf ms o n
def tabCon (t : List (Nat × List AV × AV)) : ConF := fun g xs _ => (t.find? fun e => decide (e.1 = g) && decide (e.2.1 = xs)).map (·.2.2)
/-- An entry holds. -/
def EntOk (ρ : Env) (e : Nat × List AV × AV) : Prop :=
  ∀ (ms : List Nat) (w : World) (args : Array Value), e.2.1.map (AV.inst ρ ms) = args.toList.map some → Calls Try.prog e.1 args w fun r w' => ∃ u, r = .returned u ∧ e.2.2.inst ρ ms = some u ∧ Below w.heap.size w w'
theorem tabCon_ok {ρ : Env} {t : List (Nat × List AV × AV)} (h : ∀ e ∈ t, EntOk ρ e) : ConOk Try.prog ρ (tabCon t) := by
  intro g xs H v hv ms B w args ha hH
  unfold tabCon at hv
  rw [Option.map_eq_some_iff] at hv
  obtain ⟨e, h1, rfl⟩ := hv
  have h2 := List.find?_some h1
  simp only [Bool.and_eq_true, decide_eq_true_eq] at h2
  obtain ⟨rfl, rfl⟩ := h2
  exact h e (List.mem_of_find?_eq_some h1) ms w args ha
theorem ent1 {f : Nat → Nat} (hf : ∀ i, f i < 256) {g o n o' n' : Nat} (h : ∀ w, Calls Try.prog g #[.agg (cells8 (named f o n))] w fun e w' => e = .returned (.agg (cells8 (named f o' n'))) ∧ Below w.heap.size w w') : EntOk (envB f) (g, [V o n], V o' n') := by
  intro ms w args ha
  have ea : args = #[.agg (cells8 (named f o n))] := by
    obtain ⟨l⟩ := args
    have hl : l.length = 1 := by have := congrArg List.length ha; simpa using this.symm
    match l, hl, ha with
    | [u], _, ha =>
      simp only [List.map_cons, List.map_nil, List.cons.injEq, and_true, V_inst hf, Option.some.injEq] at ha
      subst ha
      rfl
  subst ea
  exact (h w).mono fun e w' ⟨q1, q2⟩ => ⟨_, q1, V_inst hf ms o' n', q2⟩
theorem ent2 {f : Nat → Nat} (hf : ∀ i, f i < 256) {g o n p m o' n' : Nat} (h : ∀ w, Calls Try.prog g #[.agg (cells8 (named f o n)), .agg (cells8 (named f p m))] w fun e w' => e = .returned (.agg (cells8 (named f o' n'))) ∧ Below w.heap.size w w') : EntOk (envB f) (g, [V o n, V p m], V o' n') := by
  intro ms w args ha
  have ea : args = #[.agg (cells8 (named f o n)), .agg (cells8 (named f p m))] := by
    obtain ⟨l⟩ := args
    have hl : l.length = 2 := by have := congrArg List.length ha; simpa using this.symm
    match l, hl, ha with
    | [u, u'], _, ha =>
      simp only [List.map_cons, List.map_nil, List.cons.injEq, and_true, V_inst hf, Option.some.injEq] at ha
      obtain ⟨rfl, rfl⟩ := ha
      rfl
  subst ea
  exact (h w).mono fun e w' ⟨q1, q2⟩ => ⟨_, q1, V_inst hf ms o' n', q2⟩
theorem ent3 {f : Nat → Nat} (hf : ∀ i, f i < 256) {g o n p m o' n' : Nat} {k : Int} (h : ∀ w, Calls Try.prog g #[.agg (cells8 (named f o n)), .agg (cells8 (named f p m)), .int .i64 k] w fun e w' => e = .returned (.agg (cells8 (named f o' n'))) ∧ Below w.heap.size w w') : EntOk (envB f) (g, [V o n, V p m, N64 k], V o' n') := by
  intro ms w args ha
  have ea : args = #[.agg (cells8 (named f o n)), .agg (cells8 (named f p m)), .int .i64 k] := by
    obtain ⟨l⟩ := args
    have hl : l.length = 3 := by have := congrArg List.length ha; simpa using this.symm
    match l, hl, ha with
    | [u, u', u''], _, ha =>
      simp only [List.map_cons, List.map_nil, List.cons.injEq, and_true, V_inst hf, Option.some.injEq] at ha
      obtain ⟨rfl, rfl, ha⟩ := ha
      simp only [N64, AV.inst, TV.inst, SV.inst, Ex.den, Option.some.injEq] at ha
      subst ha
      rfl
  subst ea
  exact (h w).mono fun e w' ⟨q1, q2⟩ => ⟨_, q1, V_inst hf ms o' n', q2⟩
theorem ent0 {ρ : Env} {g : Nat} {b : Bool} (h : ∀ w, Calls Try.prog g #[] w fun e w' => e = .returned (.bool b) ∧ Below w.heap.size w w') : EntOk ρ (g, [], .tv (.sc (.bool b))) := by
  intro ms w args ha
  have ea : args = #[] := by cases args; simp_all
  subst ea
  exact (h w).mono fun e w' ⟨q1, q2⟩ => ⟨_, q1, rfl, q2⟩
/-- Rows of bytes, held against each other. -/
theorem eq_cells : ∀ (l m : List Nat), l.length = m.length → all2 alike (l.map fun x : Nat => Value.int .u8 (x : Int)) (m.map fun x : Nat => Value.int .u8 (x : Int)) = true ∧ all2 eqv (l.map fun x : Nat => Value.int .u8 (x : Int)) (m.map fun x : Nat => Value.int .u8 (x : Int)) = decide (l = m)
  | [], [], _ => ⟨rfl, rfl⟩
  | [], _ :: _, h => by simp at h
  | _ :: _, [], h => by simp at h
  | x :: l, y :: m, h => by
    obtain ⟨h1, h2⟩ := eq_cells l m (by simpa using h)
    refine ⟨by simp [all2, alike, h1], ?_⟩
    simp only [List.map_cons, all2, h2, eqv, List.cons.injEq]
    by_cases e : x = y
    · subst e; simp
    · simp [e]
      intro h; omega
def tabFact (t : List (List SV × List SV × Bool)) (l m : List SV) : Option Bool := (t.find? fun e => decide (e.1 = l) && decide (e.2.1 = m)).map (·.2.2)
def FactOk (ρ : Env) (e : List SV × List SV × Bool) : Prop :=
  ∃ a b : List Nat, a.length = b.length ∧ (∀ ms, e.1.map (SV.inst ρ ms) = (a.map fun x : Nat => Value.int .u8 (x : Int)).map some) ∧ (∀ ms, e.2.1.map (SV.inst ρ ms) = (b.map fun x : Nat => Value.int .u8 (x : Int)).map some) ∧ e.2.2 = decide (a = b)
theorem some_inj {α : Type} : ∀ {a b : List α}, a.map some = b.map some → a = b
  | [], [], _ => rfl
  | [], _ :: _, h => by simp at h
  | _ :: _, [], h => by simp at h
  | x :: a, y :: b, h => by
    simp only [List.map_cons, List.cons.injEq, Option.some.injEq] at h
    rw [h.1, some_inj h.2]
theorem tabFact_ok {ρ : Env} {t : List (List SV × List SV × Bool)} (h : ∀ e ∈ t, FactOk ρ e) : LoreOk ρ ⟨fun _ _ _ => none, id, tabFact t⟩ := by
  refine ⟨fun _ _ _ _ h => by simp at h, fun _ => rfl, fun l m r hr ms vs us hv hu => ?_⟩
  simp only [tabFact] at hr
  rw [Option.map_eq_some_iff] at hr
  obtain ⟨e, h1, rfl⟩ := hr
  have h2 := List.find?_some h1
  simp only [Bool.and_eq_true, decide_eq_true_eq] at h2
  obtain ⟨rfl, rfl⟩ := h2
  obtain ⟨a, b, hab, ha, hb, hd⟩ := h e (List.mem_of_find?_eq_some h1)
  obtain rfl := some_inj (hv.symm.trans (ha ms))
  obtain rfl := some_inj (hu.symm.trans (hb ms))
  rw [hd]
  exact eq_cells a b hab
theorem entB1 {f : Nat → Nat} (hf : ∀ i, f i < 256) {g i j : Nat} (h : ∀ w, Calls Try.prog g #[.int .u8 ((f i : Nat) : Int)] w fun e w' => e = .returned (.int .u8 ((f j : Nat) : Int)) ∧ Below w.heap.size w w') : EntOk (envB f) (g, [B8 i], B8 j) := by
  intro ms w args ha
  have ea : args = #[.int .u8 ((f i : Nat) : Int)] := by
    obtain ⟨l⟩ := args
    have hl : l.length = 1 := by have := congrArg List.length ha; simpa using this.symm
    match l, hl, ha with
    | [u], _, ha =>
      simp only [B8, List.map_cons, List.map_nil, List.cons.injEq, and_true, AV.inst, TV.inst, SV.inst, Ex.den, Option.some.injEq] at ha
      subst ha
      rfl
  subst ea
  exact (h w).mono fun e w' ⟨q1, q2⟩ => ⟨_, q1, rfl, q2⟩
def tabCmp (t : List (BinOp × Ex × Ex × Bool)) (op : BinOp) (a b : Ex) : Option Bool := (t.find? fun e => decide (e.1 = op) && decide (e.2.1 = a) && decide (e.2.2.1 = b)).map (·.2.2.2)
def CmpOk (ρ : Env) (e : BinOp × Ex × Ex × Bool) : Prop := cmpOf e.1 (e.2.1.den ρ) (e.2.2.1.den ρ) = some e.2.2.2
/-- Lore by tables. -/
def tabLore (c : List (BinOp × Ex × Ex × Bool)) (t : List (List SV × List SV × Bool)) : Lore := ⟨tabCmp c, id, tabFact t⟩
theorem tabLore_ok {ρ : Env} {c : List (BinOp × Ex × Ex × Bool)} {t : List (List SV × List SV × Bool)} (hc : ∀ e ∈ c, CmpOk ρ e) (h : ∀ e ∈ t, FactOk ρ e) : LoreOk ρ (tabLore c t) := by
  refine ⟨fun op a b r hr => ?_, fun _ => rfl, (tabFact_ok h).factA⟩
  simp only [tabLore, tabCmp] at hr
  rw [Option.map_eq_some_iff] at hr
  obtain ⟨e, h1, rfl⟩ := hr
  have h2 := List.find?_some h1
  simp only [Bool.and_eq_true, decide_eq_true_eq] at h2
  obtain ⟨⟨rfl, rfl⟩, rfl⟩ := h2
  exact hc e (List.mem_of_find?_eq_some h1)
theorem vars_map {f : Nat → Nat} (hf : ∀ i, f i < 256) (o n : Nat) (ms : List Nat) : (vars o n).map (SV.inst (envB f) ms) = ((named f o n).map fun x : Nat => Value.int .u8 (x : Int)).map some := by
  simp [vars, named, SV.inst, Ex.den, envB]
theorem lits_map (ρ : Env) (l : List Nat) (ms : List Nat) : (lits l).map (SV.inst ρ ms) = (l.map fun x : Nat => Value.int .u8 (x : Int)).map some := by
  simp [lits, SV.inst, Ex.den]
theorem ret_true {P : Program} {ρ : Env} {g : Nat} {args : Array Value} {w : World} (h : Calls P g args w fun e w' => ∃ ms u, e = .returned u ∧ (AV.tv (.sc (.bool true))).inst ρ ms = some u ∧ Holds ρ ms [] w.heap.size w' ∧ Below w.heap.size w w') :
    Calls P g args w fun e w' => e = .returned (.bool true) ∧ Below w.heap.size w w' :=
  h.mono fun e w' ⟨ms, u, q1, q2, _, q3⟩ => by
    simp only [AV.inst, TV.inst, SV.inst, Option.some.injEq] at q2
    subst q2
    exact ⟨q1, q3⟩
end Go.Proofs.Ytbafegpiipkmbaa
