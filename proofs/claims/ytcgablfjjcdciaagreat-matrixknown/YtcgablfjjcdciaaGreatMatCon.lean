/- The evaluator's contract of matrix.alike. -/
import Derived.Test.YtcgablfjjcdciaaGreatMatAlike
import Derived.Test.YtcgablfjjcdciaaGreatEvLit
set_option linter.unusedVariables false
namespace Go.Proofs.YtcgablfjjcdciaaGreat
open Go Go.RowKit Ev

def litPair (k : IntKind) : List AV → Option (Int × Int)
  | [.tv (.sc (.int k1 (.lit a))), .tv (.sc (.int k2 (.lit b)))] => if k1 = k ∧ k2 = k then some (a, b) else none
  | _ => none
theorem litPair_ok {k : IntKind} {l : List AV} {a b : Int} (h : litPair k l = some (a, b)) {ρ : Env} {ms : List Nat} {args : Array Value} (ha : l.map (AV.inst ρ ms) = args.toList.map some) : args = #[.int k a, .int k b] := by
  unfold litPair at h
  split at h
  case h_2 => cases h
  split at h
  case isFalse => cases h
  rename_i e
  obtain ⟨rfl, rfl⟩ := e
  simp only [Option.some.injEq, Prod.mk.injEq] at h
  obtain ⟨rfl, rfl⟩ := h
  simp only [List.map_cons, List.map_nil, AV.inst, TV.inst, SV.inst, Ex.den] at ha
  obtain ⟨l⟩ := args
  match l, ha with
  | [x, y], ha =>
    simp only [List.map_cons, List.map_nil, List.cons.injEq, Option.some.injEq, and_true] at ha
    rw [← ha.1, ← ha.2]
def conAlike : ConF := fun g xs _ =>
  if g = 125 then (litPair .u32 xs).map fun p => .tv (.sc (.bool (p.1 == p.2)))
  else if g = 123 then (litPair .u8 xs).map fun p => .tv (.sc (.bool (p.1 == p.2)))
  else none
theorem conAlike_ok (ρ : Env) : ConOk Tryz.prog ρ conAlike := by
  intro g xs H v h ms B w args ha hH
  unfold conAlike at h
  split at h
  · rename_i e
    subst e
    rw [Option.map_eq_some_iff] at h
    obtain ⟨⟨a, b⟩, h1, rfl⟩ := h
    rw [litPair_ok h1 ha]
    refine (alike_u32 w a b).mono ?_
    rintro e w' ⟨rfl, rfl⟩
    exact ⟨_, rfl, rfl, Below.refl _ _⟩
  · split at h
    case isFalse => cases h
    rename_i e
    subst e
    rw [Option.map_eq_some_iff] at h
    obtain ⟨⟨a, b⟩, h1, rfl⟩ := h
    rw [litPair_ok h1 ha]
    refine (alike_u8 w a b).mono ?_
    rintro e w' ⟨rfl, rfl⟩
    exact ⟨_, rfl, rfl, Below.refl _ _⟩
end Go.Proofs.YtcgablfjjcdciaaGreat
