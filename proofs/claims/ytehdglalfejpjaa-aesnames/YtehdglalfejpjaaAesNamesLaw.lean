/- AesNames, walked by the evaluator: all is told. -/
import Derived.Test.YtehdglalfejpjaaAesNilWalk
namespace Go.Proofs.Ytehdglalfejpjaa
open Go Go.RowKit Ev

def namesCon : ConF :=
  conOr awakeCon <| conOr conLit <| conOr (conOne 11 3) <| conOr (conOne 13 1) <| conOr (conOne 15 2) conC
theorem namesCon_ok : ConOk Try.prog (envB fun _ => 0) namesCon :=
  conOr_ok (awakeCon_ok _) <| conOr_ok (conLit_ok _) <| conOr_ok (conOne_ok (fun _ => by decide) fun w a ha => inverse_any w a ha) <| conOr_ok (conOne_ok (fun _ => by decide) fun w a ha => sub_any w a ha) <| conOr_ok (conOne_ok (fun _ => by decide) fun w a ha => unsub_any w a ha) (conC_ok fun _ => by decide)
theorem names_ev : evCall Try.prog noLore namesCon 100 8 [] [] = some (.tv (.sc (.bool true)), []) := by kernel_rfl
theorem names_walk (w : World) : Calls Try.prog 8 #[] w fun e w' => e = .returned (.bool true) ∧ Below w.heap.size w w' := by
  refine (calls_of_ev (noLore_ok (envB fun _ => 0)) namesCon_ok mixedOrders 100 names_ev (args := #[]) w rfl).mono ?_
  rintro e w' ⟨ms, u, rfl, h1, h2, h3⟩
  simp only [AV.inst, TV.inst, SV.inst, Option.some.injEq] at h1
  rw [← h1]
  exact ⟨rfl, h3⟩
end Go.Proofs.Ytehdglalfejpjaa
