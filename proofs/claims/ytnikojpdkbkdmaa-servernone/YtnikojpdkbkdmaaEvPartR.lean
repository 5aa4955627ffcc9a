/- The evaluator on a part of a function's body that ranges over a function, within a walk. -/
import Derived.Test.YtnikojpdkbkdmaaEvMarks
import Derived.Test.YtnikojpdkbkdmaaEvPart
namespace Go.Proofs.Ytnikojpdkbkdmaa.Ev
open Go Go.RowKit

theorem part_R {P : Program} {ρ : Env} {L : Lore} (hL : LoreOk ρ L) (hm : P.follows .mixedOrders = true) {call : CallF} (hc : CallOk P ρ call) {self : CodeF} (hs : CodeOkG P ρ self) {N : Nat} {c : Code} {t : Tm} {H : List Blk} {fn : Func} {x : AV}
    (h : (evR P L call self N c t H).map (fun r => (r.1.ends, evResults P fn r.2.1 r.2.2)) = some (true, some x)) {ms : List Nat} {B : Nat} {a : Act} {w : World} {R : Ending → World → Prop}
    (hT : RelT ρ ms t a.tmps) (hH : Holds ρ ms H B w) (hd : a.defers = []) (hpost : ∀ (ms' : List Nat) (u : Value) (w' : World), x.inst ρ ms' = some u → Below B w w' → R (.returned u) w') : c.wp P (bodyPostM Fence.wide 1 P fn R) a w := by
  rw [Option.map_eq_some_iff] at h
  obtain ⟨⟨o, t', H'⟩, h1, h2⟩ := h
  simp only [Prod.mk.injEq] at h2
  obtain ⟨he, hr⟩ := h2
  refine evR_ok hL hm hc hs N c t H o t' H' h1 ms B a w _ hT hH fun ms' a' w' ds q1 q2 q3 q4 q5 q6 => ?_
  have key : LeavesInM Fence.wide 1 P fn a'.tmps R a'.defers .returning w' := by
    rw [q3, hd, List.append_nil]
    refine leave_all hH.big (fun w2 hH2 hb2 => ?_) ds w' q4 q5 q6
    obtain ⟨u, e1, e2⟩ := evResults_ok q2 hH2 hr
    exact ⟨u, e2, hpost ms' u w2 e1 hb2.toBelow⟩
  cases o with
  | normal => exact key
  | exit i => cases he
  | ret => exact key
end Go.Proofs.Ytnikojpdkbkdmaa.Ev
