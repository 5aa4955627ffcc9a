/- Contracts of one call each: a function's answer to what is told whole, as the evaluator found it. -/
import Derived.Test.YtjmlpkemjafifaaDoorGrEvB
import Derived.Test.YtjmlpkemjafifaaDoorChecked
namespace Go.Proofs.YtjmlpkemjafifaaDoor
open Go Go.RowKit Ev

def TV.plainT : TV → Bool
  | .sc s => s.plain
  | .agg l => l.all SV.plain
def plainA : AV → Bool
  | .tv v => TV.plainT v
  | .tup l => l.all TV.plainT
theorem sv_any {ρ : Env} {ms ms' : List Nat} {s : SV} (h : s.plain = true) : s.inst ρ ms = s.inst ρ ms' := by
  cases s <;> simp [SV.plain] at h <;> simp only [SV.inst]
  subst h; rfl
theorem tv_any {ρ : Env} {ms ms' : List Nat} {s : TV} (h : TV.plainT s = true) : s.inst ρ ms = s.inst ρ ms' := by
  cases s with
  | sc s => exact sv_any h
  | agg l =>
    simp only [TV.inst]
    congr 2
    refine List.map_congr_left fun p hp => sv_any ?_
    simp only [TV.plainT, List.all_eq_true] at h
    exact h p hp
theorem av_any {ρ : Env} {ms ms' : List Nat} {s : AV} (h : plainA s = true) : s.inst ρ ms = s.inst ρ ms' := by
  cases s with
  | tv s => exact tv_any h
  | tup l =>
    simp only [AV.inst]
    congr 2
    refine List.map_congr_left fun p hp => tv_any ?_
    simp only [plainA, List.all_eq_true] at h
    exact h p hp
/-- One entry. -/
def con1 (g : Nat) (xs : List AV) (v : AV) : ConF := fun g' xs' _ => if g' = g then (if xs' = xs then some v else none) else none
theorem con1_ok {ρ : Env} {con : ConF} (hcon : ConOk Tryd.prog ρ con) (hm : Tryd.prog.follows .mixedOrders = true) {n g : Nat} {xs : List AV} {v : AV} {H' : List Blk} (h : evCallF Tryd.prog noLore con n g xs H0 = some (v, H')) (hx : xs.all plainA = true) (hv : plainA v = true) : ConOk Tryd.prog ρ (con1 g xs v) := by
  intro g' xs' H u hu ms B w args ha hH
  unfold con1 at hu
  split at hu
  case isFalse => cases hu
  rename_i e
  subst e
  split at hu <;> cases hu
  rename_i e
  subst e
  have ha0 : xs'.map (AV.inst ρ ms0) = args.toList.map some := by
    rw [← ha]
    exact List.map_congr_left fun x hx' => av_any (List.all_eq_true.1 hx x hx')
  refine (calls_of_evHF (noLore_ok ρ) hcon hm n h w ha0 (holds_nil ρ w)).mono ?_
  rintro e w' ⟨ms', u', rfl, _, h1, _, h3⟩
  exact ⟨u', rfl, by rw [av_any hv (ms' := ms')]; exact h1, h3⟩
def conOr (c d : ConF) : ConF := fun g xs H => match c g xs H with | some v => some v | none => d g xs H
theorem conOr_ok {ρ : Env} {c d : ConF} (hc : ConOk Tryd.prog ρ c) (hd : ConOk Tryd.prog ρ d) : ConOk Tryd.prog ρ (conOr c d) := by
  intro g xs H v h
  unfold conOr at h
  split at h
  · rename_i u hu
    cases h
    exact hc g xs H _ hu
  · exact hd g xs H v h
def litB (l : List Nat) : List SV := l.map fun x : Nat => .int .u8 (.lit (x : Int))
end Go.Proofs.YtjmlpkemjafifaaDoor
