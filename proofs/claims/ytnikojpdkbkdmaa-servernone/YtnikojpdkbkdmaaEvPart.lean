/- The evaluator on a part of a function's body, within a walk. -/
import Derived.Test.YtnikojpdkbkdmaaEvFast
namespace Go.Proofs.Ytnikojpdkbkdmaa.Ev
open Go Go.RowKit

/-- What stands behind the first n parts. -/
def tailN : Nat → Code → Code
  | n + 1, .seq _ b => tailN n b
  | _, c => c
/-- Two temporaries are told. -/
def tm2 (n i : Nat) (x : AV) (j : Nat) (y : AV) : Tm := ((⟨n, .emp⟩ : Tm).set i x).set j y
theorem RelT.two {ρ : Env} {ms : List Nat} {n i j : Nat} {x y : AV} {tmps : Array Value} {u v : Value} (hn : n = tmps.size) (h5 : n ≤ 512) (hi : tmps[i]? = some u) (hx : x.inst ρ ms = some u) (hj : tmps[j]? = some v) (hy : y.inst ρ ms = some v) (hg : Gl ms) : RelT ρ ms (tm2 n i x j y) tmps := by
  have e0 : ((⟨n, .emp⟩ : Tm).set i x).n ≤ 512 := by rw [Tm.set_n]; exact h5
  refine ⟨by unfold tm2; rw [Tm.set_n, Tm.set_n]; exact hn, by unfold tm2; rw [Tm.set_n]; exact e0, ?_, hg⟩
  intro k z hz
  unfold tm2 at hz
  rw [Tm.get_set e0] at hz
  split at hz
  · rename_i e
    cases hz
    rw [← e.1]
    exact ⟨v, hj, hy⟩
  · rw [Tm.get_set (show (⟨n, .emp⟩ : Tm).n ≤ 512 from h5)] at hz
    split at hz
    · rename_i e
      cases hz
      rw [← e.1]
      exact ⟨u, hi, hx⟩
    · unfold Tm.get at hz
      split at hz
      · rw [Tr.law3.emp] at hz; cases hz
      · cases hz
/-- A part of a body that ends in a return. -/
theorem part_ret {P : Program} {ρ : Env} (hm : P.follows .mixedOrders = true) {n : Nat} {fn : Func} {c : Code} {t : Tm} {H : List Blk} {x : AV} (h : (evCF P noLore noCon n c t H).map (fun r => (r.1, evResults P fn r.2.1 r.2.2)) = some (.ret, some x)) {ms : List Nat} {B : Nat} {a : Act} {w : World} {post : Ending → World → Prop}
    (hT : RelT ρ ms t a.tmps) (hH : Holds ρ ms H B w) (hd : a.defers = []) (hpost : ∀ (ms' : List Nat) (u : Value) (w' : World), x.inst ρ ms' = some u → Below B w w' → post (.returned u) w') : c.wp P (bodyPost P fn post) a w := by
  rw [evCF_eq, Option.map_eq_some_iff] at h
  obtain ⟨⟨o, t', H'⟩, h1, h2⟩ := h
  simp only [Prod.mk.injEq] at h2
  obtain ⟨rfl, h3⟩ := h2
  refine evC_ok (noLore_ok ρ) (noCon_ok P ρ) hm n c t H .ret t' H' h1 ms B a w _ hT hH fun ms' a' w' q1 q2 q3 q4 q5 => ?_
  obtain ⟨u, e1, e2⟩ := evResults_ok q2 q4 h3
  exact ⟨q3.trans hd, u, e2, hpost ms' u w' e1 q5.toBelow⟩
theorem holds_any (ρ : Env) (w : World) {B : Nat} (hB : B ≤ w.heap.size) : Holds ρ ms0 H0 B w := by
  have h := holds_nil ρ w
  refine ⟨h.len, h.gl, h.inj, ?_, h.bnd, hB, h.plain, h.cell, h.room⟩
  intro i b k hi hk hr
  have := h.low i b k hi hk hr
  omega
/-- One block more of the call's own. -/
theorem Holds.known {ρ : Env} {ms : List Nat} {H : List Blk} {B : Nat} {w : World} (h : Holds ρ ms H B w) {l : List SV} {vs : List Value} (hl : l.map (SV.inst ρ ms) = vs.map some) {b0 : Nat} (hB0 : B ≤ b0) (hb0 : b0 < w.heap.size)
    (hfar : ∀ (i b : Nat) (k : Blk), ms[i]? = some b → H[i]? = some k → k.cells ≠ [] → b ≠ b0) (hnew : ∀ j v, vs[j]? = some v → w.cell? ⟨b0, j, none⟩ = some v ∧ w.frozen? ⟨b0, j, none⟩ = false) : Holds ρ (ms ++ [b0]) (H ++ [newBlk l]) B w :=
  h.pushAt hl (Nat.le_refl _) hB0 hb0 hfar (fun _ _ _ _ => ⟨rfl, rfl⟩) (fun _ _ _ q1 q2 => ⟨q1, q2⟩) hnew
theorem dead0 {i : Nat} {k : Blk} (h : H0[i]? = some k) : k.cells = [] := by
  have := List.mem_of_getElem? h
  unfold H0 at this
  rw [(List.mem_replicate.1 this).2]
  rfl
end Go.Proofs.Ytnikojpdkbkdmaa.Ev
