/- Trees as lists: what makes a list of nodes a tree over leaves; there is but one. -/
import Derived.Test.YtjmlpkemjafifaaDoorTrOwn
import Derived.Test.YtjmlpkemjafifaaDoorTrWid
set_option linter.unusedVariables false
namespace Go.Proofs.YtjmlpkemjafifaaDoor

/-- The i-th leaf: one of ls, or one that stands for none. -/
def lf (ls : List (List Int)) (i : Nat) : List Int := if i < ls.length then ls.getD i [] else pdL i
theorem lf_D {ls : List (List Int)} (h : ∀ d ∈ ls, D32 d) (i : Nat) : D32 (lf ls i) := by
  unfold lf
  split
  · exact getD_D h i (by assumption)
  · exact pdL_D i
/-- Row x of the nodes N is right. -/
def InR (N : List (List Int)) (x : Nat) : Prop := N.getD (x - 1) [] = ndL (N.getD (2 * x - 1) []) (N.getD (2 * x) [])
/-- N are the nodes of the tree over ls, of width w. -/
structure IsT (ls : List (List Int)) (w : Nat) (N : List (List Int)) : Prop where
  len : N.length = 2 * w - 1
  leaf : ∀ i, i < w → N.getD (w - 1 + i) [] = lf ls i
  inner : ∀ x, 1 ≤ x → x < w → InR N x
theorem IsT.one {ls N M : List (List Int)} {w : Nat} (h : IsT ls w N) (k : IsT ls w M) : N = M := by
  have key : ∀ m x, 2 * w - x = m → 1 ≤ x → x < 2 * w → N.getD (x - 1) [] = M.getD (x - 1) [] := by
    intro m
    induction m using Nat.strongRecOn with
    | ind m ih =>
      intro x hm h1 h2
      by_cases hx : x < w
      · have a1 := ih (2 * w - 2 * x) (by omega) (2 * x) rfl (by omega) (by omega)
        have a2 := ih (2 * w - (2 * x + 1)) (by omega) (2 * x + 1) rfl (by omega) (by omega)
        have i1 := h.inner x h1 hx
        have i2 := k.inner x h1 hx
        unfold InR at i1 i2
        rw [show 2 * x + 1 - 1 = 2 * x by omega] at a2
        rw [i1, i2, a1, a2]
      · have l1 := h.leaf (x - w) (by omega)
        have l2 := k.leaf (x - w) (by omega)
        rw [show w - 1 + (x - w) = x - 1 by omega] at l1 l2
        rw [l1, l2]
  refine List.ext_getElem (by rw [h.len, k.len]) fun i h1 h2 => ?_
  have h3 := key (2 * w - (i + 1)) (i + 1) rfl (by omega) (by rw [h.len] at h1; omega)
  rw [show i + 1 - 1 = i by omega] at h3
  simpa [List.getD, List.getElem?_eq_getElem h1, List.getElem?_eq_getElem h2] using h3
end Go.Proofs.YtjmlpkemjafifaaDoor
