/- The polynomial through points: Newton's way and Lagrange's. -/
import Derived.Test.YtmglpcenipnmbaaGfRoots
import Derived.Test.YtmglpcenipnmbaaGfOne
set_option linter.unusedSimpArgs false
set_option linter.unusedVariables false
namespace Go.Proofs.Ytmglpcenipnmbaa
open Go Go.RowKit

/-- The places differ. -/
def Dist (X : Nat → Nat) (n : Nat) : Prop := ∀ i j, i < j → j < n → X i ≠ X j
theorem Dist.ne {X : Nat → Nat} {n i j : Nat} (h : Dist X n) (hi : i < n) (hj : j < n) (hij : i ≠ j) : X i ≠ X j := by
  by_cases hl : i < j
  · exact h i j hl hj
  · exact (h j i (by omega) hi).symm
theorem Dist.nodup {X : Nat → Nat} : ∀ {n : Nat}, Dist X n → ((List.range n).map X).Nodup := fun {n} h => by
  rw [List.nodup_iff_pairwise_ne, List.pairwise_map]
  exact (List.pairwise_lt_range (n := n)).imp_of_mem fun {a b} ha hb hab => h a b hab (List.mem_range.1 hb)
/-- Two polynomials through the same points. -/
theorem through_one {X : Nat → Nat} {n : Nat} (hX : ∀ i, X i < 256) (hd : Dist X n) {f g : Nat → Nat} (hf : ∀ i, f i < 256) (hg : ∀ i, g i < 256) (h : ∀ i, i < n → evS f (X i) n = evS g (X i) n) : tabL n f = tabL n g := by
  refine tabL_congr n (evS_unique hf hg (xs := (List.range n).map X) (by simp) hd.nodup ?_ ?_)
  · intro x hx
    obtain ⟨i, _, rfl⟩ := List.mem_map.1 hx
    exact hX i
  · intro x hx
    obtain ⟨i, hi, rfl⟩ := List.mem_map.1 hx
    exact h i (List.mem_range.1 hi)
theorem evS_sh0 {Z : List Int} (hZ : ∀ c ∈ Z, 0 ≤ c ∧ c < 256) {c x n : Nat} (hc : c < 256) (hx : x < 256) (hn : Z.length ≤ n) : evS (sh Z c 0) x n = prod c (horn x Z) := by
  have := evS_sh (gN_lt hZ) c 0 x hc hx n
  rw [Nat.zero_add, powA, prod_one c hc] at this
  rw [this, horn_evS Z x hx hZ, show n = Z.length + (n - Z.length) by omega, evS_more x Z.length _ fun i hi => gN_out Z i hi]
theorem thr_step {f : Nat → Nat} (hf : ∀ i, f i < 256) {Z : List Int} (hZ : ∀ c ∈ Z, 0 ≤ c ∧ c < 256) {n x y c : Nat} (hn : Z.length ≤ n) (hx : x < 256) (hy : y < 256) (h0 : horn x Z ≠ 0) (hc : prod (y ^^^ evS f x n) (inv (horn x Z)) = c) :
    evS (fun k => f k ^^^ sh Z c 0 k) x n = y ∧ ∀ x', x' < 256 → horn x' Z = 0 → evS (fun k => f k ^^^ sh Z c 0 k) x' n = evS f x' n := by
  have lb := xor8 hy (evS_lt hf x n)
  have lc : c < 256 := by rw [← hc]; exact prod_lt _ lb
  refine ⟨?_, fun x' hx' hz => ?_⟩
  · rw [evS_xor hf (fun i => sh_lt (gN_lt hZ) _ _ _), evS_sh0 hZ lc hx hn, ← hc, prod_div _ _ (horn_lt x Z hZ) lb h0, Nat.xor_comm, Nat.xor_assoc, Nat.xor_self, Nat.xor_zero]
  · rw [evS_xor hf (fun i => sh_lt (gN_lt hZ) _ _ _), evS_sh0 hZ lc hx' hn, hz, prod_zero, Nat.xor_zero]
theorem horn_lin {x y : Nat} (hx : x < 256) (hy : y < 256) : horn y [(x : Int), 1] = y ^^^ x := by
  rw [horn, horn, horn, zero_prod y hy, Nat.zero_xor]
  show prod 1 y ^^^ x = _
  rw [one_prod y hy]
theorem lin_byt {x : Nat} (hx : x < 256) : ∀ c ∈ [(x : Int), 1], 0 ≤ c ∧ c < 256 := by
  intro c hc
  simp at hc
  omega
/-- The polynomial that is nought at the places met, with one place more. -/
theorem zer_step {Z : List Int} (hZ : ∀ c ∈ Z, 0 ≤ c ∧ c < 256) {x y : Nat} (hx : x < 256) (hy : y < 256) : horn y (timesL Z [(x : Int), 1]) = prod (horn y Z) (y ^^^ x) := by
  rw [horn_times Z _ y hy hZ (lin_byt hx), horn_lin hx hy]
theorem zer_tab {Z : List Int} (hZ : ∀ c ∈ Z, 0 ≤ c ∧ c < 256) {x i : Nat} (hx : x < 256) (hl : Z.length = i + 1) (ht : gN Z i = 1) : timesL Z [(x : Int), 1] = tabL (i + 2) (cvF (gN Z) [(x : Int), 1] (i + 1)) ∧ cvF (gN Z) [(x : Int), 1] (i + 1) (i + 1) = 1 := by
  have lZ := gN_lt hZ
  have e1 : cvF (gN Z) [(x : Int), 1] (i + 1) (i + 1) = 1 := by
    have := cvF_top (gN Z) lZ [(x : Int), 1] (by simp) i (i + 1) (by omega) (fun k hk => gN_out Z k (by omega))
    rw [ht] at this
    exact this.trans (show prod 1 1 = 1 by decide)
  refine ⟨?_, e1⟩
  rw [timesL_eq Z _ hZ (by simp), hl]
  exact cutL_of _ _ _ (Nat.le_refl _) (fun k hk => cvF_far _ lZ _ _ _ (by simp; omega)) (fun _ => by show cvF _ _ _ (i + 1) ≠ 0; rw [e1]; decide)
theorem zer_len {Z : List Int} (hZ : ∀ c ∈ Z, 0 ≤ c ∧ c < 256) {x i : Nat} (hx : x < 256) (hl : Z.length = i + 1) (ht : gN Z i = 1) : (timesL Z [(x : Int), 1]).length = i + 2 ∧ gN (timesL Z [(x : Int), 1]) (i + 1) = 1 := by
  obtain ⟨h1, h2⟩ := zer_tab hZ hx hl ht
  rw [h1, tabL_length, gN_tabL _ _ _ (by omega)]
  exact ⟨rfl, h2⟩

/-- A polynomial over (z + x), its coefficients. -/
def partF (W : List Int) (n x k : Nat) : Nat := hor (gN W) x (k + 1) (n - k)
theorem partF_lt {W : List Int} (hW : ∀ c ∈ W, 0 ≤ c ∧ c < 256) {x : Nat} (hx : x < 256) (n k : Nat) : partF W n x k < 256 := hor_lt (gN_lt hW) hx _ _
theorem part_ev {W : List Int} (hW : ∀ c ∈ W, 0 ≤ c ∧ c < 256) {n x y : Nat} (hl : W.length = n + 1) (hx : x < 256) (hy : y < 256) (h0 : horn x W = 0) : horn y W = prod (y ^^^ x) (evS (partF W n x) y n) := by
  have e := evS_div (gN_lt hW) hx hy n
  rw [hor_evS (gN_lt hW) hx n, ← hl, ← horn_evS W y hy hW, ← horn_evS W x hx hW, h0, Nat.zero_xor] at e
  exact e
theorem part_other {W : List Int} (hW : ∀ c ∈ W, 0 ≤ c ∧ c < 256) {n x y : Nat} (hl : W.length = n + 1) (hx : x < 256) (hy : y < 256) (h0 : horn x W = 0) (h1 : horn y W = 0) (hne : y ≠ x) : evS (partF W n x) y n = 0 := by
  have e := part_ev hW hl hx hy h0
  rw [h1] at e
  rcases (prod_nought _ _ (xor8 hy hx) (evS_lt (partF_lt hW hx n) y n)).1 e.symm with q | q
  · have : y = x := by
      have e2 := congrArg (fun z => z ^^^ x) q
      simpa [Nat.xor_assoc] using e2
    exact absurd this hne
  · exact q
theorem part_self {W : List Int} (hW : ∀ c ∈ W, 0 ≤ c ∧ c < 256) {n : Nat} (hl : W.length = n + 1) (ht : gN W n = 1) {X : Nat → Nat} (hX : ∀ i, X i < 256) (hd : Dist X n) (hr : ∀ i, i < n → horn (X i) W = 0) {i : Nat} (hi : i < n) : evS (partF W n (X i)) (X i) n ≠ 0 := by
  intro h
  have z := evS_roots n (partF W n (X i)) ((List.range n).map X) (partF_lt hW (hX i) n) (by simp) hd.nodup (fun x hx => by
    obtain ⟨j, _, rfl⟩ := List.mem_map.1 hx
    exact hX j) (fun x hx => by
    obtain ⟨j, hj, rfl⟩ := List.mem_map.1 hx
    have hj := List.mem_range.1 hj
    by_cases e : j = i
    · rw [e]; exact h
    · exact part_other hW hl (hX i) (hX j) (hr i hi) (hr j hj) (hd.ne hj hi e)) (n - 1) (by omega)
  unfold partF at z
  rw [show n - 1 + 1 = n by omega, show n - (n - 1) = 0 + 1 by omega, hor, hor, prod_zero, Nat.xor_zero, ht] at z
  exact absurd z (by decide)
/-- The sum of Lagrange's polynomials, m of them. -/
def lagF (W : List Int) (n : Nat) (X C : Nat → Nat) : Nat → Nat → Nat
  | 0, _ => 0
  | m + 1, k => lagF W n X C m k ^^^ prod (partF W n (X m) k) (C m)
theorem lagF_lt {W : List Int} (hW : ∀ c ∈ W, 0 ≤ c ∧ c < 256) (n : Nat) {X : Nat → Nat} (hX : ∀ i, X i < 256) (C : Nat → Nat) : ∀ m k, lagF W n X C m k < 256
  | 0, _ => by show 0 < 256; decide
  | m + 1, k => xor8 (lagF_lt hW n hX C m k) (prod_lt _ (partF_lt hW (hX m) n k))
theorem lagF_far {W : List Int} (n : Nat) (X : Nat → Nat) {C : Nat → Nat} (hC : ∀ i, C i < 256) : ∀ m k, n ≤ k → lagF W n X C m k = 0
  | 0, _, _ => rfl
  | m + 1, k, h => by
    rw [lagF, lagF_far n X hC m k h, Nat.zero_xor]
    unfold partF
    rw [show n - k = 0 by omega, hor, zero_prod _ (hC m)]
theorem lagF_ev {W : List Int} (hW : ∀ c ∈ W, 0 ≤ c ∧ c < 256) {n : Nat} (hl : W.length = n + 1) (ht : gN W n = 1) {X Y C : Nat → Nat} (hX : ∀ i, X i < 256) (hY : ∀ i, Y i < 256) (hd : Dist X n) (hr : ∀ i, i < n → horn (X i) W = 0)
    (hC : ∀ i, i < n → C i = prod (Y i) (inv (evS (partF W n (X i)) (X i) n))) (hCl : ∀ i, C i < 256) {j : Nat} (hj : j < n) : ∀ m, m ≤ n → evS (lagF W n X C m) (X j) n = if j < m then Y j else 0
  | 0, _ => by
    rw [if_neg (by omega)]
    have : ∀ k, evS (lagF W n X C 0) (X j) k = 0 := by
      intro k
      induction k with
      | zero => rfl
      | succ k ih => rw [evS, ih, lagF, zero_prod _ (powA_lt _ _), Nat.xor_zero]
    exact this n
  | m + 1, h => by
    have ih := lagF_ev hW hl ht hX hY hd hr hC hCl hj m (by omega)
    have lp := partF_lt hW (hX m) n
    rw [evS_congr (X j) n (g := fun k => lagF W n X C m k ^^^ prod (C m) (partF W n (X m) k)) (fun k _ => by rw [lagF, prod_comm _ _ (lp k) (hCl m)]), evS_xor (fun i => lagF_lt hW n hX C m i) (fun i => prod_lt _ (hCl m)), ih, evS_prod lp (hCl m)]
    by_cases e : j = m
    · subst e
      rw [if_neg (by omega), if_pos (by omega), Nat.zero_xor, hC j hj, prod_div _ _ (evS_lt lp _ n) (hY j) (part_self hW hl ht hX hd hr hj)]
    · rw [part_other hW hl (hX m) (hX j) (hr m (by omega)) (hr j hj) (hd.ne hj (by omega) e), prod_zero, Nat.xor_zero]
      by_cases q : j < m
      · rw [if_pos q, if_pos (by omega)]
      · rw [if_neg q, if_neg (by omega)]
end Go.Proofs.Ytmglpcenipnmbaa
