/- The arithmetic of shapes. -/
import Derived.WalkKit
set_option linter.unusedVariables false
set_option linter.unusedSimpArgs false
namespace Go.Proofs.Ytafdklelfcccbaa
open Go Go.RowKit

/-- x over y, rounded up, of numbers from 1 on. -/
def upI (x y : Int) : Int := (x - 1) / y + 1
/-- What is left for the last one. -/
def tlI (x y : Int) : Int := (x - 1) % y + 1
theorem upI_pos {x y : Int} (hx : 1 ≤ x) (hy : 1 ≤ y) : 1 ≤ upI x y := by
  unfold upI
  have := Int.ediv_nonneg (show 0 ≤ x - 1 by omega) (show 0 ≤ y by omega)
  omega
theorem upI_le {x y : Int} (hx : 1 ≤ x) (hy : 1 ≤ y) : upI x y ≤ x := by
  unfold upI
  have := Int.ediv_le_self y (show 0 ≤ x - 1 by omega)
  omega
theorem upI_tdiv {x y : Int} (hx : 1 ≤ x) (hy : 1 ≤ y) : (x - 1).tdiv y + 1 = upI x y := by
  unfold upI
  rw [Int.tdiv_eq_ediv_of_nonneg (by omega)]
theorem up_split (x y : Int) : (upI x y - 1) * y + tlI x y = x := by
  unfold upI tlI
  have := Int.mul_ediv_add_emod (x - 1) y
  rw [show (x - 1) / y + 1 - 1 = (x - 1) / y by omega, Int.mul_comm]
  omega
theorem tlI_pos {x y : Int} (hy : 1 ≤ y) : 1 ≤ tlI x y := by
  unfold tlI
  have := Int.emod_nonneg (x - 1) (show y ≠ 0 by omega)
  omega
theorem tlI_le {x y : Int} (hy : 1 ≤ y) : tlI x y ≤ y := by
  unfold tlI
  have := Int.emod_lt_of_pos (x - 1) (show 0 < y by omega)
  omega
theorem tail_eq (x y : Int) : x - (upI x y - 1) * y = tlI x y := by
  have := up_split x y
  omega
/-- The least whole number of y's that hold x. -/
theorem upI_unique {x y q t : Int} (hy : 1 ≤ y) (h : (q - 1) * y + t = x) (h1 : 1 ≤ t) (h2 : t ≤ y) : upI x y = q ∧ tlI x y = t := by
  have e : x - 1 = (t - 1) + y * (q - 1) := by rw [Int.mul_comm y]; omega
  constructor
  · unfold upI
    rw [e, Int.add_mul_ediv_left _ _ (by omega), Int.ediv_eq_zero_of_lt (by omega) (by omega)]
    omega
  · unfold tlI
    rw [e, Int.add_mul_emod_self_left, Int.emod_eq_of_lt (by omega) (by omega)]
    omega
theorem up_ref {x y : Int} (hx : 0 ≤ x) (hy : 1 ≤ y) : x / y + (x % y + y - 1) / y = upI x y := by
  have h1 := Int.mul_ediv_add_emod x y
  have h2 := Int.emod_nonneg x (show y ≠ 0 by omega)
  have h3 := Int.emod_lt_of_pos x (show 0 < y by omega)
  have h4 : y * (x / y) = (x / y) * y := Int.mul_comm _ _
  by_cases h0 : x % y = 0
  · have e : (x % y + y - 1) / y = 0 := by rw [h0]; exact Int.ediv_eq_zero_of_lt (by omega) (by omega)
    rw [e, Int.add_zero]
    exact (upI_unique (t := y) hy (by rw [Int.sub_mul]; omega) hy (Int.le_refl _)).1.symm
  · have e : (x % y + y - 1) / y = 1 := by
      rw [show x % y + y - 1 = (x % y - 1) + y * 1 by omega, Int.add_mul_ediv_left _ _ (by omega), Int.ediv_eq_zero_of_lt (by omega) (by omega)]
      omega
    rw [e]
    exact (upI_unique (t := x % y) hy (by rw [show x / y + 1 - 1 = x / y by omega]; omega) (by omega) (by omega)).1.symm
theorem up_ge {x y : Int} (hy : 1 ≤ y) : x ≤ y * upI x y := by
  have h1 := up_split x y
  have h2 := tlI_le (x := x) hy
  rw [Int.sub_mul] at h1
  rw [Int.mul_comm]
  omega
theorem up_lt {x y : Int} (hy : 1 ≤ y) : y * upI x y ≤ x + y - 1 := by
  have h1 := up_split x y
  have h2 := tlI_pos (x := x) hy
  rw [Int.sub_mul] at h1
  rw [Int.mul_comm]
  omega
theorem up_mult {x y : Int} (hy : 1 ≤ y) (h : x % y = 0) : y * upI x y = x := by
  have h1 := Int.mul_ediv_add_emod x y
  have e := upI_unique (x := x) (y := y) (q := x / y) (t := y) hy (by rw [Int.sub_mul, Int.mul_comm (x / y)]; omega) hy (Int.le_refl _)
  rw [e.1]; omega
theorem up_mono {x z y : Int} (hy : 1 ≤ y) (h : x ≤ z) : upI x y ≤ upI z y := by
  unfold upI
  have := Int.ediv_le_ediv (c := y) (by omega) (show x - 1 ≤ z - 1 by omega)
  omega
/-- The eight numbers of a shape. -/
def shR (k n g z : Int) : List Int := [k, n, g, z, upI z g, tlI z g, g / k, upI (tlI z g) k]
def sh0 : List Int := [0, 0, 0, 0, 0, 0, 0, 0]
/-- Whether there is a shape with these four. -/
def OkS (k n g z : Int) : Prop := 1 ≤ k ∧ k ≤ n ∧ n ≤ 255 ∧ 1 ≤ g ∧ g ≤ k * upI 65536 k ∧ g % k = 0 ∧ 33 ≤ z ∧ z ≤ 16777216 ∧ upI z g ≤ 512
instance (k n g z : Int) : Decidable (OkS k n g z) := by unfold OkS; infer_instance
/-- Whether parameters may be. -/
def OkP (k n g l : Int) : Prop := 1 ≤ k ∧ k ≤ n ∧ n ≤ 255 ∧ 1 ≤ g ∧ g ≤ 65536 ∧ l ≤ 64
instance (k n g l : Int) : Decidable (OkP k n g l) := by unfold OkP; infer_instance
def chkE (k n g l : Int) : Int := if OkP k n g l then 0 else 3
def shpE (k n g l z : Int) : Int := if OkP k n g l then (if 33 ≤ z ∧ z ≤ 16777216 then (if upI z (k * upI g k) ≤ 512 then 0 else 3) else 4) else 3
def shpT (k n g l z : Int) : List Int := if shpE k n g l z = 0 then shR k n (k * upI g k) z else sh0
def agE (k n g z : Int) : Int := if OkS k n g z then 0 else 92
def agT (k n g z : Int) : List Int := if OkS k n g z then shR k n g z else sh0
theorem most_lt {k : Int} (h1 : 1 ≤ k) (h2 : k ≤ 255) : 65536 ≤ k * upI 65536 k ∧ k * upI 65536 k ≤ 65790 := by
  have := up_ge (x := 65536) h1
  have := up_lt (x := 65536) h1
  omega
/-- A shape is told again by the size of its own segment, or by the greatest that may be asked. -/
theorem again_iff (k n g z : Int) : OkS k n g z ↔ (shpE k n g 0 z = 0 ∧ k * upI g k = g) ∨ (shpE k n 65536 0 z = 0 ∧ k * upI 65536 k = g) := by
  constructor
  · rintro ⟨h1, h2, h3, h4, h5, h6, h7, h8, h9⟩
    by_cases hg : g ≤ 65536
    · left
      have e := up_mult h1 h6
      refine ⟨?_, e⟩
      rw [shpE, if_pos ⟨h1, h2, h3, h4, hg, by omega⟩, if_pos ⟨h7, h8⟩, e, if_pos h9]
    · right
      have e : k * upI 65536 k = g := by
        have a := up_lt (x := 65536) h1
        have b := up_mult h1 h6
        have hle : upI 65536 k ≤ upI g k := up_mono h1 (by omega)
        have c := Int.mul_le_mul_of_nonneg_left hle (show 0 ≤ k by omega)
        omega
      refine ⟨?_, e⟩
      rw [shpE, if_pos ⟨h1, h2, h3, by decide, by decide, by omega⟩, if_pos ⟨h7, h8⟩, e, if_pos h9]
  · have key : ∀ q, shpE k n q 0 z = 0 → k * upI q k = g → OkS k n g z := by
      intro q hq hg
      unfold shpE at hq
      split at hq
      · rename_i hp
        obtain ⟨h1, h2, h3, h4, h5, h6⟩ := hp
        split at hq
        · rename_i hz
          split at hq
          · rename_i h9
            rw [hg] at h9
            have hu := upI_pos h4 h1
            have hle : upI q k ≤ upI 65536 k := up_mono h1 h5
            have c := Int.mul_le_mul_of_nonneg_left hle (show 0 ≤ k by omega)
            have d := up_ge (x := q) h1
            exact ⟨h1, h2, h3, by omega, by omega, by rw [← hg]; exact Int.mul_emod_right _ _, hz.1, hz.2, h9⟩
          · cases hq
        · cases hq
      · cases hq
    rintro (⟨a, b⟩ | ⟨a, b⟩)
    · exact key _ a b
    · exact key _ a b
theorem shpE_ok {k n g l z : Int} (h : shpE k n g l z = 0) : OkP k n g l ∧ 33 ≤ z ∧ z ≤ 16777216 ∧ upI z (k * upI g k) ≤ 512 := by
  unfold shpE at h
  split at h
  · rename_i hp
    split at h
    · rename_i hz
      split at h
      · rename_i h9
        exact ⟨hp, hz.1, hz.2, h9⟩
      · cases h
    · cases h
  · cases h
theorem shp_okS {k n g l z : Int} (h : shpE k n g l z = 0) : OkS k n (k * upI g k) z := by
  obtain ⟨⟨h1, h2, h3, h4, h5, h6⟩, h7, h8, h9⟩ := shpE_ok h
  rw [again_iff]
  by_cases hg : k * upI g k ≤ 65536
  · left
    have e : k * upI (k * upI g k) k = k * upI g k := up_mult h1 (Int.mul_emod_right _ _)
    have hu := up_ge (x := g) h1
    refine ⟨?_, e⟩
    rw [shpE, if_pos ⟨h1, h2, h3, by omega, hg, by omega⟩, if_pos ⟨h7, h8⟩, e, if_pos h9]
  · right
    have hle : upI g k ≤ upI 65536 k := up_mono h1 h5
    have c := Int.mul_le_mul_of_nonneg_left hle (show 0 ≤ k by omega)
    have a := up_lt (x := 65536) h1
    have hle2 : upI 65536 k ≤ upI (k * upI g k) k := up_mono h1 (by omega)
    have c2 := Int.mul_le_mul_of_nonneg_left hle2 (show 0 ≤ k by omega)
    have e2 : k * upI (k * upI g k) k = k * upI g k := up_mult h1 (Int.mul_emod_right _ _)
    have e : k * upI 65536 k = k * upI g k := by omega
    refine ⟨?_, e⟩
    rw [shpE, if_pos ⟨h1, h2, h3, by decide, by decide, by omega⟩, if_pos ⟨h7, h8⟩, e, if_pos h9]
end Go.Proofs.Ytafdklelfcccbaa
