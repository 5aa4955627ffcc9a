/- The places of a share: arithmetic alone. -/
import Derived.Test.YtfaojnnpekpomaaDoorUbAwake
import Derived.Test.YtfaojnnpekpomaaDoorTrWid
set_option linter.unusedSimpArgs false
set_option linter.unusedVariables false
namespace Go.Proofs.YtfaojnnpekpomaaDoor
open Go Go.RowKit

def lgN (n : Nat) : Nat := if n ≤ 1 then 0 else if n ≤ 2 then 1 else if n ≤ 4 then 2 else if n ≤ 8 then 3 else if n ≤ 16 then 4 else if n ≤ 32 then 5 else if n ≤ 64 then 6 else if n ≤ 128 then 7 else if n ≤ 256 then 8 else 9
theorem lgN_is (n : Nat) : wdN n = 2 ^ lgN n ∧ lgN n < 10 := by
  unfold wdN lgN
  repeat' (split <;> simp_all)
def ubZ (k n g z : Int) : Ub := ⟨k, n, g, z, zeros32', zeros32'⟩
theorem ubZ_ok (k n g z : Int) : (ubZ k n g z).ok := ub0_ok
/-- How many bytes a Ueb of these numbers has. -/
def uL (k n g z : Int) : Nat := (wrL (ubZ k n g z)).length
theorem wrL_len {u : Ub} (hu : u.ok) : (wrL u).length = uL u.k u.n u.g u.z := by
  unfold uL wrL
  have : chE (ubZ u.k u.n u.g u.z) = chE u := rfl
  rw [this]
  split
  · have e1 : (packL (ubRows u)).length = (packL (ubRows (ubZ u.k u.n u.g u.z))).length := by
      simp [ubRows, packL, rowL, fld_len, hu.1.1, hu.2.1, ubZ, show zeros32'.length = 32 from rfl]
    exact e1
  · rfl
theorem dg_len10 (x : Int) (h : x ≤ 2147483647) : (dgL x.toNat).length ≤ 10 := by
  rw [dgL_length]
  have := dec_len_mono 2147483647 x.toNat (by omega)
  have h2 : (Lib.decDigits 2147483647).length = 10 := by decide +kernel
  omega
theorem dg_len2 (x : Nat) (h : x ≤ 99) : (dgL x).length ≤ 2 := by
  rw [dgL_length]
  have := dec_len_mono 99 x (by omega)
  have h2 : (Lib.decDigits 99).length = 2 := by decide +kernel
  omega
theorem fld_le (l : List Int) (a : Nat) (h : l.length ≤ a) (ha : a ≤ 90) : (fld l).length ≤ a + 4 := by
  rw [fld_len]
  have := dg_len2 l.length (by omega)
  omega
theorem rowL_le (nm : ByteArray) (v : List Int) (a b : Nat) (h1 : (sB nm).length ≤ a) (h2 : v.length ≤ b) (ha : a ≤ 90) (hb : b ≤ 90) : (rowL (nm, v)).length ≤ a + b + 8 := by
  unfold rowL
  rw [List.length_append]
  have q1 := fld_le (sB nm) a h1 ha
  have q2 := fld_le v b h2 hb
  exact Nat.le_trans (Nat.add_le_add q1 q2) (by omega)
theorem six_le {x1 x2 x3 x4 x5 x6 a1 a2 a3 a4 a5 a6 : Nat} (h1 : x1 ≤ a1) (h2 : x2 ≤ a2) (h3 : x3 ≤ a3) (h4 : x4 ≤ a4) (h5 : x5 ≤ a5) (h6 : x6 ≤ a6) (h : a1 + a2 + a3 + a4 + a5 + a6 ≤ 1000) : x1 + (x2 + (x3 + (x4 + (x5 + (x6 + 0))))) ≤ 1000 := by omega
theorem packL_six (r1 r2 r3 r4 r5 r6 : Rw) : (packL [r1, r2, r3, r4, r5, r6]).length = (rowL r1).length + ((rowL r2).length + ((rowL r3).length + ((rowL r4).length + ((rowL r5).length + ((rowL r6).length + 0))))) := by
  simp only [packL, List.length_append, List.length_nil]
theorem uL_le (k n g z : Int) : uL k n g z ≤ 1000 := by
  unfold uL wrL
  split
  · rename_i h
    obtain ⟨q1, q2, q3, q4⟩ := (ch_ok h).le
    rw [ubRows, packL_six]
    exact six_le (rowL_le nmK _ 1 10 (by decide +kernel) (dg_len10 _ q1.2) (by omega) (by omega)) (rowL_le nmN _ 1 10 (by decide +kernel) (dg_len10 _ q2.2) (by omega) (by omega)) (rowL_le nmSeg _ 3 10 (by decide +kernel) (dg_len10 _ q3.2) (by omega) (by omega)) (rowL_le nmSegs _ 8 32 (by decide +kernel) (Nat.le_refl _) (by omega) (by omega)) (rowL_le nmShares _ 6 32 (by decide +kernel) (Nat.le_refl _) (by omega) (by omega)) (rowL_le nmSize _ 4 10 (by decide +kernel) (dg_len10 _ q4.2) (by omega) (by omega)) (by omega)
  · exact Nat.zero_le _
/-- How many nodes a tree over so many leaves has. -/
def ndN (s : Int) : Int := 2 * (wdN s.toNat : Int) - 1
theorem ndN_le (s : Int) : 1 ≤ ndN s ∧ ndN s ≤ 1023 := by
  unfold ndN
  have := wdN_le s.toNat
  omega
def p1 (k n g z : Int) : Int := 36 + uL k n g z
def p2 (k n g z : Int) : Int := p1 k n g z + (lgN n.toNat : Int) * 32
def p3 (k n g z : Int) : Int := p2 k n g z + ndN (upI z g) * 32
def p4 (k n g z : Int) : Int := p3 k n g z + ndN (upI z g) * 32
/-- How many bytes the blocks have. -/
def dtN (k n g z : Int) : Int := (upI z g - 1) * (g / k) + upI (tlI z g) k
def p5 (k n g z : Int) : Int := p4 k n g z + dtN k n g z
theorem p_le (k n g z : Int) : 36 ≤ p1 k n g z ∧ p1 k n g z ≤ p2 k n g z ∧ p2 k n g z ≤ p3 k n g z ∧ p3 k n g z ≤ p4 k n g z ∧ p4 k n g z < 100000 := by
  have := uL_le k n g z
  have := (lgN_is n.toNat).2
  have := ndN_le (upI z g)
  unfold p4 p3 p2 p1
  omega
theorem OkS.blocks {k n g z : Int} (h : OkS k n g z) : 1 ≤ g / k ∧ g / k ≤ 65790 ∧ 1 ≤ upI z g ∧ upI z g ≤ 512 ∧ 1 ≤ tlI z g ∧ 1 ≤ upI (tlI z g) k ∧ upI (tlI z g) k ≤ g / k ∧ (upI z g - 1) * (g / k) ≤ 16777216 ∧ 0 ≤ (upI z g - 1) * (g / k) := by
  obtain ⟨h1, h2, h3, h4, h5, h6, h7, h8, h9⟩ := h
  have ml := most_lt h1 (show k ≤ 255 by omega)
  have e : k * (g / k) = g := by have := Int.mul_ediv_add_emod g k; omega
  have hp : 1 ≤ g / k := by
    rcases Int.lt_or_le (g / k) 1 with h | h
    · have : g / k ≤ 0 := by omega
      have := Int.mul_le_mul_of_nonneg_left this (show 0 ≤ k by omega)
      omega
    · exact h
  have hle : g / k ≤ g := Int.ediv_le_self _ (by omega)
  have t1 := tlI_pos (x := z) h4
  have t2 := tlI_le (x := z) h4
  have u1 := upI_pos (show 1 ≤ z by omega) h4
  have b1 := upI_pos t1 h1
  have b2 : upI (tlI z g) k ≤ g / k := by
    have m := up_mono (x := tlI z g) (z := g) h1 t2
    have := up_mult h1 h6
    have e2 : k * upI g k = k * (g / k) := by omega
    have := Int.eq_of_mul_eq_mul_left (by omega) e2
    omega
  have hs := up_split z g
  have hm : (upI z g - 1) * (g / k) ≤ (upI z g - 1) * g := Int.mul_le_mul_of_nonneg_left hle (by omega)
  have hn : 0 ≤ (upI z g - 1) * (g / k) := Int.mul_nonneg (by omega) (by omega)
  exact ⟨hp, by omega, u1, h9, t1, b1, b2, by omega, hn⟩
theorem dt_le {k n g z : Int} (h : OkS k n g z) : 1 ≤ dtN k n g z ∧ dtN k n g z ≤ 16843006 := by
  have := h.blocks
  unfold dtN
  omega
end Go.Proofs.YtfaojnnpekpomaaDoor
