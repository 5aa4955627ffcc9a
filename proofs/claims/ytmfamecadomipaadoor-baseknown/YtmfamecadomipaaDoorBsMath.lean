/- Letters of bytes, by their bits. -/
import Derived.Test.YtmfamecadomipaaDoorBsStr
set_option linter.unusedSimpArgs false
set_option linter.unusedVariables false
namespace Go.Proofs.YtmfamecadomipaaDoor
open Go.RowKit

/-- The bit at a place, counted from the left. -/
def bitL (l : List Int) (n : Nat) : Int := (l.getD (n / 8) 0) / 2 ^ (7 - n % 8) % 2
/-- Five bits from a place on, as a number. -/
def lv (l : List Int) (i : Nat) : Int := 16 * bitL l (5 * i) + 8 * bitL l (5 * i + 1) + 4 * bitL l (5 * i + 2) + 2 * bitL l (5 * i + 3) + bitL l (5 * i + 4)
def alph : List Int := [97, 98, 99, 100, 101, 102, 103, 104, 105, 106, 107, 108, 109, 110, 111, 112, 113, 114, 115, 116, 117, 118, 119, 120, 121, 122, 50, 51, 52, 53, 54, 55]
/-- How many letters so many bytes have. -/
def lenL (n : Nat) : Nat := (8 * n + 4) / 5
def lettersL (l : List Int) : List Int := (List.range (lenL l.length)).map fun i => alph.getD (lv l i).toNat 0
theorem lettersL_length (l : List Int) : (lettersL l).length = lenL l.length := by simp [lettersL]
theorem lettersL_get (l : List Int) (i : Nat) (h : i < lenL l.length) : (lettersL l).getD i 0 = alph.getD (lv l i).toNat 0 := by
  simp [lettersL, List.getD, h]
theorem bitL_01 (l : List Int) (n : Nat) : 0 ≤ bitL l n ∧ bitL l n < 2 := by
  unfold bitL
  exact ⟨Int.emod_nonneg _ (by decide), Int.emod_lt_of_pos _ (by decide)⟩
theorem lv_lt (l : List Int) (i : Nat) : 0 ≤ lv l i ∧ lv l i < 32 := by
  unfold lv
  have h0 := bitL_01 l (5 * i)
  have h1 := bitL_01 l (5 * i + 1)
  have h2 := bitL_01 l (5 * i + 2)
  have h3 := bitL_01 l (5 * i + 3)
  have h4 := bitL_01 l (5 * i + 4)
  omega
theorem alph_get (v : Nat) (h : v < 32) : 0 ≤ alph.getD v 0 ∧ alph.getD v 0 < 256 := by
  have : ∀ v : Fin 32, 0 ≤ alph.getD v.val 0 ∧ alph.getD v.val 0 < 256 := by decide
  exact this ⟨v, h⟩
theorem lettersL_byt (l : List Int) : Byt8 (lettersL l) := by
  intro x hx
  obtain ⟨i, _, rfl⟩ := List.mem_map.1 hx
  have := lv_lt l i
  exact alph_get _ (by omega)

/-- The program's way: two bytes, shifted. -/
def grp (l : List Int) (i : Nat) : Int := (l.getD (5 * i / 8) 0 * 256 + l.getD (5 * i / 8 + 1) 0) / 2 ^ (11 - 5 * i % 8) % 32
theorem getD_byt {l : List Int} (h : Byt8 l) (i : Nat) : 0 ≤ l.getD i 0 ∧ l.getD i 0 < 256 := by
  by_cases hj : i < l.length
  · rw [getD_of_lt hj]
    exact h _ (List.getElem_mem hj)
  · have e : l.getD i 0 = 0 := by simp [List.getD, List.getElem?_eq_none (by omega : l.length ≤ i)]
    rw [e]; omega
theorem bit_at (l : List Int) (n q r : Nat) (h : n = 8 * q + r) (hr : r < 8) : bitL l n = l.getD q 0 / 2 ^ (7 - r) % 2 := by
  unfold bitL
  have h1 : n / 8 = q := by omega
  have h2 : n % 8 = r := by omega
  rw [h1, h2]
theorem grp_lv {l : List Int} (h : Byt8 l) (i : Nat) : grp l i = lv l i := by
  unfold grp lv
  obtain ⟨q, Hq⟩ : ∃ q, q = 5 * i / 8 := ⟨_, rfl⟩
  obtain ⟨r, Hr⟩ : ∃ r, r = 5 * i % 8 := ⟨_, rfl⟩
  have e : 5 * i = 8 * q + r := by omega
  have hr : r < 8 := by omega
  rw [← Hq, ← Hr]
  have hx := getD_byt h q
  have hy := getD_byt h (q + 1)
  rcases (by omega : r = 0 ∨ r = 1 ∨ r = 2 ∨ r = 3 ∨ r = 4 ∨ r = 5 ∨ r = 6 ∨ r = 7) with c | c | c | c | c | c | c | c
  · rw [bit_at l (5*i) q 0 (by omega) (by omega), bit_at l (5*i+1) q 1 (by omega) (by omega), bit_at l (5*i+2) q 2 (by omega) (by omega), bit_at l (5*i+3) q 3 (by omega) (by omega), bit_at l (5*i+4) q 4 (by omega) (by omega), c]
    generalize l.getD q 0 = x at *
    generalize l.getD (q + 1) 0 = y at *
    simp only [show (2:Int) ^ (7 - 0) = 128 from rfl, show (2:Int) ^ (7 - 1) = 64 from rfl, show (2:Int) ^ (7 - 2) = 32 from rfl, show (2:Int) ^ (7 - 3) = 16 from rfl, show (2:Int) ^ (7 - 4) = 8 from rfl, show (2:Int) ^ (7 - 5) = 4 from rfl, show (2:Int) ^ (7 - 6) = 2 from rfl, show (2:Int) ^ (7 - 7) = 1 from rfl, show (2:Int) ^ (11 - 0) = 2048 from rfl, show (2:Int) ^ (11 - 1) = 1024 from rfl, show (2:Int) ^ (11 - 2) = 512 from rfl, show (2:Int) ^ (11 - 3) = 256 from rfl, show (2:Int) ^ (11 - 4) = 128 from rfl, show (2:Int) ^ (11 - 5) = 64 from rfl, show (2:Int) ^ (11 - 6) = 32 from rfl, show (2:Int) ^ (11 - 7) = 16 from rfl]
    omega
  · rw [bit_at l (5*i) q 1 (by omega) (by omega), bit_at l (5*i+1) q 2 (by omega) (by omega), bit_at l (5*i+2) q 3 (by omega) (by omega), bit_at l (5*i+3) q 4 (by omega) (by omega), bit_at l (5*i+4) q 5 (by omega) (by omega), c]
    generalize l.getD q 0 = x at *
    generalize l.getD (q + 1) 0 = y at *
    simp only [show (2:Int) ^ (7 - 0) = 128 from rfl, show (2:Int) ^ (7 - 1) = 64 from rfl, show (2:Int) ^ (7 - 2) = 32 from rfl, show (2:Int) ^ (7 - 3) = 16 from rfl, show (2:Int) ^ (7 - 4) = 8 from rfl, show (2:Int) ^ (7 - 5) = 4 from rfl, show (2:Int) ^ (7 - 6) = 2 from rfl, show (2:Int) ^ (7 - 7) = 1 from rfl, show (2:Int) ^ (11 - 0) = 2048 from rfl, show (2:Int) ^ (11 - 1) = 1024 from rfl, show (2:Int) ^ (11 - 2) = 512 from rfl, show (2:Int) ^ (11 - 3) = 256 from rfl, show (2:Int) ^ (11 - 4) = 128 from rfl, show (2:Int) ^ (11 - 5) = 64 from rfl, show (2:Int) ^ (11 - 6) = 32 from rfl, show (2:Int) ^ (11 - 7) = 16 from rfl]
    omega
  · rw [bit_at l (5*i) q 2 (by omega) (by omega), bit_at l (5*i+1) q 3 (by omega) (by omega), bit_at l (5*i+2) q 4 (by omega) (by omega), bit_at l (5*i+3) q 5 (by omega) (by omega), bit_at l (5*i+4) q 6 (by omega) (by omega), c]
    generalize l.getD q 0 = x at *
    generalize l.getD (q + 1) 0 = y at *
    simp only [show (2:Int) ^ (7 - 0) = 128 from rfl, show (2:Int) ^ (7 - 1) = 64 from rfl, show (2:Int) ^ (7 - 2) = 32 from rfl, show (2:Int) ^ (7 - 3) = 16 from rfl, show (2:Int) ^ (7 - 4) = 8 from rfl, show (2:Int) ^ (7 - 5) = 4 from rfl, show (2:Int) ^ (7 - 6) = 2 from rfl, show (2:Int) ^ (7 - 7) = 1 from rfl, show (2:Int) ^ (11 - 0) = 2048 from rfl, show (2:Int) ^ (11 - 1) = 1024 from rfl, show (2:Int) ^ (11 - 2) = 512 from rfl, show (2:Int) ^ (11 - 3) = 256 from rfl, show (2:Int) ^ (11 - 4) = 128 from rfl, show (2:Int) ^ (11 - 5) = 64 from rfl, show (2:Int) ^ (11 - 6) = 32 from rfl, show (2:Int) ^ (11 - 7) = 16 from rfl]
    omega
  · rw [bit_at l (5*i) q 3 (by omega) (by omega), bit_at l (5*i+1) q 4 (by omega) (by omega), bit_at l (5*i+2) q 5 (by omega) (by omega), bit_at l (5*i+3) q 6 (by omega) (by omega), bit_at l (5*i+4) q 7 (by omega) (by omega), c]
    generalize l.getD q 0 = x at *
    generalize l.getD (q + 1) 0 = y at *
    simp only [show (2:Int) ^ (7 - 0) = 128 from rfl, show (2:Int) ^ (7 - 1) = 64 from rfl, show (2:Int) ^ (7 - 2) = 32 from rfl, show (2:Int) ^ (7 - 3) = 16 from rfl, show (2:Int) ^ (7 - 4) = 8 from rfl, show (2:Int) ^ (7 - 5) = 4 from rfl, show (2:Int) ^ (7 - 6) = 2 from rfl, show (2:Int) ^ (7 - 7) = 1 from rfl, show (2:Int) ^ (11 - 0) = 2048 from rfl, show (2:Int) ^ (11 - 1) = 1024 from rfl, show (2:Int) ^ (11 - 2) = 512 from rfl, show (2:Int) ^ (11 - 3) = 256 from rfl, show (2:Int) ^ (11 - 4) = 128 from rfl, show (2:Int) ^ (11 - 5) = 64 from rfl, show (2:Int) ^ (11 - 6) = 32 from rfl, show (2:Int) ^ (11 - 7) = 16 from rfl]
    omega
  · rw [bit_at l (5*i) q 4 (by omega) (by omega), bit_at l (5*i+1) q 5 (by omega) (by omega), bit_at l (5*i+2) q 6 (by omega) (by omega), bit_at l (5*i+3) q 7 (by omega) (by omega), bit_at l (5*i+4) (q+1) 0 (by omega) (by omega), c]
    generalize l.getD q 0 = x at *
    generalize l.getD (q + 1) 0 = y at *
    simp only [show (2:Int) ^ (7 - 0) = 128 from rfl, show (2:Int) ^ (7 - 1) = 64 from rfl, show (2:Int) ^ (7 - 2) = 32 from rfl, show (2:Int) ^ (7 - 3) = 16 from rfl, show (2:Int) ^ (7 - 4) = 8 from rfl, show (2:Int) ^ (7 - 5) = 4 from rfl, show (2:Int) ^ (7 - 6) = 2 from rfl, show (2:Int) ^ (7 - 7) = 1 from rfl, show (2:Int) ^ (11 - 0) = 2048 from rfl, show (2:Int) ^ (11 - 1) = 1024 from rfl, show (2:Int) ^ (11 - 2) = 512 from rfl, show (2:Int) ^ (11 - 3) = 256 from rfl, show (2:Int) ^ (11 - 4) = 128 from rfl, show (2:Int) ^ (11 - 5) = 64 from rfl, show (2:Int) ^ (11 - 6) = 32 from rfl, show (2:Int) ^ (11 - 7) = 16 from rfl]
    omega
  · rw [bit_at l (5*i) q 5 (by omega) (by omega), bit_at l (5*i+1) q 6 (by omega) (by omega), bit_at l (5*i+2) q 7 (by omega) (by omega), bit_at l (5*i+3) (q+1) 0 (by omega) (by omega), bit_at l (5*i+4) (q+1) 1 (by omega) (by omega), c]
    generalize l.getD q 0 = x at *
    generalize l.getD (q + 1) 0 = y at *
    simp only [show (2:Int) ^ (7 - 0) = 128 from rfl, show (2:Int) ^ (7 - 1) = 64 from rfl, show (2:Int) ^ (7 - 2) = 32 from rfl, show (2:Int) ^ (7 - 3) = 16 from rfl, show (2:Int) ^ (7 - 4) = 8 from rfl, show (2:Int) ^ (7 - 5) = 4 from rfl, show (2:Int) ^ (7 - 6) = 2 from rfl, show (2:Int) ^ (7 - 7) = 1 from rfl, show (2:Int) ^ (11 - 0) = 2048 from rfl, show (2:Int) ^ (11 - 1) = 1024 from rfl, show (2:Int) ^ (11 - 2) = 512 from rfl, show (2:Int) ^ (11 - 3) = 256 from rfl, show (2:Int) ^ (11 - 4) = 128 from rfl, show (2:Int) ^ (11 - 5) = 64 from rfl, show (2:Int) ^ (11 - 6) = 32 from rfl, show (2:Int) ^ (11 - 7) = 16 from rfl]
    omega
  · rw [bit_at l (5*i) q 6 (by omega) (by omega), bit_at l (5*i+1) q 7 (by omega) (by omega), bit_at l (5*i+2) (q+1) 0 (by omega) (by omega), bit_at l (5*i+3) (q+1) 1 (by omega) (by omega), bit_at l (5*i+4) (q+1) 2 (by omega) (by omega), c]
    generalize l.getD q 0 = x at *
    generalize l.getD (q + 1) 0 = y at *
    simp only [show (2:Int) ^ (7 - 0) = 128 from rfl, show (2:Int) ^ (7 - 1) = 64 from rfl, show (2:Int) ^ (7 - 2) = 32 from rfl, show (2:Int) ^ (7 - 3) = 16 from rfl, show (2:Int) ^ (7 - 4) = 8 from rfl, show (2:Int) ^ (7 - 5) = 4 from rfl, show (2:Int) ^ (7 - 6) = 2 from rfl, show (2:Int) ^ (7 - 7) = 1 from rfl, show (2:Int) ^ (11 - 0) = 2048 from rfl, show (2:Int) ^ (11 - 1) = 1024 from rfl, show (2:Int) ^ (11 - 2) = 512 from rfl, show (2:Int) ^ (11 - 3) = 256 from rfl, show (2:Int) ^ (11 - 4) = 128 from rfl, show (2:Int) ^ (11 - 5) = 64 from rfl, show (2:Int) ^ (11 - 6) = 32 from rfl, show (2:Int) ^ (11 - 7) = 16 from rfl]
    omega
  · rw [bit_at l (5*i) q 7 (by omega) (by omega), bit_at l (5*i+1) (q+1) 0 (by omega) (by omega), bit_at l (5*i+2) (q+1) 1 (by omega) (by omega), bit_at l (5*i+3) (q+1) 2 (by omega) (by omega), bit_at l (5*i+4) (q+1) 3 (by omega) (by omega), c]
    generalize l.getD q 0 = x at *
    generalize l.getD (q + 1) 0 = y at *
    simp only [show (2:Int) ^ (7 - 0) = 128 from rfl, show (2:Int) ^ (7 - 1) = 64 from rfl, show (2:Int) ^ (7 - 2) = 32 from rfl, show (2:Int) ^ (7 - 3) = 16 from rfl, show (2:Int) ^ (7 - 4) = 8 from rfl, show (2:Int) ^ (7 - 5) = 4 from rfl, show (2:Int) ^ (7 - 6) = 2 from rfl, show (2:Int) ^ (7 - 7) = 1 from rfl, show (2:Int) ^ (11 - 0) = 2048 from rfl, show (2:Int) ^ (11 - 1) = 1024 from rfl, show (2:Int) ^ (11 - 2) = 512 from rfl, show (2:Int) ^ (11 - 3) = 256 from rfl, show (2:Int) ^ (11 - 4) = 128 from rfl, show (2:Int) ^ (11 - 5) = 64 from rfl, show (2:Int) ^ (11 - 6) = 32 from rfl, show (2:Int) ^ (11 - 7) = 16 from rfl]
    omega
end Go.Proofs.YtmfamecadomipaaDoor
