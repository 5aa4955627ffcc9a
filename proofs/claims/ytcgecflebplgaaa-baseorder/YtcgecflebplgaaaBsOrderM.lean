/- Of lists of one length the letters stand in the order of the lists: lists alone. -/
import Derived.Test.YtcgecflebplgaaaBsMath
set_option linter.unusedSimpArgs false
set_option linter.unusedVariables false
namespace Go.Proofs.Ytcgecflebplgaaa
open Go.RowKit

/-- A byte is its bits. -/
theorem byte_bits {x : Int} (h : 0 ≤ x ∧ x < 256) : x = 128 * (x / 128 % 2) + 64 * (x / 64 % 2) + 32 * (x / 32 % 2) + 16 * (x / 16 % 2) + 8 * (x / 8 % 2) + 4 * (x / 4 % 2) + 2 * (x / 2 % 2) + x % 2 := by omega
theorem byte_of (l : List Int) (h : Byt8 l) (i : Nat) : l.getD i 0 = 128 * bitL l (8 * i) + 64 * bitL l (8 * i + 1) + 32 * bitL l (8 * i + 2) + 16 * bitL l (8 * i + 3) + 8 * bitL l (8 * i + 4) + 4 * bitL l (8 * i + 5) + 2 * bitL l (8 * i + 6) + bitL l (8 * i + 7) := by
  have hx := getD_byt h i
  rw [bit_at l (8*i) i 0 (by omega) (by omega), bit_at l (8*i+1) i 1 (by omega) (by omega), bit_at l (8*i+2) i 2 (by omega) (by omega), bit_at l (8*i+3) i 3 (by omega) (by omega), bit_at l (8*i+4) i 4 (by omega) (by omega), bit_at l (8*i+5) i 5 (by omega) (by omega), bit_at l (8*i+6) i 6 (by omega) (by omega), bit_at l (8*i+7) i 7 (by omega) (by omega)]
  generalize l.getD i 0 = x at *
  simp only [show (2:Int) ^ (7 - 0) = 128 from rfl, show (2:Int) ^ (7 - 1) = 64 from rfl, show (2:Int) ^ (7 - 2) = 32 from rfl, show (2:Int) ^ (7 - 3) = 16 from rfl, show (2:Int) ^ (7 - 4) = 8 from rfl, show (2:Int) ^ (7 - 5) = 4 from rfl, show (2:Int) ^ (7 - 6) = 2 from rfl, show (2:Int) ^ (7 - 7) = 1 from rfl]
  omega
/-- The first place where two lists of bits part. -/
theorem first_bit {a b : List Int} {p : Nat} (h : bitL a p ≠ bitL b p) : ∃ q, q ≤ p ∧ bitL a q ≠ bitL b q ∧ ∀ k, k < q → bitL a k = bitL b k := by
  induction p using Nat.strongRecOn with
  | ind p ih =>
    by_cases hk : ∃ k, k < p ∧ bitL a k ≠ bitL b k
    · obtain ⟨k, hk1, hk2⟩ := hk
      obtain ⟨q, h1, h2, h3⟩ := ih k hk1 hk2
      exact ⟨q, by omega, h2, h3⟩
    · refine ⟨p, Nat.le_refl _, h, fun k hk1 => ?_⟩
      apply Classical.byContradiction
      intro hn
      exact hk ⟨k, hk1, hn⟩
/-- Where bytes part, a bit of them parts. -/
theorem bit_of_byte {a b : List Int} (ha : Byt8 a) (hb : Byt8 b) {i : Nat} (h : a.getD i 0 ≠ b.getD i 0) : ∃ k, k < 8 ∧ bitL a (8 * i + k) ≠ bitL b (8 * i + k) := by
  apply Classical.byContradiction
  intro hn
  have hk : ∀ k, k < 8 → bitL a (8 * i + k) = bitL b (8 * i + k) := fun k hk => by
    apply Classical.byContradiction
    intro h2
    exact hn ⟨k, hk, h2⟩
  apply h
  rw [byte_of a ha i, byte_of b hb i, show 8 * i = 8 * i + 0 by rfl, hk 0 (by omega)]
  have h1 := hk 1 (by omega); have h2 := hk 2 (by omega); have h3 := hk 3 (by omega); have h4 := hk 4 (by omega); have h5 := hk 5 (by omega); have h6 := hk 6 (by omega); have h7 := hk 7 (by omega)
  simp only [Nat.add_zero] at *
  omega
/-- The first byte that parts is below, if its first bit that parts is. -/
theorem byte_lt {a b : List Int} (ha : Byt8 a) (hb : Byt8 b) {i k : Nat} (hk : k < 8) (hne : bitL a (8 * i + k) ≠ bitL b (8 * i + k)) (hs : ∀ j, j < k → bitL a (8 * i + j) = bitL b (8 * i + j)) :
    a.getD i 0 ≠ b.getD i 0 ∧ ((a.getD i 0 < b.getD i 0) ↔ bitL a (8 * i + k) < bitL b (8 * i + k)) := by
  rw [byte_of a ha i, byte_of b hb i]
  have a0 := bitL_01 a (8 * i); have a1 := bitL_01 a (8 * i + 1); have a2 := bitL_01 a (8 * i + 2); have a3 := bitL_01 a (8 * i + 3); have a4 := bitL_01 a (8 * i + 4); have a5 := bitL_01 a (8 * i + 5); have a6 := bitL_01 a (8 * i + 6); have a7 := bitL_01 a (8 * i + 7)
  have b0 := bitL_01 b (8 * i); have b1 := bitL_01 b (8 * i + 1); have b2 := bitL_01 b (8 * i + 2); have b3 := bitL_01 b (8 * i + 3); have b4 := bitL_01 b (8 * i + 4); have b5 := bitL_01 b (8 * i + 5); have b6 := bitL_01 b (8 * i + 6); have b7 := bitL_01 b (8 * i + 7)
  have s0 := hs 0; have s1 := hs 1; have s2 := hs 2; have s3 := hs 3; have s4 := hs 4; have s5 := hs 5; have s6 := hs 6
  simp only [Nat.add_zero] at s0
  rcases (by omega : k = 0 ∨ k = 1 ∨ k = 2 ∨ k = 3 ∨ k = 4 ∨ k = 5 ∨ k = 6 ∨ k = 7) with rfl | rfl | rfl | rfl | rfl | rfl | rfl | rfl <;> (try simp only [Nat.add_zero] at *) <;> omega
theorem lv_lt5 {a b : List Int} {i k : Nat} (hk : k < 5) (hne : bitL a (5 * i + k) ≠ bitL b (5 * i + k)) (hs : ∀ j, j < k → bitL a (5 * i + j) = bitL b (5 * i + j)) :
    lv a i ≠ lv b i ∧ (lv a i < lv b i ↔ bitL a (5 * i + k) < bitL b (5 * i + k)) := by
  unfold lv
  have a0 := bitL_01 a (5 * i); have a1 := bitL_01 a (5 * i + 1); have a2 := bitL_01 a (5 * i + 2); have a3 := bitL_01 a (5 * i + 3); have a4 := bitL_01 a (5 * i + 4)
  have b0 := bitL_01 b (5 * i); have b1 := bitL_01 b (5 * i + 1); have b2 := bitL_01 b (5 * i + 2); have b3 := bitL_01 b (5 * i + 3); have b4 := bitL_01 b (5 * i + 4)
  have s0 := hs 0; have s1 := hs 1; have s2 := hs 2; have s3 := hs 3
  simp only [Nat.add_zero] at s0
  rcases (by omega : k = 0 ∨ k = 1 ∨ k = 2 ∨ k = 3 ∨ k = 4) with rfl | rfl | rfl | rfl | rfl <;> (try simp only [Nat.add_zero] at *) <;> omega
theorem lv_same {a b : List Int} {i : Nat} (hs : ∀ j, j < 5 → bitL a (5 * i + j) = bitL b (5 * i + j)) : lv a i = lv b i := by
  unfold lv
  have s0 := hs 0 (by omega); have s1 := hs 1 (by omega); have s2 := hs 2 (by omega); have s3 := hs 3 (by omega); have s4 := hs 4 (by omega)
  simp only [Nat.add_zero] at s0
  rw [s0, s1, s2, s3, s4]
/-- Where bytes part first, some letter parts first, the same way. -/
theorem order_at {a b : List Int} (ha : Byt8 a) (hb : Byt8 b) {i : Nat} (hi : i < a.length) (hl : a.length = b.length) (hne : a.getD i 0 ≠ b.getD i 0) (hs : ∀ j, j < i → a.getD j 0 = b.getD j 0) :
    ∃ k, k < lenL a.length ∧ lv a k ≠ lv b k ∧ (∀ j, j < k → lv a j = lv b j) ∧ (lv a k < lv b k ↔ a.getD i 0 < b.getD i 0) := by
  obtain ⟨k0, hk0, hb0⟩ := bit_of_byte ha hb hne
  obtain ⟨q, hq1, hq2, hq3⟩ := first_bit hb0
  have hqi : q / 8 = i := by
    apply Classical.byContradiction
    intro h
    have hlt : q / 8 < i := by omega
    have := byte_lt ha hb (i := q / 8) (k := q % 8) (by omega) (by rw [show 8 * (q / 8) + q % 8 = q by omega]; exact hq2) (fun j hj => hq3 _ (by omega))
    exact this.1 (hs _ hlt)
  have h8 := byte_lt ha hb (i := i) (k := q % 8) (by omega) (by rw [show 8 * i + q % 8 = q by omega]; exact hq2) (fun j hj => hq3 _ (by omega))
  have h5 := lv_lt5 (a := a) (b := b) (i := q / 5) (k := q % 5) (by omega) (by rw [show 5 * (q / 5) + q % 5 = q by omega]; exact hq2) (fun j hj => hq3 _ (by omega))
  rw [show 8 * i + q % 8 = q by omega] at h8
  rw [show 5 * (q / 5) + q % 5 = q by omega] at h5
  refine ⟨q / 5, by unfold lenL; omega, h5.1, fun j hj => lv_same fun m hm => hq3 _ (by omega), ?_⟩
  rw [h5.2, h8.2]
/-- A letter's place among the letters. -/
def rankI (c : Int) : Int := if c < 97 then c + 100 else c - 97
theorem rank_alph {x y : Nat} (hx : x < 32) (hy : y < 32) : (rankI (alph.getD x 0) < rankI (alph.getD y 0) ↔ x < y) ∧ (alph.getD x 0 = alph.getD y 0 ↔ x = y) := by
  have : ∀ x y : Fin 32, (rankI (alph.getD x.val 0) < rankI (alph.getD y.val 0) ↔ x.val < y.val) ∧ (alph.getD x.val 0 = alph.getD y.val 0 ↔ x.val = y.val) := by decide
  exact this ⟨x, hx⟩ ⟨y, hy⟩
/-- What the law asks of the letters at a place. -/
theorem order_letters {a b : List Int} (ha : Byt8 a) (hb : Byt8 b) {i : Nat} (hi : i < a.length) (hl : a.length = b.length) (hne : a.getD i 0 ≠ b.getD i 0) (hs : ∀ j, j < i → a.getD j 0 = b.getD j 0) :
    ∃ k, k < lenL a.length ∧ (lettersL a).getD k 0 ≠ (lettersL b).getD k 0 ∧ (∀ j, j < k → (lettersL a).getD j 0 = (lettersL b).getD j 0) ∧ (rankI ((lettersL a).getD k 0) < rankI ((lettersL b).getD k 0) ↔ a.getD i 0 < b.getD i 0) := by
  obtain ⟨k, h1, h2, h3, h4⟩ := order_at ha hb hi hl hne hs
  have e : ∀ j, j ≤ k → (lettersL a).getD j 0 = alph.getD (lv a j).toNat 0 ∧ (lettersL b).getD j 0 = alph.getD (lv b j).toNat 0 := fun j hj => ⟨lettersL_get a j (by omega), lettersL_get b j (by rw [← hl]; omega)⟩
  have la := lv_lt a k
  have lb := lv_lt b k
  have r := rank_alph (x := (lv a k).toNat) (y := (lv b k).toNat) (by omega) (by omega)
  refine ⟨k, h1, ?_, fun j hj => ?_, ?_⟩
  · rw [(e k (Nat.le_refl _)).1, (e k (Nat.le_refl _)).2]
    intro h
    have := r.2.1 h
    omega
  · rw [(e j (by omega)).1, (e j (by omega)).2, h3 j hj]
  · rw [(e k (Nat.le_refl _)).1, (e k (Nat.le_refl _)).2, r.1, ← h4]
    omega
end Go.Proofs.Ytcgecflebplgaaa
