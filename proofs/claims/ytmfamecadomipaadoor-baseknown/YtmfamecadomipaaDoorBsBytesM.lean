/- Letters read back: lists alone. -/
import Derived.Test.YtmfamecadomipaaDoorBsMath
import Derived.Lib.Bytealg
import Derived.Lib.Bytes
set_option linter.unusedSimpArgs false
set_option linter.unusedVariables false
namespace Go.Proofs.YtmfamecadomipaaDoor
open Go.RowKit

/-- What a letter stands for; -1: it is none. -/
def val (c : Int) : Int := if 97 ≤ c ∧ c ≤ 122 then c - 97 else if 50 ≤ c ∧ c ≤ 55 then c - 24 else -1
theorem val_lt (c : Int) : -1 ≤ val c ∧ val c < 32 := by
  unfold val
  split
  · omega
  · split <;> omega
theorem alph_form (i : Nat) (h : i < 32) : alph.getD i 0 = if i < 26 then (97 + i : Int) else 24 + i := by
  have : ∀ i : Fin 32, alph.getD i.val 0 = if i.val < 26 then (97 + i.val : Int) else 24 + i.val := by decide
  exact this ⟨i, h⟩
theorem val_alph (i : Nat) (h : i < 32) : val (alph.getD i 0) = i := by
  rw [alph_form i h]
  unfold val
  by_cases h1 : i < 26
  · rw [if_pos h1, if_pos (by omega)]; omega
  · rw [if_neg h1, if_neg (by omega), if_pos (by omega)]; omega
theorem alph_val (c : Int) (h : 0 ≤ val c) : alph.getD (val c).toNat 0 = c := by
  have h2 := val_lt c
  rw [alph_form _ (by omega)]
  revert h
  unfold val
  by_cases h1 : 97 ≤ c ∧ c ≤ 122
  · rw [if_pos h1]; intro h; rw [if_pos (by omega)]; omega
  · rw [if_neg h1]
    by_cases h3 : 50 ≤ c ∧ c ≤ 55
    · rw [if_pos h3]; intro h; rw [if_neg (by omega)]; omega
    · rw [if_neg h3]; intro h; omega

/-- So many of a row of bits from a place on, as a number. -/
def nF (f : Nat → Int) (a : Nat) : Nat → Int
  | 0 => 0
  | m + 1 => 2 * nF f a m + f (a + m)
theorem nF_lt (f : Nat → Int) (hf : ∀ n, 0 ≤ f n ∧ f n < 2) (a m : Nat) : 0 ≤ nF f a m ∧ nF f a m < 2 ^ m := by
  induction m with
  | zero => simp [nF]
  | succ m ih =>
    have := hf (a + m)
    simp only [nF, Int.pow_succ]
    omega
theorem nF_add (f : Nat → Int) (a m p : Nat) : nF f a (m + p) = nF f a m * 2 ^ p + nF f (a + m) p := by
  induction p with
  | zero => simp [nF]
  | succ p ih =>
    rw [← Nat.add_assoc]
    simp only [nF]
    have e : nF f a m * (2 ^ p * 2) = 2 * (nF f a m * 2 ^ p) := by rw [← Int.mul_assoc, Int.mul_comm]
    rw [ih, Int.pow_succ, e, ← Nat.add_assoc]
    omega
theorem nF_congr (f g : Nat → Int) (a m : Nat) (h : ∀ j, j < m → f (a + j) = g (a + j)) : nF f a m = nF g a m := by
  induction m with
  | zero => rfl
  | succ m ih =>
    simp only [nF]
    rw [ih (fun j hj => h j (by omega)), h m (by omega)]
theorem nF_zero (f : Nat → Int) (hf : ∀ n, 0 ≤ f n ∧ f n < 2) (a m : Nat) : nF f a m = 0 ↔ ∀ j, j < m → f (a + j) = 0 := by
  induction m with
  | zero => simp [nF]
  | succ m ih =>
    have h1 := hf (a + m)
    have h2 := nF_lt f hf a m
    simp only [nF]
    constructor
    · intro h j hj
      by_cases hjm : j < m
      · exact ih.1 (by omega) j hjm
      · have : j = m := by omega
        subst this
        omega
    · intro h
      have h3 := ih.2 (fun j hj => h j (by omega))
      have h4 := h m (by omega)
      omega
/-- A bit of a row of values of five bits. -/
def bitV (v : List Int) (n : Nat) : Int := (v.getD (n / 5) 0) / 2 ^ (4 - n % 5) % 2
theorem bitV_01 (l : List Int) (n : Nat) : 0 ≤ bitV l n ∧ bitV l n < 2 := by
  unfold bitV
  exact ⟨Int.emod_nonneg _ (by decide), Int.emod_lt_of_pos _ (by decide)⟩
theorem bitV_at (l : List Int) (n q r : Nat) (h : n = 5 * q + r) (hr : r < 5) : bitV l n = l.getD q 0 / 2 ^ (4 - r) % 2 := by
  unfold bitV
  have h1 : n / 5 = q := by omega
  have h2 : n % 5 = r := by omega
  rw [h1, h2]
theorem five_of (v : List Int) (i : Nat) (h : 0 ≤ v.getD i 0 ∧ v.getD i 0 < 32) : nF (bitV v) (5 * i) 5 = v.getD i 0 := by
  simp only [nF]
  rw [bitV_at v (5 * i + 0) i 0 (by omega) (by omega), bitV_at v (5 * i + 1) i 1 (by omega) (by omega), bitV_at v (5 * i + 2) i 2 (by omega) (by omega), bitV_at v (5 * i + 3) i 3 (by omega) (by omega), bitV_at v (5 * i + 4) i 4 (by omega) (by omega)]
  generalize v.getD i 0 = x at *
  simp only [show (2:Int) ^ (4 - 0) = 16 from rfl, show (2:Int) ^ (4 - 1) = 8 from rfl, show (2:Int) ^ (4 - 2) = 4 from rfl, show (2:Int) ^ (4 - 3) = 2 from rfl, show (2:Int) ^ (4 - 4) = 1 from rfl]
  omega
theorem eight_of (l : List Int) (h : Byt8 l) (i : Nat) : nF (bitL l) (8 * i) 8 = l.getD i 0 := by
  simp only [nF]
  have hx := getD_byt h i
  rw [bit_at l (8*i+0) i 0 (by omega) (by omega), bit_at l (8*i+1) i 1 (by omega) (by omega), bit_at l (8*i+2) i 2 (by omega) (by omega), bit_at l (8*i+3) i 3 (by omega) (by omega), bit_at l (8*i+4) i 4 (by omega) (by omega), bit_at l (8*i+5) i 5 (by omega) (by omega), bit_at l (8*i+6) i 6 (by omega) (by omega), bit_at l (8*i+7) i 7 (by omega) (by omega)]
  generalize l.getD i 0 = x at *
  simp only [show (2:Int) ^ (7 - 0) = 128 from rfl, show (2:Int) ^ (7 - 1) = 64 from rfl, show (2:Int) ^ (7 - 2) = 32 from rfl, show (2:Int) ^ (7 - 3) = 16 from rfl, show (2:Int) ^ (7 - 4) = 8 from rfl, show (2:Int) ^ (7 - 5) = 4 from rfl, show (2:Int) ^ (7 - 6) = 2 from rfl, show (2:Int) ^ (7 - 7) = 1 from rfl]
  omega
theorem lv_nF (l : List Int) (i : Nat) : lv l i = nF (bitL l) (5 * i) 5 := by
  simp only [nF, lv, Nat.add_zero]
  omega
/-- A bit out of a number of so many bits. -/
theorem nF_bit (f : Nat → Int) (hf : ∀ n, 0 ≤ f n ∧ f n < 2) (a m j : Nat) (hj : j < m) : nF f a m / 2 ^ (m - 1 - j) % 2 = f (a + j) := by
  have e : m = (j + 1) + (m - 1 - j) := by omega
  obtain ⟨p, hp⟩ : ∃ p, m - 1 - j = p := ⟨_, rfl⟩
  rw [hp] at e ⊢
  rw [e, nF_add]
  have h1 := nF_lt f hf (a + (j + 1)) p
  have hpos : (0 : Int) < 2 ^ p := Int.pow_pos (by decide)
  rw [Int.add_comm, Int.add_mul_ediv_right _ _ (by omega), Int.ediv_eq_zero_of_lt h1.1 h1.2]
  simp only [nF]
  have := hf (a + j)
  omega
def vL (s : List Int) : List Int := s.map val
/-- The bytes of letters. -/
def outL (s : List Int) : List Int := (List.range (5 * s.length / 8)).map fun i => nF (bitV (vL s)) (8 * i) 8
theorem outL_length (s : List Int) : (outL s).length = 5 * s.length / 8 := by simp [outL]
theorem outL_get (s : List Int) (i : Nat) (h : i < 5 * s.length / 8) : (outL s).getD i 0 = nF (bitV (vL s)) (8 * i) 8 := by simp [outL, List.getD, h]
theorem outL_byt (s : List Int) : Byt8 (outL s) := by
  intro x hx
  obtain ⟨i, _, rfl⟩ := List.mem_map.1 hx
  have := nF_lt (bitV (vL s)) (bitV_01 _) (8 * i) 8
  exact ⟨this.1, this.2⟩
/-- What no byte has of the first letters. -/
def heldL (s : List Int) (i : Nat) : Int := nF (bitV (vL s)) (8 * (5 * i / 8)) (5 * i % 8)
theorem bit_outL (s : List Int) (n : Nat) (h : n < 8 * (5 * s.length / 8)) : bitL (outL s) n = bitV (vL s) n := by
  rw [bit_at (outL s) n (n / 8) (n % 8) (by omega) (by omega), outL_get s (n / 8) (by omega), show 7 - n % 8 = 8 - 1 - n % 8 by omega, nF_bit _ (bitV_01 _) _ _ _ (by omega)]
  congr 1
  omega
theorem bit_outL_end (s : List Int) (n : Nat) (h : 8 * (5 * s.length / 8) ≤ n) : bitL (outL s) n = 0 := by
  unfold bitL
  have : (outL s).getD (n / 8) 0 = 0 := by simp [List.getD, List.getElem?_eq_none (by rw [outL_length]; omega : (outL s).length ≤ n / 8)]
  rw [this]
  simp
def Good (s : List Int) : Prop := ∀ c ∈ s, 0 ≤ val c
theorem vL_get (s : List Int) (i : Nat) (h : i < s.length) : (vL s).getD i 0 = val (s.getD i 0) := by
  simp [vL, List.getD, List.getElem?_eq_getElem h]
/-- Where there are bytes with so many letters: their letters are these, if nothing is held. -/
theorem letters_outL (s : List Int) (hg : Good s) (hl : lenL (5 * s.length / 8) = s.length) : lettersL (outL s) = s ↔ heldL s s.length = 0 := by
  have hlen : (lettersL (outL s)).length = s.length := by rw [lettersL_length, outL_length, hl]
  have hval : ∀ i, i < s.length → 0 ≤ val (s.getD i 0) ∧ val (s.getD i 0) < 32 := fun i hi => ⟨hg _ (by rw [getD_of_lt hi]; exact List.getElem_mem hi), (val_lt _).2⟩
  have hlv : ∀ i, i < s.length → ((lettersL (outL s)).getD i 0 = s.getD i 0 ↔ lv (outL s) i = val (s.getD i 0)) := by
    intro i hi
    rw [lettersL_get _ _ (by rw [outL_length, hl]; exact hi)]
    have h1 := lv_lt (outL s) i
    have h2 := hval i hi
    constructor
    · intro h
      rw [← h, val_alph _ (by omega)]
      omega
    · intro h
      rw [h]
      exact alph_val _ h2.1
  have h5 : ∀ i, i < s.length → val (s.getD i 0) = nF (bitV (vL s)) (5 * i) 5 := by
    intro i hi
    rw [five_of _ _ (by rw [vL_get s i hi]; exact hval i hi), vL_get s i hi]
  unfold lenL at hl
  unfold heldL
  rw [nF_zero _ (bitV_01 _)]
  constructor
  · intro h j hj
    have hi : (8 * (5 * s.length / 8) + j) / 5 < s.length := by omega
    have h1 := (hlv _ hi).1 (by rw [h])
    rw [h5 _ hi, lv_nF] at h1
    have h2 := nF_bit (bitL (outL s)) (bitL_01 _) (5 * ((8 * (5 * s.length / 8) + j) / 5)) 5 ((8 * (5 * s.length / 8) + j) % 5) (by omega)
    have h3 := nF_bit (bitV (vL s)) (bitV_01 _) (5 * ((8 * (5 * s.length / 8) + j) / 5)) 5 ((8 * (5 * s.length / 8) + j) % 5) (by omega)
    rw [h1, h3, show 5 * ((8 * (5 * s.length / 8) + j) / 5) + (8 * (5 * s.length / 8) + j) % 5 = 8 * (5 * s.length / 8) + j by omega] at h2
    rw [h2]
    exact bit_outL_end s _ (by omega)
  · intro h
    apply List.ext_getElem hlen
    intro i h1 h2
    rw [← getD_of_lt h1, ← getD_of_lt h2]
    apply (hlv i h2).2
    rw [h5 i h2, lv_nF]
    apply nF_congr
    intro j hj
    by_cases hb : 5 * i + j < 8 * (5 * s.length / 8)
    · exact bit_outL s _ hb
    · rw [bit_outL_end s _ (by omega)]
      have := h (5 * i + j - 8 * (5 * s.length / 8)) (by omega)
      rw [show 8 * (5 * s.length / 8) + (5 * i + j - 8 * (5 * s.length / 8)) = 5 * i + j by omega] at this
      exact this.symm
theorem held_lt (s : List Int) (i : Nat) : 0 ≤ heldL s i ∧ heldL s i < 2 ^ (5 * i % 8) := nF_lt _ (bitV_01 _) _ _
theorem held_128 (s : List Int) (i : Nat) : 0 ≤ heldL s i ∧ heldL s i < 128 := by
  have h := held_lt s i
  have h2 : (2 : Int) ^ (5 * i % 8) ≤ 128 := by
    rcases (by omega : 5 * i % 8 = 0 ∨ 5 * i % 8 = 1 ∨ 5 * i % 8 = 2 ∨ 5 * i % 8 = 3 ∨ 5 * i % 8 = 4 ∨ 5 * i % 8 = 5 ∨ 5 * i % 8 = 6 ∨ 5 * i % 8 = 7) with e | e | e | e | e | e | e | e <;> rw [e] <;> decide
  omega
theorem held_all (s : List Int) (i : Nat) (h : i < s.length) (hv : 0 ≤ val (s.getD i 0)) : heldL s i * 32 + val (s.getD i 0) = nF (bitV (vL s)) (8 * (5 * i / 8)) (5 * i % 8 + 5) := by
  rw [nF_add]
  unfold heldL
  rw [show 8 * (5 * i / 8) + 5 * i % 8 = 5 * i by omega, five_of _ _ (by rw [vL_get s i h]; exact ⟨hv, (val_lt _).2⟩), vL_get s i h]
  rfl
theorem held_few (s : List Int) (i : Nat) (h : i < s.length) (hv : 0 ≤ val (s.getD i 0)) (hr : 5 * i % 8 < 3) : heldL s (i + 1) = heldL s i * 32 + val (s.getD i 0) := by
  rw [held_all s i h hv]
  unfold heldL
  rw [show 5 * (i + 1) / 8 = 5 * i / 8 by omega, show 5 * (i + 1) % 8 = 5 * i % 8 + 5 by omega]
theorem held_many (s : List Int) (i r : Nat) (h : i < s.length) (hv : 0 ≤ val (s.getD i 0)) (hr : 5 * i % 8 = r + 3) :
    nF (bitV (vL s)) (8 * (5 * i / 8)) 8 = (heldL s i * 32 + val (s.getD i 0)) / 2 ^ r ∧ heldL s (i + 1) = (heldL s i * 32 + val (s.getD i 0)) % 2 ^ r := by
  rw [held_all s i h hv, show 5 * i % 8 + 5 = 8 + r by omega, nF_add]
  have h1 := nF_lt (bitV (vL s)) (bitV_01 _) (8 * (5 * i / 8) + 8) r
  have hpos : (0 : Int) < 2 ^ r := Int.pow_pos (by decide)
  constructor
  · rw [Int.add_comm, Int.add_mul_ediv_right _ _ (by omega), Int.ediv_eq_zero_of_lt h1.1 h1.2]
    omega
  · rw [Int.add_comm, Int.add_mul_emod_self_right, Int.emod_eq_of_lt h1.1 h1.2]
    unfold heldL
    rw [show 8 * (5 * (i + 1) / 8) = 8 * (5 * i / 8) + 8 by omega, show 5 * (i + 1) % 8 = r by omega]
/-- The place of the first byte that is no letter. -/
def bad (s : List Int) : Nat := s.findIdx fun c => decide (val c < 0)
def byL (s : List Int) : List Int := if bad s < s.length then [] else if heldL s s.length = 0 ∧ lenL (5 * s.length / 8) = s.length then outL s else []
def byP (s : List Int) : Int := if bad s < s.length then bad s else if heldL s s.length = 0 ∧ lenL (5 * s.length / 8) = s.length then 0 else s.length - 1
def byE (s : List Int) : Int := if bad s < s.length then 100 else if heldL s s.length = 0 ∧ lenL (5 * s.length / 8) = s.length then 0 else 101
theorem bad_at (s : List Int) (i : Nat) (h : i < s.length) (hb : val (s.getD i 0) < 0) (hg : ∀ j, j < i → 0 ≤ val (s.getD j 0)) : bad s = i := by
  unfold bad
  rw [List.findIdx_eq h]
  refine ⟨by rw [← getD_of_lt h]; simpa using hb, fun j hj => ?_⟩
  have := hg j hj
  rw [getD_of_lt (by omega)] at this
  simp
  omega
theorem bad_none (s : List Int) (hg : ∀ j, j < s.length → 0 ≤ val (s.getD j 0)) : ¬ bad s < s.length := by
  unfold bad
  intro h
  have h1 := List.findIdx_getElem (w := h)
  have h2 := hg _ h
  rw [getD_of_lt h] at h2
  simp at h1
  omega
theorem good_of (s : List Int) (hg : ∀ j, j < s.length → 0 ≤ val (s.getD j 0)) : Good s := by
  intro c hc
  obtain ⟨j, hj, rfl⟩ := List.getElem_of_mem hc
  have := hg j hj
  rwa [getD_of_lt hj] at this
theorem by_bad (s : List Int) (i : Nat) (h : i < s.length) (hb : val (s.getD i 0) < 0) (hg : ∀ j, j < i → 0 ≤ val (s.getD j 0)) : byL s = [] ∧ byP s = i ∧ byE s = 100 := by
  have e := bad_at s i h hb hg
  unfold byL byP byE
  rw [e, if_pos h, if_pos h, if_pos h]
  exact ⟨rfl, rfl, rfl⟩
theorem by_ok (s : List Int) (hg : ∀ j, j < s.length → 0 ≤ val (s.getD j 0)) (h : heldL s s.length = 0 ∧ lenL (5 * s.length / 8) = s.length) : byL s = outL s ∧ byP s = 0 ∧ byE s = 0 := by
  have e := bad_none s hg
  unfold byL byP byE
  rw [if_neg e, if_neg e, if_neg e, if_pos h, if_pos h, if_pos h]
  exact ⟨rfl, rfl, rfl⟩
theorem by_spare (s : List Int) (hg : ∀ j, j < s.length → 0 ≤ val (s.getD j 0)) (h : ¬ (heldL s s.length = 0 ∧ lenL (5 * s.length / 8) = s.length)) : byL s = [] ∧ byP s = s.length - 1 ∧ byE s = 101 := by
  have e := bad_none s hg
  unfold byL byP byE
  rw [if_neg e, if_neg e, if_neg e, if_neg h, if_neg h, if_neg h]
  exact ⟨rfl, rfl, rfl⟩
theorem byL_byt (s : List Int) : Byt8 (byL s) := by
  unfold byL
  split
  · intro x hx; simp at hx
  · split
    · exact outL_byt s
    · intro x hx; simp at hx
theorem byL_length (s : List Int) : (byL s).length ≤ s.length := by
  unfold byL
  split
  · simp
  · split
    · rw [outL_length]; omega
    · simp
/-- The place in the alphabet, as the library finds it. -/
theorem index_val (c : Nat) (h : c < 256) : Lib.indexByte (Lib.bytesOf alph) (((c : Int).toNat).toUInt8) = val c := by
  have : ∀ c : Fin 256, Lib.indexByte (Lib.bytesOf alph) (((c.val : Int).toNat).toUInt8) = val c.val := by decide +kernel
  exact this ⟨c, h⟩
end Go.Proofs.YtmfamecadomipaaDoor
