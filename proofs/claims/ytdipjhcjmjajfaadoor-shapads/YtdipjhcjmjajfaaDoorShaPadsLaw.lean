/- ShaPads, walked. -/
import Derived.Test.YtdipjhcjmjajfaaDoorShaLives
import Derived.Test.YtdipjhcjmjajfaaDoorShaPad
namespace Go.Proofs.YtdipjhcjmjajfaaDoor
open Go.RowKit

/-- Bytes as a number, the highest first, as a uint64 holds it. -/
def acc64 : Nat → List Int → Nat
  | x, [] => x
  | x, b :: r => acc64 ((x * 256 + b.toNat) % 18446744073709551616) r
theorem acc64_append : ∀ (a b : List Int) (x : Nat), acc64 x (a ++ b) = acc64 (acc64 x a) b
  | [], _, _ => rfl
  | _ :: a, b, _ => acc64_append a b _
theorem acc64_zeros : ∀ z : Nat, acc64 0 (List.replicate z 0) = 0
  | 0 => rfl
  | z + 1 => by rw [List.replicate_succ, acc64]; exact acc64_zeros z
theorem acc64_big (v : Nat) : ∀ (r x : Nat), x < 18446744073709551616 → acc64 x (bigL r v) = (x * 256 ^ r + v % 256 ^ r) % 18446744073709551616
  | 0, x, hx => by simp [acc64, bigL, Nat.mod_one, Nat.mod_eq_of_lt hx]
  | r + 1, x, hx => by
    rw [bigL, acc64, acc64_big v r _ (Nat.mod_lt _ (by decide))]
    have e1 : v % 256 ^ (r + 1) = (v / 256 ^ r % 256) * 256 ^ r + v % 256 ^ r := by
      rw [Nat.pow_succ, Nat.mod_mul, Nat.mul_comm (256 ^ r), Nat.add_comm]
    rw [e1]
    have e2 : ((v / 256 ^ r % 256 : Nat) : Int).toNat = v / 256 ^ r % 256 := Int.toNat_natCast _
    rw [e2, Nat.pow_succ]
    rw [Nat.add_mod, Nat.mul_mod, Nat.mod_mod, ← Nat.mul_mod, ← Nat.add_mod]
    congr 1
    rw [Nat.add_mul]
    have : x * (256 ^ r * 256) = x * 256 * 256 ^ r := by rw [Nat.mul_comm (256 ^ r), Nat.mul_assoc]
    omega
theorem acc64_lt : ∀ (l : List Int) (x : Nat), x < 18446744073709551616 → acc64 x l < 18446744073709551616
  | [], _, h => h
  | _ :: l, _, _ => acc64_lt l _ (Nat.mod_lt _ (by decide))
theorem acc64_pad (n : Nat) (hn : n * 8 < 18446744073709551616) : acc64 0 ((padL n).drop 1) = n * 8 := by
  have e : (padL n).drop 1 = List.replicate (padZ n) 0 ++ bigL 8 (n * 8) := by simp [padL]
  rw [e, acc64_append, acc64_zeros, acc64_big _ _ _ (by decide)]
  have : (256 : Nat) ^ 8 = 18446744073709551616 := by decide
  rw [this]
  omega
/-- One byte more. -/
theorem acc64_step (l : List Int) (k : Nat) (h1 : 1 ≤ k) (hk : k < l.length) : acc64 0 ((l.drop 1).take k) = (acc64 0 ((l.drop 1).take (k - 1)) * 256 + (l.getD k 0).toNat) % 18446744073709551616 := by
  have hlt : k - 1 < (l.drop 1).length := by simp; omega
  have e : (l.drop 1).take k = (l.drop 1).take (k - 1) ++ [l.getD k 0] := by
    have := List.take_succ_eq_append_getElem hlt
    rw [show k - 1 + 1 = k by omega] at this
    rw [this]
    congr 2
    have h2 : (l.drop 1)[k - 1]? = l[k]? := by rw [List.getElem?_drop, show 1 + (k - 1) = k by omega]
    rw [List.getElem?_eq_getElem hlt, List.getElem?_eq_getElem hk] at h2
    rw [Option.some.inj h2]
    simp [List.getD, List.getElem?_eq_getElem hk]
  rw [e, acc64_append]
  rfl
theorem padL_zero (n k : Nat) (h1 : 1 ≤ k) (hk : k < 1 + padZ n) : (padL n).getD k 0 = 0 := by
  have : (padL n)[k]? = some 0 := by
    unfold padL
    rw [List.getElem?_append_right (by simpa using h1), List.getElem?_append_left (by simp; omega), List.getElem?_replicate, if_pos (by simp; omega)]
  simp [List.getD, this]
theorem padL_head (n : Nat) : (padL n).getD 0 0 = 128 := by simp [padL, List.getD]

set_option maxHeartbeats 1000000 in
theorem shaPads_walk (w : World) (n : Int) (hn : -9223372036854775808 ≤ n ∧ n ≤ 9223372036854775807) (hk : KC w) : Calls Tryd.prog 6 #[.int .i64 n] w fun e w' => e = .returned (.bool true) ∧ Below w.heap.size w w' := by
  have HK := hid hk
  clear hk
  by_cases hbad : n < 0 ∨ 1152921504606846976 < n
  · have HN := hid hbad
    rcases hbad with h | h
    · go_enter Tryd.func6, Tryd.ntmps6
      go_wp2_with fail
      refine (lives_any _ HK.out).mono ?_
      rintro e w1 ⟨rfl, hB1⟩
      go_wp2_with fail
      refine (pad_bad _ n HN.out).mono ?_
      rintro e w2 ⟨rfl, rfl⟩
      go_wp2
      go_ret
      exact ⟨rfl, hB1⟩
    · have h0 : ¬ n < 0 := by omega
      go_enter Tryd.func6, Tryd.ntmps6
      go_wp2_with fail
      refine (lives_any _ HK.out).mono ?_
      rintro e w1 ⟨rfl, hB1⟩
      go_wp2_with fail
      refine (pad_bad _ n HN.out).mono ?_
      rintro e w2 ⟨rfl, rfl⟩
      go_wp2
      go_ret
      exact ⟨rfl, hB1⟩
  · obtain ⟨m, rfl⟩ := Int.eq_ofNat_of_zero_le (show 0 ≤ n by omega)
    have h0 : ¬ ((m : Int) < 0) := by omega
    have h2 : ¬ ((m : Int) > 1152921504606846976) := by omega
    have HM := hid (show m ≤ 1152921504606846976 by omega)
    go_enter Tryd.func6, Tryd.ntmps6
    go_wp2_with fail
    refine (lives_any _ HK.out).mono ?_
    rintro e w1 ⟨rfl, hB1⟩
    go_wp2_with fail
    refine (pad_ok _ m HM.out).mono ?_
    rintro e w2 ⟨v, rfl, hown, hB2⟩
    have hB : Hid (Below w.heap.size w w2) := hB1.trans (hB2.mono hB1.size)
    have hHB := HB.of_own hown (padL_byt m)
    obtain ⟨b, off, c, rfl, hc, hcm, hcell⟩ := hHB.ne (by rw [padL_length]; omega)
    unfold maxLen at hcm
    obtain ⟨L, HL⟩ : ∃ L, Hid (padL m = L) := ⟨_, rfl⟩
    have HZ : Hid (padZ m < 64) := by show padZ m < 64; unfold padZ; omega
    have hz : ∃ z, Hid (padZ m = z) := ⟨_, rfl⟩
    obtain ⟨z, HZ2⟩ := hz
    have hz64 : z < 64 := by have := HZ.out; rw [HZ2.out] at this; exact this
    have hlen : Hid (L.length = 9 + z) := by show L.length = 9 + z; rw [← HL.out, padL_length, HZ2.out]
    obtain ⟨q, hq⟩ : ∃ q : Nat, q = 9 + z := ⟨_, rfl⟩
    have hrem : Hid ((m + q) % 64 = 0) := by
      show (m + q) % 64 = 0
      have := padL_whole m
      rw [HL.out, hlen.out] at this
      rw [hq]; exact this
    have hhead : w2.cell? ⟨b, off, none⟩ = some (.int .u8 128) := by
      have := hcell 0 (by rw [padL_length]; omega)
      rw [padL_head, Nat.add_zero] at this
      exact this
    have hcell2 : Hid (∀ j, j < q → w2.cell? ⟨b, off + j, none⟩ = some (.int .u8 (L.getD j 0))) := fun j hj => by
      have := hcell j (by rw [HL.out, hlen.out]; omega)
      rw [HL.out] at this
      exact this
    have hzero : Hid (∀ j, 1 ≤ j → j < q - 8 → L.getD j 0 = 0) := fun j h1 h2 => by
      have := padL_zero m j h1 (by rw [HZ2.out]; omega)
      rw [HL.out] at this
      exact this
    have hbyt : Hid (∀ j, 0 ≤ L.getD j 0 ∧ L.getD j 0 < 256) := fun j => by
      rw [← HL.out]
      by_cases hj : j < (padL m).length
      · have := padL_byt m _ (List.getElem_mem hj)
        simpa [List.getD, List.getElem?_eq_getElem hj] using this
      · simp [List.getD, List.getElem?_eq_none (Nat.le_of_not_lt hj)]
    have hfin : Hid (acc64 0 ((L.drop 1).take (q - 1)) = m * 8) := by
      show _ = _
      rw [List.take_of_length_le (by rw [List.length_drop, hlen.out]; omega), ← HL.out]
      exact acc64_pad m (by have := HM.out; omega)
    have hlq : Hid (L.length = q) := by show L.length = q; rw [hlen.out, hq]
    rw [HL.out, hlq.out] at hc ⊢
    have hq9 : 9 ≤ q := by omega
    have hq72 : q ≤ 72 := by omega
    clear hcell hHB hown hq
    have r1 : ((m : Int) + (q : Int)) % 64 = 0 := by
      have := hrem.out
      omega
    go_wp2
    go_loopw [5, 6] (fun x i wr => ∃ k : Nat, 1 ≤ k ∧ k ≤ q ∧ i = .int .i64 k ∧ (∃ a : Nat, Hid (acc64 0 ((L.drop 1).take (k - 1)) = a) ∧ a < 18446744073709551616 ∧ x = .int .u64 (a : Int)) ∧ Dr w2 wr) (fun _ i _ => q - (intOf i).toNat)
    case atStart => exact ⟨1, Nat.le_refl _, by omega, rfl, ⟨0, rfl, by decide, rfl⟩, Dr.refl _⟩
    case round =>
      obtain ⟨k, hk1, hkq, rfl, ⟨a, HA, ha, rfl⟩, q2, rfl⟩ := hrel
      by_cases hlt : k < q
      · have hc1 := hcell2.out k hlt
        obtain ⟨y, HY⟩ : ∃ y, Hid (L.getD k 0 = y) := ⟨_, rfl⟩
        have hy := hbyt.out k
        rw [HY.out] at hc1 hy
        have HS : Hid (acc64 0 ((L.drop 1).take (k + 1 - 1)) = (a * 256 + y.toNat) % 18446744073709551616) := by
          show _ = _
          have := acc64_step L k hk1 (by rw [hlq.out]; exact hlt)
          rw [HA.out, HY.out] at this
          rw [Nat.add_sub_cancel]
          exact this
        by_cases hb8 : k < q - 8
        · have hy0 : y = 0 := by rw [← HY.out]; exact hzero.out k hk1 hb8
          subst hy0
          have hi8 : (k : Int) < (q : Int) - 8 := by omega
          go_wp2
          refine ⟨⟨k + 1, by omega, by omega, by go_num, ⟨_, HS, Nat.mod_lt _ (by decide), ?_⟩, ⟨q2, rfl⟩⟩, by simp [intOf]; omega⟩
          congr 1
          rw [IntKind.wrap_u64, IntKind.wrap_u64]
          simp only [Int.toNat_zero]
          omega
        · have hi8 : ¬ ((k : Int) < (q : Int) - 8) := by omega
          go_wp2
          refine ⟨⟨k + 1, by omega, by omega, by go_num, ⟨_, HS, Nat.mod_lt _ (by decide), ?_⟩, ⟨q2, rfl⟩⟩, by simp [intOf]; omega⟩
          congr 1
          rw [IntKind.wrap_u64, IntKind.wrap_u64]
          omega
      · have hkq2 : k = q := by omega
        have HF : Hid (a = m * 8) := by show a = m * 8; rw [← HA.out, hkq2]; exact hfin.out
        go_wp2
        have e1 : ((a : Int) == (m : Int) * 8) = true := by
          have := HF.out
          rw [beq_iff_eq]
          omega
        go_ret
        exact ⟨by rw [e1]; rfl, hB.out.trans ⟨rfl, rfl, rfl, Nat.le_refl _, fun _ _ => rfl⟩⟩
end Go.Proofs.YtdipjhcjmjajfaaDoor
