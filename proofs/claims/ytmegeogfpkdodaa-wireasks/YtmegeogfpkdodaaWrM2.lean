/- wire: what is laid down as a request is read as that request; what is read was laid down. -/
import Derived.Test.YtmegeogfpkdodaaWrM
set_option linter.unusedVariables false
set_option linter.unusedSimpArgs false
namespace Go.Proofs.Ytmegeogfpkdodaa
open Go Go.RowKit

theorem g1 (x : Nat) : ((bigL 1 x).length : Int) = 1 := by rw [bigL_length]; rfl
theorem g4 (x : Nat) : ((bigL 4 x).length : Int) = 4 := by rw [bigL_length]; rfl
theorem g8 (x : Nat) : ((bigL 8 x).length : Int) = 8 := by rw [bigL_length]; rfl
theorem e1 (x : Nat) (h : x < 256) : smallNo 1 (bigL 1 x) = x := small_bigN 1 x h
theorem e4 (x : Nat) (h : x < 4294967296) : smallNo 4 (bigL 4 x) = x := small_bigN 4 x h
theorem e8 (x : Nat) (h : x < 18446744073709551616) : smallNo 8 (bigL 8 x) = x := small_bigN 8 x h
theorem wr40 (x : Nat) (h : x ≤ 1099511627776) : IntKind.i64.wrap (x : Int) = (x : Int) := by rw [IntKind.wrap_i64]; omega
theorem wr_of (x : Nat) (h : x < 18446744073709551616) (hb : tkB (IntKind.i64.wrap (x : Int)) = true) : IntKind.i64.wrap (x : Int) = (x : Int) ∧ x ≤ 1099511627776 := by
  simp only [tkB, IntKind.wrap_i64, decide_eq_true_eq] at hb ⊢
  omega
/-- Whatever may stand behind the bytes of a request: so far they are read. -/
theorem read_lay (r : Rq) (b t : List Int) (hr : r.ok) (hwho : 0 ≤ r.who ∧ r.who < 4294967296) (hm : mayB r b.length = true) (n : Nat) :
    (rd1 n (qs0 (layQ r b ++ t))).2 = true ∧ (rd2 n (qs0 (layQ r b ++ t))).2 = true ∧ st2 (qs0 (layQ r b ++ t)) = ⟨false, b ++ t, r, b.length⟩ := by
  obtain ⟨k, ix, nb, pl, ln, who, til⟩ := r
  have h16 : (ix.length : Int) = 16 := by have := hr.1; simp only at this; omega
  simp only at hwho
  have hk5 : k = 1 ∨ k = 2 ∨ k = 3 ∨ k = 4 ∨ k = 5 := by
    unfold mayB at hm
    simp only at hm
    (repeat' split at hm) <;> first | omega | simp at hm
  obtain ⟨whN, rfl⟩ := Int.eq_ofNat_of_zero_le hwho.1
  rcases hk5 with rfl | rfl | rfl | rfl | rfl
  · simp [mayB] at hm
    obtain ⟨rfl, rfl, rfl, h4, rfl, h5⟩ := hm
    obtain rfl : b = [] := by simpa using h5
    obtain rfl : whN = 0 := by omega
    have e : layQ ⟨1, ix, 0, 0, 0, ((0 : Nat) : Int), 0⟩ [] ++ t = 1 :: (ix ++ t) := by simp [layQ]
    rw [e, rd1_cons n 1 (by omega)]
    obtain ⟨c1, c2⟩ := chain_1 n ix t h16
    exact ⟨rfl, c2.2 trivial, c1⟩
  · simp [mayB, nbB, tkB] at hm
    obtain ⟨⟨hn0, hn1⟩, ⟨rfl, rfl⟩, ⟨ht0, ht1⟩, hbl⟩ := hm
    obtain ⟨nbN, rfl⟩ := Int.eq_ofNat_of_zero_le hn0
    obtain ⟨tiN, rfl⟩ := Int.eq_ofNat_of_zero_le ht0
    have e : layQ ⟨2, ix, nbN, 0, 0, whN, tiN⟩ b ++ t = 2 :: (ix ++ (bigL 1 nbN ++ (bigL 4 whN ++ (bigL 8 tiN ++ (bigL 4 b.length ++ (b ++ t)))))) := by simp [layQ]
    rw [e, rd1_cons n 2 (by omega)]
    obtain ⟨c1, c2⟩ := chain_2 n ix (bigL 1 nbN) (bigL 4 whN) (bigL 8 tiN) (bigL 4 b.length) (b ++ t) h16 (g1 _) (g4 _) (g8 _) (g4 _)
    rw [e1 nbN (by omega), e4 whN (by omega), e8 tiN (by omega), e4 b.length (by omega), wr40 tiN (by omega)] at c1
    rw [e1 nbN (by omega), e8 tiN (by omega), e4 b.length (by omega), wr40 tiN (by omega)] at c2
    refine ⟨rfl, c2.2 ⟨?_, ?_, ?_⟩, c1⟩ <;> simp [nbB, tkB, plB] <;> omega
  · simp [mayB, nbB, stB] at hm
    obtain ⟨⟨hn0, hn1⟩, ⟨hp0, hp1, hl0, hl1⟩, h4, rfl, h5⟩ := hm
    obtain rfl : b = [] := by simpa using h5
    obtain rfl : whN = 0 := by omega
    obtain ⟨nbN, rfl⟩ := Int.eq_ofNat_of_zero_le hn0
    obtain ⟨plN, rfl⟩ := Int.eq_ofNat_of_zero_le hp0
    obtain ⟨lnN, rfl⟩ := Int.eq_ofNat_of_zero_le (show 0 ≤ ln by omega)
    have e : layQ ⟨3, ix, nbN, plN, lnN, ((0 : Nat) : Int), 0⟩ [] ++ t = 3 :: (ix ++ (bigL 1 nbN ++ (bigL 4 plN ++ (bigL 4 lnN ++ t)))) := by simp [layQ]
    rw [e, rd1_cons n 3 (by omega)]
    obtain ⟨c1, c2⟩ := chain_3 n ix (bigL 1 nbN) (bigL 4 plN) (bigL 4 lnN) t h16 (g1 _) (g4 _) (g4 _)
    rw [e1 nbN (by omega), e4 plN (by omega), e4 lnN (by omega)] at c1 c2
    refine ⟨rfl, c2.2 ⟨?_, ?_, ?_⟩, c1⟩ <;> simp [nbB, flB, plB] <;> omega
  · simp [mayB, tkB] at hm
    obtain ⟨⟨rfl, rfl, rfl⟩, ⟨ht0, ht1⟩, h5⟩ := hm
    obtain rfl : b = [] := by simpa using h5
    obtain ⟨tiN, rfl⟩ := Int.eq_ofNat_of_zero_le ht0
    have e : layQ ⟨4, ix, 0, 0, 0, whN, tiN⟩ [] ++ t = 4 :: (ix ++ (bigL 4 whN ++ (bigL 8 tiN ++ t))) := by simp [layQ]
    rw [e, rd1_cons n 4 (by omega)]
    obtain ⟨c1, c2⟩ := chain_4 n ix (bigL 4 whN) (bigL 8 tiN) t h16 (g4 _) (g8 _)
    rw [e4 whN (by omega), e8 tiN (by omega), wr40 tiN (by omega)] at c1
    rw [e8 tiN (by omega), wr40 tiN (by omega)] at c2
    refine ⟨rfl, c2.2 ?_, c1⟩
    simp [tkB]
    omega
  · simp [mayB] at hm
    obtain ⟨rfl, rfl, rfl, rfl, h5⟩ := hm
    obtain rfl : b = [] := by simpa using h5
    have e : layQ ⟨5, ix, 0, 0, 0, whN, 0⟩ [] ++ t = 5 :: (ix ++ (bigL 4 whN ++ t)) := by simp [layQ]
    rw [e, rd1_cons n 5 (by omega)]
    obtain ⟨c1, c2⟩ := chain_5 n ix (bigL 4 whN) t h16 (g4 _)
    rw [e4 whN (by omega)] at c1
    exact ⟨rfl, c2.2 trivial, c1⟩
theorem rd1_nil (n : Nat) : (rd1 n (qs0 [])).2 = false := by
  rw [Bool.eq_false_iff]
  intro h
  have := (rd1_iff.1 h).1
  simp [kindF, qs0, QS.adv, okTake] at this
/-- What is read was laid down, and may be. -/
theorem lay_read {l : List Int} {r : Rq} {b : List Int} (hl : ∀ x ∈ l, 0 ≤ x ∧ x < 256) (h : rqGood l r b) : mayB r b.length = true ∧ l = layQ r b ∧ r.ok ∧ 0 ≤ r.who ∧ r.who < 4294967296 ∧ 0 ≤ r.k ∧ r.k < 256 := by
  obtain ⟨h1, h2, h3, rfl, rfl⟩ := h
  cases l with
  | nil => rw [rd1_nil] at h1; cases h1
  | cons k T =>
    have hk0 := hl k (by simp)
    have hT : ∀ x ∈ T, 0 ≤ x ∧ x < 256 := fun x hx => hl x (by simp [hx])
    rw [rd1_cons _ k hk0.1] at h1
    have hk5 : k = 1 ∨ k = 2 ∨ k = 3 ∨ k = 4 ∨ k = 5 := by simp [kdB] at h1; omega
    rcases hk5 with rfl | rfl | rfl | rfl | rfl
    · obtain ⟨ix, t, rfl, h16⟩ := inv_1 _ T h2
      obtain ⟨c1, c2⟩ := chain_1 (1 :: (ix ++ t)).length ix t h16
      rw [c1] at h3 ⊢
      obtain ⟨b1, b2⟩ := bytL hT
      simp only at h3
      obtain rfl : t = [] := List.length_eq_zero_iff.1 (by omega)
      refine ⟨by simp [mayB, taken, okTake], by simp [layQ, taken, okTake], ⟨by simp only; omega, b1⟩, ?_⟩
      simp only; omega
    · obtain ⟨ix, a0, a1, a2, a3, t, rfl, h16, q0, q1, q2, q3⟩ := inv_2 _ T h2
      obtain ⟨c1, c2⟩ := chain_2 (2 :: (ix ++ (a0 ++ (a1 ++ (a2 ++ (a3 ++ t)))))).length ix a0 a1 a2 a3 t h16 q0 q1 q2 q3
      obtain ⟨d1, d2, d3⟩ := c2.1 h2
      rw [c1] at h3 ⊢
      obtain ⟨b1, hb⟩ := bytL hT
      obtain ⟨b2, hb⟩ := bytL hb
      obtain ⟨b3, hb⟩ := bytL hb
      obtain ⟨b4, hb⟩ := bytL hb
      obtain ⟨b5, b6⟩ := bytL hb
      have v1 := valL_le 1 a0 b2
      have v2 := valL_le 4 a1 b3
      have v3 := valL_le 8 a2 b4
      have v4 := valL_le 4 a3 b5
      have z1 := big_small (n := 1) q0 b2
      have z2 := big_small (n := 4) q1 b3
      have z3 := big_small (n := 8) q2 b4
      have z4 := big_small (n := 4) q3 b5
      simp only at h3 ⊢
      obtain ⟨w1, w2⟩ := wr_of _ v3 d2
      rw [w1] at d2 ⊢
      have ht : taken t ((smallNo 4 a3 : Nat) : Int) = t := by
        rw [← h3, taken, okTake_iff.2 ⟨by omega, by omega⟩]
        simp
      rw [ht]
      have hlen : t.length = smallNo 4 a3 := by omega
      refine ⟨?_, ?_, ⟨by simp only; omega, b1⟩, by omega, by omega, by omega, by omega⟩
      · simp only [mayB, d1, d2]
        simp [plB] at d3
        simp [hlen]
        omega
      · simp [layQ, z1, z2, z3, hlen, z4]
    · obtain ⟨ix, a0, a1, a2, t, rfl, h16, q0, q1, q2⟩ := inv_3 _ T h2
      obtain ⟨c1, c2⟩ := chain_3 (3 :: (ix ++ (a0 ++ (a1 ++ (a2 ++ t))))).length ix a0 a1 a2 t h16 q0 q1 q2
      obtain ⟨d1, d2, d3⟩ := c2.1 h2
      rw [c1] at h3 ⊢
      obtain ⟨b1, hb⟩ := bytL hT
      obtain ⟨b2, hb⟩ := bytL hb
      obtain ⟨b3, hb⟩ := bytL hb
      obtain ⟨b4, b5⟩ := bytL hb
      have z1 := big_small (n := 1) q0 b2
      have z2 := big_small (n := 4) q1 b3
      have z3 := big_small (n := 4) q2 b4
      simp only at h3 ⊢
      obtain rfl : t = [] := List.length_eq_zero_iff.1 (by omega)
      refine ⟨?_, ?_, ⟨by simp only; omega, b1⟩, by omega, by omega, by omega, by omega⟩
      · simp only [mayB, d1]
        simp [plB] at d2
        simp [flB] at d3
        simp [taken, okTake, stB]
        omega
      · simp [layQ, z1, z2, z3]
    · obtain ⟨ix, a0, a1, t, rfl, h16, q0, q1⟩ := inv_4 _ T h2
      obtain ⟨c1, c2⟩ := chain_4 (4 :: (ix ++ (a0 ++ (a1 ++ t)))).length ix a0 a1 t h16 q0 q1
      have d1 := c2.1 h2
      rw [c1] at h3 ⊢
      obtain ⟨b1, hb⟩ := bytL hT
      obtain ⟨b2, hb⟩ := bytL hb
      obtain ⟨b3, b4⟩ := bytL hb
      have v1 := valL_le 4 a0 b2
      have v2 := valL_le 8 a1 b3
      have z1 := big_small (n := 4) q0 b2
      have z2 := big_small (n := 8) q1 b3
      simp only at h3 ⊢
      obtain ⟨w1, w2⟩ := wr_of _ v2 d1
      rw [w1] at d1 ⊢
      obtain rfl : t = [] := List.length_eq_zero_iff.1 (by omega)
      refine ⟨?_, ?_, ⟨by simp only; omega, b1⟩, by omega, by omega, by omega, by omega⟩
      · simp only [mayB, d1]
        simp [taken, okTake]
      · simp [layQ, z1, z2]
    · obtain ⟨ix, a0, t, rfl, h16, q0⟩ := inv_5 _ T h2
      obtain ⟨c1, c2⟩ := chain_5 (5 :: (ix ++ (a0 ++ t))).length ix a0 t h16 q0
      rw [c1] at h3 ⊢
      obtain ⟨b1, hb⟩ := bytL hT
      obtain ⟨b2, b3⟩ := bytL hb
      have v1 := valL_le 4 a0 b2
      have z1 := big_small (n := 4) q0 b2
      simp only at h3 ⊢
      obtain rfl : t = [] := List.length_eq_zero_iff.1 (by omega)
      refine ⟨?_, ?_, ⟨by simp only; omega, b1⟩, by omega, by omega, by omega, by omega⟩
      · simp [mayB, taken, okTake]
      · simp [layQ, z1]
theorem sz_pos (k : Int) (s : QS) (h : 0 ≤ s.sz) : 0 ≤ (sq (flS k) s (flS k).length).sz := by
  unfold flS
  split <;> simp [sq, indexF, numberF, whoF, untilF, atF, lengthF, bytesF, QS.adv, h]
theorem tkE_le {n m : Nat} {f : Nat → Bool} {l : Nat → List Int} {bk : Nat → Bool} (hl : ∀ k, (l k).length ≤ n) : 0 ≤ (tkE n m f l bk).1 ∧ (tkE n m f l bk).1 ≤ n := by
  unfold tkE
  split
  · simp
  · exact tkA_le hl m
/-- The place of a fault lies within the bytes, or right behind them. -/
theorem bad_le {l : List Int} {p : Int} (h : rqBad l p) : 0 ≤ p ∧ p ≤ l.length := by
  have A1 : AllRuns [62] [kindF] := .cons runs_kind .nil
  have hs1 : (st1 (qs0 l)).l.length ≤ l.length := sq_le A1 (qs0 l) 1
  rcases h with ⟨_, rfl⟩ | ⟨h1, _, rfl⟩ | ⟨h1, _, h3, rfl⟩
  · exact tkE_le (fun k => sq_le A1 (qs0 l) k)
  · exact tkE_le (fun k => Nat.le_trans (sq_le (fl_runs _ (rd1_kd h1)).1 (st1 (qs0 l)) k) hs1)
  · have h5 : (st2 (qs0 l)).l.length ≤ l.length := Nat.le_trans (sq_le (fl_runs _ (rd1_kd h1)).1 (st1 (qs0 l)) _) hs1
    have h6 : 0 ≤ (st2 (qs0 l)).sz := sz_pos _ _ (by show (0 : Int) ≤ 0; omega)
    unfold edA
    omega
theorem bad_good {l : List Int} {p : Int} {r : Rq} {b : List Int} (h : rqBad l p) (g : rqGood l r b) : False := by
  obtain ⟨g1, g2, g3, _⟩ := g
  rcases h with ⟨h1, _⟩ | ⟨_, h1, _⟩ | ⟨_, _, h1, _⟩
  · rw [g1] at h1; cases h1
  · rw [g2] at h1; cases h1
  · exact h1 g3
theorem good_one {l : List Int} {r r' : Rq} {b b' : List Int} (h : rqGood l r b) (g : rqGood l r' b') : r = r' ∧ b = b' := ⟨h.2.2.2.1.trans g.2.2.2.1.symm, h.2.2.2.2.trans g.2.2.2.2.symm⟩
theorem good_lay (r : Rq) (b : List Int) (hr : r.ok) (hwho : 0 ≤ r.who ∧ r.who < 4294967296) (hm : mayB r b.length = true) : rqGood (layQ r b) r b := by
  obtain ⟨h1, h2, h3⟩ := read_lay r b [] hr hwho hm (layQ r b).length
  simp only [List.append_nil] at h1 h2 h3
  refine ⟨h1, h2, ?_, ?_, ?_⟩ <;> rw [h3]
  simp [taken, okTake]
/-- Bytes behind the last one that belongs to it. -/
theorem more_bad (r : Rq) (b t : List Int) (hr : r.ok) (hwho : 0 ≤ r.who ∧ r.who < 4294967296) (hm : mayB r b.length = true) (ht : t ≠ []) : (∀ r' b', ¬ rqGood (layQ r b ++ t) r' b') ∧ ∀ p, rqBad (layQ r b ++ t) p → p = (layQ r b).length := by
  obtain ⟨h1, h2, h3⟩ := read_lay r b t hr hwho hm (layQ r b ++ t).length
  have hl : 0 < t.length := List.length_pos_iff.2 ht
  constructor
  · rintro r' b' ⟨_, _, g3, _⟩
    rw [h3] at g3
    simp at g3
    omega
  · rintro p (⟨q1, _⟩ | ⟨_, q1, _⟩ | ⟨_, _, q1, rfl⟩)
    · rw [h1] at q1; cases q1
    · rw [h2] at q1; cases q1
    · rw [h3]
      simp only [edA, List.length_append]
      omega
end Go.Proofs.Ytmegeogfpkdodaa
