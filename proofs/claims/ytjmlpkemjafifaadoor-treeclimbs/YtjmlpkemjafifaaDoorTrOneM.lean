/- Two ways up to one root: what follows where nowhere two unlike pairs have one digest. -/
import Derived.Test.YtjmlpkemjafifaaDoorTrClimb
import Derived.Test.YtjmlpkemjafifaaDoorTrInj
set_option linter.unusedVariables false
namespace Go.Proofs.YtjmlpkemjafifaaDoor
open Go.RowKit

/-- The bytes above node x at step q, of those that were led up so far. -/
def wayB (cs : List (List Int)) (x : Nat) (d : List Int) (q : Nat) : List Int := if (x / 2 ^ q) % 2 = 1 then ndB (cs.getD q []) (clTo cs x d q) else ndB (clTo cs x d q) (cs.getD q [])
theorem wayB_step (cs : List (List Int)) (x : Nat) (d : List Int) (q : Nat) (h : q < cs.length) : clTo cs x d (q + 1) = digL (wayB cs x d q) := by
  rw [clTo_step q cs x d h]
  unfold wayB
  split <;> rfl
theorem way_one {cs es : List (List Int)} {x : Nat} {a b : List Int} (hcs : ∀ c ∈ cs, D32 c) (hes : ∀ c ∈ es, D32 c) (ha : D32 a) (hb : D32 b) (hl : cs.length = es.length)
    (hno : ∀ q, q < cs.length → ¬ (wayB cs x a q ≠ wayB es x b q ∧ digL (wayB cs x a q) = digL (wayB es x b q))) (htop : clV cs x a = clV es x b) : a = b ∧ cs = es := by
  have htop2 : clTo cs x a cs.length = clTo es x b cs.length := by
    unfold clTo
    rw [List.take_length, hl, List.take_length]
    exact htop
  have key : ∀ m q, cs.length - q = m → q ≤ cs.length → clTo cs x a q = clTo es x b q ∧ ∀ p, q ≤ p → p < cs.length → cs.getD p [] = es.getD p [] := by
    intro m
    induction m with
    | zero =>
      intro q h1 h2
      have : q = cs.length := by omega
      subst this
      exact ⟨htop2, fun p h3 h4 => by omega⟩
    | succ m ih =>
      intro q h1 h2
      obtain ⟨i1, i2⟩ := ih (q + 1) (by omega) (by omega)
      have hq : q < cs.length := by omega
      have hq2 : q < es.length := by omega
      rw [wayB_step cs x a q hq, wayB_step es x b q hq2] at i1
      have e : wayB cs x a q = wayB es x b q := by
        apply Classical.byContradiction
        intro hne
        exact hno q hq ⟨hne, i1⟩
      have d1 := getD_D hcs q hq
      have d2 := getD_D hes q hq2
      have d3 := clTo_D cs hcs x a ha q (by omega)
      have d4 := clTo_D es hes x b hb q (by omega)
      have both : clTo cs x a q = clTo es x b q ∧ cs.getD q [] = es.getD q [] := by
        unfold wayB at e
        by_cases hp : (x / 2 ^ q) % 2 = 1
        · rw [if_pos hp, if_pos hp] at e
          have := ndB_inj d1.1 d3.1 d2.1 d4.1 e
          exact ⟨this.2, this.1⟩
        · rw [if_neg hp, if_neg hp] at e
          exact ndB_inj d3.1 d1.1 d4.1 d2.1 e
      refine ⟨both.1, fun p h3 h4 => ?_⟩
      rcases Nat.lt_or_ge q p with h5 | h5
      · exact i2 p h5 h4
      · rw [show p = q by omega]; exact both.2
  obtain ⟨k1, k2⟩ := key cs.length 0 (by omega) (by omega)
  refine ⟨k1, List.ext_getElem hl fun i h1 h2 => ?_⟩
  have := k2 i (by omega) h1
  simpa [List.getD, List.getElem?_eq_getElem h1, List.getElem?_eq_getElem h2] using this
/-- The place of a leaf has the parity of its node, below the root. -/
theorem par_leaf (k i q : Nat) (hq : q < k) : ((2 ^ k + i) / 2 ^ q) % 2 = (i / 2 ^ q) % 2 := by
  have e : 2 ^ k = 2 ^ q * (2 * 2 ^ (k - q - 1)) := by
    rw [← Nat.pow_succ', ← Nat.pow_add]
    congr 1
    omega
  rw [e, Nat.mul_add_div (Nat.pow_pos (by decide))]
  omega
/-- Climb's answer, whole. -/
def ClQ (w : World) (n i : Int) (d : List Int) (cs : List (List Int)) (e : Ending) (w' : World) : Prop :=
  (∃ n' i' k : Nat, n = (n' : Int) ∧ i = (i' : Int) ∧ 1 ≤ n' ∧ n' ≤ 512 ∧ i' < n' ∧ wdN n' = 2 ^ k ∧ k < 10 ∧ cs.length = k ∧ e = .returned (.tuple #[.agg (cellsB (clV cs (wdN n' + i') d)), .int .i64 0]) ∧ Below w.heap.size w w') ∨ ClBad w e w'
theorem pow_of {W : Nat} (h : Pow W) : ∃ k, k < 10 ∧ W = 2 ^ k := by
  rcases h with rfl | rfl | rfl | rfl | rfl | rfl | rfl | rfl | rfl | rfl
  · exact ⟨0, by decide, rfl⟩
  · exact ⟨1, by decide, rfl⟩
  · exact ⟨2, by decide, rfl⟩
  · exact ⟨3, by decide, rfl⟩
  · exact ⟨4, by decide, rfl⟩
  · exact ⟨5, by decide, rfl⟩
  · exact ⟨6, by decide, rfl⟩
  · exact ⟨7, by decide, rfl⟩
  · exact ⟨8, by decide, rfl⟩
  · exact ⟨9, by decide, rfl⟩
theorem climb_any (w : World) (n i : Int) (d : List Int) (v : Value) (cs : List (List Int)) (hd : D32 d) (hv : HDs w v cs) (hk : KC w) :
    Calls Tryd.prog 14 #[.int .i64 n, .int .i64 i, .agg (cellsB d), v] w fun e w' => ClQ w n i d cs e w' := by
  by_cases h : 1 ≤ n ∧ n ≤ 512 ∧ 0 ≤ i ∧ i < n
  · obtain ⟨n', rfl⟩ := Int.eq_ofNat_of_zero_le (show 0 ≤ n by omega)
    obtain ⟨i', rfl⟩ := Int.eq_ofNat_of_zero_le h.2.2.1
    obtain ⟨k, hk9, hk2⟩ := pow_of (wdN_pow n')
    by_cases hl : cs.length = k
    · exact (climb_ok w n' i' k d v cs hd hv (by omega) (by omega) (by omega) hk2 hk9 hl hk).mono fun e w' h2 => .inl ⟨n', i', k, rfl, rfl, by omega, by omega, by omega, hk2, hk9, hl, h2.1, h2.2⟩
    · exact (climb_short w n' i' k d v cs hd hv (by omega) (by omega) (by omega) hk2 hk9 hl).mono fun e w' h2 => .inr h2
  · exact (climb_bad w n i d v cs hd hv h).mono fun e w' h2 => .inr h2
end Go.Proofs.YtjmlpkemjafifaaDoor
