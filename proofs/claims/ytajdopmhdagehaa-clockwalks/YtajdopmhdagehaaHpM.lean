/- A heap as a list of rows: what it is to be in order, what an exchange does to it. -/
import Derived.Test.YtajdopmhdagehaaBase
set_option linter.unusedVariables false
set_option linter.unusedSectionVars false
namespace Go.Proofs.Ytajdopmhdagehaa

/-- A row: its block, its ticket, its thing. -/
structure Rw (T : Type) where
  b : Nat
  t : Nat
  x : T
def par (i : Nat) : Nat := (i - 1) / 2
section
variable {T : Type} [Inhabited T]
/-- r comes out ahead of s. -/
def ahd (key : T → Int) (r s : Rw T) : Prop := key r.x < key s.x ∨ (key r.x = key s.x ∧ r.t < s.t)
def rat (L : List (Rw T)) (i : Nat) : Rw T := L.getD i ⟨0, 0, default⟩
def swp (L : List (Rw T)) (i j : Nat) : List (Rw T) := (L.set i (rat L j)).set j (rat L i)
theorem rat_eq {L : List (Rw T)} {i : Nat} {r : Rw T} (h : L[i]? = some r) : rat L i = r := by simp [rat, h]
theorem rat_some {L : List (Rw T)} {i : Nat} (h : i < L.length) : L[i]? = some (rat L i) := by simp [rat, h]
theorem rat_mem {L : List (Rw T)} {i : Nat} (h : i < L.length) : rat L i ∈ L := List.mem_of_getElem? (rat_some h)
theorem swp_length (L : List (Rw T)) (i j : Nat) : (swp L i j).length = L.length := by simp [swp]
theorem swp_get {L : List (Rw T)} {i j : Nat} (hi : i < L.length) (hj : j < L.length) (k : Nat) : (swp L i j)[k]? = if k = j then some (rat L i) else if k = i then some (rat L j) else L[k]? := by
  unfold swp
  rw [List.getElem?_set, List.getElem?_set]
  by_cases h1 : k = j
  · subst h1; simp [hj]
  · rw [if_neg (Ne.symm h1), if_neg h1]
    by_cases h2 : k = i
    · subst h2; simp [hi]
    · rw [if_neg (Ne.symm h2), if_neg h2]
theorem rat_swp {L : List (Rw T)} {i j : Nat} (hi : i < L.length) (hj : j < L.length) (k : Nat) : rat (swp L i j) k = if k = j then rat L i else if k = i then rat L j else rat L k := by
  unfold rat
  rw [List.getD_eq_getElem?_getD, swp_get hi hj]
  split
  · rfl
  · split
    · rfl
    · simp [List.getD_eq_getElem?_getD]
theorem swp_perm {L : List (Rw T)} {i j : Nat} (hi : i < L.length) (hj : j < L.length) : (swp L i j).Perm L := by
  have h := Array.swap_perm (xs := L.toArray) (i := i) (j := j) (by simpa using hi) (by simpa using hj)
  have e : (L.toArray.swap i j (by simpa using hi) (by simpa using hj)).toList = swp L i j := by
    apply List.ext_getElem?
    intro k
    rw [swp_get hi hj]
    simp only [Array.getElem?_toList, Array.getElem?_swap]
    have e1 : L[i] = rat L i := by simp [rat, hi]
    have e2 : L[j] = rat L j := by simp [rat, hj]
    by_cases h1 : k = j
    · subst h1
      simp [e1]
    · by_cases h2 : k = i
      · subst h2
        simp [e2, h1, Ne.symm h1]
      · simp [h1, h2, Ne.symm h1, Ne.symm h2]
  rw [← e]
  simpa using h.toList
variable (key : T → Int)
/-- No later in order: at i than at j. -/
def nl (L : List (Rw T)) (i j : Nat) : Prop := ¬ ahd key (rat L j) (rat L i)
/-- All stand in order, but perhaps the one at p, above and below. -/
structure E0 (L : List (Rw T)) (p : Nat) : Prop where
  away : ∀ i, 0 < i → i < L.length → i ≠ p → par i ≠ p → nl key L (par i) i
  over : 0 < p → ∀ i, 0 < i → i < L.length → par i = p → nl key L (par p) i
/-- All stand in order, but perhaps the one at p below. -/
structure E1 (L : List (Rw T)) (p : Nat) : Prop where
  away : ∀ i, 0 < i → i < L.length → par i ≠ p → nl key L (par i) i
  over : 0 < p → ∀ i, 0 < i → i < L.length → par i = p → nl key L (par p) i
def hp (L : List (Rw T)) : Prop := ∀ i, 0 < i → i < L.length → nl key L (par i) i
theorem par_lt {i : Nat} (h : 0 < i) : par i < i := by unfold par; omega
variable {key}
theorem ahd_total {r s : Rw T} (h : r.t ≠ s.t) : ahd key r s ∨ ahd key s r := by unfold ahd; omega
theorem ahd_asym {r s : Rw T} (h : ahd key r s) : ¬ ahd key s r := by unfold ahd at *; omega
theorem ahd_trans {r s q : Rw T} (h : ahd key r s) (h' : ahd key s q) : ahd key r q := by unfold ahd at *; omega
theorem nah_trans {r s q : Rw T} (h : ¬ ahd key s r) (h' : ¬ ahd key q s) : ¬ ahd key q r := by unfold ahd at *; omega
theorem hp_E0 {L : List (Rw T)} (h : hp key L) (p : Nat) : E0 key L p := by
  refine ⟨fun i h0 hi _ _ => h i h0 hi, fun hp0 i h0 hi hpi => ?_⟩
  have hl : p < L.length := by have := par_lt h0; omega
  have h1 := h i h0 hi
  have h2 := h p hp0 hl
  rw [hpi] at h1
  exact nah_trans h2 h1
/-- A step up. -/
theorem E0.up {L : List (Rw T)} {p : Nat} (h : E0 key L p) (h0 : 0 < p) (hp : p < L.length) (ha : ahd key (rat L p) (rat L (par p))) : E0 key (swp L p (par p)) (par p) := by
  have hlt := par_lt h0
  have hq : par p < L.length := by omega
  refine ⟨fun i i0 hi hne hpi => ?_, fun q0 i i0 hi hpi => ?_⟩
  · rw [swp_length] at hi
    unfold nl
    rw [rat_swp hp hq, rat_swp hp hq, if_neg hpi, if_neg hne]
    by_cases e : par i = p
    · rw [if_pos e]
      have : i ≠ p := by have := par_lt i0; omega
      rw [if_neg this]
      exact h.over h0 i i0 hi e
    · rw [if_neg e]
      by_cases e2 : i = p
      · subst e2; exact absurd rfl hpi
      · rw [if_neg e2]
        exact h.away i i0 hi e2 e
  · rw [swp_length] at hi
    have l1 := par_lt q0
    have l2 := par_lt i0
    unfold nl
    rw [rat_swp hp hq, rat_swp hp hq, if_neg (by omega : par (par p) ≠ par p), if_neg (by omega : par (par p) ≠ p), if_neg (by omega : i ≠ par p)]
    have hA := h.away (par p) q0 hq (by omega) (by omega)
    by_cases e : i = p
    · rw [if_pos e]; exact hA
    · rw [if_neg e]
      have hB := h.away i i0 hi e (by omega)
      rw [hpi] at hB
      exact nah_trans hA hB
theorem E0.top {L : List (Rw T)} (h : E0 key L 0) : E1 key L 0 :=
  ⟨fun i h0 hi hn => h.away i h0 hi (by omega) hn, h.over⟩
theorem E0.stop {L : List (Rw T)} {p : Nat} (h : E0 key L p) (ha : ¬ ahd key (rat L p) (rat L (par p))) : E1 key L p := by
  refine ⟨fun i h0 hi hn => ?_, h.over⟩
  by_cases e : i = p
  · subst e; exact ha
  · exact h.away i h0 hi e hn
/-- A step down: c is the least of the three. -/
theorem E1.down {L : List (Rw T)} {p c : Nat} (h : E1 key L p) (hc : c < L.length) (c0 : 0 < c) (hpc : par c = p) (ha : ahd key (rat L c) (rat L p))
    (hl : ∀ i, 0 < i → i < L.length → par i = p → ¬ ahd key (rat L i) (rat L c)) : E1 key (swp L p c) c := by
  have hlt := par_lt c0
  have hp : p < L.length := by omega
  refine ⟨fun i i0 hi hn => ?_, fun _ i i0 hi hpi => ?_⟩
  · rw [swp_length] at hi
    have l2 := par_lt i0
    unfold nl
    rw [rat_swp hp hc, rat_swp hp hc, if_neg hn]
    by_cases e : par i = p
    · rw [if_pos e]
      by_cases e2 : i = c
      · rw [if_pos e2]; exact ahd_asym ha
      · rw [if_neg e2, if_neg (by omega : i ≠ p)]
        exact hl i i0 hi e
    · rw [if_neg e]
      by_cases e2 : i = c
      · subst e2; exact absurd hpc e
      · rw [if_neg e2]
        by_cases e3 : i = p
        · rw [if_pos e3]
          subst e3
          exact h.over i0 c c0 hc hpc
        · rw [if_neg e3]
          exact h.away i i0 hi e
  · rw [swp_length] at hi
    have l2 := par_lt i0
    unfold nl
    rw [rat_swp hp hc, rat_swp hp hc, hpc, if_neg (by omega : p ≠ c), if_pos rfl, if_neg (by omega : i ≠ c), if_neg (by omega : i ≠ p)]
    have := h.away i i0 hi (by omega)
    rw [hpi] at this
    exact this
theorem E1.done {L : List (Rw T)} {p : Nat} (h : E1 key L p) (hl : ∀ i, 0 < i → i < L.length → par i = p → ¬ ahd key (rat L i) (rat L p)) : hp key L := by
  intro i h0 hi
  by_cases e : par i = p
  · have := hl i h0 hi e
    unfold nl
    rw [e]
    exact this
  · exact h.away i h0 hi e
/-- The first stands ahead of all others. -/
theorem hp.first {L : List (Rw T)} (h : hp key L) : ∀ i, i < L.length → ¬ ahd key (rat L i) (rat L 0) := by
  intro i
  induction i using Nat.strongRecOn with
  | _ i ih =>
    intro hi
    by_cases e : i = 0
    · subst e
      unfold ahd; omega
    · have l := par_lt (by omega : 0 < i)
      exact nah_trans (ih _ l (by omega)) (h i (by omega) hi)
theorem rat_take {L : List (Rw T)} {n i : Nat} (h : i < n) : rat (L.take n) i = rat L i := by
  unfold rat
  rw [List.getD_eq_getElem?_getD, List.getD_eq_getElem?_getD, List.getElem?_take, if_pos h]
theorem rat_push {L : List (Rw T)} {r : Rw T} {i : Nat} (h : i < L.length) : rat (L ++ [r]) i = rat L i := by
  unfold rat
  rw [List.getD_eq_getElem?_getD, List.getD_eq_getElem?_getD, List.getElem?_append_left h]
theorem hp.push {L : List (Rw T)} (h : hp key L) (r : Rw T) : E0 key (L ++ [r]) L.length := by
  refine ⟨fun i i0 hi hn hp => ?_, fun _ i i0 hi hpi => ?_⟩
  · have l := par_lt i0
    simp at hi
    unfold nl
    rw [rat_push (by omega), rat_push (by omega)]
    exact h i i0 (by omega)
  · have l := par_lt i0
    simp at hi
    omega
/-- The last one, laid at p in the place of what was there, and cut off behind. -/
theorem hp.took {L : List (Rw T)} (h : hp key L) {p : Nat} (hp0 : p < L.length) : E0 key ((swp L p (L.length - 1)).take (L.length - 1)) p := by
  have hl : L.length - 1 < L.length := by omega
  have hE := hp_E0 h p
  refine ⟨fun i i0 hi hn hpi => ?_, fun p0 i i0 hi hpi => ?_⟩
  · have l := par_lt i0
    rw [List.length_take, swp_length] at hi
    unfold nl
    rw [rat_take (by omega), rat_take (by omega), rat_swp hp0 hl, rat_swp hp0 hl, if_neg (by omega : i ≠ L.length - 1), if_neg hn, if_neg (by omega : par i ≠ L.length - 1), if_neg hpi]
    exact h i i0 (by omega)
  · have l := par_lt i0
    have l2 := par_lt p0
    rw [List.length_take, swp_length] at hi
    unfold nl
    rw [rat_take (by omega), rat_take (by omega), rat_swp hp0 hl, rat_swp hp0 hl, if_neg (by omega : i ≠ L.length - 1), if_neg (by omega : i ≠ p), if_neg (by omega : par p ≠ L.length - 1), if_neg (by omega : par p ≠ p)]
    exact hE.over p0 i i0 (by omega) hpi
theorem hp.init {L : List (Rw T)} (h : hp key L) (n : Nat) : hp key (L.take n) := by
  intro i i0 hi
  have l := par_lt i0
  rw [List.length_take] at hi
  unfold nl
  rw [rat_take (by omega), rat_take (by omega)]
  exact h i i0 (by omega)
theorem took_perm {L : List (Rw T)} {p : Nat} (hp : p < L.length) : (rat L p :: (swp L p (L.length - 1)).take (L.length - 1)).Perm L := by
  have hl : L.length - 1 < L.length := by omega
  have e : swp L p (L.length - 1) = (swp L p (L.length - 1)).take (L.length - 1) ++ [rat L p] := by
    apply List.ext_getElem?
    intro k
    by_cases hk : k < L.length - 1
    · rw [List.getElem?_append_left (by rw [List.length_take, swp_length]; omega), List.getElem?_take, if_pos hk]
    · rw [List.getElem?_append_right (by rw [List.length_take, swp_length]; omega), List.length_take, swp_length]
      by_cases hk2 : k = L.length - 1
      · rw [hk2, swp_get hp hl, if_pos rfl]
        simp [show min (L.length - 1) L.length = L.length - 1 by omega]
      · rw [List.getElem?_eq_none (by rw [swp_length]; omega)]
        rw [List.getElem?_eq_none]
        simp
        omega
  have h1 := swp_perm hp hl
  rw [e] at h1
  exact (List.perm_append_comm (l₁ := [rat L p])).trans h1
end
end Go.Proofs.Ytajdopmhdagehaa
