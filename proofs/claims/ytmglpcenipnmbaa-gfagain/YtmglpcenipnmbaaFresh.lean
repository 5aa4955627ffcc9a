/- Operations that each make something new, in whatever order: one contract each, and one way behind them all. -/
import Derived.Test.YtmglpcenipnmbaaBase
import Derived.RegionTactic
set_option linter.unusedVariables false
namespace Go.Proofs.Ytmglpcenipnmbaa
open Go Go.RowKit

/-- The block that a slice or a pointer leads to. -/
def blkOf : Value → Option Nat
  | .slice (some a) _ _ => some a.block
  | .pointer (some a) => some a.block
  | _ => none
def upd (d : Nat → Bool) (i : Nat) : Nat → Bool := fun j => if j = i then true else d j
/-- How many are not done. -/
def left (S : List Nat) (d : Nat → Bool) : Nat := (S.filter fun i => !d i).length
theorem left_upd {S : List Nat} (hS : S.Nodup) {d : Nat → Bool} {i : Nat} (hi : i ∈ S) (hd : d i = false) : left S d = left S (upd d i) + 1 := by
  unfold left
  induction S with
  | nil => cases hi
  | cons j S ih =>
    rw [List.nodup_cons] at hS
    rcases List.mem_cons.1 hi with rfl | hi
    · have e : S.filter (fun k => !upd d i k) = S.filter (fun k => !d k) := by
        refine List.filter_congr fun k hk => ?_
        have : k ≠ i := fun h => hS.1 (h ▸ hk)
        simp [upd, this]
      rw [List.filter_cons, List.filter_cons, e]
      simp [hd, upd]
    · have hne : j ≠ i := fun h => hS.1 (h ▸ hi)
      have := ih hS.2 hi
      rw [List.filter_cons, List.filter_cons]
      simp only [upd, if_neg hne] at this ⊢
      split <;> simp [this]
/-- The temporaries: those of the operations done are told, all others are as they were. -/
structure RelA (S : List Nat) (dst : Nat → Nat) (a0 : Act) (d : Nat → Bool) (vals : Nat → Value) (a : Act) : Prop where
  defers : a.defers = a0.defers
  size : a.tmps.size = a0.tmps.size
  done : ∀ i ∈ S, d i = true → a.tmps[dst i]? = some (vals i)
  rest : ∀ s, (∀ i ∈ S, d i = true → dst i ≠ s) → a.tmps[s]? = a0.tmps[s]?
theorem wpAny_fresh {P : Program} {ops : Array Oper} {Q : Exit → Act → World → Prop} {S : List Nat} (hS : S.Nodup) {dst : Nat → Nat} (hdst : ∀ i ∈ S, ∀ j ∈ S, dst i = dst j → i = j) {a0 : Act} {w0 : World}
    (hops : ∀ i ∈ S, ∃ o, ops[i]? = some o ∧ o.guard = none ∧ o.dst = some (dst i)) (hin : ∀ i ∈ S, dst i < a0.tmps.size)
    {bl : Nat → Value → Option Nat} {Φ : Nat → World → Value → Prop} (hΦ : ∀ i w w' v, Φ i w v → Below w.heap.size w w' → Φ i w' v) {L : (Nat → Bool) → Array Bool}
    (hL : ∀ d, (∃ i ∈ S, d i = false) → Region.ready .any ops (L d) ≠ [] ∧ ∀ i ∈ Region.ready .any ops (L d), i ∈ S ∧ d i = false) (hset : ∀ d, ∀ i ∈ S, (L d).setIfInBounds i true = L (upd d i))
    (hstep : ∀ i ∈ S, ∀ o, ops[i]? = some o → ∀ (a : Act) (w : World) (K : Act → World → Prop), (∀ s, (∀ j ∈ S, dst j ≠ s) → a.tmps[s]? = a0.tmps[s]?) → Below w0.heap.size w0 w →
      (∀ v w', Φ i w' v → (∀ g, bl i v = some g → w.heap.size ≤ g ∧ g < w'.heap.size) → Below w.heap.size w w' → K (a.put o.dst v) w') → o.wp P a w K Q)
    {F : Nat} (hk : ∀ d vals a w', (∀ i ∈ S, d i = true) → RelA S dst a0 d vals a → (∀ i ∈ S, Φ i w' (vals i)) → (∀ i ∈ S, ∀ g, bl i (vals i) = some g → w0.heap.size ≤ g ∧ g < w'.heap.size) → (∀ i ∈ S, ∀ j ∈ S, i ≠ j → ∀ g, bl i (vals i) = some g → bl j (vals j) ≠ some g) → Below w0.heap.size w0 w' → wpAny P .any ops Q F (L d) a w') :
    ∀ (n : Nat) (d : Nat → Bool) (vals : Nat → Value) (a : Act) (w : World), left S d = n → RelA S dst a0 d vals a → (∀ i ∈ S, d i = true → Φ i w (vals i)) → (∀ i ∈ S, d i = true → ∀ g, bl i (vals i) = some g → w0.heap.size ≤ g ∧ g < w.heap.size) → (∀ i ∈ S, d i = true → ∀ j ∈ S, d j = true → i ≠ j → ∀ g, bl i (vals i) = some g → bl j (vals j) ≠ some g) → Below w0.heap.size w0 w → wpAny P .any ops Q (n + F) (L d) a w := by
  intro n
  induction n with
  | zero =>
    intro d vals a w hl hR h1 h2 h3 hB
    have hall : ∀ i ∈ S, d i = true := fun i hi => by
      cases hd : d i with
      | true => rfl
      | false => have := left_upd hS hi hd; omega
    rw [Nat.zero_add]
    exact hk d vals a w hall hR (fun i hi => h1 i hi (hall i hi)) (fun i hi => h2 i hi (hall i hi)) (fun i hi j hj => h3 i hi (hall i hi) j hj (hall j hj)) hB
  | succ n ih =>
    intro d vals a w hl hR h1 h2 h3 hB
    have hex : ∃ i ∈ S, d i = false := by
      refine Classical.byContradiction fun hno => ?_
      have : S.filter (fun i => !d i) = [] := List.filter_eq_nil_iff.2 fun i hi => by
        cases hd : d i with
        | true => simp
        | false => exact absurd ⟨i, hi, hd⟩ hno
      unfold left at hl
      rw [this] at hl
      simp at hl
    obtain ⟨hr1, hr2⟩ := hL d hex
    rw [show n + 1 + F = (n + F) + 1 by omega]
    refine ⟨fun h => absurd h hr1, fun i hi => ?_⟩
    obtain ⟨hiS, hdi⟩ := hr2 i hi
    obtain ⟨o, ho, hg, hd⟩ := hops i hiS
    refine wpOp_step ho fun K hK => ?_
    have hw : Region.wanted o (yielded ops a.tmps) = true := by unfold Region.wanted; rw [hg]
    rw [if_pos hw]
    refine hstep i hiS o ho a w K (fun s hs => hR.rest s fun j hj _ => hs j hj) hB fun v w' q1 q2 q3 => hK _ _ ?_
    rw [hset d i hiS]
    have hds : dst i < a.tmps.size := by rw [hR.size]; exact hin i hiS
    refine ih (upd d i) (fun j => if j = i then v else vals j) _ w' (by have := left_upd hS hiS hdi; omega) ?_ ?_ ?_ ?_ (hB.trans (q3.mono hB.size))
    · rw [hd]
      refine ⟨hR.defers, by show (a.tmps.setIfInBounds (dst i) v).size = _; rw [Array.size_setIfInBounds]; exact hR.size, fun j hj hdj => ?_, fun s hs => ?_⟩
      · show (a.tmps.setIfInBounds (dst i) v)[dst j]? = _
        by_cases e : j = i
        · subst e
          simp [hds]
        · rw [Array.getElem?_setIfInBounds_ne (fun h => e (hdst j hj i hiS h.symm)), if_neg e]
          exact hR.done j hj (by simpa [upd, e] using hdj)
      · show (a.tmps.setIfInBounds (dst i) v)[s]? = _
        have hne : dst i ≠ s := hs i hiS (by simp [upd])
        rw [Array.getElem?_setIfInBounds_ne hne]
        refine hR.rest s fun j hj hdj => hs j hj ?_
        simp only [upd]
        split
        · rfl
        · exact hdj
    · intro j hj hdj
      by_cases e : j = i
      · subst e; simpa using q1
      · simp only [if_neg e]
        exact hΦ j w w' _ (h1 j hj (by simpa [upd, e] using hdj)) q3
    · intro j hj hdj g hg'
      by_cases e : j = i
      · subst e
        simp only [if_pos] at hg'
        have := q2 g hg'
        have := hB.size
        omega
      · simp only [if_neg e] at hg'
        have := h2 j hj (by simpa [upd, e] using hdj) g hg'
        have := q3.size
        omega
    · intro j hj hdj k hk' hdk hne g hg'
      by_cases e : j = i
      · subst e
        simp only [if_pos] at hg'
        have hk2 : k ≠ j := fun h => hne h.symm
        simp only [if_neg hk2]
        intro hg2
        have := q2 g hg'
        have := h2 k hk' (by simpa [upd, hk2] using hdk) g hg2
        omega
      · simp only [if_neg e] at hg'
        by_cases e2 : k = i
        · subst e2
          simp only [if_pos]
          intro hg2
          have := q2 g hg2
          have := h2 j hj (by simpa [upd, e] using hdj) g hg'
          omega
        · simp only [if_neg e2]
          exact h3 j hj (by simpa [upd, e] using hdj) k hk' (by simpa [upd, e2] using hdk) hne g hg'
theorem wpAny_fresh0 {P : Program} {ops : Array Oper} {Q : Exit → Act → World → Prop} {S : List Nat} (hS : S.Nodup) {dst : Nat → Nat} (hdst : ∀ i ∈ S, ∀ j ∈ S, dst i = dst j → i = j) {a0 : Act} {w0 : World}
    (hops : ∀ i ∈ S, ∃ o, ops[i]? = some o ∧ o.guard = none ∧ o.dst = some (dst i)) (hin : ∀ i ∈ S, dst i < a0.tmps.size)
    {bl : Nat → Value → Option Nat} {Φ : Nat → World → Value → Prop} (hΦ : ∀ i w w' v, Φ i w v → Below w.heap.size w w' → Φ i w' v) {L : (Nat → Bool) → Array Bool}
    (hL : ∀ d, (∃ i ∈ S, d i = false) → Region.ready .any ops (L d) ≠ [] ∧ ∀ i ∈ Region.ready .any ops (L d), i ∈ S ∧ d i = false) (hset : ∀ d, ∀ i ∈ S, (L d).setIfInBounds i true = L (upd d i))
    (hstep : ∀ i ∈ S, ∀ o, ops[i]? = some o → ∀ (a : Act) (w : World) (K : Act → World → Prop), (∀ s, (∀ j ∈ S, dst j ≠ s) → a.tmps[s]? = a0.tmps[s]?) → Below w0.heap.size w0 w →
      (∀ v w', Φ i w' v → (∀ g, bl i v = some g → w.heap.size ≤ g ∧ g < w'.heap.size) → Below w.heap.size w w' → K (a.put o.dst v) w') → o.wp P a w K Q)
    {F : Nat} (hk : ∀ d vals a w', (∀ i ∈ S, d i = true) → RelA S dst a0 d vals a → (∀ i ∈ S, Φ i w' (vals i)) → (∀ i ∈ S, ∀ g, bl i (vals i) = some g → w0.heap.size ≤ g ∧ g < w'.heap.size) → (∀ i ∈ S, ∀ j ∈ S, i ≠ j → ∀ g, bl i (vals i) = some g → bl j (vals j) ≠ some g) → Below w0.heap.size w0 w' → wpAny P .any ops Q F (L d) a w') {fuel : Nat} {listed : Array Bool} (hfu : fuel = S.length + F) (hli : listed = L fun _ => false) :
    wpAny P .any ops Q fuel listed a0 w0 := by
  subst hfu hli
  refine wpAny_fresh hS hdst hops hin hΦ hL hset hstep hk S.length (fun _ => false) (fun _ => undef) a0 w0 (by simp [left]) ⟨rfl, rfl, (fun i _ h => by cases h), (fun s _ => rfl)⟩ (fun i _ h => by cases h) (fun i _ h => by cases h) (fun i _ h => by cases h) (Below.refl _ _)
/-- Two that are done. -/
theorem RelA.two {i j : Nat} {dst : Nat → Nat} {a0 a : Act} {d : Nat → Bool} {vals : Nat → Value} (h : RelA [i, j] dst a0 d vals a) (hd : ∀ k ∈ [i, j], d k = true) (hij : dst i ≠ dst j) : a = (a0.put (some (dst i)) (vals i)).put (some (dst j)) (vals j) := by
  obtain ⟨t, df⟩ := a
  obtain ⟨t0, df0⟩ := a0
  have e1 : df = df0 := h.defers
  have e2 : t = (t0.setIfInBounds (dst i) (vals i)).setIfInBounds (dst j) (vals j) := by
    refine Array.ext_getElem? fun s => ?_
    by_cases s2 : dst j = s
    · subst s2
      have := h.done j (by simp) (hd j (by simp))
      have hlt : dst j < t0.size := by rw [← h.size]; exact (Array.getElem?_eq_some_iff.1 this).1
      rw [this]
      simp [hlt]
    · rw [Array.getElem?_setIfInBounds_ne s2]
      by_cases s1 : dst i = s
      · subst s1
        have := h.done i (by simp) (hd i (by simp))
        have hlt : dst i < t0.size := by rw [← h.size]; exact (Array.getElem?_eq_some_iff.1 this).1
        rw [this]
        simp [hlt]
      · rw [Array.getElem?_setIfInBounds_ne s1]
        exact h.rest s fun k hk _ => by
          rcases List.mem_cons.1 hk with rfl | hk
          · exact s1
          · rw [List.mem_singleton] at hk; subst hk; exact s2
  subst e1 e2
  rfl
/-- Four that are done. -/
theorem RelA.four {i j k l : Nat} {dst : Nat → Nat} {a0 a : Act} {d : Nat → Bool} {vals : Nat → Value} (h : RelA [i, j, k, l] dst a0 d vals a) (hd : ∀ m ∈ [i, j, k, l], d m = true) (h1 : dst i ≠ dst j) (h2 : dst i ≠ dst k) (h3 : dst i ≠ dst l) (h4 : dst j ≠ dst k) (h5 : dst j ≠ dst l) (h6 : dst k ≠ dst l) :
    a = (((a0.put (some (dst i)) (vals i)).put (some (dst j)) (vals j)).put (some (dst k)) (vals k)).put (some (dst l)) (vals l) := by
  obtain ⟨t, df⟩ := a
  obtain ⟨t0, df0⟩ := a0
  have e1 : df = df0 := h.defers
  have lt : ∀ m ∈ [i, j, k, l], dst m < t0.size ∧ t[dst m]? = some (vals m) := fun m hm => by
    have := h.done m hm (hd m hm)
    exact ⟨by rw [← h.size]; exact (Array.getElem?_eq_some_iff.1 this).1, this⟩
  have e2 : t = (((t0.setIfInBounds (dst i) (vals i)).setIfInBounds (dst j) (vals j)).setIfInBounds (dst k) (vals k)).setIfInBounds (dst l) (vals l) := by
    refine Array.ext_getElem? fun s => ?_
    by_cases s4 : dst l = s
    · subst s4
      obtain ⟨q1, q2⟩ := lt l (by simp)
      rw [q2]; simp [q1]
    · rw [Array.getElem?_setIfInBounds_ne s4]
      by_cases s3 : dst k = s
      · subst s3
        obtain ⟨q1, q2⟩ := lt k (by simp)
        rw [q2]; simp [q1]
      · rw [Array.getElem?_setIfInBounds_ne s3]
        by_cases s2 : dst j = s
        · subst s2
          obtain ⟨q1, q2⟩ := lt j (by simp)
          rw [q2]; simp [q1]
        · rw [Array.getElem?_setIfInBounds_ne s2]
          by_cases s1 : dst i = s
          · subst s1
            obtain ⟨q1, q2⟩ := lt i (by simp)
            rw [q2]; simp [q1]
          · rw [Array.getElem?_setIfInBounds_ne s1]
            exact h.rest s fun m hm _ => by
              simp only [List.mem_cons, List.not_mem_nil, or_false] at hm
              rcases hm with rfl | rfl | rfl | rfl <;> assumption
  subst e1 e2
  rfl
theorem eval_tmp {a : Act} {s : Nat} {v : Value} (h : a.tmps[s]? = some v) : a.eval (.tmp s) = v := by simp [Act.eval, h]
theorem of_ready {ops : Array Oper} {listed : Array Bool} {rs : List Nat} {p : Nat → Prop} (h : Region.ready .any ops listed = rs) (hne : rs ≠ []) (hall : ∀ i ∈ rs, p i) : Region.ready .any ops listed ≠ [] ∧ ∀ i ∈ Region.ready .any ops listed, p i := by
  rw [h]
  exact ⟨hne, hall⟩
end Go.Proofs.Ytmglpcenipnmbaa
