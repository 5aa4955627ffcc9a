/- The evaluator's contracts of KeptWords and OverWords. -/
import Derived.Test.YtcgablfjjcdciaaGreatWords2
import Derived.Test.YtcgablfjjcdciaaGreatEvWords
set_option linter.unusedVariables false
set_option linter.unusedSimpArgs false
namespace Go.Proofs.YtcgablfjjcdciaaGreat
open Go Go.RowKit Ev

theorem args_two {ρ : Env} {ms : List Nat} {x y : AV} {args : Array Value} (ha : [x, y].map (AV.inst ρ ms) = args.toList.map some) : ∃ u v, args = #[u, v] ∧ x.inst ρ ms = some u ∧ y.inst ρ ms = some v := by
  obtain ⟨args⟩ := args
  cases args with
  | nil => simp at ha
  | cons u r =>
    cases r with
    | nil => simp at ha
    | cons v r =>
      cases r with
      | cons _ _ => simp at ha
      | nil =>
        simp only [List.map_cons, List.map_nil, List.cons.injEq, and_true] at ha
        exact ⟨u, v, rfl, ha.1, ha.2⟩
def conKept : ConF := fun g xs H =>
  if g = 68 then
    match xs with
    | [v, u] =>
      match wordsAt H v, wordsAt H u with
      | some fl, some l => some (.tv (.sc (.bool (decide (fl = W.lent l)))))
      | _, _ => none
    | _ => none
  else none
theorem conKept_ok (ρ : Env) : ConOk Tryz.prog ρ conKept := by
  intro g xs H v h ms B w args ha hH
  unfold conKept at h
  split at h
  case isFalse => cases h
  rename_i eg
  subst eg
  split at h
  case h_2 => cases h
  rename_i x y
  split at h
  case h_2 => cases h
  rename_i fl l h1 h2
  cases h
  obtain ⟨u1, u2, rfl, a1, a2⟩ := args_two ha
  obtain ⟨p1, c1, rfl, hl1, A1⟩ := wordsAt_ok hH h1 a1
  obtain ⟨p2, c2, rfl, hl2, A2⟩ := wordsAt_ok hH h2 a2
  refine (W.kept_free w p1 p2 c1 c2 fl l A1 A2 (by omega) (by omega)).mono ?_
  rintro e w' ⟨rfl, hB⟩
  exact ⟨_, rfl, rfl, hB⟩
/-- A block that was written over is forgotten. -/
theorem holds_lost {ρ : Env} {ms : List Nat} {H : List Blk} {B : Nat} {w w' : World} (h : Holds ρ ms H B w) {m b : Nat} {k : Blk} (hm : ms[m]? = some b) (hk : H[m]? = some k) (hne : k.cells ≠ []) (hg : w.grownBy w' (some b)) : Holds ρ ms (H.set m dead) B w' := by
  have h0 := h.kill m
  have far : ∀ (i b' : Nat) (k' : Blk), ms[i]? = some b' → (H.set m dead)[i]? = some k' → k'.cells ≠ [] → b' ≠ b ∧ b' < w.heap.size := fun i b' k' hi hk' hn => by
    refine ⟨fun e => ?_, h0.bnd i b' k' hi hk' hn⟩
    subst e
    rw [List.getElem?_set] at hk'
    by_cases e2 : m = i
    · rw [if_pos e2] at hk'
      split at hk'
      · cases hk'; exact hn rfl
      · cases hk'
    · rw [if_neg e2] at hk'
      exact e2 (h.inj m i b' k k' hm hi hk hk' hne hn)
  have blk : ∀ b', b' ≠ b → b' < w.heap.size → w'.heap[b']? = w.heap[b']? := fun b' h1 h2 => hg.block b' h2 (by simpa using h1)
  refine ⟨h0.len, h0.gl, h0.inj, h0.low, fun i b' k' hi hk' hn => Nat.lt_of_lt_of_le (h0.bnd i b' k' hi hk' hn) hg.size, Nat.le_trans h0.big hg.size, h0.plain, ?_, ?_⟩
  · intro i b' k' hi hk' j s hs
    obtain ⟨q1, q2⟩ := far i b' k' hi hk' (mem_nil_of_get hs)
    obtain ⟨v, r1, r2, r3⟩ := h0.cell i b' k' hi hk' j s hs
    refine ⟨v, r1, ?_, fun hr => ?_⟩
    · rw [← r2]; exact World.cell?_of_block (blk b' q1 q2)
    · rw [← r3 hr]; exact World.frozen?_of_block (blk b' q1 q2)
  · intro i b' c k0 k' hi hc hk0 hr0 hn0 hk' hcap j hj
    obtain ⟨q1, q2⟩ := far i b' k0 hi hk0 hn0
    obtain ⟨r1, r2⟩ := h0.room i b' c k0 k' hi hc hk0 hr0 hn0 hk' hcap j hj
    exact ⟨by rw [World.cell?_of_block (w := w) (blk b' q1 q2)]; exact r1, by rw [World.frozen?_of_block (w := w) (blk b' q1 q2)]; exact r2⟩
def tabOver : CallF := fun g xs H =>
  if g = 69 then
    match xs with
    | [v] =>
      match slOf v with
      | some (m, o, n) =>
        match H[m]? with
        | some k => if k.ro = false ∧ o + n ≤ k.cells.length ∧ 0 < n ∧ n ≤ 1000 then some (.tup [], H.set m dead) else none
        | none => none
      | none => none
    | _ => none
  else none
theorem tabOver_ok (ρ : Env) : CallOk Tryz.prog ρ tabOver := by
  intro g xs H v H' h ms B w args ha hH
  unfold tabOver at h
  split at h
  case isFalse => cases h
  rename_i eg
  subst eg
  split at h
  case h_2 => cases h
  rename_i x
  split at h
  case h_2 => cases h
  rename_i m o n hs
  split at h
  case h_2 => cases h
  rename_i k hk
  split at h
  case isFalse => cases h
  rename_i hc
  obtain ⟨c1, c2, c3, c4⟩ := hc
  cases h
  obtain ⟨u, rfl, hau⟩ : ∃ u, args = #[u] ∧ x.inst ρ ms = some u := by
    obtain ⟨args⟩ := args
    cases args with
    | nil => simp at ha
    | cons u r =>
      cases r with
      | cons _ _ => simp at ha
      | nil =>
        simp only [List.map_cons, List.map_nil, List.cons.injEq, and_true] at ha
        exact ⟨u, rfl, ha⟩
  obtain ⟨b, c, hb, rfl⟩ := slOf_ok hs hau
  have hne : k.cells ≠ [] := fun e => by rw [e] at c2; simp at c2; omega
  refine (W.over_free w b o n c (fun j hj => ?_) (by omega)).mono ?_
  · obtain ⟨v, _, r2, r3⟩ := hH.cell m b k hb hk (o + j) (k.cells[o + j]'(by omega)) (List.getElem?_eq_getElem (by omega))
    exact ⟨⟨v, r2⟩, r3 c1⟩
  · rintro e w' ⟨rfl, hg⟩
    refine ⟨ms, .tuple #[], rfl, List.prefix_refl _, rfl, holds_lost hH hb hk hne hg, (Below.refl B w).grown hg hH.big (fun r e => by cases e; exact hH.low m b k hb hk c1)⟩
def tabW : CallF := fun g xs H => match tabLent g xs H with | some r => some r | none => tabOver g xs H
theorem tabW_ok (ρ : Env) : CallOk Tryz.prog ρ tabW := by
  intro g xs H v H' h
  unfold tabW at h
  split at h
  · rename_i r hr
    cases h
    exact tabLent_ok ρ g xs H v H' hr
  · exact tabOver_ok ρ g xs H v H' h
end Go.Proofs.YtcgablfjjcdciaaGreat
