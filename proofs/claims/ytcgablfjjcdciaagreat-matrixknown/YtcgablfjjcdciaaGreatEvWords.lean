/- The evaluator's contract of LentWords: a block of its own. -/
import Derived.Test.YtcgablfjjcdciaaGreatWords
import Derived.Test.YtcgablfjjcdciaaGreatEvPart
set_option linter.unusedVariables false
set_option linter.unusedSimpArgs false
namespace Go.Proofs.YtcgablfjjcdciaaGreat
open Go Go.RowKit Ev

def litsW : List SV → Option (List Int)
  | [] => some []
  | .int .u32 (.lit x) :: r => (litsW r).map (x :: ·)
  | _ => none
theorem litsW_ok (ρ : Env) (ms : List Nat) : ∀ (s : List SV) (l : List Int), litsW s = some l → s.map (SV.inst ρ ms) = (l.map (Value.int .u32)).map some
  | [], l, h => by simp only [litsW, Option.some.injEq] at h; subst h; rfl
  | .int .u32 (.lit x) :: r, l, h => by
    simp only [litsW, Option.map_eq_some_iff] at h
    obtain ⟨l', h1, rfl⟩ := h
    simp [SV.inst, Ex.den, litsW_ok ρ ms r l' h1]
/-- The words of a slice that is told. -/
def wordsAt (H : List Blk) (v : AV) : Option (List Int) :=
  match v with
  | .tv (.sc (.nils 0 _)) => some []
  | v =>
    match slOf v with
    | some (m, o, n) => if n ≤ 1000 then (span H m o n).bind litsW else none
    | none => none
def wsv (l : List Int) : List SV := l.map fun x => .int .u32 (.lit x)
theorem wordsAt_ok {ρ : Env} {ms : List Nat} {H : List Blk} {B : Nat} {w : World} {v : AV} {l : List Int} (hH : Holds ρ ms H B w) (h : wordsAt H v = some l) {u : Value} (hu : v.inst ρ ms = some u) :
    ∃ p c, u = .slice p l.length c ∧ l.length ≤ 1000 ∧ Hid (0 < l.length → ∃ b off, p = some ⟨b, off, none⟩ ∧ ∀ j, j < l.length → w.cell? ⟨b, off + j, none⟩ = some (.int .u32 (l.getD j 0))) := by
  unfold wordsAt at h
  split at h
  · simp only [Option.some.injEq] at h
    subst h
    simp only [AV.inst, TV.inst, SV.inst, Option.some.injEq] at hu
    exact ⟨_, _, hu.symm, by simp, fun h => absurd h (by simp)⟩
  · split at h
    case h_2 => cases h
    rename_i m o n hs
    split at h
    case isFalse => cases h
    rename_i hn
    rw [Option.bind_eq_some_iff] at h
    obtain ⟨s, h1, h2⟩ := h
    obtain ⟨b, c, hb, rfl⟩ := slOf_ok hs hu
    obtain ⟨vs, r1, r2, r3⟩ := span_ok ((hH.sees m).at _ _) hb h1
    have e : vs = l.map (Value.int .u32) := by
      have := litsW_ok ρ ms s l h2
      rw [r1] at this
      exact List.map_inj_right (fun _ _ h => Option.some.inj h) |>.1 this
    subst e
    have hl : l.length = n := by simpa using r2
    subst hl
    refine ⟨_, c, rfl, hn, fun _ => ⟨b, o, rfl, fun j hj => ?_⟩⟩
    exact r3 j _ (by simp [List.getD, List.getElem?_eq_getElem hj])
def tabLent : CallF := fun g xs H =>
  if g = 66 then
    match xs with
    | [v] => (wordsAt H v).map fun l => (.tv (.sc (.slg H.length 0 0 (l.length + 70))), H ++ [newBlk (wsv (W.lent l)), capBlk 1])
    | _ => none
  else none
theorem wsv_ok (ρ : Env) (ms : List Nat) (l : List Int) : (wsv l).map (SV.inst ρ ms) = (l.map (Value.int .u32)).map some := by simp [wsv, SV.inst, Ex.den]
theorem tabLent_ok (ρ : Env) : CallOk Tryz.prog ρ tabLent := by
  intro g xs H v H' h ms B w args ha hH
  unfold tabLent at h
  split at h
  case isFalse => cases h
  rename_i eg
  subst eg
  split at h
  case h_2 => cases h
  rename_i x
  rw [Option.map_eq_some_iff] at h
  obtain ⟨l, h1, h2⟩ := h
  simp only [Prod.mk.injEq] at h2
  obtain ⟨rfl, rfl⟩ := h2
  obtain ⟨u, rfl, hau⟩ : ∃ u, args = #[u] ∧ x.inst ρ ms = some u := by
    obtain ⟨args⟩ := args
    cases args with
    | nil => simp at ha
    | cons u r =>
      cases r with
      | cons _ _ => simp at ha
      | nil =>
        simp only [List.map_cons, List.map_nil, List.cons.injEq, and_true] at ha
        exact ⟨u, rfl, ha⟩
  · 
    obtain ⟨p, c, rfl, hl, A⟩ := wordsAt_ok hH h1 hau
    refine (W.lent_free w p c l A (by omega)).mono ?_
    rintro e w' ⟨v', rfl, ho, hB⟩
    rcases ho.2 with ⟨_, e0⟩ | ⟨b, cap, cur, rfl, hbg, hg, hn, hm, hcs, htk⟩
    · rw [W.lent_length] at e0; omega
    · have hll := W.lent_length l
      have h0 : Holds ρ ms H B w' := hH.below hB
      have hlt : b < w'.heap.size := (Array.getElem?_eq_some_iff.1 hg).1
      have hcell : ∀ j, w'.cell? ⟨b, j, none⟩ = cur[j]? := fun j => cell_of_row w' b j _ _ _ hg
      have hfr : ∀ j, w'.frozen? ⟨b, j, none⟩ = false := fun j => frozen_of_row w' b j cur _ hg
      have hin : ∀ j u, ((W.lent l).map (Value.int .u32))[j]? = some u → w'.cell? ⟨b, j, none⟩ = some u := fun j u hj => by
        rw [hcell, ← Array.getElem?_toList]
        have : cur.toList.take ((W.lent l).length * 1) = (W.lent l).map (Value.int .u32) := htk
        rw [← this, List.getElem?_take] at hj
        split at hj
        · exact hj
        · cases hj
      have h2 := h0.pushAt (wsv_ok ρ ms (W.lent l)) (Nat.le_refl _) (Nat.le_trans hH.big hbg) hlt
        (fun i b' k hi hk hne e => by have := hH.bnd i b' k hi hk hne; omega) (fun _ _ _ _ => ⟨rfl, rfl⟩) (fun _ _ _ q1 q2 => ⟨q1, q2⟩)
        (fun j u hj => ⟨hin j u hj, hfr j⟩)
      have h3 := h2.pushCap (b := b) (c := cap) (s := 1) (by simp) (fun j hj => ⟨by rw [hcell, Array.getElem?_eq_getElem (by omega)]; rfl, hfr j⟩)
      rw [List.append_assoc, List.append_assoc] at h3
      refine ⟨ms ++ [b, cap], _, rfl, List.prefix_append _ _, ?_, h3, hB.mono hH.big⟩
      simp only [AV.inst, TV.inst, SV.inst]
      exact grown_iff.2 ⟨b, cap, by simp [← hH.len], by simp [← hH.len], by omega, by rw [hll]; rfl⟩
end Go.Proofs.YtcgablfjjcdciaaGreat
