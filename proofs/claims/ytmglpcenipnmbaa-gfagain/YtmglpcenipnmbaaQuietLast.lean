/- A region that draws: reads and quiet calls in whatever order, and one operation that waits for all of them. -/
import Derived.Test.YtmglpcenipnmbaaBase
import Derived.RegionTactic
import Derived.Deep.QuietTactic
set_option linter.unusedVariables false
namespace Go.Proofs.Ytmglpcenipnmbaa
open Go Go.RowKit

/-- The last one waits for all others; each other one waits for earlier ones alone; none has a guard. -/
def lastB (l : List Oper) (s : Oper) : Bool :=
  s.guard.isNone && (List.range l.length).all (fun i => s.after.any fun e => Region.binds .any e && e.on == i) && s.after.all (fun e => decide (e.on < l.length)) &&
  (List.range l.length).all fun i => match l[i]? with | some o => o.guard.isNone && o.after.all (fun e => decide (e.on < i)) | none => true
structure LastOk (l : List Oper) (s : Oper) : Prop where
  sg : s.guard = none
  sw : ∀ i, i < l.length → ∃ e ∈ s.after, Region.binds .any e = true ∧ e.on = i
  sl : ∀ e ∈ s.after, e.on < l.length
  lg : ∀ (i : Nat) (o : Oper), l[i]? = some o → o.guard = none ∧ ∀ e ∈ o.after, e.on < i
theorem lastB_ok {l : List Oper} {s : Oper} (h : lastB l s = true) : LastOk l s := by
  simp only [lastB, Bool.and_eq_true, Option.isNone_iff_eq_none, List.all_eq_true, List.mem_range] at h
  obtain ⟨⟨⟨h1, h2⟩, h3⟩, h4⟩ := h
  refine ⟨h1, fun i hi => ?_, fun e he => ?_, fun i o ho => ?_⟩
  · have := h2 i hi
    simp only [Array.any_eq_true', Bool.and_eq_true, beq_iff_eq] at this
    obtain ⟨e, q1, q2, q3⟩ := this
    exact ⟨e, q1, q2, q3⟩
  · have := Array.all_eq_true'.1 h3 e he
    simpa using this
  · have hi : i < l.length := (List.getElem?_eq_some_iff.1 ho).1
    have := h4 i hi
    rw [ho] at this
    simp only [Bool.and_eq_true, Option.isNone_iff_eq_none] at this
    refine ⟨this.1, fun e he => ?_⟩
    have := Array.all_eq_true'.1 this.2 e he
    simpa using this
variable {P : Program} {l : List Oper} {s : Oper} {C : World → Prop}
theorem at_old {i : Nat} (hi : i < l.length) : (l ++ [s]).toArray[i]? = l.toArray[i]? := by simp [List.getElem?_append, hi]
theorem at_last : (l ++ [s]).toArray[l.length]? = some s := by simp
theorem listed_old {L : Array Bool} (hL : L.size = l.length) {i : Nat} (hi : i < l.length) (d : Bool) : (L.push false).getD i d = L.getD i d := by
  simp [Array.getD, hL, hi, Nat.lt_succ_of_lt hi, Array.getElem_push]
/-- One of the first comes up among all just as among the first. -/
theorem ready_old (ok : LastOk l s) {L : Array Bool} (hL : L.size = l.length) {i : Nat} (hi : i < l.length) : i ∈ Region.ready .any (l ++ [s]).toArray (L.push false) ↔ i ∈ Region.ready .any l.toArray L := by
  rw [mem_ready, mem_ready, listed_old hL hi, at_old hi]
  refine and_congr_right fun _ => exists_congr fun o => and_congr_right fun ho => ?_
  have hl := ok.lg i o (by simpa using ho)
  refine forall_congr' fun e => forall_congr' fun he => forall_congr' fun _ => ?_
  rw [listed_old hL (Nat.lt_trans (hl.2 e he) hi)]
/-- Nothing of the first comes up: all are listed. -/
theorem all_listed (ok : LastOk l s) {L : Array Bool} (hL : L.size = l.length) (h : Region.ready .any l.toArray L = []) : ∀ i, i < l.length → L.getD i true = true := by
  intro i
  induction i using Nat.strongRecOn with
  | _ i ih =>
    intro hi
    refine Decidable.byContradiction fun hn => ?_
    have hmem : i ∈ Region.ready .any l.toArray L := by
      rw [mem_ready]
      refine ⟨by simpa using hn, l[i], by simp [hi], fun e he _ => ?_⟩
      have hlt := (ok.lg i l[i] (by simp [hi])).2 e he
      have := ih e.on hlt (Nat.lt_trans hlt hi)
      have hs : e.on < L.size := by omega
      simpa [Array.getD, hs] using this
    rw [h] at hmem
    cases hmem
theorem last_ready (ok : LastOk l s) {L : Array Bool} (hL : L.size = l.length) : l.length ∈ Region.ready .any (l ++ [s]).toArray (L.push false) ↔ ∀ i, i < l.length → L.getD i true = true := by
  rw [mem_ready]
  constructor
  · rintro ⟨_, o, ho, h⟩ i hi
    rw [at_last] at ho
    cases ho
    obtain ⟨e, q1, q2, q3⟩ := ok.sw i hi
    have := h e q1 q2
    rw [q3, listed_old hL hi] at this
    have hs : i < L.size := by omega
    simpa [Array.getD, hs] using this
  · intro h
    refine ⟨by simp only [Array.getD, Array.size_push, hL, Nat.lt_succ_self, dif_pos]; simp [Array.getElem_push, hL], s, at_last, fun e he _ => ?_⟩
    have hlt := ok.sl e he
    rw [listed_old hL hlt]
    have := h e.on hlt
    have hs : e.on < L.size := by omega
    simpa [Array.getD, hs] using this
theorem wpAny_quiet_last (ok : LastOk l s) {Q : Exit → Act → World → Prop} {Q1 : Act → Prop} (hQ : ∀ a w, C w → Q1 a → s.wp P a w (fun a' w' => Q .normal a' w') Q) :
    ∀ (f : Nat) (L : Array Bool) (a : Act) (w : World), C w → L.size = l.length → wpAnyQ P .any l.toArray C Q1 f L a → wpAny P .any (l ++ [s]).toArray Q (f + 1) (L.push false) a w := by
  intro f
  have fin : ∀ (f : Nat) (L : Array Bool) (a : Act) (w : World), C w → L.size = l.length → Region.ready .any l.toArray L = [] → Q1 a → wpAny P .any (l ++ [s]).toArray Q (f + 1) (L.push false) a w := by
    intro f L a w hC hL hr hq
    have hall := all_listed ok hL hr
    have hm := (last_ready (s := s) ok hL).2 hall
    refine ⟨(fun h => by rw [h] at hm; cases hm), fun i hi => ?_⟩
    have him : i = l.length := by
      have hlt : i < l.length + 1 := by
        obtain ⟨_, o, ho, _⟩ := mem_ready.1 hi
        have := (Array.getElem?_eq_some_iff.1 ho).1
        simpa using this
      refine Decidable.byContradiction fun hne => ?_
      have := (ready_old ok hL (show i < l.length by omega)).1 hi
      rw [hr] at this
      cases this
    subst him
    refine wpOp_step at_last fun K hK => ?_
    have hw : Region.wanted s (yielded (l ++ [s]).toArray a.tmps) = true := by unfold Region.wanted; rw [ok.sg]
    rw [if_pos hw]
    refine Oper.wp_mono (fun a' w' h => hK a' w' ?_) (hQ a w hC hq)
    refine wpAny_done ?_ h _
    refine List.eq_nil_iff_forall_not_mem.2 fun j hj => ?_
    obtain ⟨hu, o, ho, _⟩ := mem_ready.1 hj
    have hlt : j < l.length + 1 := by
      have := (Array.getElem?_eq_some_iff.1 ho).1
      simpa using this
    by_cases e : j = l.length
    · subst e
      simp [Array.getD, hL] at hu
    · have hj2 : j < l.length := by omega
      have h3 := hall j hj2
      have e3 : ((L.push false).setIfInBounds l.length true).getD j true = L.getD j true := by
        simp only [Array.getD_eq_getD_getElem?]
        rw [Array.getElem?_setIfInBounds_ne (fun h => e h.symm), Array.getElem?_push, if_neg (by omega)]
      rw [e3, h3] at hu
      cases hu
  induction f with
  | zero =>
    intro L a w hC hL h
    exact fin 0 L a w hC hL h.1 h.2
  | succ f ih =>
    intro L a w hC hL h
    by_cases hr : Region.ready .any l.toArray L = []
    · exact fin _ L a w hC hL hr (h.1 hr)
    · refine ⟨fun h0 => ?_, fun i hi => ?_⟩
      · obtain ⟨j, hj⟩ := List.exists_mem_of_ne_nil _ hr
        have hlt : j < l.length := by
          obtain ⟨_, o, ho, _⟩ := mem_ready.1 hj
          have := (Array.getElem?_eq_some_iff.1 ho).1
          simpa using this
        have := (ready_old (s := s) ok hL hlt).2 hj
        rw [h0] at this
        cases this
      · have hlt : i < l.length + 1 := by
          obtain ⟨_, o, ho, _⟩ := mem_ready.1 hi
          have := (Array.getElem?_eq_some_iff.1 ho).1
          simpa using this
        by_cases e : i = l.length
        · subst e
          have hall := (last_ready ok hL).1 hi
          exfalso
          apply hr
          refine List.eq_nil_iff_forall_not_mem.2 fun j hj => ?_
          obtain ⟨hu, o, ho, _⟩ := mem_ready.1 hj
          have hj2 : j < l.length := by
            have := (Array.getElem?_eq_some_iff.1 ho).1
            simpa using this
          rw [hall j hj2] at hu
          cases hu
        · have hi2 : i < l.length := by omega
          have hq := h.2 i ((ready_old ok hL hi2).1 hi)
          have ho : l.toArray[i]? = some l[i] := by simp [hi2]
          unfold qOp at hq
          rw [ho] at hq
          simp only at hq
          have hg := (ok.lg i l[i] (by simp [hi2])).1
          have hw : ∀ ops : Array Oper, Region.wanted l[i] (yielded ops a.tmps) = true := fun ops => by unfold Region.wanted; rw [hg]
          rw [if_pos (hw _)] at hq
          refine wpOp_step ((at_old hi2).trans ho) fun K hK => ?_
          rw [if_pos (hw _)]
          refine Oper.wp_of_quiet hC (fun a' w' hC' h' => hK a' w' ?_) hq
          have := ih (L.setIfInBounds i true) a' w' hC' (by simpa using hL) h'
          have e2 : (L.push false).setIfInBounds i true = (L.setIfInBounds i true).push false := by
            refine Array.ext_getElem? fun j => ?_
            rw [Array.getElem?_push, Array.size_setIfInBounds]
            by_cases ej : i = j
            · subst ej
              have : i < L.size := by omega
              rw [if_neg (by omega)]
              simp [this, Nat.lt_succ_of_lt this]
            · rw [Array.getElem?_setIfInBounds_ne ej, Array.getElem?_push, Array.getElem?_setIfInBounds_ne ej]
          rw [e2]
          exact this
theorem wp_region_quiet_last {id : Nat} {Q : Exit → Act → World → Prop} {a : Act} {w : World} (hm : P.follows .mixedOrders = true) (hB : Region.lexB .any l.toArray = true) (hl : lastB l s = true)
    (h : wpQuiet P l.toArray (fun w' => ∃ n, w' = w.drewN n) (fun a' => ∀ w', (∃ n, w' = w.drewN n) → s.wp P a' w' (fun a'' w'' => Q .normal a'' w'') Q) l a) : (Code.region id (l ++ [s]).toArray true).wp P Q a w := by
  have hB' := hB
  simp only [Region.lexB, Bool.and_eq_true] at hB'
  have h1 := wpAnyQ_lex (C := fun w' => ∃ n, w' = w.drewN n) (md := .any) hB'.1 l 0 (Array.replicate l.length false) a (by simp) (by simpa using hB'.2) h
  have h2 := wpAny_quiet_last (lastB_ok hl) (Q := Q) (fun a w hC hq => hq w hC) l.length (Array.replicate l.length false) a { w with drawn := w.drawn + 1 } ⟨1, rfl⟩ (by simp) h1
  refine wp_region_any hm ?_
  have e : Array.replicate (l ++ [s]).toArray.size false = (Array.replicate l.length false).push false := by
    refine Array.ext (by simp) fun j h1 h2 => ?_
    simp [Array.getElem_push]
  have e2 : (l ++ [s]).toArray.size = l.length + 1 := by simp
  rw [e, e2]
  exact h2
/-- The same, of a region whose operations are written out: n is the last one's number. -/
theorem wp_region_quiet_lastA {id n : Nat} {ops : Array Oper} {Q : Exit → Act → World → Prop} {a : Act} {w : World} (hm : P.follows .mixedOrders = true) (hs : ops[n]? = some s) (hn : ops.size = n + 1) (hB : Region.lexB .any (ops.toList.take n).toArray = true) (hl : lastB (ops.toList.take n) s = true)
    (h : wpQuiet P (ops.toList.take n).toArray (fun w' => ∃ n, w' = w.drewN n) (fun a' => ∀ w', (∃ n, w' = w.drewN n) → s.wp P a' w' (fun a'' w'' => Q .normal a'' w'') Q) (ops.toList.take n) a) : (Code.region id ops true).wp P Q a w := by
  have e : ops = (ops.toList.take n ++ [s]).toArray := by
    obtain ⟨l0⟩ := ops
    simp only [List.getElem?_toArray, List.size_toArray] at hs hn ⊢
    congr 1
    have h1 : l0 = l0.take n ++ l0.drop n := (List.take_append_drop n l0).symm
    have h2 : l0.drop n = [s] := by
      have hlt : n < l0.length := by omega
      have : l0[n] = s := by rw [List.getElem?_eq_getElem hlt] at hs; exact Option.some.inj hs
      rw [List.drop_eq_getElem_cons hlt, this, List.drop_eq_nil_of_le (by omega)]
    rw [h2] at h1
    exact h1
  have := wp_region_quiet_last (id := id) hm hB hl h
  rwa [← e] at this
end Go.Proofs.Ytmglpcenipnmbaa
