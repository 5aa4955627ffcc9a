/- What Times and Over answer, one post for both sides. -/
import Derived.Test.YtdoenaoemdhniaaGfOne
import Derived.Test.YtdoenaoemdhniaaGfListsWalk
set_option linter.unusedSimpArgs false
set_option linter.unusedVariables false
namespace Go.Proofs.Ytdoenaoemdhniaa
open Go Go.RowKit

theorem HV.five (w : World) (a b c d f : Value) : HV (w.alloc (.cells #[a, b, c, d, f] 38)) (.slice (some ⟨w.heap.size, 0, none⟩) 5 5) [a, b, c, d, f] := by
  refine ⟨_, _, rfl, by simp, by decide, fun _ => ⟨w.heap.size, 0, rfl, ⟨_, _, heap_alloc_new w _⟩, fun k hk => ?_⟩⟩
  match k, hk with
  | 0, _ => simp
  | 1, _ => simp
  | 2, _ => simp
  | 3, _ => simp
  | 4, _ => simp

/-- The row and the error number of Times. -/
def tv (A P : List Int) : List Int × Int := if (cutL A).length ≤ 256 ∧ (cutL P).length ≤ 256 then (timesL (cutL A) (cutL P), 0) else ([], 61)
theorem cutL_le (l : List Int) : (cutL l).length ≤ l.length := by rw [cutL_length]; exact cutN_le _ _
theorem tv_byt {A P tl : List Int} {tn : Int} (hP : ∀ c ∈ P, 0 ≤ c ∧ c < 256) (h : tv A P = (tl, tn)) : ∀ c ∈ tl, 0 ≤ c ∧ c < 256 := by
  unfold tv at h
  split at h
  · cases h
    exact cutL_byt (tabL_byt _ fun i => cv_lt (gN_lt (cutL_byt hP)) _ i)
  · cases h
    intro c hc
    exact absurd hc (by simp)
theorem tv_len {A P tl : List Int} {tn : Int} (h : tv A P = (tl, tn)) : tl.length ≤ 512 := by
  unfold tv at h
  split at h
  · rename_i h2
    cases h
    have := cutL_le (tabL ((cutL A).length + (cutL P).length) (cv (cutL A) (cutL P) (cutL A).length))
    rw [tabL_length] at this
    unfold timesL
    omega
  · cases h
    simp
def TPost (W : World) (tl : List Int) (tn : Int) (e : Ending) (w' : World) : Prop :=
  ∃ p c, e = .returned (.tuple #[.slice p tl.length c, .int .i64 tn]) ∧ w'.ownsRow W.heap.size 5 1 (.slice p tl.length c) tl.length (tl.map (Value.int .u8)) ∧ Below W.heap.size W w'
theorem times_v {W : World} {pa pb : Option Addr} {ca cb : Nat} {A P tl : List Int} {tn : Int} (hA : HB W (.slice pa A.length ca) A) (hP : HB W (.slice pb P.length cb) P) (h : tv A P = (tl, tn)) :
    Calls Try.prog 39 #[.slice pa A.length ca, .slice pb P.length cb] W (TPost W tl tn) := by
  unfold tv at h
  split at h
  · rename_i h2
    refine (times_ok W pa pb ca cb A P hA hP h2.1 h2.2).mono ?_
    cases h
    rintro e w' ⟨v, rfl, ho, hB⟩
    obtain ⟨p, c, rfl⟩ := own_slc ho
    exact ⟨p, c, rfl, ho, hB⟩
  · rename_i h2
    refine (times_long W pa pb ca cb A P hA hP h2).mono ?_
    cases h
    rintro e w' ⟨rfl, rfl⟩
    exact ⟨none, 0, rfl, World.ownsRow_nil _ _ _ _, Below.refl _ _⟩
theorem rtimes_v {W : World} {pa pb : Option Addr} {ca cb : Nat} {A P tl : List Int} {tn : Int} (hA : HB W (.slice pa A.length ca) A) (hP : HB W (.slice pb P.length cb) P) (h : tv A P = (tl, tn)) :
    Calls Try.prog 41 #[.slice pa A.length ca, .slice pb P.length cb] W (TPost W tl tn) := by
  unfold tv at h
  split at h
  · rename_i h2
    refine (rtimes_ok W pa pb ca cb A P hA hP h2.1 h2.2).mono ?_
    cases h
    rintro e w' ⟨v, rfl, ho, hB⟩
    obtain ⟨p, c, rfl⟩ := own_slc ho
    exact ⟨p, c, rfl, ho, hB⟩
  · rename_i h2
    refine (rtimes_long W pa pb ca cb A P hA hP h2).mono ?_
    cases h
    rintro e w' ⟨rfl, rfl⟩
    exact ⟨none, 0, rfl, World.ownsRow_nil _ _ _ _, Below.refl _ _⟩
theorem times_d {W : World} {pa pb : Option Addr} {ca cb : Nat} {A P tl : List Int} {tn : Int} (hA : HB W (.slice pa A.length ca) A) (hP : HB W (.slice pb P.length cb) P) (h : tv A P = (tl, tn)) :
    Calls Try.prog 39 #[.slice pa A.length ca, .slice pb P.length cb] W.drew (TPost W tl tn) := by
  refine (times_v (hA.drewN 1) (hP.drewN 1) h).mono ?_
  rintro e w' ⟨p, c, rfl, ho, hB⟩
  exact ⟨p, c, rfl, ho, Below.trans (Dr.below (Dr.one W 1) _) hB⟩

/-- The rows and the error number of Over. -/
def OvL (A P q r : List Int) (n : Int) : Prop :=
  (¬ (A.length ≤ 256 ∧ P.length ≤ 256) → q = [] ∧ r = [] ∧ n = 61) ∧
  ((A.length ≤ 256 ∧ P.length ≤ 256) → P.length = 0 → q = [] ∧ r = [] ∧ n = 60) ∧
  ((A.length ≤ 256 ∧ P.length ≤ 256) → P.length ≠ 0 → n = 0 ∧ ∃ fq fr : Nat → Nat, (∀ i, fq i < 256) ∧ (∀ i, fr i < 256) ∧ q = cutL (tabL A.length fq) ∧ r = cutL (tabL A.length fr) ∧
    (∀ i, gN A i = fr i ^^^ cvF fq P A.length i) ∧ (∀ i, P.length - 1 ≤ i → fr i = 0) ∧ (∀ k, A.length < k + P.length → fq k = 0))
theorem OvL.one {A P q r q' r' : List Int} {n n' : Int} (hP : ∀ k, gN P k < 256) (hl : P.length ≠ 0 → gN P (P.length - 1) ≠ 0) (h : OvL A P q r n) (k : OvL A P q' r' n') : q' = q ∧ r' = r ∧ n' = n := by
  by_cases hb : A.length ≤ 256 ∧ P.length ≤ 256
  · by_cases hm : P.length = 0
    · obtain ⟨rfl, rfl, rfl⟩ := h.2.1 hb hm
      exact k.2.1 hb hm
    · obtain ⟨rfl, fq, fr, a1, a2, rfl, rfl, a3, a4, a5⟩ := h.2.2 hb hm
      obtain ⟨rfl, gq, gr, b1, b2, rfl, rfl, b3, b4, b5⟩ := k.2.2 hb hm
      obtain ⟨rfl, rfl⟩ := over_one hP hm (hl hm) a1 b1 a3 a4 a5 b3 b4 b5
      exact ⟨rfl, rfl, rfl⟩
  · obtain ⟨rfl, rfl, rfl⟩ := h.1 hb
    exact k.1 hb
theorem OvL.byt {A P q r : List Int} {n : Int} (h : OvL A P q r n) : (∀ c ∈ q, 0 ≤ c ∧ c < 256) ∧ (∀ c ∈ r, 0 ≤ c ∧ c < 256) ∧ q.length ≤ 256 ∧ r.length ≤ 256 := by
  by_cases hb : A.length ≤ 256 ∧ P.length ≤ 256
  · by_cases hm : P.length = 0
    · obtain ⟨rfl, rfl, rfl⟩ := h.2.1 hb hm
      simp
    · obtain ⟨rfl, fq, fr, a1, a2, rfl, rfl, a3, a4, a5⟩ := h.2.2 hb hm
      have l1 := cutL_le (tabL A.length fq)
      have l2 := cutL_le (tabL A.length fr)
      rw [tabL_length] at l1 l2
      exact ⟨cutL_byt (tabL_byt _ a1), cutL_byt (tabL_byt _ a2), by omega, by omega⟩
  · obtain ⟨rfl, rfl, rfl⟩ := h.1 hb
    simp
def OPost (W : World) (A P : List Int) (e : Ending) (w' : World) : Prop :=
  ∃ pq cq pr cr, ∃ (q r : List Int) (n : Int), e = .returned (.tuple #[.slice pq q.length cq, .slice pr r.length cr, .int .i64 n]) ∧ OvL (cutL A) (cutL P) q r n ∧
    w'.ownsRow W.heap.size 5 1 (.slice pq q.length cq) q.length (q.map (Value.int .u8)) ∧ w'.ownsRow W.heap.size 5 1 (.slice pr r.length cr) r.length (r.map (Value.int .u8)) ∧
    (((Value.slice pq q.length cq).ownBlock = none ∨ (Value.slice pq q.length cq).ownBlock ≠ (Value.slice pr r.length cr).ownBlock) ∧ ((Value.slice pr r.length cr).ownBlock = none ∨ (Value.slice pr r.length cr).ownBlock ≠ (Value.slice pq q.length cq).ownBlock)) ∧ Below W.heap.size W w'
theorem post_over {W w' : World} {A P : List Int} {e : Ending} (h : OverPost W (cutL A) (cutL P) e w') : OPost W A P e w' := by
  obtain ⟨h1, h2, h3, h4⟩ := h
  by_cases hb : (cutL A).length ≤ 256 ∧ (cutL P).length ≤ 256
  · by_cases hm : (cutL P).length = 0
    · have := h2 hb hm
      subst this
      exact ⟨none, 0, none, 0, [], [], 60, rfl, ⟨fun h => absurd hb h, fun _ _ => ⟨rfl, rfl, rfl⟩, fun _ h => absurd hm h⟩, World.ownsRow_nil _ _ _ _, World.ownsRow_nil _ _ _ _, ⟨.inl rfl, .inl rfl⟩, h4⟩
    · obtain ⟨vq, vr, fq, fr, rfl, a1, a2, o1, o2, ne, a3, a4, a5⟩ := h3 hb hm
      obtain ⟨pq, cq, rfl⟩ := own_slc o1
      obtain ⟨pr, cr, rfl⟩ := own_slc o2
      exact ⟨pq, cq, pr, cr, _, _, 0, rfl, ⟨fun h => absurd hb h, fun _ h => absurd h hm, fun _ _ => ⟨rfl, fq, fr, a1, a2, rfl, rfl, a3, a4, a5⟩⟩, o1, o2, ne, h4⟩
  · have := h1 hb
    subst this
    exact ⟨none, 0, none, 0, [], [], 61, rfl, ⟨fun _ => ⟨rfl, rfl, rfl⟩, fun h => absurd h hb, fun h => absurd h hb⟩, World.ownsRow_nil _ _ _ _, World.ownsRow_nil _ _ _ _, ⟨.inl rfl, .inl rfl⟩, h4⟩
theorem rover_v {W : World} {pa pb : Option Addr} {ca cb : Nat} {A P : List Int} (hA : HB W (.slice pa A.length ca) A) (hP : HB W (.slice pb P.length cb) P) :
    Calls Try.prog 42 #[.slice pa A.length ca, .slice pb P.length cb] W (OPost W A P) :=
  (rover_any W pa pb ca cb A P hA hP).mono fun _ _ h => post_over h
theorem over_d {W : World} {pa pb : Option Addr} {ca cb : Nat} {A P : List Int} (hA : HB W (.slice pa A.length ca) A) (hP : HB W (.slice pb P.length cb) P) :
    Calls Try.prog 40 #[.slice pa A.length ca, .slice pb P.length cb] W.drew (OPost W A P) := by
  refine (gover_any (W.drewN 1) pa pb ca cb A P (hA.drewN 1) (hP.drewN 1)).mono ?_
  intro e w' h
  obtain ⟨pq, cq, pr, cr, q, r, n, e1, h1, o1, o2, ne, hB⟩ := post_over h
  exact ⟨pq, cq, pr, cr, q, r, n, e1, h1, o1, o2, ne, Below.trans (Dr.below (Dr.one W 1) _) hB⟩
end Go.Proofs.Ytdoenaoemdhniaa
