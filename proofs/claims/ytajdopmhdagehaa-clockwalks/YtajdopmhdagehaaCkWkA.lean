/- ClockWalks: what its two loops keep. -/
import Derived.Test.YtajdopmhdagehaaCkWd
import Derived.Test.YtajdopmhdagehaaRangeD
import Derived.Test.YtajdopmhdagehaaCkAw
import Derived.Test.YtajdopmhdagehaaCkU16
set_option linter.unusedVariables false
set_option linter.unusedSimpArgs false
namespace Go.Proofs.Ytajdopmhdagehaa.Rc
open Go.Proofs.Ytajdopmhdagehaa
open Go Go.RowKit Go.Shelf

/-- Two lists of the same things, each in a strict order, are one. -/
theorem sorted_eq {α : Type} {r : α → α → Prop} (hr : ∀ a b, r a b → ¬ r b a) : ∀ {l l' : List α}, l.Perm l' → l.Pairwise r → l'.Pairwise r → l = l'
  | [], l', h, _, _ => (List.nil_perm.1 h).symm
  | a :: l, l', h, h1, h2 => by
    cases l' with
    | nil => exact absurd h.length_eq (by simp)
    | cons b l' =>
      have hab : a = b := by
        rcases List.mem_cons.1 (h.subset List.mem_cons_self) with z | z
        · exact z
        · rcases List.mem_cons.1 (h.symm.subset List.mem_cons_self) with y | y
          · exact y.symm
          · exact absurd ((List.pairwise_cons.1 h1).1 b y) (hr _ _ ((List.pairwise_cons.1 h2).1 a z))
      subst hab
      rw [sorted_eq hr (List.Perm.cons_inv h) (List.pairwise_cons.1 h1).2 (List.pairwise_cons.1 h2).2]
/-- The clock's thing that is the document's. -/
def up (p : Tr) : Ds.Pr := (p.1, p.2.1, wordB p.2.2)
def ltP (a b : Ds.Pr) : Prop := a.2.1 < b.2.1 ∨ (a.2.1 = b.2.1 ∧ a.1 < b.1)
theorem ltP_asym (a b : Ds.Pr) (h : ltP a b) : ¬ ltP b a := by unfold ltP at *; omega
theorem both_lists {A R' : List (Rw Ds.Pr)} {l R : List Tr} (hn : ∀ r ∈ A, r.x.1 = (r.t : Int)) (hA : (A.map (·.x)).Perm (l.map up)) (h1 : (R'.map Ds.kr).Perm (A.map Ds.kr)) (h2 : R'.Pairwise (ahd Ds.keyD)) (h3 : R.Perm l) (h4 : R.Pairwise lt3) : R'.map (·.x) = R.map up := by
  have hn' : ∀ r ∈ R', r.x.1 = (r.t : Int) := fun r hr => by
    obtain ⟨q, hq, e⟩ := List.mem_map.1 (h1.subset (List.mem_map.2 ⟨r, hr, rfl⟩))
    unfold Ds.kr at e
    simp only [Prod.mk.injEq] at e
    rw [← e.1, ← e.2]
    exact hn q hq
  have p1 : (R'.map (·.x)).Perm (R.map up) := by
    have := h1.map Prod.snd
    rw [List.map_map, List.map_map] at this
    exact (this.trans hA).trans (h3.symm.map up)
  refine sorted_eq ltP_asym p1 ?_ ?_
  · rw [List.pairwise_map]
    refine List.Pairwise.imp_of_mem (fun {a b} ha hb h => ?_) h2
    have e1 := hn' a ha
    have e2 := hn' b hb
    unfold ahd Ds.keyD at h
    unfold ltP
    rw [e1, e2]
    omega
  · rw [List.pairwise_map]
    exact h4.imp fun {a b} h => by unfold lt3 at h; unfold ltP up; exact h
/-- What hangs on the blocks Dp alone, E being foreign. -/
def Dep {β : Type} (w : World) (Core : β → (Nat → Prop) → World → Prop) (s : β) (E : Nat → Prop) (W : World) : Prop :=
  ∃ Dp, Core s Dp W ∧ (∀ i, Dp i → ¬ E i) ∧ (∀ i, Dp i → i < W.heap.size) ∧ (∀ i, E i → w.heap.size ≤ i) ∧ Below w.heap.size w W
theorem jn_dep {β : Type} {w : World} {Core : β → (Nat → Prop) → World → Prop} (stab : ∀ s Dp W W', Core s Dp W → (∀ i, Dp i → W'.heap[i]? = W.heap[i]?) → Core s Dp W') : JN (Dep w Core) where
  more := fun s E A C ⟨Dp, h1, h2, h3, h4, h5⟩ hg => ⟨Dp, stab s Dp A C h1 (fun i hi => hg.block i (h3 i hi) (by simp)), fun i hi q => by
      rcases q with z | z
      · exact h2 i hi z
      · have := h3 i hi; omega, fun i hi => Nat.lt_of_lt_of_le (h3 i hi) hg.size, fun i hi => by
      rcases hi with z | z
      · exact h4 i z
      · have := h5.size; omega, h5.grown hg h5.size (fun k e => by cases e)⟩
  turn := fun s E A C r ⟨Dp, h1, h2, h3, h4, h5⟩ hr hg hs => ⟨Dp, stab s Dp A C h1 (fun i hi => hg.block i (h3 i hi) (fun e => h2 i hi (by cases e; exact hr))), h2, fun i hi => hs ▸ h3 i hi, h4, h5.grown hg h5.size (fun k e => by cases e; exact h4 r hr)⟩
  less := fun s E E' A ⟨Dp, h1, h2, h3, h4, h5⟩ hl => ⟨Dp, h1, fun i hi q => h2 i hi (hl i q), h3, fun i hi => h4 i (hl i hi), h5⟩
/-- The boxes of the law: the drops, more, the result, the clock. -/
structure Bx (W : World) (B b7 : Nat) (dv : Value) (mo : Int) (c : Nat) : Prop where
  x4 : W.heap[B]? = some (.cells #[dv] 46 (0, 0))
  x5 : W.heap[B + 1]? = some (.cells #[.int .u16 mo] 47 (0, 0))
  x6 : W.heap[B + 2]? = some (.cells #[.bool false] 4 (0, 0))
  x7 : W.heap[b7]? = some (.cells #[ptr c] 23 (0, 0))
def bxD (B b7 : Nat) (i : Nat) : Prop := i = B ∨ i = B + 1 ∨ i = B + 2 ∨ i = b7
theorem Bx.of {W W' : World} {B b7 : Nat} {dv : Value} {mo : Int} {c : Nat} (h : Bx W B b7 dv mo c) (hk : ∀ i, bxD B b7 i → W'.heap[i]? = W.heap[i]?) : Bx W' B b7 dv mo c :=
  ⟨(hk B (.inl rfl)).trans h.x4, (hk (B + 1) (.inr (.inl rfl))).trans h.x5, (hk (B + 2) (.inr (.inr (.inl rfl)))).trans h.x6, (hk b7 (.inr (.inr (.inr rfl)))).trans h.x7⟩
theorem Bx.lt {W : World} {B b7 : Nat} {dv : Value} {mo : Int} {c : Nat} (h : Bx W B b7 dv mo c) : ∀ i, bxD B b7 i → i < W.heap.size := by
  rintro i (rfl | rfl | rfl | rfl)
  · exact (Array.getElem?_eq_some_iff.1 h.x4).1
  · exact (Array.getElem?_eq_some_iff.1 h.x5).1
  · exact (Array.getElem?_eq_some_iff.1 h.x6).1
  · exact (Array.getElem?_eq_some_iff.1 h.x7).1
/-- What the law's first loop keeps. -/
structure L1 (w : World) (B b7 : Nat) (dv : Value) (mo : Int) (c y : Nat) (i : Nat) (A : List (Rw Ds.Pr)) (l : List Tr) (S : Nat → Prop) (v : Value) (W : World) : Prop where
  ck : Ds.CK W c 0 A i S
  rc : HRc W y 0 i l v
  rel : (A.map (·.x)).Perm (l.map up)
  inc : Inc l
  num : ∀ p ∈ l, p.1 < (i : Int) ∧ 0 ≤ p.2.2 ∧ p.2.2 < 4294967296
  len : l.length = i
  bx : Bx W B b7 dv mo c
  s1 : ∀ k, S k → w.heap.size ≤ k ∧ ¬ bxD B b7 k ∧ ¬ rS y v k
  s2 : ∀ k, rS y v k → w.heap.size ≤ k ∧ ¬ bxD B b7 k
  bel : Below w.heap.size w W
end Go.Proofs.Ytajdopmhdagehaa.Rc
