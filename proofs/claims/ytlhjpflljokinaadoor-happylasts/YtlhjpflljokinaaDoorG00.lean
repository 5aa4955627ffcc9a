/- Of the road to happyLastsCard_holds: Base, OpensAes, HyM, HyG, HyK, HyL, HyN, HyF, HyO, HzM, HzShelf, U8, Owns, HzP. -/
import Derived.WalkKit
import Derived.WalkSpells
import Derived.WalkLawsBesides
import Derived.Deep.QuietTactic
import Derived.BigQuiet
import Derived.Test.YtlhjpflljokinaaDoorRows
import Derived.ProofKit
import Derived.OpenShut
import Derived.ShutString
import Derived.ChangeOld
import Derived.Deep.Slices
import Derived.JoinedCond
import Derived.SizedLaws
import Derived.Test.YtlhjpflljokinaaDoorProg
import Derived.Laws.BitsAllLaws
import Derived.Lib.TrailingZeros
import Derived.Ground.SlgnProg
import Derived.Shelf.SlicesE.Index
import Derived.Ground.SlgmProg
import Derived.Shelf.SortM.Plain
import Derived.Shelf.SortM.SortNone
import Derived.Ground.GgzProg
import Derived.Shelf.SlIterI.Nil
import Derived.Ground.Names7Prog
import Derived.Shelf.Spec.TrailingZeros
import Derived.Test.YtlhjpflljokinaaDoorChecked
import Derived.Laws.AppendOwnNone
import Derived.BigRegion
import Derived.Maps.OwnSet
set_option linter.unusedVariables false
set_option linter.unusedSimpArgs false
namespace Go.Proofs.YtlhjpflljokinaaDoor
open Go.RowKit
theorem hid {p : Prop} (h : p) : Hid p := h
def HB (w : World) (v : Value) (l : List Int) : Prop :=
  (∃ (p : Option Addr) (c : Nat), v = .slice p l.length c ∧ l.length ≤ c ∧ c ≤ maxLen ∧ (p = none → c = 0) ∧
    (l ≠ [] → ∃ b off, p = some ⟨b, off, none⟩ ∧ ∀ j, j < l.length → w.cell? ⟨b, off + j, none⟩ = some (.int .u8 (l.getD j 0)))) ∧ ∀ x ∈ l, 0 ≤ x ∧ x < 256
theorem HB.open {w : World} {v : Value} {l : List Int} (h : HB w v l) : ∃ (p : Option Addr) (c : Nat), v = .slice p l.length c ∧ l.length ≤ c ∧ c ≤ maxLen := by
  obtain ⟨⟨p, c, h1, h2, h3, _⟩, _⟩ := h
  exact ⟨p, c, h1, h2, h3⟩
theorem HB.ne {w : World} {v : Value} {l : List Int} (h : HB w v l) (hl : 0 < l.length) :
    ∃ b off c, v = .slice (some ⟨b, off, none⟩) l.length c ∧ l.length ≤ c ∧ c ≤ maxLen ∧ ∀ j, j < l.length → w.cell? ⟨b, off + j, none⟩ = some (.int .u8 (l.getD j 0)) := by
  obtain ⟨⟨p, c, h1, h2, h3, _, h4⟩, _⟩ := h
  obtain ⟨b, off, rfl, hc⟩ := h4 (by intro e; subst e; simp at hl)
  exact ⟨b, off, c, h1, h2, h3, hc⟩
theorem HB.byte {w : World} {v : Value} {l : List Int} (h : HB w v l) (j : Nat) : 0 ≤ l.getD j 0 ∧ l.getD j 0 < 256 := by
  by_cases hj : j < l.length
  · have e : l.getD j 0 = l[j] := by simp [List.getD, List.getElem?_eq_getElem hj]
    rw [e]
    exact h.2 _ (List.getElem_mem hj)
  · have e : l.getD j 0 = 0 := by simp [List.getD, List.getElem?_eq_none (by omega : l.length ≤ j)]
    rw [e]; omega
theorem HB.later {w w' : World} {v : Value} {l : List Int} (h : HB w v l) (hc : ∀ a (n : Int), w.cell? a = some (.int .u8 n) → w'.cell? a = some (.int .u8 n)) : HB w' v l := by
  obtain ⟨⟨p, c, h1, h2, h3, h6, h4⟩, h5⟩ := h
  refine ⟨⟨p, c, h1, h2, h3, h6, fun hl => ?_⟩, h5⟩
  obtain ⟨b, off, e, hh⟩ := h4 hl
  exact ⟨b, off, e, fun j hj => hc _ _ (hh j hj)⟩
theorem HB.below {w w' : World} {v : Value} {l : List Int} (h : HB w v l) (hb : Below w.heap.size w w') : HB w' v l :=
  h.later fun a _ hx => (hb.cell (World.block_lt_of_cell? w a hx)).trans hx
theorem HB.drewN {w : World} {v : Value} {l : List Int} (h : HB w v l) (q : Nat) : HB (w.drewN q) v l := h.later fun _ _ hx => hx
theorem getD_of_lt {l : List Int} {k : Nat} (h : k < l.length) : l.getD k 0 = l[k] := by simp [List.getD, List.getElem?_eq_getElem h]
theorem ownsRow_cells {w : World} {B : Nat} {e : TypeId} {v : Value} {n : Nat} {xs : List Value} (h : w.ownsRow B e 1 v n xs) (h0 : 0 < n) :
    ∃ g cap, v = .slice (some ⟨g, 0, none⟩) n cap ∧ B ≤ g ∧ n ≤ cap ∧ cap ≤ maxLen ∧ ∀ j u, xs[j]? = some u → w.cell? ⟨g, 0 + j, none⟩ = some u := by
  have hc := @World.ownsRow.cells w B e 1 v n xs h
  rcases h.2 with ⟨_, e0⟩ | ⟨g, cap, cur, rfl, hb, _, hn, hm, _, _⟩
  · omega
  · refine ⟨g, cap, rfl, hb, hn, hm, fun j u hj => ?_⟩
    have := @hc g rfl j u hj
    rwa [Go.WideShapes.add_plain] at this
theorem HB.of_own {w : World} {B : Nat} {e : TypeId} {v : Value} {l : List Int} (h : w.ownsRow B e 1 v l.length (l.map (Value.int .u8))) (hx : ∀ x ∈ l, 0 ≤ x ∧ x < 256) : HB w v l := by
  refine ⟨?_, hx⟩
  by_cases h0 : 0 < l.length
  · obtain ⟨g, cap, rfl, _, hn, hm, hc⟩ := ownsRow_cells h h0
    refine ⟨_, cap, rfl, hn, hm, (fun e => by cases e), fun _ => ⟨g, 0, rfl, fun j hj => ?_⟩⟩
    exact hc j _ (by simp [List.getD, List.getElem?_eq_getElem hj])
  · have e : l = [] := List.length_eq_zero_iff.1 (by omega)
    subst e
    rcases h.2 with ⟨rfl, _⟩ | ⟨g, cap, cur, rfl, _, _, hn, hm, _⟩
    · exact ⟨none, 0, rfl, Nat.le_refl _, Nat.zero_le _, fun _ => rfl, fun h => absurd rfl h⟩
    · exact ⟨_, cap, rfl, hn, hm, (fun e => by cases e), fun h => absurd rfl h⟩
theorem HB.grown {w w' : World} {v : Value} {l : List Int} {g : Nat} (h : HB w v l) (hg : w.grownBy w' (some g)) (hn : ∀ o sp (n : Int), w.cell? ⟨g, o, sp⟩ ≠ some (.int .u8 n)) : HB w' v l :=
  h.later fun a n hx => hg.cell hx (by
    intro e
    obtain ⟨b, o, sp⟩ := a
    simp only [Option.some.injEq] at e
    subst e
    exact hn o sp n hx)
theorem HB.nil (w : World) : HB w (.slice none 0 0) [] := ⟨⟨none, 0, rfl, Nat.zero_le _, Nat.zero_le _, fun _ => rfl, fun h => absurd rfl h⟩, by simp⟩
def BT (w : World) (g : Nat) (T : TypeId) : Prop := ∃ cur fz, w.heap[g]? = some (.cells cur T fz)
def HL (w : World) (v : Value) (ls : List (List Int)) : Prop :=
  ∃ (p : Option Addr) (c : Nat), v = .slice p ls.length c ∧ ls.length ≤ c ∧ c ≤ maxLen ∧ (p = none → c = 0) ∧
    (ls ≠ [] → ∃ b off, p = some ⟨b, off, none⟩ ∧ ∀ j, j < ls.length → ∃ u, w.cell? ⟨b, off + j, none⟩ = some u ∧ HB w u (ls.getD j []))
theorem HL.ne {w : World} {v : Value} {ls : List (List Int)} (h : HL w v ls) (hl : 0 < ls.length) :
    ∃ b off c, v = .slice (some ⟨b, off, none⟩) ls.length c ∧ ls.length ≤ c ∧ c ≤ maxLen ∧ ∀ j, j < ls.length → ∃ u, w.cell? ⟨b, off + j, none⟩ = some u ∧ HB w u (ls.getD j []) := by
  obtain ⟨p, c, h1, h2, h3, _, h4⟩ := h
  obtain ⟨b, off, rfl, hc⟩ := h4 (by intro e; subst e; simp at hl)
  exact ⟨b, off, c, h1, h2, h3, hc⟩
theorem HL.open {w : World} {v : Value} {ls : List (List Int)} (h : HL w v ls) : ∃ (p : Option Addr) (c : Nat), v = .slice p ls.length c ∧ ls.length ≤ c ∧ c ≤ maxLen := by
  obtain ⟨p, c, h1, h2, h3, _⟩ := h
  exact ⟨p, c, h1, h2, h3⟩
theorem HL.later {w w' : World} {v : Value} {ls : List (List Int)} (h : HL w v ls) (hc : ∀ a x, w.cell? a = some x → w'.cell? a = some x) : HL w' v ls := by
  obtain ⟨p, c, h1, h2, h3, h5, h4⟩ := h
  refine ⟨p, c, h1, h2, h3, h5, fun hl => ?_⟩
  obtain ⟨b, off, e, hh⟩ := h4 hl
  refine ⟨b, off, e, fun j hj => ?_⟩
  obtain ⟨u, hu, hb⟩ := hh j hj
  exact ⟨u, hc _ _ hu, hb.later fun a n => hc a _⟩
theorem HL.below {w w' : World} {v : Value} {ls : List (List Int)} (h : HL w v ls) (hb : Below w.heap.size w w') : HL w' v ls :=
  h.later fun a _ hx => (hb.cell (World.block_lt_of_cell? w a hx)).trans hx
theorem HL.byt {w : World} {v : Value} {ls : List (List Int)} (h : HL w v ls) : ∀ x ∈ ls.flatten, 0 ≤ x ∧ x < 256 := by
  intro x hx
  obtain ⟨l, hl, hxl⟩ := List.mem_flatten.1 hx
  obtain ⟨j, hj, rfl⟩ := List.getElem_of_mem hl
  obtain ⟨b, off, c, _, _, _, hh⟩ := h.ne (by omega)
  obtain ⟨u, _, hb⟩ := hh j hj
  have e : ls.getD j [] = ls[j] := by simp [List.getD, List.getElem?_eq_getElem hj]
  rw [e] at hb
  exact hb.2 x hxl
theorem HL.nil (w : World) : HL w (.slice none 0 0) [] := ⟨none, 0, rfl, Nat.zero_le _, Nat.zero_le _, fun _ => rfl, fun h => absurd rfl h⟩
def Dr (w w' : World) : Prop := ∃ q, w' = w.drewN q
theorem Dr.refl (w : World) : Dr w w := ⟨0, rfl⟩
theorem Dr.drewN {w u : World} (h : Dr w u) (n : Nat) : Dr w (u.drewN n) := by
  obtain ⟨q, rfl⟩ := h
  exact ⟨q + n, World.drewN_drewN w q n⟩
theorem Dr.one (w : World) (n : Nat) : Dr w (w.drewN n) := ⟨n, rfl⟩
theorem Dr.trans {a b c : World} (h : Dr a b) (k : Dr b c) : Dr a c := by
  obtain ⟨q, rfl⟩ := k
  exact h.drewN q
theorem Dr.cell {w w' : World} (h : Dr w w') (a : Addr) : w'.cell? a = w.cell? a := by obtain ⟨q, rfl⟩ := h; rfl
theorem Dr.heap {w w' : World} (h : Dr w w') : w'.heap = w.heap := by obtain ⟨q, rfl⟩ := h; rfl
theorem Dr.below {w w' : World} (h : Dr w w') (B : Nat) : Below B w w' := by obtain ⟨q, rfl⟩ := h; exact ⟨rfl, rfl, rfl, Nat.le_refl _, fun _ _ => rfl⟩
theorem HB.dr {w w' : World} {v : Value} {l : List Int} (h : HB w v l) (d : Dr w w') : HB w' v l := h.later fun a _ hx => (d.cell a).trans hx
theorem HL.dr {w w' : World} {v : Value} {ls : List (List Int)} (h : HL w v ls) (d : Dr w w') : HL w' v ls := h.below (d.below _)
end Go.Proofs.YtlhjpflljokinaaDoor
namespace Go.Proofs.YtlhjpflljokinaaDoor
open Go.ChangeShapes Go.WideShapes Go.ChangeAt Go.RowKit
theorem Opn.own : ownKnob Tryd.prog.godebug = none := by kernel_rfl
theorem Opn.laidOut : laidOutB Tryd.prog = true := by kernel_rfl
end Go.Proofs.YtlhjpflljokinaaDoor
namespace Go.Proofs.YtlhjpflljokinaaDoor.Hy
def IsM (P m : List (Nat × Nat)) : Prop := (∀ e ∈ m, e ∈ P) ∧ m.Pairwise (fun a b => a.1 ≠ b.1 ∧ a.2 ≠ b.2)
def MaxM (P m : List (Nat × Nat)) : Prop := IsM P m ∧ ∀ m', IsM P m' → m'.length ≤ m.length
def NoS (m : List (Nat × Nat)) (s : Nat) : Prop := ∀ e ∈ m, e.1 ≠ s
def NoN (m : List (Nat × Nat)) (n : Nat) : Prop := ∀ e ∈ m, e.2 ≠ n
theorem IsM.server {P m : List (Nat × Nat)} (h : IsM P m) {a b : Nat × Nat} (ha : a ∈ m) (hb : b ∈ m) (e : a.1 = b.1) : a = b := by
  obtain ⟨i, hi, rfl⟩ := List.getElem_of_mem ha
  obtain ⟨j, hj, rfl⟩ := List.getElem_of_mem hb
  rcases Nat.lt_trichotomy i j with q | q | q
  · exact absurd e ((List.pairwise_iff_getElem.1 h.2) i j hi hj q).1
  · subst q; rfl
  · exact absurd e.symm ((List.pairwise_iff_getElem.1 h.2) j i hj hi q).1
theorem IsM.number {P m : List (Nat × Nat)} (h : IsM P m) {a b : Nat × Nat} (ha : a ∈ m) (hb : b ∈ m) (e : a.2 = b.2) : a = b := by
  obtain ⟨i, hi, rfl⟩ := List.getElem_of_mem ha
  obtain ⟨j, hj, rfl⟩ := List.getElem_of_mem hb
  rcases Nat.lt_trichotomy i j with q | q | q
  · exact absurd e ((List.pairwise_iff_getElem.1 h.2) i j hi hj q).2
  · subst q; rfl
  · exact absurd e.symm ((List.pairwise_iff_getElem.1 h.2) j i hj hi q).2
def flip (m : List (Nat × Nat)) (s0 s1 : Nat) : List (Nat × Nat) := m.map fun e => if e.1 = s1 then (s0, e.2) else e
theorem flip_len (m : List (Nat × Nat)) (s0 s1 : Nat) : (flip m s0 s1).length = m.length := by simp [flip]
theorem flip_isM {P m : List (Nat × Nat)} (h : IsM P m) {s0 s1 n1 : Nat} (hp : (s0, n1) ∈ P) (he : (s1, n1) ∈ m) (h0 : NoS m s0) : IsM P (flip m s0 s1) := by
  refine ⟨fun e hm => ?_, ?_⟩
  · obtain ⟨x, hx, rfl⟩ := List.mem_map.1 hm
    by_cases q : x.1 = s1
    · rw [if_pos q]
      have : x = (s1, n1) := h.server hx he q
      rw [this]
      exact hp
    · rw [if_neg q]
      exact h.1 x hx
  · unfold flip
    rw [List.pairwise_map]
    refine h.2.imp_of_mem ?_
    intro a b ha hb ⟨q1, q2⟩
    by_cases qa : a.1 = s1
    · rw [if_pos qa, if_neg (fun z => q1 (by rw [qa, z]))]
      exact ⟨fun z => h0 b hb z.symm, q2⟩
    · rw [if_neg qa]
      by_cases qb : b.1 = s1
      · rw [if_pos qb]
        exact ⟨fun z => h0 a ha z, q2⟩
      · rw [if_neg qb]
        exact ⟨q1, q2⟩
theorem flip_free {m : List (Nat × Nat)} {s0 s1 : Nat} (hne : s0 ≠ s1) : NoS (flip m s0 s1) s1 := fun e hm => by
  obtain ⟨x, hx, rfl⟩ := List.mem_map.1 hm
  by_cases q : x.1 = s1
  · rw [if_pos q]; exact hne
  · rw [if_neg q]; exact q
theorem flip_numbers {m : List (Nat × Nat)} {s0 s1 n : Nat} (h : NoN m n) : NoN (flip m s0 s1) n := fun e hm => by
  obtain ⟨x, hx, rfl⟩ := List.mem_map.1 hm
  by_cases q : x.1 = s1
  · rw [if_pos q]; exact h x hx
  · rw [if_neg q]; exact h x hx
theorem flip_keeps {m : List (Nat × Nat)} {s0 s1 : Nat} {e : Nat × Nat} (he : e ∈ m) (hne : e.1 ≠ s1) : e ∈ flip m s0 s1 := List.mem_map.2 ⟨e, he, by rw [if_neg hne]⟩
inductive Pth (P m : List (Nat × Nat)) : Nat → Nat → Nat → Prop
  | last {s n : Nat} : (s, n) ∈ P → Pth P m 0 s n
  | step {k s n s1 n1 : Nat} : (s, n1) ∈ P → (s1, n1) ∈ m → Pth P m k s1 n → Pth P m (k + 1) s n
theorem Pth.snoc {P m : List (Nat × Nat)} {s1 n' n : Nat} (he : (s1, n') ∈ m) (hp : (s1, n) ∈ P) : ∀ {k s : Nat}, Pth P m k s n' → Pth P m (k + 1) s n := by
  intro k s h
  induction h with
  | last q => exact .step q he (.last hp)
  | step q1 q2 _ ih => exact .step q1 q2 (ih he)
theorem Pth.flip {P m : List (Nat × Nat)} {s0 s1 n : Nat} : ∀ {k t : Nat}, Pth P m k t n → (∃ k', k' ≤ k ∧ Pth P (flip m s0 s1) k' t n) ∨ ∃ k', k' ≤ k ∧ Pth P (flip m s0 s1) k' s1 n := by
  intro k t h
  induction h with
  | last q => exact .inl ⟨0, Nat.le_refl _, .last q⟩
  | @step k s n u n1 q1 q2 _ ih =>
    rcases ih with ⟨k', hk, hp⟩ | ⟨k', hk, hp⟩
    · by_cases e : u = s1
      · subst e
        exact .inr ⟨k', by omega, hp⟩
      · exact .inl ⟨k' + 1, by omega, .step q1 (flip_keeps q2 e) hp⟩
    · exact .inr ⟨k', by omega, hp⟩
theorem augment {P : List (Nat × Nat)} : ∀ (K k : Nat), k ≤ K → ∀ (m : List (Nat × Nat)) (s n : Nat), IsM P m → NoS m s → NoN m n → Pth P m k s n → ∃ m', IsM P m' ∧ m'.length = m.length + 1 := by
  intro K
  induction K with
  | zero =>
    intro k hk m s n hM hs hn hp
    obtain rfl : k = 0 := by omega
    cases hp with
    | last q => exact ⟨(s, n) :: m, ⟨fun e he => (List.mem_cons.1 he).elim (fun z => z ▸ q) (hM.1 e), List.pairwise_cons.2 ⟨fun e he => ⟨fun z => hs e he z.symm, fun z => hn e he z.symm⟩, hM.2⟩⟩, rfl⟩
  | succ K ih =>
    intro k hk m s n hM hs hn hp
    cases hp with
    | last q => exact ⟨(s, n) :: m, ⟨fun e he => (List.mem_cons.1 he).elim (fun z => z ▸ q) (hM.1 e), List.pairwise_cons.2 ⟨fun e he => ⟨fun z => hs e he z.symm, fun z => hn e he z.symm⟩, hM.2⟩⟩, rfl⟩
    | @step k s n s1 n1 q1 q2 hp =>
      have hne : s ≠ s1 := fun e => hs (s1, n1) q2 e.symm
      have hM2 := flip_isM hM q1 q2 hs
      have hp2 : ∃ k', k' ≤ k ∧ Pth P (flip m s s1) k' s1 n := (hp.flip (s0 := s) (s1 := s1)).elim id id
      obtain ⟨k', hk', hp'⟩ := hp2
      obtain ⟨m', h1, h2⟩ := ih k' (by omega) (flip m s s1) s1 n hM2 (flip_free hne) (flip_numbers hn) hp'
      exact ⟨m', h1, by rw [h2, flip_len]⟩
theorem MaxM.reached {P m : List (Nat × Nat)} (h : MaxM P m) {k s n : Nat} (hs : NoS m s) (hp : Pth P m k s n) : ∃ e ∈ m, e.2 = n := by
  apply Classical.byContradiction
  intro hc
  have hn : NoN m n := fun e he z => hc ⟨e, he, z⟩
  obtain ⟨m', h1, h2⟩ := augment k k (Nat.le_refl _) m s n h.1 hs hn hp
  have := h.2 m' h1
  omega
def Cov (P : List (Nat × Nat)) (C : List (Bool × Nat)) : Prop := ∀ p ∈ P, (true, p.1) ∈ C ∨ (false, p.2) ∈ C
theorem inj_len {α β : Type} [DecidableEq β] (f : α → β) : ∀ (l : List α) (c : List β), (∀ a ∈ l, f a ∈ c) → l.Pairwise (fun a b => f a ≠ f b) → l.length ≤ c.length
  | [], _, _, _ => Nat.zero_le _
  | a :: l, c, h1, h2 => by
    have ha := h1 a (List.mem_cons_self ..)
    have := inj_len f l (c.erase (f a)) (fun b hb => (List.mem_erase_of_ne (fun e => (List.pairwise_cons.1 h2).1 b hb e.symm)).2 (h1 b (List.mem_cons_of_mem _ hb))) (List.pairwise_cons.1 h2).2
    rw [List.length_erase_of_mem ha] at this
    have hp : 0 < c.length := List.length_pos_of_mem ha
    simp only [List.length_cons]
    omega
theorem Cov.bound {P m : List (Nat × Nat)} {C : List (Bool × Nat)} (h : Cov P C) (hM : IsM P m) : m.length ≤ C.length := by
  refine inj_len (fun e => if (true, e.1) ∈ C then (true, e.1) else (false, e.2)) m C (fun e he => ?_) (hM.2.imp ?_)
  · by_cases q : (true, e.1) ∈ C
    · simp only [if_pos q]; exact q
    · simp only [if_neg q]; exact (h e (hM.1 e he)).resolve_left q
  · intro a b ⟨q1, q2⟩ e
    by_cases qa : (true, a.1) ∈ C
    · by_cases qb : (true, b.1) ∈ C
      · simp only [if_pos qa, if_pos qb, Prod.mk.injEq, true_and] at e; exact q1 e
      · simp only [if_pos qa, if_neg qb, Prod.mk.injEq] at e; cases e.1
    · by_cases qb : (true, b.1) ∈ C
      · simp only [if_neg qa, if_pos qb, Prod.mk.injEq] at e; cases e.1
      · simp only [if_neg qa, if_neg qb, Prod.mk.injEq, true_and] at e; exact q2 e
theorem max_of_closed {P m : List (Nat × Nat)} (hM : IsM P m) (S N : Nat → Prop) (h0 : ∀ p ∈ P, NoS m p.1 → S p.1) (h1 : ∀ p ∈ P, S p.1 → N p.2) (h2 : ∀ e ∈ m, N e.2 → S e.1) (h3 : ∀ p ∈ P, N p.2 → ∃ e ∈ m, e.2 = p.2) : MaxM P m := by
  refine ⟨hM, fun m' hm' => ?_⟩
  have dN : DecidablePred N := fun _ => Classical.propDecidable _
  have key : Cov P (m.map fun e => if N e.2 then (false, e.2) else (true, e.1)) := fun p hp => by
    by_cases q : N p.2
    · obtain ⟨e, he, ee⟩ := h3 p hp q
      refine .inr (List.mem_map.2 ⟨e, he, ?_⟩)
      rw [ee, if_pos q]
    · have hs : ¬ S p.1 := fun z => q (h1 p hp z)
      have : ¬ NoS m p.1 := fun z => hs (h0 p hp z)
      obtain ⟨e, he, ee⟩ : ∃ e ∈ m, e.1 = p.1 := Classical.byContradiction fun hc => this fun e he z => hc ⟨e, he, z⟩
      refine .inl (List.mem_map.2 ⟨e, he, ?_⟩)
      have hn : ¬ N e.2 := fun z => hs (ee ▸ h2 e he z)
      rw [if_neg hn, ← ee]
  have := key.bound hm'
  rwa [List.length_map] at this
theorem count_one (B v : Nat) (hv : v < B) (b : Bool) : (List.range B).countP (fun n => b && decide (n = v)) = if b then 1 else 0 := by
  cases b with
  | false => simp
  | true =>
    simp only [Bool.true_and, if_pos]
    have h := (List.nodup_range (n := B)).count (a := v)
    rw [if_pos (List.mem_range.2 hv)] at h
    rw [← h, List.count]
    congr 1
theorem count_or {α : Type} (p q : α → Bool) (l : List α) (h : ∀ a ∈ l, ¬ (p a = true ∧ q a = true)) : l.countP (fun a => p a || q a) = l.countP p + l.countP q := by
  induction l with
  | nil => rfl
  | cons a l ih =>
    have ih := ih fun b hb => h b (List.mem_cons_of_mem _ hb)
    have ha := h a (List.mem_cons_self ..)
    simp only [List.countP_cons, ih]
    cases hp : p a <;> cases hq : q a <;> simp_all <;> omega
theorem count_image {α : Type} (f : α → Nat) (q : α → Bool) (B : Nat) : ∀ (l : List α), l.Pairwise (fun a b => f a ≠ f b) → (∀ e ∈ l, f e < B) → (List.range B).countP (fun n => l.any fun e => q e && decide (n = f e)) = l.countP q
  | [], _, _ => by simp
  | a :: l, h1, h2 => by
    have ih := count_image f q B l (List.pairwise_cons.1 h1).2 (fun e he => h2 e (List.mem_cons_of_mem _ he))
    have e : (fun n => (a :: l).any fun e => q e && decide (n = f e)) = fun n => (q a && decide (n = f a)) || l.any fun e => q e && decide (n = f e) := by
      funext n
      rw [List.any_cons]
    rw [e, count_or, ih, count_one B (f a) (h2 a (List.mem_cons_self ..)), List.countP_cons]
    · cases q a <;> simp <;> omega
    · rintro n _ ⟨q1, q2⟩
      simp only [Bool.and_eq_true, decide_eq_true_eq] at q1
      obtain ⟨e, he, hq⟩ := List.any_eq_true.1 q2
      simp only [Bool.and_eq_true, decide_eq_true_eq] at hq
      exact (List.pairwise_cons.1 h1).1 e he (by rw [← q1.2, hq.2])
theorem cover_count {P m : List (Nat × Nat)} (hM : IsM P m) (S N : Nat → Bool) (B1 B2 : Nat) (hb : ∀ e ∈ m, e.1 < B1 ∧ e.2 < B2) (h1 : ∀ e ∈ m, S e.1 = N e.2) (h3 : ∀ n, n < B2 → N n = true → ∃ e ∈ m, e.2 = n) :
    (List.range B2).countP N + (List.range B1).countP (fun s => m.any (fun e => decide (s = e.1)) && !S s) = m.length := by
  have c1 : (List.range B2).countP N = m.countP fun e => N e.2 := by
    rw [← count_image (fun e : Nat × Nat => e.2) (fun e => N e.2) B2 m (hM.2.imp fun h => h.2) (fun e he => (hb e he).2)]
    refine List.countP_congr fun n hn => ?_
    have hn' := List.mem_range.1 hn
    constructor
    · intro h
      obtain ⟨e, he, ee⟩ := h3 n hn' h
      exact List.any_eq_true.2 ⟨e, he, by simp [ee, h]⟩
    · intro h
      obtain ⟨e, he, hq⟩ := List.any_eq_true.1 h
      simp only [Bool.and_eq_true, decide_eq_true_eq] at hq
      rw [hq.2]; exact hq.1
  have c2 : (List.range B1).countP (fun s => m.any (fun e => decide (s = e.1)) && !S s) = m.countP fun e => !N e.2 := by
    rw [← count_image (fun e : Nat × Nat => e.1) (fun e => !N e.2) B1 m (hM.2.imp fun h => h.1) (fun e he => (hb e he).1)]
    refine List.countP_congr fun s hs => ?_
    constructor
    · intro h
      simp only [Bool.and_eq_true] at h
      obtain ⟨e, he, hq⟩ := List.any_eq_true.1 h.1
      have es : s = e.1 := by simpa using hq
      refine List.any_eq_true.2 ⟨e, he, ?_⟩
      rw [es] at h
      simp only [Bool.and_eq_true, decide_eq_true_eq]
      exact ⟨by rw [← h1 e he]; exact h.2, es⟩
    · intro h
      obtain ⟨e, he, hq⟩ := List.any_eq_true.1 h
      simp only [Bool.and_eq_true, decide_eq_true_eq] at hq
      rw [Bool.and_eq_true]
      exact ⟨List.any_eq_true.2 ⟨e, he, by simpa using hq.2⟩, by rw [hq.2, h1 e he]; exact hq.1⟩
  rw [c1, c2]
  have := List.length_eq_countP_add_countP (fun e : Nat × Nat => N e.2) (l := m)
  rw [this]
  congr 1
  exact List.countP_congr fun e _ => by simp
theorem max_more {P m m' : List (Nat × Nat)} {p : Nat × Nat} (h : MaxM P m) (h' : MaxM (P ++ [p]) m') : m.length ≤ m'.length ∧ m'.length ≤ m.length + 1 := by
  refine ⟨h'.2 m ⟨fun e he => List.mem_append_left _ (h.1.1 e he), h.1.2⟩, ?_⟩
  by_cases hp : p ∈ m'
  · have h1 : IsM P (m'.erase p) := by
      refine ⟨fun e he => ?_, h'.1.2.sublist (List.erase_sublist ..)⟩
      have hem : e ∈ m' := List.mem_of_mem_erase he
      rcases List.mem_append.1 (h'.1.1 e hem) with z | z
      · exact z
      · have ep : e = p := by simpa using z
        rw [ep] at he
        have hnd : m'.Nodup := h'.1.2.imp fun q e => q.1 (by rw [e])
        exact absurd he (hnd.not_mem_erase)
    have := h.2 _ h1
    rw [List.length_erase_of_mem hp] at this
    omega
  · have h1 : IsM P m' := ⟨fun e he => (List.mem_append.1 (h'.1.1 e he)).elim id fun z => absurd ((by simpa using z : e = p) ▸ he) hp, h'.1.2⟩
    have := h.2 _ h1
    omega
end Go.Proofs.YtlhjpflljokinaaDoor.Hy
namespace Go.Proofs.YtlhjpflljokinaaDoor.Hy
def updS (f : Nat → Bool) (n : Nat) : Nat → Bool := fun k => if k = n then true else f k
theorem updS_more {f : Nat → Bool} (n : Nat) {k : Nat} (h : f k = true) : updS f n k = true := by
  unfold updS
  split
  · rfl
  · exact h
def updO (f : Nat → Option Nat) (n s : Nat) : Nat → Option Nat := fun k => if k = n then some s else f k
inductive Gr (adj : Nat → Nat → Bool) (all : List Nat) : (Nat → Option Nat) → (Nat → Bool) → Nat → List Nat → Bool → (Nat → Option Nat) → (Nat → Bool) → Prop
  | nil {o e s} : Gr adj all o e s [] false o e
  | skip {o e s n ns b o' e'} : (adj s n = false ∨ e n = true) → Gr adj all o e s ns b o' e' → Gr adj all o e s (n :: ns) b o' e'
  | free {o e s n ns} : adj s n = true → e n = false → o n = none → Gr adj all o e s (n :: ns) true (updO o n s) (updS e n)
  | moved {o e s n ns t o2 e2} : adj s n = true → e n = false → o n = some t → Gr adj all o (updS e n) t all true o2 e2 → Gr adj all o e s (n :: ns) true (updO o2 n s) e2
  | stuck {o e s n ns t o2 e2 b o' e'} : adj s n = true → e n = false → o n = some t → Gr adj all o (updS e n) t all false o2 e2 → Gr adj all o2 e2 s ns b o' e' → Gr adj all o e s (n :: ns) b o' e'
structure Fail (adj : Nat → Nat → Bool) (all : List Nat) (o : Nat → Option Nat) (e : Nat → Bool) (s : Nat) (ns : List Nat) (o' : Nat → Option Nat) (e' : Nat → Bool) : Prop where
  same : o' = o
  more : ∀ n, e n = true → e' n = true
  here : ∀ n ∈ ns, adj s n = true → e' n = true
  held : ∀ n, e' n = true → e n = false → ∃ t, o n = some t ∧ ∀ k ∈ all, adj t k = true → e' k = true
theorem Gr.fail {adj : Nat → Nat → Bool} {all : List Nat} {o o' : Nat → Option Nat} {e e' : Nat → Bool} {s : Nat} {ns : List Nat} {b : Bool} (h : Gr adj all o e s ns b o' e') (hb : b = false) : Fail adj all o e s ns o' e' := by
  induction h with
  | nil => exact ⟨rfl, fun _ h => h, fun n hn => absurd hn (by simp), fun n h1 h2 => by rw [h1] at h2; cases h2⟩
  | @skip o e s n ns b o' e' q _ ih =>
    have ih := ih hb
    refine ⟨ih.same, ih.more, fun k hk ha => ?_, ih.held⟩
    rcases List.mem_cons.1 hk with rfl | hk
    · rcases q with q | q
      · rw [q] at ha; cases ha
      · exact ih.more _ q
    · exact ih.here k hk ha
  | free => cases hb
  | moved => cases hb
  | @stuck o e s n ns t o2 e2 b o' e' q1 q2 q3 _ _ ih1 ih2 =>
    have i1 := ih1 rfl
    have i2 := ih2 hb
    have ho := i1.same
    subst ho
    have hn2 : e2 n = true := i1.more n (by unfold updS; rw [if_pos rfl])
    refine ⟨i2.same, fun k hk => i2.more k (i1.more k (updS_more n hk)), fun k hk ha => ?_, fun k h1 h2 => ?_⟩
    · rcases List.mem_cons.1 hk with rfl | hk
      · exact i2.more _ hn2
      · exact i2.here k hk ha
    · cases hk : e2 k
      · exact i2.held k h1 hk
      · by_cases hkn : k = n
        · subst hkn
          exact ⟨t, q3, fun j hj ha => i2.more j (i1.here j hj ha)⟩
        · obtain ⟨u, hu, hc⟩ := i1.held k hk (by unfold updS; rw [if_neg hkn]; exact h2)
          exact ⟨u, hu, fun j hj ha => i2.more j (hc j hj ha)⟩
def Inj (o : Nat → Option Nat) (e : Nat → Bool) : Prop := ∀ a b t, e a = false → e b = false → o a = some t → o b = some t → a = b
structure Won (adj : Nat → Nat → Bool) (o : Nat → Option Nat) (e : Nat → Bool) (s : Nat) (o' : Nat → Option Nat) : Prop where
  old : ∀ n, e n = true → o' n = o n
  inj : Inj o' e
  adj : ∀ n t, e n = false → o' n = some t → adj t n = true
  srv : ∀ t, (∃ n, e n = false ∧ o' n = some t) ↔ t = s ∨ ∃ n, e n = false ∧ o n = some t
theorem Gr.won {adj : Nat → Nat → Bool} {all : List Nat} {o o' : Nat → Option Nat} {e e' : Nat → Bool} {s : Nat} {ns : List Nat} {b : Bool} (h : Gr adj all o e s ns b o' e') (hb : b = true) (hi : Inj o e) (ha : ∀ n t, e n = false → o n = some t → adj t n = true) (hs : ∀ n, e n = false → o n ≠ some s) : Won adj o e s o' := by
  induction h with
  | nil => cases hb
  | @skip o e s n ns b o' e' q _ ih => exact ih hb hi ha hs
  | @free o e s n ns q1 q2 q3 =>
    refine ⟨fun k hk => ?_, fun a b t h1 h2 h3 h4 => ?_, fun k t h1 h2 => ?_, fun t => ⟨fun ⟨k, h1, h2⟩ => ?_, fun h => ?_⟩⟩
    · unfold updO
      rw [if_neg (fun z => by subst z; rw [q2] at hk; cases hk)]
    · unfold updO at h3 h4
      by_cases za : a = n <;> by_cases zb : b = n
      · rw [za, zb]
      · rw [if_pos za] at h3; rw [if_neg zb] at h4
        exact absurd (h4.trans h3.symm) (hs b h2)
      · rw [if_neg za] at h3; rw [if_pos zb] at h4
        exact absurd (h3.trans h4.symm) (hs a h1)
      · rw [if_neg za] at h3; rw [if_neg zb] at h4
        exact hi a b t h1 h2 h3 h4
    · unfold updO at h2
      by_cases z : k = n
      · rw [if_pos z] at h2
        cases h2
        rw [z]; exact q1
      · rw [if_neg z] at h2
        exact ha k t h1 h2
    · unfold updO at h2
      by_cases z : k = n
      · rw [if_pos z] at h2
        cases h2
        exact .inl rfl
      · rw [if_neg z] at h2
        exact .inr ⟨k, h1, h2⟩
    · rcases h with rfl | ⟨k, h1, h2⟩
      · exact ⟨n, q2, by unfold updO; rw [if_pos rfl]⟩
      · refine ⟨k, h1, ?_⟩
        unfold updO
        rw [if_neg (fun z => by subst z; rw [q3] at h2; cases h2)]
        exact h2
  | @moved o e s n ns t o2 e2 q1 q2 q3 _ ih =>
    have un : ∀ k, updS e n k = false ↔ k ≠ n ∧ e k = false := fun k => by
      unfold updS
      by_cases z : k = n
      · simp [z]
      · simp [z]
    have un1 : updS e n n = true := by unfold updS; rw [if_pos rfl]
    have w := ih rfl (fun a b u h1 h2 h3 h4 => hi a b u ((un a).1 h1).2 ((un b).1 h2).2 h3 h4) (fun k u h1 h2 => ha k u ((un k).1 h1).2 h2) (fun k h1 h2 => ((un k).1 h1).1 (hi k n t ((un k).1 h1).2 q2 h2 q3))
    have h2n : o2 n = some t := (w.old n un1).trans q3
    have hs2 : ∀ k, k ≠ n → e k = false → o2 k ≠ some s := fun k z h1 h2 => by
      rcases (w.srv s).1 ⟨k, (un k).2 ⟨z, h1⟩, h2⟩ with q | ⟨j, h3, h4⟩
      · exact hs n q2 (by rw [q3, q])
      · exact hs j ((un j).1 h3).2 h4
    refine ⟨fun k hk => ?_, fun a b u h1 h2 h3 h4 => ?_, fun k u h1 h2 => ?_, fun u => ⟨fun ⟨k, h1, h2⟩ => ?_, fun h => ?_⟩⟩
    · unfold updO
      have z : k ≠ n := fun z => by subst z; rw [q2] at hk; cases hk
      rw [if_neg z]
      exact w.old k (by unfold updS; rw [if_neg z]; exact hk)
    · unfold updO at h3 h4
      by_cases za : a = n <;> by_cases zb : b = n
      · rw [za, zb]
      · rw [if_pos za] at h3; rw [if_neg zb] at h4
        exact absurd (h4.trans h3.symm) (hs2 b zb h2)
      · rw [if_neg za] at h3; rw [if_pos zb] at h4
        exact absurd (h3.trans h4.symm) (hs2 a za h1)
      · rw [if_neg za] at h3; rw [if_neg zb] at h4
        exact w.inj a b u ((un a).2 ⟨za, h1⟩) ((un b).2 ⟨zb, h2⟩) h3 h4
    · unfold updO at h2
      by_cases z : k = n
      · rw [if_pos z] at h2
        cases h2
        rw [z]; exact q1
      · rw [if_neg z] at h2
        exact w.adj k u ((un k).2 ⟨z, h1⟩) h2
    · unfold updO at h2
      by_cases z : k = n
      · rw [if_pos z] at h2
        cases h2
        exact .inl rfl
      · rw [if_neg z] at h2
        rcases (w.srv u).1 ⟨k, (un k).2 ⟨z, h1⟩, h2⟩ with rfl | ⟨j, h3, h4⟩
        · exact .inr ⟨n, q2, q3⟩
        · exact .inr ⟨j, ((un j).1 h3).2, h4⟩
    · rcases h with rfl | ⟨k, h1, h2⟩
      · exact ⟨n, q2, by unfold updO; rw [if_pos rfl]⟩
      · have hx : ∃ j, updS e n j = false ∧ o2 j = some u := by
          by_cases z : k = n
          · subst z
            rw [q3] at h2
            exact (w.srv u).2 (.inl (Option.some.inj h2).symm)
          · exact (w.srv u).2 (.inr ⟨k, (un k).2 ⟨z, h1⟩, h2⟩)
        obtain ⟨j, h3, h4⟩ := hx
        refine ⟨j, ((un j).1 h3).2, ?_⟩
        unfold updO
        rw [if_neg ((un j).1 h3).1]
        exact h4
  | @stuck o e s n ns t o2 e2 b o' e' q1 q2 q3 hg _ ih1 ih2 =>
    have f := hg.fail rfl
    have ho := f.same
    subst ho
    have hle : ∀ k, e2 k = false → e k = false := fun k hk => by
      cases z : e k
      · rfl
      · have : e2 k = true := f.more k (updS_more n z)
        rw [this] at hk; cases hk
    have w := ih2 hb (fun a b u h1 h2 => hi a b u (hle a h1) (hle b h2)) (fun k u h1 => ha k u (hle k h1)) (fun k h1 => hs k (hle k h1))
    have at2 : ∀ k u, e k = false → e2 k = true → o' k = some u → o2 k = some u := fun k u _ h1 h2 => (w.old k h1).symm.trans h2
    have mix : ∀ a b u, e a = false → e2 a = true → e2 b = false → o2 a = some u → o' b = some u → False := fun a b u h1 h2 h3 h4 h5 => by
      rcases (w.srv u).1 ⟨b, h3, h5⟩ with rfl | ⟨j, h6, h7⟩
      · exact hs a h1 h4
      · have := hi a j u h1 (hle j h6) h4 h7
        subst this
        rw [h2] at h6; cases h6
    refine ⟨fun k hk => w.old k (f.more k (updS_more n hk)), fun a b u h1 h2 h3 h4 => ?_, fun k u h1 h2 => ?_, fun u => ⟨fun ⟨k, h1, h2⟩ => ?_, fun h => ?_⟩⟩
    · cases za : e2 a <;> cases zb : e2 b
      · exact w.inj a b u za zb h3 h4
      · exact (mix b a u h2 zb za (at2 b u h2 zb h4) h3).elim
      · exact (mix a b u h1 za zb (at2 a u h1 za h3) h4).elim
      · exact hi a b u h1 h2 (at2 a u h1 za h3) (at2 b u h2 zb h4)
    · cases z : e2 k
      · exact w.adj k u z h2
      · exact ha k u h1 (at2 k u h1 z h2)
    · cases z : e2 k
      · rcases (w.srv u).1 ⟨k, z, h2⟩ with q | ⟨j, h3, h4⟩
        · exact .inl q
        · exact .inr ⟨j, hle j h3, h4⟩
      · exact .inr ⟨k, h1, at2 k u h1 z h2⟩
    · rcases h with q | ⟨k, h1, h2⟩
      · obtain ⟨j, h3, h4⟩ := (w.srv u).2 (.inl q)
        exact ⟨j, hle j h3, h4⟩
      · cases z : e2 k
        · obtain ⟨j, h3, h4⟩ := (w.srv u).2 (.inr ⟨k, z, h2⟩)
          exact ⟨j, hle j h3, h4⟩
        · exact ⟨k, h1, (w.old k z).trans h2⟩
end Go.Proofs.YtlhjpflljokinaaDoor.Hy
namespace Go.Proofs.YtlhjpflljokinaaDoor.Hy
def mo (B : Nat) (o : Nat → Option Nat) : List (Nat × Nat) := (List.range B).filterMap fun n => (o n).map fun t => (t, n)
theorem mem_mo {B : Nat} {o : Nat → Option Nat} {t n : Nat} : (t, n) ∈ mo B o ↔ n < B ∧ o n = some t := by
  unfold mo
  rw [List.mem_filterMap]
  constructor
  · rintro ⟨k, h1, h2⟩
    rw [Option.map_eq_some_iff] at h2
    obtain ⟨u, h3, h4⟩ := h2
    injection h4 with h5 h6
    subst h5 h6
    exact ⟨List.mem_range.1 h1, h3⟩
  · rintro ⟨h1, h2⟩
    exact ⟨n, List.mem_range.2 h1, by rw [h2]; rfl⟩
theorem mo_isM {B : Nat} {o : Nat → Option Nat} {P : List (Nat × Nat)} (hi : ∀ a b t, o a = some t → o b = some t → a = b) (hp : ∀ n t, n < B → o n = some t → (t, n) ∈ P) : IsM P (mo B o) := by
  refine ⟨fun e he => ?_, ?_⟩
  · obtain ⟨h1, h2⟩ := mem_mo.1 (show (e.1, e.2) ∈ mo B o from he)
    exact hp e.2 e.1 h1 h2
  · unfold mo
    rw [List.pairwise_filterMap]
    refine (List.nodup_range (n := B)).imp ?_
    intro a b hab x hx y hy
    rw [Option.map_eq_some_iff] at hx hy
    obtain ⟨u, hu, rfl⟩ := hx
    obtain ⟨v, hv, rfl⟩ := hy
    exact ⟨fun z => hab (hi a b u hu (by rw [hv]; exact congrArg some z.symm)), hab⟩
def below (P : List (Nat × Nat)) (S : Nat) : List (Nat × Nat) := P.filter fun p => decide (p.1 < S)
theorem mem_below {P : List (Nat × Nat)} {S : Nat} {p : Nat × Nat} : p ∈ below P S ↔ p ∈ P ∧ p.1 < S := by
  unfold below
  rw [List.mem_filter, decide_eq_true_eq]
theorem len_more {P : List (Nat × Nat)} {m m' : List (Nat × Nat)} (hm : IsM P m) (hm' : IsM P m') (s : Nat) (hs : NoS m s) (h : ∀ t, (∃ e ∈ m', e.1 = t) ↔ t = s ∨ ∃ e ∈ m, e.1 = t) : m'.length = m.length + 1 := by
  have n1 : (m.map Prod.fst).Nodup := by
    rw [List.Nodup, List.pairwise_map]
    exact hm.2.imp fun h => h.1
  have n2 : (m'.map Prod.fst).Nodup := by
    rw [List.Nodup, List.pairwise_map]
    exact hm'.2.imp fun h => h.1
  have n3 : (s :: m.map Prod.fst).Nodup := List.nodup_cons.2 ⟨fun z => by
    obtain ⟨e, he, ee⟩ := List.mem_map.1 z
    exact hs e he ee, n1⟩
  have hp : (m'.map Prod.fst).Perm (s :: m.map Prod.fst) := (List.perm_ext_iff_of_nodup n2 n3).2 fun t => by
    rw [List.mem_cons, List.mem_map, List.mem_map]
    exact h t
  have := hp.length_eq
  simpa using this
structure Grown (P : List (Nat × Nat)) (B S : Nat) (o : Nat → Option Nat) : Prop where
  inj : ∀ a b t, o a = some t → o b = some t → a = b
  srv : ∀ n t, o n = some t → (t, n) ∈ P ∧ t < S
  max : MaxM (below P S) (mo B o)
theorem grown_none (P : List (Nat × Nat)) (B : Nat) : Grown P B 0 (fun _ => none) := by
  refine ⟨fun a b t h => (by cases h), fun n t h => (by cases h), ⟨mo_isM (fun a b t h => (by cases h)) (fun n t _ h => (by cases h)), fun m' hm' => ?_⟩⟩
  cases m' with
  | nil => exact Nat.zero_le _
  | cons e m' => exact absurd (mem_below.1 (hm'.1 e (List.mem_cons_self ..))).2 (Nat.not_lt_zero _)
theorem grown_fail {P : List (Nat × Nat)} {B S : Nat} {o o' : Nat → Option Nat} {e' : Nat → Bool} {adj : Nat → Nat → Bool} (hB : ∀ p ∈ P, p.2 < B) (ha : ∀ s n, n < B → (adj s n = true ↔ (s, n) ∈ P)) (g : Grown P B S o) (h : Gr adj (List.range B) o (fun _ => false) S (List.range B) false o' e') : o' = o ∧ Grown P B (S + 1) o := by
  have f := h.fail rfl
  refine ⟨f.same, g.inj, fun n t hn => ⟨(g.srv n t hn).1, Nat.lt_succ_of_lt (g.srv n t hn).2⟩, ?_⟩
  have hM : IsM (below P (S + 1)) (mo B o) := mo_isM g.inj fun n t _ hn => mem_below.2 ⟨(g.srv n t hn).1, Nat.lt_succ_of_lt (g.srv n t hn).2⟩
  let N0 : Nat → Prop := fun n => ∃ k s0, NoS (mo B o) s0 ∧ Pth (below P S) (mo B o) k s0 n
  let S0 : Nat → Prop := fun t => t < S ∧ (NoS (mo B o) t ∨ ∃ n, N0 n ∧ (t, n) ∈ mo B o)
  let S1 : Nat → Prop := fun t => t = S ∨ ∃ n, e' n = true ∧ o n = some t
  refine max_of_closed hM (fun t => S0 t ∨ S1 t) (fun n => N0 n ∨ e' n = true) ?_ ?_ ?_ ?_
  · intro p hp hs
    by_cases q : p.1 < S
    · exact .inl ⟨q, .inl hs⟩
    · exact .inr (.inl (by have := (mem_below.1 hp).2; omega))
  · rintro p hp (⟨q, hq⟩ | hq)
    · have hp' : p ∈ below P S := mem_below.2 ⟨(mem_below.1 hp).1, q⟩
      rcases hq with hq | ⟨n, ⟨k, s0, h1, h2⟩, h3⟩
      · exact .inl ⟨0, p.1, hq, .last hp'⟩
      · exact .inl ⟨k + 1, s0, h1, h2.snoc h3 hp'⟩
    · have hpP := (mem_below.1 hp).1
      have hb := hB p hpP
      have hadj : adj p.1 p.2 = true := (ha p.1 p.2 hb).2 hpP
      rcases hq with hq | ⟨n, h1, h2⟩
      · exact .inr (f.here p.2 (List.mem_range.2 hb) (hq ▸ hadj))
      · obtain ⟨t, ht, hc⟩ := f.held n h1 rfl
        have : t = p.1 := Option.some.inj (ht.symm.trans h2)
        subst this
        exact .inr (hc p.2 (List.mem_range.2 hb) hadj)
  · rintro e he (hq | hq)
    · obtain ⟨h1, h2⟩ := mem_mo.1 (show (e.1, e.2) ∈ mo B o from he)
      exact .inl ⟨(g.srv _ _ h2).2, .inr ⟨e.2, hq, he⟩⟩
    · obtain ⟨h1, h2⟩ := mem_mo.1 (show (e.1, e.2) ∈ mo B o from he)
      exact .inr (.inr ⟨e.2, hq, h2⟩)
  · rintro p hp (⟨k, s0, h1, h2⟩ | hq)
    · exact g.max.reached h1 h2
    · obtain ⟨t, ht, _⟩ := f.held p.2 hq rfl
      exact ⟨(t, p.2), mem_mo.2 ⟨hB p (mem_below.1 hp).1, ht⟩, rfl⟩
theorem grown_won {P : List (Nat × Nat)} {B S : Nat} {o o' : Nat → Option Nat} {e' : Nat → Bool} {adj : Nat → Nat → Bool} (hB : ∀ p ∈ P, p.2 < B) (ha : ∀ s n, n < B → (adj s n = true ↔ (s, n) ∈ P)) (ho : ∀ n, B ≤ n → o' n = none) (g : Grown P B S o) (h : Gr adj (List.range B) o (fun _ => false) S (List.range B) true o' e') : Grown P B (S + 1) o' ∧ (mo B o').length = (mo B o).length + 1 := by
  have hs : ∀ n, o n ≠ some S := fun n z => Nat.lt_irrefl _ (g.srv n S z).2
  have w := h.won rfl (fun a b t _ _ h1 h2 => g.inj a b t h1 h2) (fun n t _ hn => (ha t n (hB _ (g.srv n t hn).1)).2 (g.srv n t hn).1) (fun n _ => hs n)
  have lt' : ∀ n t, o' n = some t → n < B := fun n t hn => by
    apply Classical.byContradiction
    intro hc
    rw [ho n (by omega)] at hn; cases hn
  have inj' : ∀ a b t, o' a = some t → o' b = some t → a = b := fun a b t h1 h2 => w.inj a b t rfl rfl h1 h2
  have srv' : ∀ n t, o' n = some t → (t, n) ∈ P ∧ t < S + 1 := fun n t hn => by
    refine ⟨(ha t n (lt' n t hn)).1 (w.adj n t rfl hn), ?_⟩
    rcases (w.srv t).1 ⟨n, rfl, hn⟩ with rfl | ⟨k, _, hk⟩
    · exact Nat.lt_succ_self _
    · exact Nat.lt_succ_of_lt (g.srv k t hk).2
  have hM' : IsM (below P (S + 1)) (mo B o') := mo_isM inj' fun n t _ hn => mem_below.2 (srv' n t hn)
  have hM : IsM (below P (S + 1)) (mo B o) := mo_isM g.inj fun n t _ hn => mem_below.2 ⟨(g.srv n t hn).1, Nat.lt_succ_of_lt (g.srv n t hn).2⟩
  have hlen : (mo B o').length = (mo B o).length + 1 := by
    refine len_more hM hM' S (fun e he z => ?_) fun t => ?_
    · obtain ⟨_, h2⟩ := mem_mo.1 (show (e.1, e.2) ∈ mo B o from he)
      exact hs e.2 (z ▸ h2)
    · constructor
      · rintro ⟨e, he, rfl⟩
        obtain ⟨_, h2⟩ := mem_mo.1 (show (e.1, e.2) ∈ mo B o' from he)
        rcases (w.srv e.1).1 ⟨e.2, rfl, h2⟩ with q | ⟨k, _, hk⟩
        · exact .inl q
        · exact .inr ⟨(e.1, k), mem_mo.2 ⟨hB _ (g.srv k _ hk).1, hk⟩, rfl⟩
      · intro q
        have : ∃ n, (fun _ => false : Nat → Bool) n = false ∧ o' n = some t := by
          rcases q with q | ⟨e, he, rfl⟩
          · exact (w.srv t).2 (.inl q)
          · obtain ⟨_, h2⟩ := mem_mo.1 (show (e.1, e.2) ∈ mo B o from he)
            exact (w.srv e.1).2 (.inr ⟨e.2, rfl, h2⟩)
        obtain ⟨n, _, hn⟩ := this
        exact ⟨(t, n), mem_mo.2 ⟨lt' n t hn, hn⟩, rfl⟩
  refine ⟨⟨inj', srv', hM', fun m' hm' => ?_⟩, hlen⟩
  rw [hlen]
  by_cases q : ∃ e ∈ m', e.1 = S
  · obtain ⟨e, he, ee⟩ := q
    have h1 : IsM (below P S) (m'.erase e) := by
      refine ⟨fun x hx => ?_, hm'.2.sublist (List.erase_sublist ..)⟩
      have hxm := List.mem_of_mem_erase hx
      have hxb := mem_below.1 (hm'.1 x hxm)
      refine mem_below.2 ⟨hxb.1, ?_⟩
      have hnd : m'.Nodup := hm'.2.imp fun h z => h.1 (by rw [z])
      have hne : x ≠ e := fun z => by
        subst z
        exact (List.Nodup.not_mem_erase hnd) hx
      have : x.1 ≠ S := fun z => hne (hm'.server hxm he (z.trans ee.symm))
      omega
    have h2 := g.max.2 _ h1
    rw [List.length_erase_of_mem he] at h2
    omega
  · have h1 : IsM (below P S) m' := ⟨fun x hx => by
      have hxb := mem_below.1 (hm'.1 x hx)
      refine mem_below.2 ⟨hxb.1, ?_⟩
      have : x.1 ≠ S := fun z => q ⟨x, hx, z⟩
      omega, hm'.2⟩
    have h2 := g.max.2 _ h1
    omega
end Go.Proofs.YtlhjpflljokinaaDoor.Hy
namespace Go.Proofs.YtlhjpflljokinaaDoor.Hy
theorem Gr.outside {adj : Nat → Nat → Bool} {all : List Nat} {o o' : Nat → Option Nat} {e e' : Nat → Bool} {s : Nat} {ns : List Nat} {b : Bool} (h : Gr adj all o e s ns b o' e') (n : Nat) (hn : n ∉ all) (hs : n ∉ ns) : o' n = o n := by
  induction h with
  | nil => rfl
  | skip _ _ ih => exact ih fun z => hs (List.mem_cons_of_mem _ z)
  | free =>
    unfold updO
    rw [if_neg]
    intro z
    exact hs (by rw [z]; exact List.mem_cons_self ..)
  | moved _ _ _ _ ih =>
    unfold updO
    rw [if_neg]
    · exact ih hn
    · intro z
      exact hs (by rw [z]; exact List.mem_cons_self ..)
  | stuck _ _ _ _ _ ih1 ih2 => rw [ih2 fun z => hs (List.mem_cons_of_mem _ z), ih1 hn]
theorem grown_step {P : List (Nat × Nat)} {B S : Nat} {o o' : Nat → Option Nat} {e' : Nat → Bool} {adj : Nat → Nat → Bool} {b : Bool} (hB : ∀ p ∈ P, p.2 < B) (ha : ∀ s n, n < B → (adj s n = true ↔ (s, n) ∈ P)) (g : Grown P B S o) (h : Gr adj (List.range B) o (fun _ => false) S (List.range B) b o' e') : Grown P B (S + 1) o' ∧ (mo B o').length = (mo B o).length + b.toNat := by
  cases b with
  | false =>
    obtain ⟨e, g'⟩ := grown_fail hB ha g h
    rw [e]
    exact ⟨g', rfl⟩
  | true =>
    refine grown_won hB ha (fun n hn => ?_) g h
    have hr : n ∉ List.range B := fun z => Nat.lt_irrefl _ (Nat.lt_of_lt_of_le (List.mem_range.1 z) hn)
    rw [h.outside n hr hr]
    cases z : o n with
    | none => rfl
    | some t => exact absurd (hB _ (g.srv n t z).1) (by simp only []; omega)
theorem grown_all {P : List (Nat × Nat)} {B S : Nat} {o : Nat → Option Nat} (hS : ∀ p ∈ P, p.1 < S) (g : Grown P B S o) : MaxM P (mo B o) := by
  have : below P S = P := List.filter_eq_self.2 fun p hp => decide_eq_true (hS p hp)
  have h := g.max
  rwa [this] at h
theorem max_len {P m m' : List (Nat × Nat)} (h : MaxM P m) (h' : MaxM P m') : m.length = m'.length := Nat.le_antisymm (h'.2 m h.1) (h.2 m' h'.1)
def places (f : Nat × Nat → Nat) (A : Nat) (P : List (Nat × Nat)) : Nat := (List.range A).countP fun s => P.any fun p => decide (f p = s)
theorem le_places (f : Nat × Nat → Nat) (A : Nat) (P m : List (Nat × Nat)) (hm : ∀ e ∈ m, e ∈ P) (hd : m.Pairwise fun a b => f a ≠ f b) (hA : ∀ p ∈ P, f p < A) : m.length ≤ places f A P := by
  unfold places
  rw [List.countP_eq_length_filter]
  refine inj_len f m _ (fun e he => ?_) hd
  rw [List.mem_filter]
  exact ⟨List.mem_range.2 (hA e (hm e he)), List.any_eq_true.2 ⟨e, hm e he, by simp⟩⟩
theorem IsM.le_servers {P m : List (Nat × Nat)} (h : IsM P m) {A : Nat} (hA : ∀ p ∈ P, p.1 < A) : m.length ≤ places Prod.fst A P := le_places _ A P m h.1 (h.2.imp fun h => h.1) hA
theorem IsM.le_numbers {P m : List (Nat × Nat)} (h : IsM P m) {A : Nat} (hA : ∀ p ∈ P, p.2 < A) : m.length ≤ places Prod.snd A P := le_places _ A P m h.1 (h.2.imp fun h => h.2) hA
theorem places_more (f : Nat × Nat → Nat) (A : Nat) (P : List (Nat × Nat)) (p : Nat × Nat) (hp : f p < A) : places f A P ≤ places f A (P ++ [p]) ∧ places f A (P ++ [p]) ≤ places f A P + 1 := by
  unfold places
  constructor
  · refine List.countP_mono_left fun s _ h => ?_
    rw [List.any_append, h]
    rfl
  · by_cases q : P.any (fun x => decide (f x = f p)) = true
    · refine Nat.le_succ_of_le (Nat.le_of_eq (List.countP_congr fun s _ => ?_))
      rw [List.any_append]
      constructor
      · intro h
        rcases Bool.or_eq_true_iff.1 h with h | h
        · exact h
        · have : f p = s := by simpa using h
          rw [← this]; exact q
      · intro h
        rw [h]; rfl
    · have e : (fun s => (P ++ [p]).any fun x => decide (f x = s)) = fun s => (P.any fun x => decide (f x = s)) || (true && decide (s = f p)) := by
        funext s
        rw [List.any_append]
        congr 1
        simp [eq_comm]
      rw [e, count_or, count_one A (f p) hp true]
      · simp
      · rintro s _ ⟨h1, h2⟩
        have : s = f p := by simpa using h2
        rw [this] at h1
        exact q h1
end Go.Proofs.YtlhjpflljokinaaDoor.Hy
namespace Go.Proofs.YtlhjpflljokinaaDoor.Hy
def oF (F : Nat → Bool) (o : Nat → Option Nat) : Nat → Option Nat := fun s => if F s = true then none else o s
theorem oF_some {F : Nat → Bool} {o : Nat → Option Nat} {s n : Nat} : oF F o s = some n ↔ F s = false ∧ o s = some n := by
  unfold oF
  cases h : F s
  · simp
  · simp
def Qp (P : List (Nat × Nat)) (F X : Nat → Bool) : List (Nat × Nat) := (P.filter fun p => X p.2 && !F p.1).map fun p => (p.2, p.1)
theorem mem_Qp {P : List (Nat × Nat)} {F X : Nat → Bool} {n s : Nat} : (n, s) ∈ Qp P F X ↔ (s, n) ∈ P ∧ X n = true ∧ F s = false := by
  unfold Qp
  rw [List.mem_map]
  constructor
  · rintro ⟨p, hp, he⟩
    rw [List.mem_filter] at hp
    injection he with h1 h2
    subst h1 h2
    simp only [Bool.and_eq_true, Bool.not_eq_true'] at hp
    exact ⟨hp.1, hp.2⟩
  · rintro ⟨h1, h2, h3⟩
    exact ⟨(s, n), List.mem_filter.2 ⟨h1, by simp [h2, h3]⟩, rfl⟩
structure GI (P : List (Nat × Nat)) (B : Nat) (F X : Nat → Bool) (o : Nat → Option Nat) : Prop where
  inj : ∀ a b t, o a = some t → o b = some t → a = b
  pair : ∀ s n, o s = some n → (s, n) ∈ P
  inX : ∀ s n, F s = false → o s = some n → X n = true
  max : MaxM (Qp P F X) (mo B (oF F o))
def Held (adj : Nat → Nat → Bool) (B : Nat) (F e : Nat → Bool) (o : Nat → Option Nat) : Prop := (∀ s, F s = true → e s = true) ∧ ∀ s, e s = true → F s = false → ∃ t, o s = some t ∧ ∀ k ∈ List.range B, adj t k = true → e k = true
theorem held_start (adj : Nat → Nat → Bool) (B : Nat) (F : Nat → Bool) (o : Nat → Option Nat) : Held adj B F F o := ⟨fun _ h => h, fun s h1 h2 => by rw [h1] at h2; cases h2⟩
theorem gi_isM {P : List (Nat × Nat)} {B : Nat} {F X : Nat → Bool} {o : Nat → Option Nat} (inj : ∀ a b t, o a = some t → o b = some t → a = b) (pair : ∀ s n, o s = some n → (s, n) ∈ P) (inX : ∀ s n, F s = false → o s = some n → X n = true) : IsM (Qp P F X) (mo B (oF F o)) :=
  mo_isM (fun a b t h1 h2 => inj a b t (oF_some.1 h1).2 (oF_some.1 h2).2) fun s n _ h => mem_Qp.2 ⟨pair s n (oF_some.1 h).2, inX s n (oF_some.1 h).1 (oF_some.1 h).2, (oF_some.1 h).1⟩
theorem gi_start {P : List (Nat × Nat)} {B : Nat} {F : Nat → Bool} {o : Nat → Option Nat} (hB : ∀ p ∈ P, p.1 < B) (inj : ∀ a b t, o a = some t → o b = some t → a = b) (pair : ∀ s n, o s = some n → (s, n) ∈ P) : ∃ X, GI P B F X o := by
  classical
  refine ⟨fun n => decide (∃ s, F s = false ∧ o s = some n), inj, pair, fun s n h1 h2 => decide_eq_true ⟨s, h1, h2⟩, gi_isM inj pair (fun s n h1 h2 => decide_eq_true ⟨s, h1, h2⟩), fun m' hm' => ?_⟩
  have key : Cov (Qp P F fun n => decide (∃ s, F s = false ∧ o s = some n)) ((mo B (oF F o)).map fun e => (true, e.1)) := fun p hp => by
    obtain ⟨h1, h2, h3⟩ := mem_Qp.1 (show (p.1, p.2) ∈ _ from hp)
    obtain ⟨s, h4, h5⟩ := of_decide_eq_true h2
    exact .inl (List.mem_map.2 ⟨(p.1, s), mem_mo.2 ⟨hB _ (pair s _ h5), oF_some.2 ⟨h4, h5⟩⟩, rfl⟩)
  have := key.bound hm'
  simpa using this
def withX (X : Nat → Bool) (n : Nat) : Nat → Bool := fun k => X k || decide (k = n)
theorem withX_old {X : Nat → Bool} {n k : Nat} (h : X k = true) : withX X n k = true := by unfold withX; rw [h]; rfl
theorem withX_new (X : Nat → Bool) (n : Nat) : withX X n n = true := by unfold withX; simp
theorem withX_inv {X : Nat → Bool} {n k : Nat} (h : withX X n k = true) : X k = true ∨ k = n := by
  unfold withX at h
  simpa using h
theorem gi_fail {P : List (Nat × Nat)} {B n : Nat} {F X e e' : Nat → Bool} {o o' : Nat → Option Nat} {adj : Nat → Nat → Bool} (hB : ∀ p ∈ P, p.1 < B) (ha : ∀ s n, s < B → (adj n s = true ↔ (s, n) ∈ P)) (g : GI P B F X o) (hh : Held adj B F e o) (h : Gr adj (List.range B) o e n (List.range B) false o' e') :
    o' = o ∧ GI P B F (withX X n) o ∧ Held adj B F e' o := by
  have f := h.fail rfl
  have hh' : Held adj B F e' o := ⟨fun s q => f.more s (hh.1 s q), fun s h1 h2 => by
    cases q : e s
    · exact f.held s h1 q
    · obtain ⟨t, ht, hc⟩ := hh.2 s q h2
      exact ⟨t, ht, fun k hk hak => f.more k (hc k hk hak)⟩⟩
  refine ⟨f.same, ⟨g.inj, g.pair, fun s k h1 h2 => withX_old (g.inX s k h1 h2), ?_⟩, hh'⟩
  have hM : IsM (Qp P F (withX X n)) (mo B (oF F o)) := gi_isM g.inj g.pair fun s k h1 h2 => withX_old (g.inX s k h1 h2)
  let N0 : Nat → Prop := fun s => ∃ k s0, NoS (mo B (oF F o)) s0 ∧ Pth (Qp P F X) (mo B (oF F o)) k s0 s
  let S0 : Nat → Prop := fun t => X t = true ∧ (NoS (mo B (oF F o)) t ∨ ∃ s, N0 s ∧ (t, s) ∈ mo B (oF F o))
  let N1 : Nat → Prop := fun s => e' s = true ∧ F s = false
  let S1 : Nat → Prop := fun t => t = n ∨ ∃ s, N1 s ∧ o s = some t
  refine max_of_closed hM (fun t => S0 t ∨ S1 t) (fun s => N0 s ∨ N1 s) ?_ ?_ ?_ ?_
  · intro p hp hs
    obtain ⟨h1, h2, h3⟩ := mem_Qp.1 (show (p.1, p.2) ∈ _ from hp)
    rcases withX_inv h2 with q | q
    · exact .inl ⟨q, .inl hs⟩
    · exact .inr (.inl q)
  · rintro p hp (⟨q, hq⟩ | hq)
    · obtain ⟨h1, h2, h3⟩ := mem_Qp.1 (show (p.1, p.2) ∈ _ from hp)
      have hp' : (p.1, p.2) ∈ Qp P F X := mem_Qp.2 ⟨h1, q, h3⟩
      rcases hq with hq | ⟨s, ⟨k, s0, q1, q2⟩, q3⟩
      · exact .inl ⟨0, p.1, hq, .last hp'⟩
      · exact .inl ⟨k + 1, s0, q1, q2.snoc q3 hp'⟩
    · obtain ⟨h1, h2, h3⟩ := mem_Qp.1 (show (p.1, p.2) ∈ _ from hp)
      have hb := hB _ h1
      have hadj : adj p.1 p.2 = true := (ha p.2 p.1 hb).2 h1
      rcases hq with hq | ⟨s, q1, q2⟩
      · exact .inr ⟨f.here p.2 (List.mem_range.2 hb) (hq ▸ hadj), h3⟩
      · obtain ⟨t, ht, hc⟩ := hh'.2 s q1.1 q1.2
        have : t = p.1 := Option.some.inj (ht.symm.trans q2)
        subst this
        exact .inr ⟨hc p.2 (List.mem_range.2 hb) hadj, h3⟩
  · rintro x hx (hq | hq)
    · obtain ⟨h1, h2⟩ := mem_mo.1 (show (x.1, x.2) ∈ mo B (oF F o) from hx)
      exact .inl ⟨g.inX _ _ (oF_some.1 h2).1 (oF_some.1 h2).2, .inr ⟨x.2, hq, hx⟩⟩
    · obtain ⟨h1, h2⟩ := mem_mo.1 (show (x.1, x.2) ∈ mo B (oF F o) from hx)
      exact .inr (.inr ⟨x.2, hq, (oF_some.1 h2).2⟩)
  · rintro p hp (⟨k, s0, h1, h2⟩ | hq)
    · exact g.max.reached h1 h2
    · obtain ⟨t, ht, _⟩ := hh'.2 p.2 hq.1 hq.2
      exact ⟨(t, p.2), mem_mo.2 ⟨hB _ (mem_Qp.1 (show (p.1, p.2) ∈ _ from hp)).1, oF_some.2 ⟨hq.2, ht⟩⟩, rfl⟩
theorem gi_won {P : List (Nat × Nat)} {B n : Nat} {F X e e' : Nat → Bool} {o o' : Nat → Option Nat} {adj : Nat → Nat → Bool} (hB : ∀ p ∈ P, p.1 < B) (ha : ∀ s n, s < B → (adj n s = true ↔ (s, n) ∈ P)) (g : GI P B F X o) (hh : Held adj B F e o) (hn : ∀ s, o s ≠ some n) (h : Gr adj (List.range B) o e n (List.range B) true o' e') :
    GI P B F (withX X n) o' ∧ (∀ s, F s = true → o' s = o s) := by
  have w := h.won rfl (fun a b t _ _ h1 h2 => g.inj a b t h1 h2) (fun s t _ hs => (ha s t (hB _ (g.pair s t hs))).2 (g.pair s t hs)) (fun s _ => hn s)
  have keep : ∀ s, F s = true → o' s = o s := fun s q => w.old s (hh.1 s q)
  have out : ∀ s, B ≤ s → o' s = none := fun s hs => by
    have hr : s ∉ List.range B := fun z => Nat.lt_irrefl _ (Nat.lt_of_lt_of_le (List.mem_range.1 z) hs)
    rw [h.outside s hr hr]
    cases z : o s with
    | none => rfl
    | some t => exact absurd (hB _ (g.pair s t z)) (by simp only []; omega)
  have lt' : ∀ s t, o' s = some t → s < B := fun s t hs => by
    apply Classical.byContradiction
    intro hc
    rw [out s (by omega)] at hs; cases hs
  have mix : ∀ a b t, e a = true → e b = false → o' a = some t → o' b = some t → False := fun a b t h1 h2 h3 h4 => by
    have h3' : o a = some t := (w.old a h1).symm.trans h3
    rcases (w.srv t).1 ⟨b, h2, h4⟩ with q | ⟨k, q1, q2⟩
    · exact hn a (q ▸ h3')
    · have := g.inj a k t h3' q2
      subst this
      rw [h1] at q1; cases q1
  have inj' : ∀ a b t, o' a = some t → o' b = some t → a = b := fun a b t h1 h2 => by
    cases za : e a <;> cases zb : e b
    · exact w.inj a b t za zb h1 h2
    · exact (mix b a t zb za h2 h1).elim
    · exact (mix a b t za zb h1 h2).elim
    · exact g.inj a b t ((w.old a za).symm.trans h1) ((w.old b zb).symm.trans h2)
  have pair' : ∀ s k, o' s = some k → (s, k) ∈ P := fun s k hs => by
    cases z : e s
    · exact (ha s k (lt' s k hs)).1 (w.adj s k z hs)
    · exact g.pair s k ((w.old s z).symm.trans hs)
  have inX' : ∀ s k, F s = false → o' s = some k → withX X n k = true := fun s k hF hs => by
    cases z : e s
    · rcases (w.srv k).1 ⟨s, z, hs⟩ with q | ⟨j, q1, q2⟩
      · rw [q]; exact withX_new X n
      · refine withX_old (g.inX j k ?_ q2)
        cases zz : F j
        · rfl
        · rw [hh.1 j zz] at q1; cases q1
    · exact withX_old (g.inX s k hF ((w.old s z).symm.trans hs))
  have hM' : IsM (Qp P F (withX X n)) (mo B (oF F o')) := gi_isM inj' pair' inX'
  have hM : IsM (Qp P F (withX X n)) (mo B (oF F o)) := gi_isM g.inj g.pair fun s k h1 h2 => withX_old (g.inX s k h1 h2)
  have fe : ∀ s, e s = false → F s = false := fun s q => by
    cases zz : F s
    · rfl
    · rw [hh.1 s zz] at q; cases q
  have hlen : (mo B (oF F o')).length = (mo B (oF F o)).length + 1 := by
    refine len_more hM hM' n (fun x hx z => ?_) fun t => ?_
    · obtain ⟨_, h2⟩ := mem_mo.1 (show (x.1, x.2) ∈ mo B (oF F o) from hx)
      exact hn x.2 (z ▸ (oF_some.1 h2).2)
    · constructor
      · rintro ⟨x, hx, rfl⟩
        obtain ⟨_, h2⟩ := mem_mo.1 (show (x.1, x.2) ∈ mo B (oF F o') from hx)
        obtain ⟨q1, q2⟩ := oF_some.1 h2
        cases z : e x.2
        · rcases (w.srv x.1).1 ⟨x.2, z, q2⟩ with q | ⟨k, q3, q4⟩
          · exact .inl q
          · exact .inr ⟨(x.1, k), mem_mo.2 ⟨hB _ (g.pair k _ q4), oF_some.2 ⟨fe k q3, q4⟩⟩, rfl⟩
        · have q4 : o x.2 = some x.1 := (w.old x.2 z).symm.trans q2
          exact .inr ⟨(x.1, x.2), mem_mo.2 ⟨hB _ (g.pair _ _ q4), oF_some.2 ⟨q1, q4⟩⟩, rfl⟩
      · intro q
        have hx : ∃ s, F s = false ∧ o' s = some t := by
          rcases q with q | ⟨x, hx, rfl⟩
          · obtain ⟨s, h1, h2⟩ := (w.srv t).2 (.inl q)
            exact ⟨s, fe s h1, h2⟩
          · obtain ⟨_, h2⟩ := mem_mo.1 (show (x.1, x.2) ∈ mo B (oF F o) from hx)
            obtain ⟨q1, q2⟩ := oF_some.1 h2
            cases z : e x.2
            · obtain ⟨s, h3, h4⟩ := (w.srv x.1).2 (.inr ⟨x.2, z, q2⟩)
              exact ⟨s, fe s h3, h4⟩
            · exact ⟨x.2, q1, (w.old x.2 z).trans q2⟩
        obtain ⟨s, h1, h2⟩ := hx
        exact ⟨(t, s), mem_mo.2 ⟨lt' s t h2, oF_some.2 ⟨h1, h2⟩⟩, rfl⟩
  refine ⟨⟨inj', pair', inX', hM', fun m' hm' => ?_⟩, keep⟩
  rw [hlen]
  by_cases q : ∃ x ∈ m', x.1 = n
  · obtain ⟨x, hx, ex⟩ := q
    have h1 : IsM (Qp P F X) (m'.erase x) := by
      refine ⟨fun y hy => ?_, hm'.2.sublist (List.erase_sublist ..)⟩
      have hym := List.mem_of_mem_erase hy
      obtain ⟨q1, q2, q3⟩ := mem_Qp.1 (show (y.1, y.2) ∈ _ from hm'.1 y hym)
      have hnd : m'.Nodup := hm'.2.imp fun h z => h.1 (by rw [z])
      have hne : y ≠ x := fun z => by
        subst z
        exact (List.Nodup.not_mem_erase hnd) hy
      have hyn : y.1 ≠ n := fun z => hne (hm'.server hym hx (z.trans ex.symm))
      exact mem_Qp.2 ⟨q1, (withX_inv q2).resolve_right hyn, q3⟩
    have h2 := g.max.2 _ h1
    rw [List.length_erase_of_mem hx] at h2
    omega
  · have h1 : IsM (Qp P F X) m' := ⟨fun y hy => by
      obtain ⟨q1, q2, q3⟩ := mem_Qp.1 (show (y.1, y.2) ∈ _ from hm'.1 y hy)
      exact mem_Qp.2 ⟨q1, (withX_inv q2).resolve_right (fun z => q ⟨y, hy, z⟩), q3⟩, hm'.2⟩
    have h2 := g.max.2 _ h1
    omega
def sz (B : Nat) (o : Nat → Option Nat) : Nat := (List.range B).countP fun s => (o s).isSome
theorem mo_len (B : Nat) (o : Nat → Option Nat) : (mo B o).length = sz B o := by
  unfold mo sz
  induction List.range B with
  | nil => rfl
  | cons s l ih =>
    cases h : o s with
    | none => simp [List.filterMap_cons, h, ih]
    | some t => simp [List.filterMap_cons, h, ih]
theorem sz_split (B : Nat) (F : Nat → Bool) (o : Nat → Option Nat) : sz B o = (List.range B).countP (fun s => F s && (o s).isSome) + (mo B (oF F o)).length := by
  rw [mo_len]
  unfold sz oF
  induction List.range B with
  | nil => rfl
  | cons s l ih =>
    simp only [List.countP_cons]
    rw [ih]
    cases hF : F s <;> cases h : (o s).isSome <;> simp [hF, h] <;> omega
def Agr (F : Nat → Bool) (o : Nat → Option Nat) (m : List (Nat × Nat)) : Prop := ∀ s n, F s = true → ((s, n) ∈ m ↔ o s = some n)
theorem gi_end {P : List (Nat × Nat)} {B : Nat} {F X : Nat → Bool} {o : Nat → Option Nat} (hB : ∀ p ∈ P, p.1 < B) (g : GI P B F X o) (hX : ∀ p ∈ P, X p.2 = true ∨ ∃ s, F s = true ∧ o s = some p.2) (m : List (Nat × Nat)) (hm : IsM P m) (hA : Agr F o m) : m.length ≤ sz B o := by
  rw [sz_split B F o]
  have e : m.length = (m.filter fun x => F x.1).length + (m.filter fun x => !F x.1).length := by
    rw [← List.countP_eq_length_filter, ← List.countP_eq_length_filter, List.length_eq_countP_add_countP (fun x : Nat × Nat => F x.1)]
    congr 1
    refine List.countP_congr fun x _ => ?_
    cases F x.1 <;> simp
  rw [e]
  refine Nat.add_le_add ?_ ?_
  · rw [List.countP_eq_length_filter]
    refine inj_len (fun x => x.1) _ _ (fun x hx => ?_) ((hm.2.sublist (List.filter_sublist ..)).imp fun h => h.1)
    rw [List.mem_filter] at hx
    have ho := (hA x.1 x.2 hx.2).1 hx.1
    rw [List.mem_filter]
    exact ⟨List.mem_range.2 (hB x (hm.1 x hx.1)), by simp [hx.2, ho]⟩
  · have h1 : IsM (Qp P F X) ((m.filter fun x => !F x.1).map fun x => (x.2, x.1)) := by
      refine ⟨fun y hy => ?_, ?_⟩
      · obtain ⟨x, hx, rfl⟩ := List.mem_map.1 hy
        rw [List.mem_filter] at hx
        have hF : F x.1 = false := by simpa using hx.2
        refine mem_Qp.2 ⟨hm.1 x hx.1, ?_, hF⟩
        rcases hX x (hm.1 x hx.1) with q | ⟨s, q1, q2⟩
        · exact q
        · have hs := (hA s x.2 q1).2 q2
          have := hm.number hx.1 hs rfl
          rw [this] at hF
          simp only [] at hF
          rw [q1] at hF; cases hF
      · rw [List.pairwise_map]
        exact (hm.2.sublist (List.filter_sublist ..)).imp fun h => ⟨h.2, h.1⟩
    have h2 := g.max.2 _ h1
    simpa using h2
end Go.Proofs.YtlhjpflljokinaaDoor.Hy
namespace Go.Proofs.YtlhjpflljokinaaDoor.Hy
def PLt (a b : Nat × Nat) : Prop := a.1 < b.1 ∨ a.1 = b.1 ∧ a.2 < b.2
inductive LexLt : List (Nat × Nat) → List (Nat × Nat) → Prop
  | here {a b l l'} : PLt a b → LexLt (a :: l) (b :: l')
  | there {a l l'} : LexLt l l' → LexLt (a :: l) (a :: l')
theorem PLt.irrefl {a b : Nat × Nat} (h : PLt a b) : a ≠ b := fun e => by
  subst e
  rcases h with q | ⟨_, q⟩ <;> exact Nat.lt_irrefl _ q
theorem PLt.asymm {a b : Nat × Nat} (h : PLt a b) (h' : PLt b a) : False := by
  rcases h with q | ⟨e, q⟩ <;> rcases h' with q' | ⟨e', q'⟩ <;> omega
theorem LexLt.asymm {l l' : List (Nat × Nat)} (h : LexLt l l') : ¬ LexLt l' l := by
  induction h with
  | here q =>
    intro h'
    cases h' with
    | here q' => exact q.asymm q'
    | there _ => exact q.irrefl rfl
  | there _ ih =>
    intro h'
    cases h' with
    | here q' => exact q'.irrefl rfl
    | there h' => exact ih h'
def Srt (m : List (Nat × Nat)) : Prop := m.Pairwise fun a b => a.1 < b.1
def First (P m : List (Nat × Nat)) : Prop := MaxM P m ∧ Srt m ∧ ∀ m', MaxM P m' → Srt m' → m = m' ∨ LexLt m m'
theorem First.uniq {P m m' : List (Nat × Nat)} (h : First P m) (h' : First P m') : m = m' := by
  rcases h.2.2 m' h'.1 h'.2.1 with q | q
  · exact q
  · rcases h'.2.2 m h.1 h.2.1 with q' | q'
    · exact q'.symm
    · exact absurd q' q.asymm
theorem First.congr {P Q m : List (Nat × Nat)} (h : First P m) (he : ∀ p, p ∈ P ↔ p ∈ Q) : First Q m := by
  have hM : ∀ x, IsM P x ↔ IsM Q x := fun x => ⟨fun h => ⟨fun e q => (he e).1 (h.1 e q), h.2⟩, fun h => ⟨fun e q => (he e).2 (h.1 e q), h.2⟩⟩
  have hX : ∀ x, MaxM P x ↔ MaxM Q x := fun x => ⟨fun h => ⟨(hM x).1 h.1, fun y hy => h.2 y ((hM y).2 hy)⟩, fun h => ⟨(hM x).2 h.1, fun y hy => h.2 y ((hM y).1 hy)⟩⟩
  exact ⟨(hX m).1 h.1, h.2.1, fun m' h1 h2 => h.2.2 m' ((hX m').2 h1) h2⟩
def wo (P : List (Nat × Nat)) (s n : Nat) : List (Nat × Nat) := P.filter fun p => decide (p.1 ≠ s ∧ p.2 ≠ n)
def woS (P : List (Nat × Nat)) (s : Nat) : List (Nat × Nat) := P.filter fun p => decide (p.1 ≠ s)
theorem mem_wo {P : List (Nat × Nat)} {s n : Nat} {p : Nat × Nat} : p ∈ wo P s n ↔ p ∈ P ∧ p.1 ≠ s ∧ p.2 ≠ n := by
  unfold wo
  rw [List.mem_filter, decide_eq_true_eq]
theorem mem_woS {P : List (Nat × Nat)} {s : Nat} {p : Nat × Nat} : p ∈ woS P s ↔ p ∈ P ∧ p.1 ≠ s := by
  unfold woS
  rw [List.mem_filter, decide_eq_true_eq]
theorem IsM.cons {P m : List (Nat × Nat)} {s n : Nat} (hp : (s, n) ∈ P) (h : IsM (wo P s n) m) : IsM P ((s, n) :: m) := by
  refine ⟨fun e he => ?_, List.pairwise_cons.2 ⟨fun e he => ?_, h.2⟩⟩
  · rcases List.mem_cons.1 he with rfl | he
    · exact hp
    · exact (mem_wo.1 (h.1 e he)).1
  · have := (mem_wo.1 (h.1 e he)).2
    exact ⟨fun z => this.1 z.symm, fun z => this.2 z.symm⟩
theorem IsM.erase {P m : List (Nat × Nat)} {s n : Nat} (h : IsM P m) (hm : (s, n) ∈ m) : IsM (wo P s n) (m.erase (s, n)) ∧ (m.erase (s, n)).length + 1 = m.length := by
  have hnd : m.Nodup := h.2.imp fun h z => h.1 (by rw [z])
  refine ⟨⟨fun x hx => ?_, h.2.sublist (List.erase_sublist ..)⟩, ?_⟩
  · have hxm := List.mem_of_mem_erase hx
    have hne : x ≠ (s, n) := fun z => (List.Nodup.not_mem_erase hnd) (z ▸ hx)
    exact mem_wo.2 ⟨h.1 x hxm, fun z => hne (h.server hxm hm z), fun z => hne (h.number hxm hm z)⟩
  · rw [List.length_erase_of_mem hm]
    have : 0 < m.length := List.length_pos_of_mem hm
    omega
theorem with_iff {P m m1 : List (Nat × Nat)} {s n : Nat} (hp : (s, n) ∈ P) (h : MaxM P m) (h1 : MaxM (wo P s n) m1) : m1.length + 1 = m.length ↔ ∃ m', MaxM P m' ∧ (s, n) ∈ m' := by
  constructor
  · intro e
    refine ⟨(s, n) :: m1, ⟨h1.1.cons hp, fun x hx => ?_⟩, List.mem_cons_self ..⟩
    have := h.2 x hx
    rw [List.length_cons, e]
    exact this
  · rintro ⟨m', h2, h3⟩
    have e := h2.1.erase h3
    have q1 := h1.2 _ e.1
    have q2 := h.2 _ (h1.1.cons hp)
    have q3 := max_len h h2
    rw [List.length_cons] at q2
    omega
theorem first_take {P m : List (Nat × Nat)} {s n : Nat} (hs : ∀ p ∈ P, s ≤ p.1) (hp : (s, n) ∈ P) (hw : ∃ m', MaxM P m' ∧ (s, n) ∈ m') (hl : ∀ k, k < n → ¬ ∃ m', MaxM P m' ∧ (s, k) ∈ m') (h : First (wo P s n) m) : First P ((s, n) :: m) := by
  have hmax : MaxM P ((s, n) :: m) := by
    obtain ⟨m', h2, h3⟩ := hw
    have e := h2.1.erase h3
    refine ⟨h.1.1.cons hp, fun x hx => ?_⟩
    have q1 := h.1.2 _ e.1
    have q2 := h2.2 x hx
    rw [List.length_cons]
    omega
  refine ⟨hmax, List.pairwise_cons.2 ⟨fun e he => ?_, h.2.1⟩, fun m' h1 h2 => ?_⟩
  · have q := mem_wo.1 (h.1.1.1 e he)
    have := hs e q.1
    have := q.2.1
    simp only []
    omega
  · have hlen := max_len hmax h1
    cases m' with
    | nil => simp at hlen
    | cons a l =>
      have ha := h1.1.1 a (List.mem_cons_self ..)
      have hsa := hs a ha
      by_cases q1 : a.1 = s
      · have hn : n ≤ a.2 := by
          apply Classical.byContradiction
          intro hc
          refine hl a.2 (by omega) ⟨a :: l, h1, ?_⟩
          rw [← q1]
          exact List.mem_cons_self ..
        by_cases q2 : a.2 = n
        · have ea : a = (s, n) := Prod.ext q1 q2
          subst ea
          have hl' : IsM (wo P s n) l := ⟨fun e he => by
            have z := (List.pairwise_cons.1 h1.1.2).1 e he
            exact mem_wo.2 ⟨h1.1.1 e (List.mem_cons_of_mem _ he), fun q => z.1 q.symm, fun q => z.2 q.symm⟩, (List.pairwise_cons.1 h1.1.2).2⟩
          have hll : l.length = m.length := by
            simp only [List.length_cons] at hlen
            omega
          rcases h.2.2 l ⟨hl', fun x hx => by rw [hll]; exact h.1.2 x hx⟩ (List.pairwise_cons.1 h2).2 with z | z
          · exact .inl (by rw [z])
          · exact .inr (.there z)
        · exact .inr (.here (.inr ⟨q1.symm, by simp only []; omega⟩))
      · exact .inr (.here (.inl (by simp only []; omega)))
theorem first_none {P m m0 : List (Nat × Nat)} {s : Nat} (h0 : MaxM P m0) (hn : ∀ n, ¬ ∃ m', MaxM P m' ∧ (s, n) ∈ m') (h : First (woS P s) m) : First P m := by
  have noS : ∀ m', MaxM P m' → IsM (woS P s) m' := fun m' h' => ⟨fun e he => mem_woS.2 ⟨h'.1.1 e he, fun z => hn e.2 ⟨m', h', by rw [← z]; exact he⟩⟩, h'.1.2⟩
  have up : ∀ x, IsM (woS P s) x → IsM P x := fun x hx => ⟨fun e he => (mem_woS.1 (hx.1 e he)).1, hx.2⟩
  have hmax : MaxM P m := ⟨up m h.1.1, fun x hx => Nat.le_trans (h0.2 x hx) (h.1.2 m0 (noS m0 h0))⟩
  refine ⟨hmax, h.2.1, fun m' h1 h2 => h.2.2 m' ⟨noS m' h1, fun x hx => h1.2 x (up x hx)⟩ h2⟩
theorem first_nil {P : List (Nat × Nat)} (h : MaxM P []) : First P [] := by
  refine ⟨h, List.Pairwise.nil, fun m' h1 _ => .inl ?_⟩
  have := max_len h h1
  cases m' with
  | nil => rfl
  | cons => simp at this
end Go.Proofs.YtlhjpflljokinaaDoor.Hy
namespace Go.Proofs.YtlhjpflljokinaaDoor.Hy
def fmL (o : Nat → Option Nat) (L : List Nat) : List (Nat × Nat) := L.filterMap fun s => (o s).map fun n => (s, n)
def ml (B : Nat) (o : Nat → Option Nat) : List (Nat × Nat) := fmL o (List.range B)
theorem mem_fmL {o : Nat → Option Nat} {L : List Nat} {s n : Nat} : (s, n) ∈ fmL o L ↔ s ∈ L ∧ o s = some n := by
  unfold fmL
  rw [List.mem_filterMap]
  constructor
  · rintro ⟨k, h1, h2⟩
    rw [Option.map_eq_some_iff] at h2
    obtain ⟨u, h3, h4⟩ := h2
    injection h4 with h5 h6
    subst h5 h6
    exact ⟨h1, h3⟩
  · rintro ⟨h1, h2⟩
    exact ⟨s, h1, by rw [h2]; rfl⟩
theorem mem_ml {B : Nat} {o : Nat → Option Nat} {s n : Nat} : (s, n) ∈ ml B o ↔ s < B ∧ o s = some n := by
  unfold ml
  rw [mem_fmL, List.mem_range]
theorem ml_len (B : Nat) (o : Nat → Option Nat) : (ml B o).length = sz B o := by
  unfold ml fmL sz
  induction List.range B with
  | nil => rfl
  | cons s l ih =>
    cases h : o s with
    | none => simp [List.filterMap_cons, h, ih]
    | some t => simp [List.filterMap_cons, h, ih]
theorem fmL_srt {o : Nat → Option Nat} {L : List Nat} (h : L.Pairwise (· < ·)) : Srt (fmL o L) := by
  unfold fmL Srt
  rw [List.pairwise_filterMap]
  refine h.imp ?_
  intro a b hab x hx y hy
  rw [Option.map_eq_some_iff] at hx hy
  obtain ⟨u, hu, rfl⟩ := hx
  obtain ⟨v, hv, rfl⟩ := hy
  exact hab
theorem ml_srt (B : Nat) (o : Nat → Option Nat) : Srt (ml B o) := fmL_srt List.pairwise_lt_range
structure OkM (P : List (Nat × Nat)) (o : Nat → Option Nat) : Prop where
  inj : ∀ a b t, o a = some t → o b = some t → a = b
  pair : ∀ s n, o s = some n → (s, n) ∈ P
theorem OkM.isM {P : List (Nat × Nat)} {o : Nat → Option Nat} (h : OkM P o) (B : Nat) : IsM P (ml B o) := by
  refine ⟨fun e he => h.pair _ _ (mem_ml.1 (show (e.1, e.2) ∈ ml B o from he)).2, ?_⟩
  unfold ml fmL
  rw [List.pairwise_filterMap]
  refine (List.nodup_range (n := B)).imp ?_
  intro a b hab x hx y hy
  rw [Option.map_eq_some_iff] at hx hy
  obtain ⟨u, hu, rfl⟩ := hx
  obtain ⟨v, hv, rfl⟩ := hy
  exact ⟨hab, fun z => hab (h.inj a b u hu (by rw [hv]; exact congrArg some z.symm))⟩
def Most (P : List (Nat × Nat)) (B : Nat) (o : Nat → Option Nat) : Prop := ∀ m, IsM P m → m.length ≤ sz B o
theorem most_max {P : List (Nat × Nat)} {B : Nat} {o : Nat → Option Nat} (h : OkM P o) (hm : Most P B o) : MaxM P (ml B o) := ⟨h.isM B, fun m hm' => by rw [ml_len]; exact hm m hm'⟩
structure Gwn (P : List (Nat × Nat)) (B : Nat) (F : Nat → Bool) (o o' : Nat → Option Nat) : Prop where
  ok : OkM P o'
  keep : ∀ s, F s = true → o' s = o s
  most : ∀ m, IsM P m → Agr F o m → m.length ≤ sz B o'
def upTo (s : Nat) : Nat → Bool := fun k => decide (k < s)
def setO (o : Nat → Option Nat) (s n : Nat) : Nat → Option Nat := fun k => if k = s then some n else if o k = some n then none else o k
theorem setO_ok {P : List (Nat × Nat)} {o : Nat → Option Nat} {s n : Nat} (h : OkM P o) (hp : (s, n) ∈ P) : OkM P (setO o s n) := by
  refine ⟨fun a b t h1 h2 => ?_, fun k t h1 => ?_⟩
  · unfold setO at h1 h2
    by_cases qa : a = s <;> by_cases qb : b = s
    · rw [qa, qb]
    · rw [if_pos qa] at h1; rw [if_neg qb] at h2
      injection h1 with h1
      subst h1
      by_cases z : o b = some n
      · rw [if_pos z] at h2; cases h2
      · rw [if_neg z] at h2; exact absurd h2 z
    · rw [if_neg qa] at h1; rw [if_pos qb] at h2
      injection h2 with h2
      subst h2
      by_cases z : o a = some n
      · rw [if_pos z] at h1; cases h1
      · rw [if_neg z] at h1; exact absurd h1 z
    · rw [if_neg qa] at h1; rw [if_neg qb] at h2
      by_cases za : o a = some n
      · rw [if_pos za] at h1; cases h1
      · rw [if_neg za] at h1
        by_cases zb : o b = some n
        · rw [if_pos zb] at h2; cases h2
        · rw [if_neg zb] at h2
          exact h.inj a b t h1 h2
  · unfold setO at h1
    by_cases q : k = s
    · rw [if_pos q] at h1
      injection h1 with h1
      subst h1
      rw [q]; exact hp
    · rw [if_neg q] at h1
      by_cases z : o k = some n
      · rw [if_pos z] at h1; cases h1
      · rw [if_neg z] at h1
        exact h.pair k t h1
theorem setO_agr {P m : List (Nat × Nat)} {o : Nat → Option Nat} {s n : Nat} (hm : IsM P m) (hs : (s, n) ∈ m) (hA : Agr (upTo s) o m) : Agr (upTo (s + 1)) (setO o s n) m := by
  intro k j hk
  have hk : k < s + 1 := of_decide_eq_true hk
  unfold setO
  by_cases q : k = s
  · rw [if_pos q]
    subst q
    constructor
    · intro h
      have := hm.server h hs rfl
      injection this with _ e
      rw [e]
    · intro h
      injection h with h
      rw [← h]; exact hs
  · rw [if_neg q]
    have hks : upTo s k = true := decide_eq_true (by omega)
    have hne : ¬ o k = some n := fun z => q (by
      have h1 := (hA k n hks).2 z
      have := hm.number h1 hs rfl
      injection this)
    rw [if_neg hne]
    exact hA k j hks
def Can (P : List (Nat × Nat)) (o : Nat → Option Nat) (s n : Nat) : Prop := ∃ m, MaxM P m ∧ Agr (upTo s) o m ∧ (s, n) ∈ m
theorem Can.free {P : List (Nat × Nat)} {o : Nat → Option Nat} {s n : Nat} (h : Can P o s n) : (s, n) ∈ P ∧ ∀ k, k < s → o k ≠ some n := by
  obtain ⟨m, h1, h2, h3⟩ := h
  refine ⟨h1.1.1 _ h3, fun k hk z => ?_⟩
  have h4 := (h2 k n (decide_eq_true hk)).2 z
  have := h1.1.number h4 h3 rfl
  injection this with e
  omega
theorem can_iff {P : List (Nat × Nat)} {B s n : Nat} {o o' : Nat → Option Nat} (hB : ∀ p ∈ P, p.1 < B) (h : OkM P o) (hm : Most P B o) (hp : (s, n) ∈ P) (hf : ∀ k, k < s → o k ≠ some n) (g : Gwn P B (upTo (s + 1)) (setO o s n) o') : sz B o' = sz B o ↔ Can P o s n := by
  constructor
  · intro e
    refine ⟨ml B o', most_max g.ok (fun m hm' => by rw [e]; exact hm m hm'), fun k j hk => ?_, ?_⟩
    · have hk' : k < s := of_decide_eq_true hk
      rw [mem_ml, g.keep k (decide_eq_true (by omega))]
      have e2 : setO o s n k = o k := by
        unfold setO
        rw [if_neg (by omega), if_neg (hf k hk')]
      rw [e2]
      exact ⟨fun h => h.2, fun z => ⟨hB _ (h.pair k j z), z⟩⟩
    · rw [mem_ml, g.keep s (decide_eq_true (by omega))]
      exact ⟨hB _ hp, by unfold setO; rw [if_pos rfl]⟩
  · rintro ⟨m, h1, h2, h3⟩
    have q1 := g.most m h1.1 (setO_agr h1.1 h3 h2)
    have q2 := hm _ (g.ok.isM B)
    have q3 := h1.2 _ (h.isM B)
    rw [ml_len] at q2 q3
    omega
structure Stl (P : List (Nat × Nat)) (B s : Nat) (o o' : Nat → Option Nat) : Prop where
  ok : OkM P o'
  size : sz B o' = sz B o
  keep : ∀ k, k < s → o' k = o k
  least : ∀ n', Can P o s n' → ∃ n, o' s = some n ∧ n ≤ n'
theorem stl_take {P : List (Nat × Nat)} {B s n : Nat} {o o' : Nat → Option Nat} (hf : ∀ k, k < s → o k ≠ some n) (g : Gwn P B (upTo (s + 1)) (setO o s n) o') (e : sz B o' = sz B o) (hl : ∀ n', n' < n → ¬ Can P o s n') : Stl P B s o o' := by
  refine ⟨g.ok, e, fun k hk => ?_, fun n' hc => ⟨n, ?_, ?_⟩⟩
  · rw [g.keep k (decide_eq_true (by omega))]
    unfold setO
    rw [if_neg (by omega), if_neg (hf k hk)]
  · rw [g.keep s (decide_eq_true (by omega))]
    unfold setO
    rw [if_pos rfl]
  · apply Classical.byContradiction
    intro hc'
    exact hl n' (by omega) hc
theorem stl_none {P : List (Nat × Nat)} {B s : Nat} {o : Nat → Option Nat} (h : OkM P o) (hl : ∀ n', ¬ Can P o s n') : Stl P B s o o := ⟨h, rfl, fun _ _ => rfl, fun n' hc => absurd hc (hl n')⟩
theorem lex_pre {a b : List (Nat × Nat)} (h : LexLt a b) : ∀ (X : List (Nat × Nat)), LexLt (X ++ a) (X ++ b)
  | [] => h
  | _ :: X => .there (lex_pre h X)
theorem fm_cmp (o o1 : Nat → Option Nat) : ∀ (L : List Nat), fmL o L = fmL o1 L ∨ ∃ L1 s L2, L = L1 ++ s :: L2 ∧ (∀ k ∈ L1, o k = o1 k) ∧ o s ≠ o1 s
  | [] => .inl rfl
  | s :: L => by
    by_cases q : o s = o1 s
    · rcases fm_cmp o o1 L with h | ⟨L1, t, L2, h1, h2, h3⟩
      · refine .inl ?_
        unfold fmL at h ⊢
        rw [List.filterMap_cons, List.filterMap_cons, q, h]
      · refine .inr ⟨s :: L1, t, L2, by rw [h1]; rfl, fun k hk => ?_, h3⟩
        rcases List.mem_cons.1 hk with rfl | hk
        · exact q
        · exact h2 k hk
    · exact .inr ⟨[], s, L, rfl, fun k hk => absurd hk (by simp), q⟩
theorem fm_app (o : Nat → Option Nat) (a b : List Nat) : fmL o (a ++ b) = fmL o a ++ fmL o b := by unfold fmL; rw [List.filterMap_append]
theorem fm_congr {o o1 : Nat → Option Nat} : ∀ {L : List Nat}, (∀ k ∈ L, o k = o1 k) → fmL o L = fmL o1 L
  | [], _ => rfl
  | s :: L, h => by
    have ih := fm_congr (L := L) fun k hk => h k (List.mem_cons_of_mem _ hk)
    unfold fmL at ih ⊢
    rw [List.filterMap_cons, List.filterMap_cons, h s (List.mem_cons_self ..), ih]
theorem srt_ml {B : Nat} {m : List (Nat × Nat)} (hs : Srt m) (hB : ∀ e ∈ m, e.1 < B) : ∃ o1, m = ml B o1 ∧ ∀ s n, (s, n) ∈ m ↔ o1 s = some n := by
  have hu : ∀ a ∈ m, ∀ b ∈ m, a.1 = b.1 → a = b := by
    intro a ha b hb e
    obtain ⟨i, hi, rfl⟩ := List.getElem_of_mem ha
    obtain ⟨j, hj, rfl⟩ := List.getElem_of_mem hb
    rcases Nat.lt_trichotomy i j with q | q | q
    · have := (List.pairwise_iff_getElem.1 hs) i j hi hj q
      omega
    · subst q; rfl
    · have := (List.pairwise_iff_getElem.1 hs) j i hj hi q
      omega
  let o1 : Nat → Option Nat := fun s => (m.find? fun e => e.1 == s).map (·.2)
  have hm : ∀ s n, (s, n) ∈ m ↔ o1 s = some n := by
    intro s n
    constructor
    · intro h
      have hf : ∃ x, m.find? (fun e => e.1 == s) = some x := by
        cases z : m.find? (fun e => e.1 == s) with
        | some x => exact ⟨x, rfl⟩
        | none =>
          have := List.find?_eq_none.1 z (s, n) h
          simp at this
      obtain ⟨x, hx⟩ := hf
      have h1 := List.mem_of_find?_eq_some hx
      have h2 : x.1 = s := by simpa using List.find?_some hx
      have := hu x h1 (s, n) h h2
      show (m.find? fun e => e.1 == s).map (·.2) = some n
      rw [hx, this]
      rfl
    · intro h
      have h' : (m.find? fun e => e.1 == s).map (·.2) = some n := h
      rw [Option.map_eq_some_iff] at h'
      obtain ⟨x, hx, hn⟩ := h'
      have h1 := List.mem_of_find?_eq_some hx
      have h2 : x.1 = s := by simpa using List.find?_some hx
      rw [← h2, ← hn]
      exact h1
  refine ⟨o1, ?_, hm⟩
  have n1 : m.Nodup := hs.imp fun h e => by rw [e] at h; exact Nat.lt_irrefl _ h
  have n2 : (ml B o1).Nodup := (ml_srt B o1).imp fun h e => by rw [e] at h; exact Nat.lt_irrefl _ h
  have hp : m.Perm (ml B o1) := (List.perm_ext_iff_of_nodup n1 n2).2 fun x => by
    rw [show x = (x.1, x.2) from rfl, mem_ml, hm]
    exact ⟨fun h => ⟨hB x ((hm x.1 x.2).2 h), h⟩, fun h => h.2⟩
  exact List.Perm.eq_of_pairwise (le := fun a b : Nat × Nat => a.1 < b.1) (fun a b _ _ (h1 : a.1 < b.1) (h2 : b.1 < a.1) => absurd h1 (by omega)) hs (ml_srt B o1) hp
theorem first_of {P : List (Nat × Nat)} {B : Nat} {o : Nat → Option Nat} (hB : ∀ p ∈ P, p.1 < B) (h : OkM P o) (hm : Most P B o) (hl : ∀ s, s < B → ∀ n', Can P o s n' → ∃ n, o s = some n ∧ n ≤ n') : First P (ml B o) := by
  refine ⟨most_max h hm, ml_srt B o, fun m' h1 h2 => ?_⟩
  obtain ⟨o1, e1, hm1⟩ := srt_ml (B := B) h2 fun e he => hB e (h1.1.1 e he)
  have hlen : (ml B o).length = (ml B o1).length := by rw [← e1]; exact max_len (most_max h hm) h1
  rw [e1]
  rcases fm_cmp o o1 (List.range B) with q | ⟨L1, s, L2, q1, q2, q3⟩
  · exact .inl q
  · have hr : (L1 ++ s :: L2).Pairwise (· < ·) := by rw [← q1]; exact List.pairwise_lt_range
    rw [List.pairwise_append] at hr
    have hsB : s < B := List.mem_range.1 (by rw [q1]; simp)
    have hb : ∀ k, k < s → o k = o1 k := fun k hk => by
      have : k ∈ L1 ++ s :: L2 := by rw [← q1]; exact List.mem_range.2 (by omega)
      rcases List.mem_append.1 this with z | z
      · exact q2 k z
      · rcases List.mem_cons.1 z with z | z
        · omega
        · have := (List.pairwise_cons.1 hr.2.1).1 k z
          omega
    have hA : Agr (upTo s) o m' := fun k n hk => by rw [hm1 k n, hb k (of_decide_eq_true hk)]
    have eo : ml B o = fmL o L1 ++ fmL o (s :: L2) := by unfold ml; rw [q1, fm_app]
    have e2 : ml B o1 = fmL o L1 ++ fmL o1 (s :: L2) := by unfold ml; rw [q1, fm_app, fm_congr q2]
    refine .inr ?_
    rw [eo, e2]
    refine lex_pre ?_ _
    rw [eo, e2, List.length_append, List.length_append] at hlen
    cases z1 : o1 s with
    | some n' =>
      obtain ⟨n, h3, h4⟩ := hl s hsB n' ⟨m', h1, hA, (hm1 s n').2 z1⟩
      have hne : n ≠ n' := fun z => q3 (by rw [h3, z1, z])
      have x1 : fmL o (s :: L2) = (s, n) :: fmL o L2 := by unfold fmL; rw [List.filterMap_cons, h3]; rfl
      have x2 : fmL o1 (s :: L2) = (s, n') :: fmL o1 L2 := by unfold fmL; rw [List.filterMap_cons, z1]; rfl
      rw [x1, x2]
      exact .here (.inr ⟨rfl, by simp only []; omega⟩)
    | none =>
      cases z : o s with
      | none => exact absurd (z.trans z1.symm) q3
      | some n =>
        have x1 : fmL o (s :: L2) = (s, n) :: fmL o L2 := by unfold fmL; rw [List.filterMap_cons, z]; rfl
        have x2 : fmL o1 (s :: L2) = fmL o1 L2 := by unfold fmL; rw [List.filterMap_cons, z1]; rfl
        rw [x1, x2] at hlen ⊢
        cases y : fmL o1 L2 with
        | nil => rw [y] at hlen; simp at hlen
        | cons x r =>
          have hx : (x.1, x.2) ∈ fmL o1 L2 := by rw [y]; exact List.mem_cons_self ..
          have := (List.pairwise_cons.1 hr.2.1).1 x.1 (mem_fmL.1 hx).1
          exact .here (.inl this)
end Go.Proofs.YtlhjpflljokinaaDoor.Hy
namespace Go.Proofs.YtlhjpflljokinaaDoor.Hz
open Go Go.Proofs.YtlhjpflljokinaaDoor
theorem or_u32 (a b : Nat) (ha : a < 4294967296) (hb : b < 4294967296) : bits .or .u32 (a : Int) (b : Int) = ((a ||| b : Nat) : Int) := by
  have hx : a ||| b < 2 ^ 32 := Nat.or_lt_two_pow (by omega) (by omega)
  have h1 : (BitVec.ofInt 32 (a : Int)).toNat = a := by
    rw [BitVec.ofInt_natCast, BitVec.toNat_ofNat]; exact Nat.mod_eq_of_lt (by omega)
  have h2 : (BitVec.ofInt 32 (b : Int)).toNat = b := by
    rw [BitVec.ofInt_natCast, BitVec.toNat_ofNat]; exact Nat.mod_eq_of_lt (by omega)
  show IntKind.u32.wrap ((BitVec.ofInt 32 (a : Int) ||| BitVec.ofInt 32 (b : Int)).toNat : Int) = _
  rw [BitVec.toNat_or, h1, h2, IntKind.wrap_u32']
  omega
theorem and_u32 (a b : Nat) (ha : a < 4294967296) (hb : b < 4294967296) : bits .and .u32 (a : Int) (b : Int) = ((a &&& b : Nat) : Int) := by
  have hx : a &&& b < 2 ^ 32 := Nat.and_lt_two_pow _ (by omega)
  have h1 : (BitVec.ofInt 32 (a : Int)).toNat = a := by
    rw [BitVec.ofInt_natCast, BitVec.toNat_ofNat]; exact Nat.mod_eq_of_lt (by omega)
  have h2 : (BitVec.ofInt 32 (b : Int)).toNat = b := by
    rw [BitVec.ofInt_natCast, BitVec.toNat_ofNat]; exact Nat.mod_eq_of_lt (by omega)
  show IntKind.u32.wrap ((BitVec.ofInt 32 (a : Int) &&& BitVec.ofInt 32 (b : Int)).toNat : Int) = _
  rw [BitVec.toNat_and, h1, h2, IntKind.wrap_u32']
  omega
def andn (a b : Nat) : Nat := (BitVec.ofNat 32 a &&& ~~~ BitVec.ofNat 32 b).toNat
theorem andn_lt (a b : Nat) : andn a b < 4294967296 := by unfold andn; exact BitVec.isLt _
theorem andn_u32 (a b : Nat) : bits .andNot .u32 (a : Int) (b : Int) = ((andn a b : Nat) : Int) := by
  have hx := andn_lt a b
  show IntKind.u32.wrap ((BitVec.ofInt 32 (a : Int) &&& ~~~ BitVec.ofInt 32 (b : Int)).toNat : Int) = _
  rw [IntKind.wrap_u32', BitVec.ofInt_natCast, BitVec.ofInt_natCast]
  change ((andn a b : Nat) : Int) % 4294967296 = _
  omega
theorem andn_bit (a b i : Nat) (ha : a < 4294967296) : (andn a b).testBit i = (a.testBit i && !b.testBit i) := by
  unfold andn
  rw [BitVec.testBit_toNat, BitVec.getLsbD_and, BitVec.getLsbD_not, BitVec.getLsbD_ofNat, BitVec.getLsbD_ofNat]
  by_cases h : i < 32
  · simp [h]
  · have : a.testBit i = false := Nat.testBit_lt_two_pow (Nat.lt_of_lt_of_le ha (show 2 ^ 32 ≤ 2 ^ i from Nat.pow_le_pow_right (by decide) (by omega)))
    simp [h, this]
theorem bit_small {a i : Nat} (ha : a < 4294967296) (h : a.testBit i = true) : i < 32 := by
  apply Classical.byContradiction
  intro hc
  have : a.testBit i = false := Nat.testBit_lt_two_pow (Nat.lt_of_lt_of_le ha (show 2 ^ 32 ≤ 2 ^ i from Nat.pow_le_pow_right (by decide) (by omega)))
  rw [this] at h; cases h
theorem ne_zero_bit {a : Nat} (h : a ≠ 0) : ∃ i, a.testBit i = true := by
  apply Classical.byContradiction
  intro hc
  refine h (Nat.eq_of_testBit_eq fun i => ?_)
  rw [Nat.zero_testBit]
  cases z : a.testBit i with
  | false => rfl
  | true => exact absurd ⟨i, z⟩ hc
theorem ctz_low {x : Nat} (h0 : x ≠ 0) (hx : x < 4294967296) : Lib.ctz 32 x < 32 ∧ x.testBit (Lib.ctz 32 x) = true ∧ ∀ i, i < Lib.ctz 32 x → x.testBit i = false := by
  obtain ⟨m, hm, hk⟩ := Lib.ctzFrom_spec 32 x (by omega) hx
  have e : Lib.ctz 32 x = Lib.ctzFrom 32 x := by simp [Lib.ctz, h0]
  rw [e]
  generalize Lib.ctzFrom 32 x = k at hm hk
  refine ⟨hk, ?_, fun i hi => ?_⟩
  · rw [hm, Nat.testBit_two_pow_mul]
    simp
  · rw [hm, Nat.testBit_two_pow_mul]
    simp
    omega
theorem pow_lt32 {s : Nat} (hs : s < 32) : 2 ^ s < 4294967296 := Nat.lt_of_lt_of_le (Nat.pow_lt_pow_right (by decide) hs) (by decide)
theorem or_lt32 {a b : Nat} (ha : a < 4294967296) (hb : b < 4294967296) : a ||| b < 4294967296 := Nat.or_lt_two_pow (n := 32) ha hb
theorem or_pow_bit (a s i : Nat) : (a ||| 2 ^ s).testBit i = (a.testBit i || decide (s = i)) := by
  rw [Nat.testBit_or, Nat.testBit_two_pow]
def stM (k : Nat) (a : Nat) (p : Nat × Nat) : Nat := if p.2 = k then a ||| 2 ^ p.1 else a
def mk (Q : List (Nat × Nat)) (k : Nat) : Nat := Q.foldl (stM k) 0
theorem mk_more (Q : List (Nat × Nat)) (p : Nat × Nat) (k : Nat) : mk (Q ++ [p]) k = if p.2 = k then mk Q k ||| 2 ^ p.1 else mk Q k := by
  unfold mk
  rw [List.foldl_append]
  rfl
theorem fold_lt {k : Nat} : ∀ (Q : List (Nat × Nat)) (a : Nat), (∀ p ∈ Q, p.1 < 32) → a < 4294967296 → Q.foldl (stM k) a < 4294967296
  | [], a, _, h => h
  | p :: Q, a, hQ, h => fold_lt Q _ (fun q hq => hQ q (List.mem_cons_of_mem _ hq)) (by
      unfold stM
      split
      · exact or_lt32 h (pow_lt32 (hQ p (List.mem_cons_self ..)))
      · exact h)
theorem mk_lt {Q : List (Nat × Nat)} (hQ : ∀ p ∈ Q, p.1 < 32) (k : Nat) : mk Q k < 4294967296 := fold_lt Q 0 hQ (by decide)
theorem fold_bit {k : Nat} : ∀ (Q : List (Nat × Nat)) (a s : Nat), (Q.foldl (stM k) a).testBit s = (a.testBit s || decide ((s, k) ∈ Q))
  | [], a, s => by simp
  | p :: Q, a, s => by
    rw [List.foldl_cons, fold_bit Q]
    unfold stM
    by_cases h : p.2 = k
    · rw [if_pos h, or_pow_bit]
      by_cases h1 : p.1 = s
      · have : (s, k) = p := Prod.ext h1.symm h.symm
        simp [h1, this]
      · have : (s, k) ≠ p := fun e => h1 (by rw [← e])
        simp [h1, this]
    · rw [if_neg h]
      have : (s, k) ≠ p := fun e => h (by rw [← e])
      simp [this]
theorem mk_bit (Q : List (Nat × Nat)) (k s : Nat) : (mk Q k).testBit s = decide ((s, k) ∈ Q) := by
  unfold mk
  rw [fold_bit, Nat.zero_testBit, Bool.false_or]
theorem mk_zero {Q : List (Nat × Nat)} {k : Nat} : mk Q k ≠ 0 ↔ ∃ s, (s, k) ∈ Q := by
  constructor
  · intro h
    obtain ⟨s, hs⟩ := ne_zero_bit h
    rw [mk_bit] at hs
    exact ⟨s, of_decide_eq_true hs⟩
  · rintro ⟨s, hs⟩ h
    have := mk_bit Q k s
    rw [h, Nat.zero_testBit, decide_eq_true hs] at this
    cases this
def ks (Q : List (Nat × Nat)) : List Nat := (List.range 255).filter fun k => decide (mk Q k ≠ 0)
theorem mem_ks {Q : List (Nat × Nat)} {k : Nat} (hQ : ∀ p ∈ Q, p.2 < 255) : k ∈ ks Q ↔ ∃ s, (s, k) ∈ Q := by
  unfold ks
  rw [List.mem_filter, decide_eq_true_eq, mk_zero, List.mem_range]
  constructor
  · exact fun h => h.2
  · rintro ⟨s, hs⟩
    exact ⟨hQ _ hs, s, hs⟩
theorem ks_lt {Q : List (Nat × Nat)} {k : Nat} (h : k ∈ ks Q) : k < 255 := List.mem_range.1 (List.mem_filter.1 h).1
theorem ks_srt (Q : List (Nat × Nat)) : (ks Q).Pairwise (· < ·) := List.pairwise_lt_range.sublist (List.filter_sublist ..)
theorem ks_len (Q : List (Nat × Nat)) : (ks Q).length ≤ 255 := by
  unfold ks
  exact Nat.le_trans (List.length_filter_le ..) (by simp)
theorem ks_places {Q : List (Nat × Nat)} : (ks Q).length = Hy.places Prod.snd 255 Q := by
  unfold ks Hy.places
  rw [← List.countP_eq_length_filter]
  refine List.countP_congr fun k _ => ?_
  rw [decide_eq_true_eq, mk_zero, List.any_eq_true]
  constructor
  · rintro ⟨s, hs⟩
    exact ⟨(s, k), hs, by simp⟩
  · rintro ⟨p, hp, he⟩
    have : p.2 = k := by simpa using he
    exact ⟨p.1, by rw [← this]; exact hp⟩
end Go.Proofs.YtlhjpflljokinaaDoor.Hz
namespace Go.Proofs
open Go.Shelf
def Tryd.laysSlE29_f63_ren : Go.Shelf.Ren := ⟨fun | 29 => 63 | n => n, fun | 22 => 57 | 23 => 3 | 3 => 3 | 0 => 0 | 4 => 4 | n => n, fun | n => n⟩
theorem Tryd.laysSlE29_f63 : Go.Proofs.SlLaysE.n29 Tryd.prog Tryd.laysSlE29_f63_ren := {
  mixed := by kernel_rfl
  f29 := ⟨Tryd.f63.name, by decide, Tryd.func63.trans (congrArg some (by kernel_rfl))⟩
  t0 := Tryd.underlying0
  a0 := Tryd.isAgg0
  z0 := Tryd.sizeOf0
  v0 := Tryd.zeroValue0
  t3 := Tryd.underlying3
  a3 := Tryd.isAgg3
  z3 := Tryd.sizeOf3
  v3 := Tryd.zeroValue3
  t4 := Tryd.underlying4
  a4 := Tryd.isAgg4
  z4 := Tryd.sizeOf4
  v4 := Tryd.zeroValue4
  t22 := Tryd.underlying57
  a22 := Tryd.isAgg57
  z22 := Tryd.sizeOf57
  v22 := Tryd.zeroValue57
  a23 := Tryd.isAgg3
  z23 := Tryd.sizeOf3 }
open Go.Lib in
theorem Tryd.slices_Index {α : Type} [Inhabited α] (enc : α → Value) (eq : α → α → Bool) (heq : EqlAt Tryd.prog 3 enc eq) (b off n c : Nat) (zs : List α) (x : α) (w : World) (hz : n ≤ zs.length) (hbig : n ≤ 9223372036854775807) (hc : ∀ j, j < zs.length → w.cell? ⟨b, off + j, none⟩ = some (enc zs[j]!)) :
    Calls Tryd.prog 63 #[.slice (some ⟨b, off, none⟩) n c, enc x] w fun e w' => e = .returned (.int .i64 (Lib.idxBy eq (zs.take n) x)) ∧ w' = w := AnyE.slices_Index Tryd.laysSlE29_f63 enc eq heq b off n c zs x w hz hbig hc
open Go.Lib in
theorem Tryd.slices_Index_empty {α : Type} [Inhabited α] (a : Option Addr) (c : Nat) (xv : Value) (w : World) :
    Calls Tryd.prog 63 #[.slice a 0 c, xv] w fun e w' => e = .returned (.int .i64 (-1)) ∧ w' = w := AnyE.slices_Index_empty Tryd.laysSlE29_f63 a c xv w
def Tryd.laysSlE31_f58_ren : Go.Shelf.Ren := ⟨fun | 31 => 58 | 29 => 63 | n => n, fun | 22 => 57 | 23 => 3 | 4 => 4 | 3 => 3 | 0 => 0 | n => n, fun | n => n⟩
theorem Tryd.laysSlE31_f58 : Go.Proofs.SlLaysE.n31 Tryd.prog Tryd.laysSlE31_f58_ren := {
  mixed := by kernel_rfl
  f29 := ⟨Tryd.f63.name, by decide, Tryd.func63.trans (congrArg some (by kernel_rfl))⟩
  f31 := ⟨Tryd.f58.name, by decide, Tryd.func58.trans (congrArg some (by kernel_rfl))⟩
  t0 := Tryd.underlying0
  a0 := Tryd.isAgg0
  z0 := Tryd.sizeOf0
  v0 := Tryd.zeroValue0
  t3 := Tryd.underlying3
  a3 := Tryd.isAgg3
  z3 := Tryd.sizeOf3
  v3 := Tryd.zeroValue3
  t4 := Tryd.underlying4
  a4 := Tryd.isAgg4
  z4 := Tryd.sizeOf4
  v4 := Tryd.zeroValue4
  t22 := Tryd.underlying57
  a22 := Tryd.isAgg57
  z22 := Tryd.sizeOf57
  v22 := Tryd.zeroValue57
  a23 := Tryd.isAgg3
  z23 := Tryd.sizeOf3 }
open Go.Lib in
theorem Tryd.slices_Contains {α : Type} [Inhabited α] (enc : α → Value) (eq : α → α → Bool) (heq : EqlAt Tryd.prog 3 enc eq) (b off n c : Nat) (zs : List α) (x : α) (w : World) (hz : n ≤ zs.length) (hbig : n ≤ 9223372036854775807) (hc : ∀ j, j < zs.length → w.cell? ⟨b, off + j, none⟩ = some (enc zs[j]!)) :
    Calls Tryd.prog 58 #[.slice (some ⟨b, off, none⟩) n c, enc x] w fun e w' => e = .returned (.bool ((zs.take n).any fun y => eq x y)) ∧ w' = w := AnyE.slices_Contains Tryd.laysSlE31_f58 enc eq heq b off n c zs x w hz hbig hc
open Go.Lib in
theorem Tryd.slices_Contains_empty {α : Type} [Inhabited α] (a : Option Addr) (c : Nat) (xv : Value) (w : World) :
    Calls Tryd.prog 58 #[.slice a 0 c, xv] w fun e w' => e = .returned (.bool false) ∧ w' = w := AnyE.slices_Contains_empty Tryd.laysSlE31_f58 a c xv w
def Tryd.laysSlM5_f55_ren : Go.Shelf.Ren := ⟨fun | 5 => 55 | 8 => 62 | 7 => 61 | 19 => 73 | 20 => 74 | 10 => 64 | 11 => 65 | 12 => 66 | 13 => 67 | 14 => 68 | 15 => 69 | 16 => 70 | 17 => 71 | 18 => 72 | 30 => 75 | 31 => 76 | 32 => 77 | 33 => 78 | 34 => 79 | 35 => 80 | 40 => 81 | n => n, fun | 23 => 57 | 25 => 3 | 3 => 3 | 32 => 98 | 22 => 57 | 0 => 0 | 44 => 84 | 46 => 116 | 4 => 4 | 36 => 108 | 35 => 107 | 41 => 113 | 5 => 5 | 9 => 9 | 53 => 117 | 57 => 121 | 63 => 123 | 64 => 124 | n => n, fun | n => n⟩
theorem Tryd.laysSlM5_f55 : Go.Proofs.SlLaysM.n5 Tryd.prog Tryd.laysSlM5_f55_ren := {
  mixed := by kernel_rfl
  f5 := ⟨Tryd.f55.name, by decide, Tryd.func55.trans (congrArg some (by kernel_rfl))⟩
  f7 := ⟨Tryd.f61.name, by decide, Tryd.func61.trans (congrArg some (by kernel_rfl))⟩
  f8 := Tryd.func62.trans (congrArg some (by kernel_rfl))
  f10 := ⟨Tryd.f64.name, by decide, Tryd.func64.trans (congrArg some (by kernel_rfl))⟩
  f11 := ⟨Tryd.f65.name, by decide, Tryd.func65.trans (congrArg some (by kernel_rfl))⟩
  f12 := ⟨Tryd.f66.name, by decide, Tryd.func66.trans (congrArg some (by kernel_rfl))⟩
  f13 := ⟨Tryd.f67.name, by decide, Tryd.func67.trans (congrArg some (by kernel_rfl))⟩
  f14 := ⟨Tryd.f68.name, by decide, Tryd.func68.trans (congrArg some (by kernel_rfl))⟩
  f15 := ⟨Tryd.f69.name, by decide, Tryd.func69.trans (congrArg some (by kernel_rfl))⟩
  f16 := ⟨Tryd.f70.name, by decide, Tryd.func70.trans (congrArg some (by kernel_rfl))⟩
  f17 := ⟨Tryd.f71.name, by decide, Tryd.func71.trans (congrArg some (by kernel_rfl))⟩
  f18 := ⟨Tryd.f72.name, by decide, Tryd.func72.trans (congrArg some (by kernel_rfl))⟩
  f19 := Tryd.func73.trans (congrArg some (by kernel_rfl))
  f20 := Tryd.func74.trans (congrArg some (by kernel_rfl))
  f30 := ⟨Tryd.f75.name, by decide, Tryd.func75.trans (congrArg some (by kernel_rfl))⟩
  f31 := Tryd.func76.trans (congrArg some (by kernel_rfl))
  f32 := Tryd.func77.trans (congrArg some (by kernel_rfl))
  f33 := ⟨Tryd.f78.name, by decide, Tryd.func78.trans (congrArg some (by kernel_rfl))⟩
  f34 := ⟨Tryd.f79.name, by decide, Tryd.func79.trans (congrArg some (by kernel_rfl))⟩
  f35 := ⟨Tryd.f80.name, by decide, Tryd.func80.trans (congrArg some (by kernel_rfl))⟩
  f40 := ⟨Tryd.f81.name, by decide, Tryd.func81.trans (congrArg some (by kernel_rfl))⟩
  t0 := Tryd.underlying0
  a0 := Tryd.isAgg0
  z0 := Tryd.sizeOf0
  v0 := Tryd.zeroValue0
  t3 := Tryd.underlying3
  a3 := Tryd.isAgg3
  z3 := Tryd.sizeOf3
  v3 := Tryd.zeroValue3
  t4 := Tryd.underlying4
  a4 := Tryd.isAgg4
  z4 := Tryd.sizeOf4
  v4 := Tryd.zeroValue4
  t5 := Tryd.underlying5
  a5 := Tryd.isAgg5
  z5 := Tryd.sizeOf5
  v5 := Tryd.zeroValue5
  t9 := Tryd.underlying9
  a9 := Tryd.isAgg9
  z9 := Tryd.sizeOf9
  v9 := Tryd.zeroValue9
  t22 := Tryd.underlying57
  a22 := Tryd.isAgg57
  z22 := Tryd.sizeOf57
  v22 := Tryd.zeroValue57
  t23 := Tryd.underlying57
  a23 := Tryd.isAgg57
  z23 := Tryd.sizeOf57
  v23 := Tryd.zeroValue57
  t25 := Tryd.underlying3
  a25 := Tryd.isAgg3
  z25 := Tryd.sizeOf3
  v25 := Tryd.zeroValue3
  t32 := Tryd.underlying98
  a32 := Tryd.isAgg98
  z32 := Tryd.sizeOf98
  v32 := Tryd.zeroValue98
  t35 := Tryd.underlying107
  a35 := Tryd.isAgg107
  z35 := Tryd.sizeOf107
  v35 := Tryd.zeroValue107
  t36 := Tryd.underlying108
  a36 := Tryd.isAgg108
  z36 := Tryd.sizeOf108
  v36 := Tryd.zeroValue108
  t41 := Tryd.underlying113
  a41 := Tryd.isAgg113
  z41 := Tryd.sizeOf113
  v41 := Tryd.zeroValue113
  t44 := Tryd.underlying84
  a44 := Tryd.isAgg84
  z44 := Tryd.sizeOf84
  v44 := Tryd.zeroValue84
  t46 := Tryd.underlying116
  a46 := Tryd.isAgg116
  z46 := Tryd.sizeOf116
  v46 := Tryd.zeroValue116
  t53 := Tryd.underlying117
  a53 := Tryd.isAgg117
  z53 := Tryd.sizeOf117
  v53 := Tryd.zeroValue117
  t57 := Tryd.underlying121
  a57 := Tryd.isAgg121
  z57 := Tryd.sizeOf121
  v57 := Tryd.zeroValue121
  t63 := Tryd.underlying123
  a63 := Tryd.isAgg123
  z63 := Tryd.sizeOf123
  v63 := Tryd.zeroValue123
  t64 := Tryd.underlying124
  a64 := Tryd.isAgg124
  z64 := Tryd.sizeOf124
  v64 := Tryd.zeroValue124 }
open Go.Sort Go.RowKit in
theorem Tryd.slices_Sort_int (blk off cap : Nat) (zs : List Int) (w : World) (hH : Holds (Value.int .i64) w blk off zs.toArray) (hblk : blk < w.heap.size) (hsz : zs.length < 4611686018427387904) :
    Calls Tryd.prog 55 #[.slice (some ⟨blk, off, none⟩) zs.length cap] w fun e w' =>
      e = .returned (.tuple #[]) ∧ ∃ n os, w' = grow (putRow (Value.int .i64) (Sort.ahead w n) blk off (zs.mergeSort fun x y => decide (x ≤ y)).toArray) os := AnyM.slices_Sort_int Tryd.laysSlM5_f55 blk off cap zs w hH hblk hsz
open Go.RowKit Go.Sort in
theorem Tryd.slices_Sort_int_none (p : Option Addr) (cap : Nat) (w : World) :
    Calls Tryd.prog 55 #[.slice p 0 cap] w fun e w' => e = .returned (.tuple #[]) ∧ w' = w := AnyM.slices_Sort_int_none Tryd.laysSlM5_f55 p cap w
def Tryd.laysKeys_ren : Go.Shelf.Ren := ⟨fun | 7 => 47 | 10 => 56 | n => n, fun | 23 => 56 | 26 => 3 | 3 => 84 | 28 => 87 | 0 => 0 | 27 => 86 | 33 => 97 | 4 => 4 | n => n, fun | n => n⟩
theorem Tryd.laysKeys : Go.Proofs.SlLaysZI.n7 Tryd.prog Tryd.laysKeys_ren := {
  mixed := by kernel_rfl
  f7 := ⟨Tryd.f47.name, by decide, Tryd.func47.trans (congrArg some (by kernel_rfl))⟩
  f10 := ⟨Tryd.f56.name, by decide, Tryd.func56.trans (congrArg some (by kernel_rfl))⟩
  t0 := Tryd.underlying0
  a0 := Tryd.isAgg0
  z0 := Tryd.sizeOf0
  v0 := Tryd.zeroValue0
  t4 := Tryd.underlying4
  a4 := Tryd.isAgg4
  z4 := Tryd.sizeOf4
  v4 := Tryd.zeroValue4
  t23 := Tryd.underlying56
  a23 := Tryd.isAgg56
  z23 := Tryd.sizeOf56
  v23 := Tryd.zeroValue56
  t26 := Tryd.underlying3
  a26 := Tryd.isAgg3
  z26 := Tryd.sizeOf3
  v26 := Tryd.zeroValue3
  t27 := Tryd.underlying86
  a27 := Tryd.isAgg86
  z27 := Tryd.sizeOf86
  v27 := Tryd.zeroValue86
  t28 := Tryd.underlying87
  a28 := Tryd.isAgg87
  z28 := Tryd.sizeOf87
  v28 := Tryd.zeroValue87
  t33 := Tryd.underlying97
  a33 := Tryd.isAgg97
  z33 := Tryd.sizeOf97
  v33 := Tryd.zeroValue97 }
def Tryd.laysSorted_ren : Go.Shelf.Ren := ⟨fun | 6 => 46 | 8 => 54 | 9 => 55 | 11 => 60 | 13 => 62 | 12 => 61 | 23 => 73 | 24 => 74 | 14 => 64 | 15 => 65 | 16 => 66 | 17 => 67 | 18 => 68 | 19 => 69 | 20 => 70 | 21 => 71 | 22 => 72 | 25 => 75 | 26 => 76 | 27 => 77 | 28 => 78 | 29 => 79 | 30 => 80 | 31 => 81 | n => n, fun | 26 => 3 | 28 => 87 | 24 => 57 | 0 => 0 | 3 => 3 | 37 => 98 | 48 => 84 | 50 => 116 | 4 => 4 | 40 => 108 | 39 => 107 | 45 => 113 | 5 => 5 | 9 => 9 | 51 => 117 | 55 => 121 | 57 => 123 | 58 => 124 | 33 => 97 | n => n, fun | n => n⟩
theorem Tryd.laysSorted : Go.Proofs.SlLaysZI.n6 Tryd.prog Tryd.laysSorted_ren := {
  mixed := by kernel_rfl
  f6 := ⟨Tryd.f46.name, by decide, Tryd.func46.trans (congrArg some (by kernel_rfl))⟩
  f8 := ⟨Tryd.f54.name, by decide, Tryd.func54.trans (congrArg some (by kernel_rfl))⟩
  f11 := ⟨Tryd.f60.name, by decide, Tryd.func60.trans (congrArg some (by kernel_rfl))⟩
  t0 := Tryd.underlying0
  a0 := Tryd.isAgg0
  z0 := Tryd.sizeOf0
  v0 := Tryd.zeroValue0
  t24 := Tryd.underlying57
  a24 := Tryd.isAgg57
  z24 := Tryd.sizeOf57
  v24 := Tryd.zeroValue57
  t26 := Tryd.underlying3
  a26 := Tryd.isAgg3
  z26 := Tryd.sizeOf3
  v26 := Tryd.zeroValue3
  t28 := Tryd.underlying87
  a28 := Tryd.isAgg87
  z28 := Tryd.sizeOf87
  v28 := Tryd.zeroValue87
  i26 := by kernel_rfl }
def Tryd.laysTz_ren : Go.Shelf.Ren := ⟨fun | 28 => 53 | n => n, fun | 27 => 84 | 3 => 3 | 4 => 4 | 25 => 98 | 53 => 101 | 0 => 0 | 5 => 5 | n => n, fun | 0 => 0 | n => n⟩
theorem Tryd.laysTz : Go.Proofs.Lays7.n28 Tryd.prog Tryd.laysTz_ren := {
  mixed := by kernel_rfl
  f28 := Tryd.func53.trans (congrArg some (by kernel_rfl))
  t0 := Tryd.underlying0
  a0 := Tryd.isAgg0
  z0 := Tryd.sizeOf0
  v0 := Tryd.zeroValue0
  i0 := by kernel_rfl
  t3 := Tryd.underlying3
  a3 := Tryd.isAgg3
  z3 := Tryd.sizeOf3
  v3 := Tryd.zeroValue3
  i3 := by kernel_rfl
  t4 := Tryd.underlying4
  a4 := Tryd.isAgg4
  z4 := Tryd.sizeOf4
  v4 := Tryd.zeroValue4
  i4 := by kernel_rfl
  t5 := Tryd.underlying5
  a5 := Tryd.isAgg5
  z5 := Tryd.sizeOf5
  v5 := Tryd.zeroValue5
  i5 := by kernel_rfl
  t25 := Tryd.underlying98
  a25 := Tryd.isAgg98
  z25 := Tryd.sizeOf98
  v25 := Tryd.zeroValue98
  i25 := by kernel_rfl
  t27 := Tryd.underlying84
  a27 := Tryd.isAgg84
  z27 := Tryd.sizeOf84
  v27 := Tryd.zeroValue84
  i27 := by kernel_rfl
  t53 := Tryd.underlying101
  a53 := Tryd.isAgg101
  z53 := Tryd.sizeOf101
  v53 := Tryd.zeroValue101
  i53 := by kernel_rfl
  g0 := by kernel_rfl }
end Go.Proofs
namespace Go.Proofs.YtlhjpflljokinaaDoor
open Go.RowKit
theorem info_u8 : (Tryd.prog.info? 5).map (fun i => (i.zero, i.size, i.bytes)) = some (some (.int .u8 0), 1, 1) := by kernel_rfl
theorem size_u8 : ∀ w, Sem.run Tryd.prog (Go.sizeOf 5) w = .ok 1 w := fun w => by
  obtain ⟨i0, hi, hz0, hz1, hz2⟩ := info_parts info_u8
  simp [Go.sizeOf, typeInfo, hi, hz1]
theorem own_mono {w : World} {B B' e n : Nat} {v : Value} {xs : List Value} (h : w.ownsRow B e 1 v n xs) (hb : B' ≤ B) : w.ownsRow B' e 1 v n xs := by
  refine ⟨h.1, ?_⟩
  rcases h.2 with h2 | ⟨g, cap, cur, h1, h2, h3⟩
  · exact .inl h2
  · exact .inr ⟨g, cap, cur, h1, Nat.le_trans hb h2, h3⟩
theorem own_slc {w : World} {B n : Nat} {e : TypeId} {v : Value} {xs : List Value} (h : w.ownsRow B e 1 v n xs) : ∃ p c, v = .slice p n c := by
  rcases h.2 with ⟨rfl, rfl⟩ | ⟨g, cap, cur, rfl, _⟩
  · exact ⟨none, 0, rfl⟩
  · exact ⟨_, _, rfl⟩
theorem none_or (z : Option Nat) : z = none ∨ z ≠ none := by cases z <;> simp
theorem own_below {w w' : World} {B n : Nat} {e : TypeId} {v : Value} {xs : List Value} (h : w.ownsRow B e 1 v n xs) (hb : Below w.heap.size w w') : w'.ownsRow B e 1 v n xs :=
  h.kept ⟨hb.os, hb.tape, hb.output, hb.size, fun k hk _ => hb.block k hk⟩ (none_or _)
theorem own_ne {w w' : World} {B B' n n' : Nat} {e e' : TypeId} {v v' : Value} {xs xs' : List Value} (h : w.ownsRow B e 1 v n xs) (h' : w'.ownsRow B' e' 1 v' n' xs') (hb : w.heap.size ≤ B') :
    (v.ownBlock = none ∨ v.ownBlock ≠ v'.ownBlock) ∧ (v'.ownBlock = none ∨ v'.ownBlock ≠ v.ownBlock) := by
  constructor
  · rcases none_or v.ownBlock with q | q
    · exact .inl q
    · refine .inr fun e => ?_
      obtain ⟨k, hk⟩ := Option.ne_none_iff_exists'.1 q
      have h1 := h.lt k hk
      have h2 := h'.lt k (e ▸ hk)
      omega
  · rcases none_or v'.ownBlock with q | q
    · exact .inl q
    · refine .inr fun e => ?_
      obtain ⟨k, hk⟩ := Option.ne_none_iff_exists'.1 q
      have h1 := h'.lt k hk
      have h2 := h.lt k (e ▸ hk)
      omega
end Go.Proofs.YtlhjpflljokinaaDoor
namespace Go.Proofs.YtlhjpflljokinaaDoor.Hz
open Go Go.RowKit Go.Proofs.YtlhjpflljokinaaDoor Go.Maps
abbrev Pr : Type := Int × Int
def HP (w : World) (v : Value) (ps : List Pr) : Prop :=
  (∃ (p : Option Addr) (c : Nat), v = .slice p ps.length c ∧ ps.length ≤ c ∧ c ≤ maxLen ∧ (p = none → c = 0) ∧
    (ps ≠ [] → ∃ b off, p = some ⟨b, off, none⟩ ∧ ∀ j, j < ps.length → w.cell? ⟨b, off + j * 2, none⟩ = some (.int .i64 (ps.getD j (0, 0)).1) ∧ w.cell? ⟨b, off + j * 2 + 1, none⟩ = some (.int .i64 (ps.getD j (0, 0)).2))) ∧
    ∀ p ∈ ps, (-9223372036854775808 ≤ p.1 ∧ p.1 < 9223372036854775808) ∧ (-9223372036854775808 ≤ p.2 ∧ p.2 < 9223372036854775808)
theorem HP.open {w : World} {v : Value} {ps : List Pr} (h : HP w v ps) : ∃ (p : Option Addr) (c : Nat), v = .slice p ps.length c ∧ ps.length ≤ c ∧ c ≤ maxLen := by
  obtain ⟨⟨p, c, h1, h2, h3, _⟩, _⟩ := h
  exact ⟨p, c, h1, h2, h3⟩
theorem HP.ne {w : World} {v : Value} {ps : List Pr} (h : HP w v ps) (hl : 0 < ps.length) :
    ∃ b off c, v = .slice (some ⟨b, off, none⟩) ps.length c ∧ ps.length ≤ c ∧ c ≤ maxLen ∧ b < w.heap.size ∧ ∀ j, j < ps.length → w.cell? ⟨b, off + j * 2, none⟩ = some (.int .i64 (ps.getD j (0, 0)).1) ∧ w.cell? ⟨b, off + j * 2 + 1, none⟩ = some (.int .i64 (ps.getD j (0, 0)).2) := by
  obtain ⟨⟨p, c, h1, h2, h3, _, h4⟩, _⟩ := h
  obtain ⟨b, off, rfl, hc⟩ := h4 (by intro e; subst e; simp at hl)
  exact ⟨b, off, c, h1, h2, h3, World.block_lt_of_cell? w _ (hc 0 hl).1, hc⟩
theorem HP.at {w : World} {v : Value} {ps : List Pr} (h : HP w v ps) (j : Nat) (hj : j < ps.length) : (-9223372036854775808 ≤ (ps.getD j (0, 0)).1 ∧ (ps.getD j (0, 0)).1 < 9223372036854775808) ∧ (-9223372036854775808 ≤ (ps.getD j (0, 0)).2 ∧ (ps.getD j (0, 0)).2 < 9223372036854775808) := by
  have e : ps.getD j (0, 0) = ps[j] := by simp [List.getD, List.getElem?_eq_getElem hj]
  rw [e]
  exact h.2 _ (List.getElem_mem hj)
theorem HP.later {w w' : World} {v : Value} {ps : List Pr} (h : HP w v ps) (hc : ∀ a (n : Int), w.cell? a = some (.int .i64 n) → w'.cell? a = some (.int .i64 n)) : HP w' v ps := by
  obtain ⟨⟨p, c, h1, h2, h3, h6, h4⟩, h5⟩ := h
  refine ⟨⟨p, c, h1, h2, h3, h6, fun hl => ?_⟩, h5⟩
  obtain ⟨b, off, e, hh⟩ := h4 hl
  exact ⟨b, off, e, fun j hj => ⟨hc _ _ (hh j hj).1, hc _ _ (hh j hj).2⟩⟩
theorem HP.below {w w' : World} {v : Value} {ps : List Pr} (h : HP w v ps) (hb : Below w.heap.size w w') : HP w' v ps :=
  h.later fun a _ hx => (hb.cell (World.block_lt_of_cell? w a hx)).trans hx
theorem HP.dr {w w' : World} {v : Value} {ps : List Pr} (h : HP w v ps) (d : Dr w w') : HP w' v ps := h.later fun a _ hx => (d.cell a).trans hx
def mayP (p : Pr) : Bool := decide (0 ≤ p.1 ∧ p.1 < 32 ∧ 0 ≤ p.2 ∧ p.2 < 255)
def natP (p : Pr) : Nat × Nat := (p.1.toNat, p.2.toNat)
def HT (w : World) (b N : Nat) (T : Nat → Nat) : Prop :=
  ∃ D : DataW Unit, w.ownsMap Tryd.prog 3 (plainElem Tryd.prog 84) b N D ∧
    (∀ k : Nat, D.atKey (.int .i64 (k : Int)) (.lit (.int .u32 0)) = .lit (.int .u32 (T k : Int))) ∧ (∀ k : Int, has D (.int .i64 k) = true ↔ ∃ j : Nat, k = (j : Int) ∧ T j ≠ 0)
theorem HT.lt {w : World} {b N : Nat} {T : Nat → Nat} (h : HT w b N T) : b < w.heap.size := by
  obtain ⟨D, h1, _⟩ := h
  exact h1.lt
theorem HT.of {w w' : World} {b N : Nat} {T : Nat → Nat} (h : HT w b N T) (hb : w'.heap[b]? = w.heap[b]?) : HT w' b N T := by
  obtain ⟨D, ⟨es, clock, q1, q2⟩, h2⟩ := h
  exact ⟨D, ⟨es, clock, hb.trans q1, q2⟩, h2⟩
theorem HT.below {w w' : World} {b N : Nat} {T : Nat → Nat} (h : HT w b N T) (hB : Below w.heap.size w w') : HT w' b N T := h.of (hB.block b h.lt)
theorem HT.mono {w : World} {b N N' : Nat} {T : Nat → Nat} (h : HT w b N T) (hN : N ≤ N') : HT w b N' T := by
  obtain ⟨D, h1, h2⟩ := h
  exact ⟨D, h1.mono hN, h2⟩
theorem zero_u32 (w : World) : (zeroValue 84).run Tryd.prog w = .ok (.int .u32 0) w := Tryd.zeroValue84 w
theorem wf_i64 (k : Nat) (hk : k < 1000000) : (Lit.int .i64 (k : Int)).wf = true := by
  simp [Lit.wf, IntKind.min, IntKind.max, IntKind.bits, IntKind.signed]
  omega
theorem wf_u32 (k : Nat) (hk : k < 4294967296) : (Lit.int .u32 (k : Int)).wf = true := by
  simp [Lit.wf, IntKind.min, IntKind.max, IntKind.bits, IntKind.signed]
  omega
theorem key_of (k : Nat) (hk : k < 1000000) : keyOf Tryd.prog 3 (.int .i64 (k : Int)) = some (.int .i64 (k : Int)) := keyOf_int_mk Tryd.underlying3 (wf_i64 k hk)
theorem HT.look {w : World} {b N : Nat} {T : Nat → Nat} (h : HT w b N T) (k : Nat) (hk : k < 1000000) : (Instr.lookup 56 (.map (some b)) (.int .i64 (k : Int)) false).run Tryd.prog w = .ok (.int .u32 (T k : Int)) w := by
  obtain ⟨D, h1, h3, h4⟩ := h
  obtain ⟨c, hr, ha, hw⟩ := h1.lookup_int (int_keyed Tryd.underlying3) Tryd.underlying56 Tryd.underlying84 (zero_u32 w) (key_of k hk)
  rw [h3 k] at ha
  simp only [DataW.lit.injEq, Lit.int.injEq, true_and] at ha
  rw [hr, ha]
def putT (T : Nat → Nat) (k m : Nat) : Nat → Nat := fun j => if j = k then m else T j
theorem isKey_i64 (k : Int) : WideAt.IsKeyLit (.int .i64 k) := by trivial
theorem HT.store {w : World} {b N : Nat} {T : Nat → Nat} (h : HT w b N T) (k m : Nat) (hk : k < 1000000) (hm : m < 4294967296) (hm0 : m ≠ 0) (hN : N ≤ 1000000) :
    ∃ w', (Instr.mapUpdate 56 (.map (some b)) (.int .i64 (k : Int)) (.int .u32 (m : Int))).run Tryd.prog w = .ok () w' ∧ HT w' b (N + 1) (putT T k m) ∧ w.grownBy w' (some b) := by
  obtain ⟨D, h1, h3, h4⟩ := h
  obtain ⟨w', r1, r2, r3⟩ := h1.update (int_keyed Tryd.underlying3) Tryd.underlying56 (by unfold maxLen; omega) (key_of k hk) (plainElem_int (H := Unit) Tryd.underlying84 (wf_u32 m hm))
  refine ⟨w', r1, ⟨_, r2, fun j => ?_, fun j => ?_⟩, r3⟩
  · unfold putT
    by_cases e : j = k
    · subst e
      rw [if_pos rfl]
      exact atKey_put_same h1.isMap (isKey_i64 _) _ _
    · rw [if_neg e, atKey_put_other (by intro z; simp at z; omega)]
      exact h3 j
  · unfold putT
    by_cases e : j = (k : Int)
    · subst e
      refine ⟨fun _ => ⟨k, rfl, ?_⟩, fun _ => has_put_same h1.isMap (isKey_i64 _) _⟩
      rw [if_pos rfl]
      exact hm0
    · rw [has_put_other (by intro z; simp at z; omega), h4 j]
      constructor
      · rintro ⟨i, rfl, hi⟩
        exact ⟨i, rfl, by rw [if_neg (by omega)]; exact hi⟩
      · rintro ⟨i, rfl, hi⟩
        rw [if_neg (by omega)] at hi
        exact ⟨i, rfl, hi⟩
theorem HT.made (w : World) : HT (w.alloc (.map #[] 0)) w.heap.size 0 (fun _ => 0) := by
  refine ⟨.map [], World.ownsMap_made w _ _ _, fun k => rfl, fun k => ?_⟩
  constructor
  · intro h
    simp [has] at h
  · rintro ⟨j, _, h⟩
    exact absurd rfl h
set_option maxRecDepth 100000 in
set_option maxHeartbeats 2000000 in
theorem mayBe_any (w : World) (p : Pr) :
    Calls Tryd.prog 45 #[.agg #[.int .i64 p.1, .int .i64 p.2]] w fun e w' => e = .returned (.bool (mayP p)) ∧ Below w.heap.size w w' := by
  obtain ⟨s, n⟩ := p
  have HE : Hid (mayP (s, n) = decide (0 ≤ s ∧ s < 32 ∧ 0 ≤ n ∧ n < 255)) := rfl
  go_enter Tryd.func45, Tryd.ntmps45
  by_cases h1 : 0 ≤ s
  · by_cases h2 : s < 32
    · by_cases h3 : 0 ≤ n
      · by_cases h4 : n < 255
        · go_wp2
          go_ret
          exact ⟨by rw [HE.out, decide_eq_true ⟨h1, h2, h3, h4⟩]; rfl, (Below.refl _ w).alloc (Nat.le_refl _) _⟩
        · go_wp2
          go_ret
          exact ⟨by rw [HE.out, decide_eq_false (by omega)]; rfl, (Below.refl _ w).alloc (Nat.le_refl _) _⟩
      · go_wp2
        go_ret
        exact ⟨by rw [HE.out, decide_eq_false (by omega)]; rfl, (Below.refl _ w).alloc (Nat.le_refl _) _⟩
    · go_wp2
      go_ret
      exact ⟨by rw [HE.out, decide_eq_false (by omega)]; rfl, (Below.refl _ w).alloc (Nat.le_refl _) _⟩
  · go_wp2
    go_ret
    exact ⟨by rw [HE.out, decide_eq_false (by omega)]; rfl, (Below.refl _ w).alloc (Nat.le_refl _) _⟩
end Go.Proofs.YtlhjpflljokinaaDoor.Hz
