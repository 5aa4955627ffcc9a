/- Of the road to octetChunks_holds: Apart, LentKit, ListKit, ApartF, AptL0, PxKit, RefCh, RegN. -/
import Derived.Test.YtnifnoadfepegaaG04
import Derived.Deep.RegionHeld3
import Derived.Test.YtnifnoadfepegaaG00
import Derived.Laws.AppendOwn
import Derived.Deep.RegionHeld
import Derived.Test.YtnifnoadfepegaaG02
set_option linter.unusedVariables false
set_option linter.unusedSimpArgs false
namespace Go.Proofs.Ytnifnoadfepegaa
open Go.RowKit
def marksL (k n : Nat) : List Int := (List.range n).map (mkB k)
theorem marksL_length (k n : Nat) : (marksL k n).length = n := by simp [marksL]
theorem marksL_getD (k n i : Nat) (h : i < n) : (marksL k n).getD i 0 = mkB k i := by simp [marksL, List.getD, h]
theorem marksL_byt (k n : Nat) : ∀ x ∈ marksL k n, 0 ≤ x ∧ x < 256 := by
  intro x hx
  obtain ⟨i, _, rfl⟩ := List.mem_map.1 hx
  exact mkB_byt _ _
theorem marksL_succ (k n : Nat) : marksL k (n + 1) = marksL k n ++ [mkB k n] := by simp [marksL, List.range_succ]
theorem marksL_take (k n m : Nat) (h : n ≤ m) : (marksL k m).take n = marksL k n := by
  unfold marksL
  rw [← List.map_take, List.take_range]
  congr 2
  omega
def Apt (B : Nat) (w : World) (us : List Value) (ls : List (List Int)) : Prop :=
  us.length = ls.length ∧ (∀ k, k < us.length → w.ownsRow B 5 1 (us.getD k undef) (ls.getD k []).length ((ls.getD k []).map (Value.int .u8))) ∧
    ∀ i j, i < us.length → j < us.length → i ≠ j → (us.getD i undef).ownBlock = none ∨ (us.getD i undef).ownBlock ≠ (us.getD j undef).ownBlock
def HV (w : World) (v : Value) (us : List Value) : Prop :=
  ∃ (p : Option Addr) (c : Nat), v = .slice p us.length c ∧ us.length ≤ c ∧ c ≤ maxLen ∧
    (us ≠ [] → ∃ b off, p = some ⟨b, off, none⟩ ∧ BT w b 22 ∧ ∀ k, k < us.length → w.cell? ⟨b, off + k, none⟩ = some (us.getD k undef))
theorem BT.grown {w w' : World} {b : Nat} {T : TypeId} {row : Option Nat} (h : BT w b T) (hg : w.grownBy w' row) (hr : ∀ g, row = some g → ∃ e, BT w g e ∧ e ≠ T) : BT w' b T := by
  obtain ⟨cur, fz, hh⟩ := h
  refine ⟨cur, fz, ?_⟩
  rw [hg.block b (Array.getElem?_eq_some_iff.1 hh).1 ?_]
  · exact hh
  · intro e
    obtain ⟨e', ⟨cur', fz', hh'⟩, hne⟩ := hr b e.symm
    rw [hh] at hh'
    simp only [Option.some.injEq, Obj.cells.injEq] at hh'
    exact hne hh'.2.1.symm
theorem HV.grown {w w' : World} {v : Value} {us : List Value} {row : Option Nat} (h : HV w v us) (hg : w.grownBy w' row) (hr : ∀ g, row = some g → BT w g 5) : HV w' v us := by
  obtain ⟨p, c, h1, h2, h3, h4⟩ := h
  refine ⟨p, c, h1, h2, h3, fun hne => ?_⟩
  obtain ⟨b, off, e, hb, hc⟩ := h4 hne
  have hb' : BT w' b 22 := hb.grown hg (fun g e => ⟨_, hr g e, by decide⟩)
  refine ⟨b, off, e, hb', fun k hk => hg.cell (hc k hk) ?_⟩
  intro e
  obtain ⟨cur, fz, hh⟩ := hb
  obtain ⟨cur', fz', hh'⟩ := hr b e.symm
  rw [hh] at hh'
  simp at hh'
theorem own_BT {w : World} {B n : Nat} {v : Value} {xs : List Value} {e : TypeId} (h : w.ownsRow B e 1 v n xs) : ∀ g, v.ownBlock = some g → BT w g e := by
  intro g hg
  rcases h.2 with ⟨rfl, _⟩ | ⟨g', cap, cur, rfl, _, hh, _⟩
  · simp [Value.ownBlock] at hg
  · simp only [Value.ownBlock, Option.some.injEq] at hg
    subst hg
    exact ⟨cur, _, hh⟩
theorem BT.ne {w : World} {b g : Nat} {T U : TypeId} (h : BT w b T) (k : BT w g U) (hne : T ≠ U) : b ≠ g := by
  intro e
  subst e
  obtain ⟨cur, fz, hh⟩ := h
  obtain ⟨cur', fz', hh'⟩ := k
  rw [hh] at hh'
  simp only [Option.some.injEq, Obj.cells.injEq] at hh'
  exact hne hh'.2.1
theorem HV.block {w : World} {b off n c : Nat} {us : List Value} (h : HV w (.slice (some ⟨b, off, none⟩) n c) us) (h0 : 0 < us.length) : BT w b 22 := by
  obtain ⟨p, c', e, _, _, h4⟩ := h
  obtain ⟨b', off', e2, hb, _⟩ := h4 (by intro e; subst e; simp at h0)
  simp only [Value.slice.injEq] at e
  rw [← e.1] at e2
  simp only [Option.some.injEq, Addr.mk.injEq, and_true] at e2
  rw [e2.1]
  exact hb
theorem getD_set {α : Type} (l : List α) (d x : α) (k j : Nat) (hk : k < l.length) : (l.set k x).getD j d = if j = k then x else l.getD j d := by
  by_cases h : j = k
  · subst h
    simp [List.getD, hk]
  · rw [if_neg h]
    simp only [List.getD]
    rw [List.getElem?_set_ne (Ne.symm h)]
theorem Apt.store {B : Nat} {w : World} {us : List Value} {ls : List (List Int)} (h : Apt B w us ls) (k i : Nat) (x : Int) (hk : k < us.length) {g cap n : Nat} (hu : us.getD k undef = .slice (some ⟨g, 0, none⟩) n cap) :
    Apt B (w.setCell ⟨g, i, none⟩ (.int .u8 x)) us (ls.set k ((ls.getD k []).set i x)) ∧ w.grownBy (w.setCell ⟨g, i, none⟩ (.int .u8 x)) (some g) := by
  obtain ⟨h1, h2, h3⟩ := h
  have hok := h2 k hk
  rw [hu] at hok
  have hn : n = (ls.getD k []).length := by
    rcases hok.2 with ⟨e, _⟩ | ⟨_, _, _, e, _⟩
    · cases e
    · cases e; rfl
  subst hn
  have hst := hok.stored i (.int .u8 x)
  refine ⟨⟨by simpa using h1, fun j hj => ?_, h3⟩, hst.2⟩
  rw [getD_set ls [] _ k j (by omega)]
  by_cases hjk : j = k
  · subst hjk
    rw [if_pos rfl, hu, List.length_set, List.map_set]
    exact hst.1
  · rw [if_neg hjk]
    refine (h2 j hj).kept hst.2 ?_
    have := h3 j k hj hk hjk
    rw [hu] at this
    exact this
theorem Apt.slice {B : Nat} {w : World} {us : List Value} {ls : List (List Int)} (h : Apt B w us ls) (k : Nat) (hk : k < us.length) : ∃ p c, us.getD k undef = .slice p (ls.getD k []).length c := by
  rcases (h.2.1 k hk).2 with ⟨e, e2⟩ | ⟨g, cap, _, e, _⟩
  · exact ⟨none, 0, by rw [e, e2]⟩
  · exact ⟨_, _, e⟩
theorem Apt.some {B : Nat} {w : World} {us : List Value} {ls : List (List Int)} (h : Apt B w us ls) (k : Nat) (hk : k < us.length) (h0 : 0 < (ls.getD k []).length) : ∃ g c, us.getD k undef = .slice (Option.some ⟨g, 0, none⟩) (ls.getD k []).length c ∧ c ≤ maxLen ∧ (ls.getD k []).length ≤ c ∧ B ≤ g ∧ BT w g 5 := by
  rcases (h.2.1 k hk).2 with ⟨_, e2⟩ | ⟨g, cap, cur, e, hb, hh, h1, h2, _⟩
  · omega
  · exact ⟨g, cap, e, h2, h1, hb, cur, _, hh⟩
def Ph1 (B : Nat) (w : World) (us : List Value) (ls : List (List Int)) (K i : Nat) : Prop :=
  ∃ ms, Apt B w us ms ∧ (∀ j, (ms.getD j []).length = (ls.getD j []).length) ∧ (∀ j, j < K → ms.getD j [] = marksL (j + 1) (ls.getD j []).length) ∧ (ms.getD K []).take i = marksL (K + 1) i
theorem Ph1.start {B : Nat} {w : World} {us : List Value} {ls : List (List Int)} (h : Apt B w us ls) : Ph1 B w us ls 0 0 := ⟨ls, h, fun _ => rfl, fun j hj => by omega, by simp [marksL]⟩
theorem take_set_succ (l : List Int) (i : Nat) (x : Int) (hi : i < l.length) : (l.set i x).take (i + 1) = l.take i ++ [x] := by
  rw [List.take_succ_eq_append_getElem (by simpa using hi)]
  have e : (l.set i x).take i = l.take i := by
    apply List.ext_getElem?
    intro j
    simp only [List.getElem?_take]
    split
    · rw [List.getElem?_set_ne (by omega)]
    · rfl
  rw [e]
  simp
theorem Ph1.step {B : Nat} {w : World} {us : List Value} {ls : List (List Int)} {K i : Nat} (h : Ph1 B w us ls K i) (hK : K < us.length) (hi : i < (ls.getD K []).length) {g cap n : Nat} (hu : us.getD K undef = .slice (some ⟨g, 0, none⟩) n cap) :
    Ph1 B (w.setCell ⟨g, i, none⟩ (.int .u8 (mkB (K + 1) i))) us ls K (i + 1) ∧ w.grownBy (w.setCell ⟨g, i, none⟩ (.int .u8 (mkB (K + 1) i))) (some g) := by
  obtain ⟨ms, ha, hl, hd, ht⟩ := h
  have hs := ha.store K i (mkB (K + 1) i) hK hu
  have hKm : K < ms.length := by have := ha.1; omega
  refine ⟨⟨_, hs.1, fun j => ?_, fun j hj => ?_, ?_⟩, hs.2⟩
  · rw [getD_set ms [] _ K j hKm]
    split
    · rename_i e; subst e; rw [List.length_set]; exact hl _
    · exact hl j
  · rw [getD_set ms [] _ K j hKm, if_neg (by omega)]
    exact hd j hj
  · rw [getD_set ms [] _ K K hKm, if_pos rfl, take_set_succ _ _ _ (by rw [hl]; exact hi), ht, marksL_succ]
theorem Ph1.next {B : Nat} {w : World} {us : List Value} {ls : List (List Int)} {K i : Nat} (h : Ph1 B w us ls K i) (hi : (ls.getD K []).length ≤ i) : Ph1 B w us ls (K + 1) 0 := by
  obtain ⟨ms, ha, hl, hd, ht⟩ := h
  refine ⟨ms, ha, hl, fun j hj => ?_, by simp [marksL]⟩
  by_cases hj2 : j < K
  · exact hd j hj2
  · have e : j = K := by omega
    subst e
    have e1 := congrArg (List.take (ls.getD j []).length) ht
    rw [List.take_take, marksL_take _ _ _ hi] at e1
    rw [← e1, List.take_of_length_le]
    rw [hl]
    omega
theorem Ph1.slice {B : Nat} {w : World} {us : List Value} {ls : List (List Int)} {K i : Nat} (h : Ph1 B w us ls K i) (k : Nat) (hk : k < us.length) : ∃ p c, us.getD k undef = .slice p (ls.getD k []).length c := by
  obtain ⟨ms, ha, hl, _, _⟩ := h
  obtain ⟨p, c, e⟩ := ha.slice k hk
  rw [hl] at e
  exact ⟨p, c, e⟩
theorem Ph1.some {B : Nat} {w : World} {us : List Value} {ls : List (List Int)} {K i : Nat} (h : Ph1 B w us ls K i) (k : Nat) (hk : k < us.length) (h0 : 0 < (ls.getD k []).length) : ∃ g c, us.getD k undef = .slice (Option.some ⟨g, 0, none⟩) (ls.getD k []).length c ∧ c ≤ maxLen ∧ (ls.getD k []).length ≤ c ∧ B ≤ g ∧ BT w g 5 ∧ ∀ j, j < (ls.getD k []).length → (∃ z, w.cell? ⟨g, j, none⟩ = Option.some z) ∧ w.frozen? ⟨g, j, none⟩ = false := by
  obtain ⟨ms, ha, hl, _, _⟩ := h
  obtain ⟨g, c, e, h1, h2, h3, h4⟩ := ha.some k hk (by rw [hl]; exact h0)
  have hrow := ha.2.1 k hk
  rw [e] at hrow
  rw [hl] at e h2
  refine ⟨g, c, e, h1, h2, h3, h4, fun j hj => ⟨?_, hrow.frozenAt j⟩⟩
  have := hrow.cellAt j (by rw [hl]; omega)
  rw [this]
  exact ⟨_, List.getElem?_eq_getElem (by simp only [List.length_map]; rw [hl]; exact hj)⟩
theorem Ph1.drew {B : Nat} {w : World} {us : List Value} {ls : List (List Int)} {K i : Nat} (h : Ph1 B w us ls K i) : Ph1 B w.drew us ls K i := h
theorem HV.drew {w : World} {v : Value} {us : List Value} (h : HV w v us) : HV w.drew v us := h
theorem HB.away {w w' : World} {u : Value} {l : List Int} {row : Option Nat} (h : HB w u l) (hg : w.grownBy w' row) (hr : u.ownBlock = none ∨ u.ownBlock ≠ row) : HB w' u l := by
  obtain ⟨⟨p, c, rfl, h2, h3, h6, h4⟩, h5⟩ := h
  refine ⟨⟨p, c, rfl, h2, h3, h6, fun hl => ?_⟩, h5⟩
  obtain ⟨b, off, rfl, hh⟩ := h4 hl
  refine ⟨b, off, rfl, fun j hj => hg.cell (hh j hj) ?_⟩
  rcases hr with hr | hr
  · simp [Value.ownBlock] at hr
  · exact hr
def Usf (w : World) (us : List Value) (ls : List (List Int)) : Prop :=
  (∀ i j, i < us.length → j < us.length → i ≠ j → (us.getD i undef).ownBlock = none ∨ (us.getD i undef).ownBlock ≠ (us.getD j undef).ownBlock) ∧
  (∀ j b, j < us.length → (us.getD j undef).ownBlock = some b → b < w.heap.size ∧ ∃ c, us.getD j undef = .slice (some ⟨b, 0, none⟩) (ls.getD j []).length c ∧ (ls.getD j []).length ≤ c ∧ c ≤ maxLen) ∧
  (∀ j, j < us.length → ∃ p c, us.getD j undef = .slice p (ls.getD j []).length c)
theorem Usf.grown {w w' : World} {us : List Value} {ls : List (List Int)} (h : Usf w us ls) (hs : w.heap.size ≤ w'.heap.size) : Usf w' us ls :=
  ⟨h.1, fun j b hj hb => ⟨Nat.lt_of_lt_of_le (h.2.1 j b hj hb).1 hs, (h.2.1 j b hj hb).2⟩, h.2.2⟩
def Pool (B : Nat) (w : World) (us : List Value) (ls : List (List Int)) (K L : Nat) (gl : List Value) : Prop :=
  gl.length = K ∧ Usf w us ls ∧
  (∀ j, j < K → w.ownsRow B 5 1 (gl.getD j undef) ((ls.getD j []).length + 70) ((marksL (j + 1) ((ls.getD j []).length + 70)).map (Value.int .u8)) ∧ HB w (us.getD j undef) (marksL (j + 1) (ls.getD j []).length)) ∧
  (∀ j, L ≤ j → j < us.length → w.ownsRow B 5 1 (us.getD j undef) (ls.getD j []).length ((marksL (j + 1) (ls.getD j []).length).map (Value.int .u8))) ∧
  (∀ i j, i < K → K ≤ j → j < us.length → (gl.getD i undef).ownBlock ≠ (us.getD j undef).ownBlock)
theorem Pool.grown {B : Nat} {w w' : World} {us : List Value} {ls : List (List Int)} {K L : Nat} {gl : List Value} {row : Option Nat} (h : Pool B w us ls K L gl) (hg : w.grownBy w' row)
    (hr1 : ∀ i, i < K → (gl.getD i undef).ownBlock = none ∨ (gl.getD i undef).ownBlock ≠ row) (hr2 : ∀ j, j < us.length → (j < K ∨ L ≤ j) → (us.getD j undef).ownBlock = none ∨ (us.getD j undef).ownBlock ≠ row) (hKL : K ≤ us.length) : Pool B w' us ls K L gl := by
  obtain ⟨h1, h2, h3, h4, h5⟩ := h
  refine ⟨h1, h2.grown hg.size, fun j hj => ⟨(h3 j hj).1.kept hg (hr1 j hj), (h3 j hj).2.away hg (hr2 j (by omega) (.inl hj))⟩, fun j hj hj2 => (h4 j hj hj2).kept hg (hr2 j hj2 (.inr hj)), h5⟩
def Cur (B : Nat) (w : World) (us : List Value) (ls : List (List Int)) (K : Nat) (gl : List Value) (g : Value) (m : Nat) : Prop :=
  Pool B w us ls K (K + 1) gl ∧ w.ownsRow B 5 1 g ((ls.getD K []).length + m) ((marksL (K + 1) ((ls.getD K []).length + m)).map (Value.int .u8)) ∧ HB w (us.getD K undef) (marksL (K + 1) (ls.getD K []).length) ∧
  (∀ i, i < K → (gl.getD i undef).ownBlock ≠ g.ownBlock) ∧ ∀ j, j < us.length → j ≠ K → (us.getD j undef).ownBlock = none ∨ (us.getD j undef).ownBlock ≠ g.ownBlock
theorem Cur.start {B : Nat} {w : World} {us : List Value} {ls : List (List Int)} {K : Nat} {gl : List Value} (h : Pool B w us ls K K gl) (hK : K < us.length) : Cur B w us ls K gl (us.getD K undef) 0 := by
  obtain ⟨h1, h2, h3, h4, h5⟩ := h
  have hk := h4 K (Nat.le_refl _) hK
  refine ⟨⟨h1, h2, h3, fun j hj => h4 j (by omega), h5⟩, by simpa using hk, HB.of_own (by rw [marksL_length]; exact hk) (marksL_byt _ _), fun i hi => h5 i K hi (Nat.le_refl _) hK, fun j hj hne => h2.1 j K hj hK hne⟩
theorem Cur.finish {B : Nat} {w : World} {us : List Value} {ls : List (List Int)} {K : Nat} {gl : List Value} {g : Value} (h : Cur B w us ls K gl g 70) (hK : K < us.length) : Pool B w us ls (K + 1) (K + 1) (gl ++ [g]) := by
  obtain ⟨⟨h1, h2, h3, h4, h5⟩, hg, hu, hs1, hs2⟩ := h
  have gd : ∀ j, (gl ++ [g]).getD j undef = if j < K then gl.getD j undef else if j = K then g else undef := by
    intro j
    rw [getD_app, h1]
    split
    · rfl
    · split
      · rename_i e; subst e; simp
      · rename_i h6 h7
        have : 0 < j - K := by omega
        obtain ⟨t, ht⟩ : ∃ t, j - K = t + 1 := ⟨j - K - 1, by omega⟩
        rw [ht]; rfl
  refine ⟨by simp [h1], h2, fun j hj => ?_, h4, fun i j hi hj hj2 => ?_⟩
  · rw [gd]
    by_cases hjk : j < K
    · rw [if_pos hjk]; exact h3 j hjk
    · have e : j = K := by omega
      subst e
      rw [if_neg hjk, if_pos rfl]
      exact ⟨hg, hu⟩
  · rw [gd]
    by_cases hik : i < K
    · rw [if_pos hik]; exact h5 i j hik (by omega) hj2
    · have e : i = K := by omega
      subst e
      rw [if_neg hik, if_pos rfl]
      rcases hs2 j hj2 (by omega) with h | h
      · rw [h]
        intro e
        rcases hg.2 with ⟨_, e2⟩ | ⟨g', cap, cur, e2, _⟩
        · omega
        · rw [e2] at e; simp [Value.ownBlock] at e
      · exact Ne.symm h
theorem Cur.alloc {B : Nat} {w : World} {us : List Value} {ls : List (List Int)} {K : Nat} {gl : List Value} {g : Value} {m : Nat} (h : Cur B w us ls K gl g m) (hK : K < us.length) (o : Obj) : Cur B (w.alloc o) us ls K gl g m := by
  have hg := World.grownBy_alloc w o none
  have tr : ∀ x : Option Nat, x = none ∨ x ≠ none := fun x => by cases x <;> simp
  exact ⟨h.1.grown hg (fun i _ => tr _) (fun j _ _ => tr _) (by omega), h.2.1.kept hg (tr _), h.2.2.1.away hg (tr _), h.2.2.2⟩
theorem Cur.step {B : Nat} {w w' : World} {us : List Value} {ls : List (List Int)} {K : Nat} {gl : List Value} {g g' : Value} {m : Nat} (h : Cur B w us ls K gl g m) (hK : K < us.length)
    (hown : w'.ownsRow B 5 1 g' ((ls.getD K []).length + m + 1) ((marksL (K + 1) ((ls.getD K []).length + m)).map (Value.int .u8) ++ [.int .u8 (mkB (K + 1) ((ls.getD K []).length + m))])) (hgr : w.grownBy w' g.ownBlock)
    (hd : g'.ownBlock = g.ownBlock ∨ (g'.ownBlock = some w.heap.size ∧ w.grownBy w' none)) : Cur B w' us ls K gl g' (m + 1) := by
  obtain ⟨hp, hg, hu, hs1, hs2⟩ := h
  have hp2 := hp
  obtain ⟨h1, h2, h3, h4, h5⟩ := hp2
  have hown2 : w'.ownsRow B 5 1 g' ((ls.getD K []).length + (m + 1)) ((marksL (K + 1) ((ls.getD K []).length + (m + 1))).map (Value.int .u8)) := by
    rw [← Nat.add_assoc, marksL_succ, List.map_append]
    exact hown
  have tr : ∀ x : Option Nat, x = none ∨ x ≠ none := fun x => by cases x <;> simp
  have hpool : Pool B w' us ls K (K + 1) gl := hp.grown hgr (fun i hi => .inr (hs1 i hi)) (fun j hj hj2 => hs2 j hj (by omega)) (by omega)
  rcases hd with hd | ⟨hd, hgn⟩
  · refine ⟨hpool, hown2, ?_, fun i hi => by rw [hd]; exact hs1 i hi, fun j hj hne => by rw [hd]; exact hs2 j hj hne⟩
    by_cases hsame : (us.getD K undef).ownBlock = none ∨ (us.getD K undef).ownBlock ≠ g.ownBlock
    · exact hu.away hgr hsame
    · obtain ⟨b, hb⟩ : ∃ b, (us.getD K undef).ownBlock = some b := by
        cases hx : (us.getD K undef).ownBlock with
        | none => exact absurd (.inl hx) hsame
        | some b => exact ⟨b, rfl⟩
      have hbg : g.ownBlock = some b := by
        apply Classical.byContradiction
        intro hn
        exact hsame (.inr (by rw [hb]; exact Ne.symm hn))
      obtain ⟨_, c, e, hc1, hc2⟩ := h2.2.1 K b hK hb
      rw [e]
      refine ⟨⟨some ⟨b, 0, none⟩, c, by rw [marksL_length], by rw [marksL_length]; exact hc1, hc2, (fun e => by cases e), fun _ => ⟨b, 0, rfl, fun j hj => ?_⟩⟩, marksL_byt _ _⟩
      rw [marksL_length] at hj
      obtain ⟨g2, cap, e2, _, _, _, hcell⟩ := ownsRow_cells hown2 (by omega)
      rw [hbg, e2] at hd
      simp only [Value.ownBlock, Option.some.injEq] at hd
      subst hd
      have hjl : j < (marksL (K + 1) ((ls.getD K []).length + (m + 1))).length := by rw [marksL_length]; omega
      have := hcell j (.int .u8 (mkB (K + 1) j)) (by
        rw [List.getElem?_map, List.getElem?_eq_getElem hjl, ← getD_of_lt hjl, marksL_getD _ _ _ (by omega)]; rfl)
      rw [this, marksL_getD _ _ _ hj]
  · refine ⟨hpool, hown2, hu.away hgn (tr _), fun i hi => ?_, fun j hj hne => ?_⟩
    · rw [hd]
      intro e
      have := ((h3 i hi).1.lt _ e).2
      omega
    · rw [hd]
      right
      intro e
      have := (h2.2.1 j _ hj e).1
      omega
theorem Ph1.pool {B : Nat} {w : World} {us : List Value} {ls : List (List Int)} (h : Ph1 B w us ls us.length 0) : Pool B w us ls 0 0 [] := by
  obtain ⟨ms, ha, hl, hd, _⟩ := h
  refine ⟨rfl, ⟨ha.2.2, fun j b hj hb => ?_, fun j hj => ?_⟩, fun j hj => by omega, fun j _ hj => ?_, fun i j hi => by omega⟩
  · have hrow := ha.2.1 j hj
    refine ⟨(hrow.lt b hb).2, ?_⟩
    rcases hrow.2 with ⟨e, _⟩ | ⟨g, cap, cur, e, _, _, h1, h2, _⟩
    · rw [e] at hb; simp [Value.ownBlock] at hb
    · rw [e] at hb
      simp only [Value.ownBlock, Option.some.injEq] at hb
      subst hb
      rw [hl] at e h1
      exact ⟨cap, e, h1, h2⟩
  · obtain ⟨p, c, e⟩ := ha.slice j hj
    rw [hl] at e
    exact ⟨p, c, e⟩
  · have := ha.2.1 j hj
    rw [hd j hj, marksL_length] at this
    exact this
theorem HV.apart {w w' : World} {v : Value} {us : List Value} {row : Option Nat} {N : Nat} (h : HV w v us) (hg : w.grownBy w' row) (hr : ∀ g, row = some g → N ≤ g) (hv : ∀ b off n c, v = .slice (some ⟨b, off, none⟩) n c → 0 < us.length → b < N) : HV w' v us := by
  obtain ⟨p, c, h1, h2, h3, h4⟩ := h
  refine ⟨p, c, h1, h2, h3, fun hne => ?_⟩
  obtain ⟨b, off, e, ⟨cur, fz, hh⟩, hc⟩ := h4 hne
  have hb : b < N := hv b off us.length c (by rw [h1, e]) (by cases us with | nil => exact absurd rfl hne | cons _ _ => simp)
  have hne2 : some b ≠ row := fun e => by have := hr b e.symm; omega
  exact ⟨b, off, e, ⟨cur, fz, by rw [hg.block b (Array.getElem?_eq_some_iff.1 hh).1 hne2]; exact hh⟩, fun k hk => hg.cell (hc k hk) hne2⟩
theorem HV.cellAt {w : World} {b off n c : Nat} {us : List Value} (h : HV w (.slice (some ⟨b, off, none⟩) n c) us) (k : Nat) (hk : k < us.length) : w.cell? ⟨b, off + k, none⟩ = some (us.getD k undef) := by
  obtain ⟨p', c', e', _, _, h4⟩ := h
  obtain ⟨b', off', e2, _, hc⟩ := h4 (by intro e; subst e; simp at hk)
  simp only [Value.slice.injEq] at e'
  rw [← e'.1] at e2
  simp only [Option.some.injEq, Addr.mk.injEq, and_true] at e2
  obtain ⟨rfl, rfl⟩ := e2
  exact hc k hk
set_option maxHeartbeats 4000000 in
theorem apart_any (B : Nat) (w : World) (v : Value) (us : List Value) (ls : List (List Int)) (hv : HV w v us) (ha : Apt B w us ls) (hB : B ≤ w.heap.size) (hn : us.length ≤ 5864062014634) (hls : ∀ k, (ls.getD k []).length ≤ 140737488351232) :
    Calls Try.prog 12 #[v] w fun e w' => e = .returned (.bool true) ∧ Below B w w' := by
  obtain ⟨p, c, e, hlc, hm, hcell⟩ := id hv
  unfold maxLen at hm
  subst e
  have A : Hid (0 < us.length → ∃ b off, p = some ⟨b, off, none⟩) := fun h0 => by
    obtain ⟨b, off, e, _⟩ := hcell (by intro e; subst e; simp at h0)
    exact ⟨b, off, e⟩
  have HV0 := hid hv
  have HA0 := hid (Ph1.start ha)
  have HLS := hid hls
  clear hcell hv ha hls
  go_enter Try.func12, Try.ntmps12
  go_wp2
  go_loopw [3] (fun k wr => ∃ K : Nat, K ≤ us.length ∧ k = .int .i64 K ∧ Hid (Ph1 B wr us ls K 0) ∧ Hid (HV wr (.slice p us.length c) us) ∧ Hid (Below B w wr)) (fun k _ => us.length - (intOf k).toNat)
  case atStart => exact ⟨0, Nat.zero_le _, rfl, HA0, HV0, Below.refl _ _⟩
  case round =>
    clear HA0 HV0
    obtain ⟨K, hK, rfl, HP, HVr, HBr⟩ := hrel
    by_cases hlt : K < us.length
    · obtain ⟨b, off, rfl⟩ := A.out (by omega)
      have hcells : Hid (∀ wz, HV wz (.slice (some ⟨b, off, none⟩) us.length c) us → wz.cell? ⟨b, off + K, none⟩ = some (us.getD K undef)) := by
        intro wz hz
        obtain ⟨p', c', e', _, _, h4⟩ := hz
        obtain ⟨b', off', e2, _, hc⟩ := h4 (by intro e; subst e; simp at hlt)
        simp only [Value.slice.injEq, true_and] at e'
        rw [← e'.1] at e2
        simp only [Option.some.injEq, Addr.mk.injEq, and_true] at e2
        obtain ⟨rfl, rfl⟩ := e2
        exact hc K hlt
      obtain ⟨n, HN⟩ : ∃ n, Hid ((ls.getD K []).length = n) := ⟨_, rfl⟩
      have hn2 : n ≤ 140737488351232 := by rw [← HN.out]; exact HLS.out K
      obtain ⟨pk, ck, HU⟩ : ∃ pk ck, Hid (us.getD K undef = .slice pk n ck) := by
        obtain ⟨pk, ck, e⟩ := HP.out.slice K hlt
        rw [HN.out] at e
        exact ⟨pk, ck, e⟩
      go_wp2
      go_loopw [4] (fun i wz => ∃ I : Nat, I ≤ n ∧ i = .int .i64 I ∧ Hid (Ph1 B wz us ls K I) ∧ Hid (HV wz (.slice (some ⟨b, off, none⟩) us.length c) us) ∧ Hid (Below B w wz)) (fun i _ => n - (intOf i).toNat)
      case atStart => exact ⟨0, Nat.zero_le _, rfl, HP, HVr, HBr⟩
      case round =>
        clear HP HVr HBr
        obtain ⟨I, hI, rfl, HP, HVr, HBr⟩ := hrel
        have hc1 := hcells.out wr HVr.out
        rw [HU.out] at hc1
        by_cases hli : I < n
        · obtain ⟨g, ck', e, hck, hck2, hgB, hBT, hcc⟩ := HP.out.some K hlt (by rw [HN.out]; omega)
          rw [HU.out, HN.out] at e
          simp only [Value.slice.injEq, true_and] at e
          obtain ⟨rfl, rfl⟩ := e
          obtain ⟨⟨z, hz⟩, hfz⟩ := hcc I (by rw [HN.out]; exact hli)
          rw [HN.out] at hck2
          unfold maxLen at hck
          have HBT := hid hBT
          have hgb : b ≠ g := (HVr.out.block (by omega)).ne hBT (by decide)
          have hbg : g ≠ b := Ne.symm hgb
          clear hcc hBT
          go_wp2
          go_region_held3 (fun w' => w'.cell? ⟨b, off + K, none⟩ = some (.slice (some ⟨g, 0, none⟩) n ck)) (go_keep) ((go_at_call 13; refine (mark_eq _ (K + 1) I _ _ (wrap_succ K (by omega)) rfl (by omega) (by omega)).mono ?_; rintro e wz ⟨rfl, hw⟩; have hw' := hw.symm; subst hw'; clear hw))
          have hst := HP.out.step hlt (by rw [HN.out]; exact hli) HU.out
          have HP2 := hid hst.1.drew
          have HV2 := hid (HVr.out.grown hst.2 (fun g' e => by cases e; exact HBT.out)).drew
          have HB2 := hid (HBr.out.setCell (p := ⟨g, I, none⟩) hgB (.int .u8 (mkB (K + 1) I))).drew
          clear hst
          go_wp2
          exact ⟨⟨I + 1, by omega, by go_num, HP2, HV2, HB2⟩, by simp [intOf]; omega⟩
        · have HP2 := hid (HP.out.next (by rw [HN.out]; omega))
          go_wp2
          exact ⟨⟨K + 1, by omega, by go_num, HP2, HVr, HBr⟩, by simp [intOf]; omega⟩
    · have hKn : K = us.length := by omega
      have HPl : Hid (Pool B wr us ls 0 0 []) := by
        have := HP.out
        rw [hKn] at this
        exact this.pool
      obtain ⟨N, HN⟩ : ∃ N, Hid (wr.heap.size = N) := ⟨_, rfl⟩
      have HNu : Hid (∀ j b, j < us.length → (us.getD j undef).ownBlock = some b → b < N) := fun j b hj hb => by rw [← HN.out]; exact (HPl.out.2.1.2.1 j b hj hb).1
      have HNv : Hid (∀ b off n c', Value.slice p us.length c = .slice (some ⟨b, off, none⟩) n c' → 0 < us.length → b < N) := fun b off n c' e h0 => by
        rw [← HN.out]
        have h1 := HVr.out
        rw [e] at h1
        obtain ⟨cur, fz, hh⟩ := h1.block h0
        exact (Array.getElem?_eq_some_iff.1 hh).1
      have HNB : Hid (B ≤ N) := by rw [← HN.out]; exact Nat.le_trans hB HBr.out.size
      have HNs : Hid (N ≤ wr.heap.size) := by rw [HN.out]; exact Nat.le_refl N
      clear HP hKn HN
      go_wp2
      go_loopw [5, 6] (fun gs k wz => ∃ (K : Nat) (gl : List Value), K ≤ us.length ∧ k = .int .i64 K ∧ Hid (Pool B wz us ls K K gl) ∧ Hid (wz.ownsRow N 22 1 gs K gl) ∧ Hid (HV wz (.slice p us.length c) us) ∧ Hid (Below B w wz) ∧ Hid (N ≤ wz.heap.size)) (fun _ k _ => us.length - (intOf k).toNat)
      case atStart => exact ⟨0, [], Nat.zero_le _, rfl, HPl, World.ownsRow_nil _ _ _ _, HVr, HBr, HNs⟩
      case round =>
        clear HPl HVr HBr HNs hlt hK
        obtain ⟨K, gl, hK, rfl, HP, HG, HVr, HBr, HNs⟩ := hrel
        by_cases hlt : K < us.length
        · obtain ⟨b, off, rfl⟩ := A.out (by omega)
          obtain ⟨n, HNn⟩ : ∃ n, Hid ((ls.getD K []).length = n) := ⟨_, rfl⟩
          have hn2 : n ≤ 140737488351232 := by rw [← HNn.out]; exact HLS.out K
          obtain ⟨pk, ck, HU⟩ : ∃ pk ck, Hid (us.getD K undef = .slice pk n ck) := by
            obtain ⟨pk, ck, e⟩ := HP.out.2.1.2.2 K hlt
            rw [HNn.out] at e
            exact ⟨pk, ck, e⟩
          have hc1 := HVr.out.cellAt K hlt
          rw [HU.out] at hc1
          have HC := hid (Cur.start HP.out hlt)
          rw [HU.out] at HC
          go_wp2
          go_loopw [7, 8] (fun g i wz => ∃ m : Nat, m ≤ 70 ∧ i = .int .i64 m ∧ Hid (Cur B wz us ls K gl g m) ∧ Hid (wz.ownsRow N 22 1 u5 K gl) ∧ Hid (HV wz (.slice (some ⟨b, off, none⟩) us.length c) us) ∧ Hid (Below B w wz) ∧ Hid (N ≤ wz.heap.size)) (fun _ i _ => 70 - (intOf i).toNat)
          case atStart => exact ⟨0, Nat.zero_le _, rfl, HC, HG, HVr, HBr, HNs⟩
          case round =>
            clear HC HG HVr HBr HNs hc1
            obtain ⟨m, hm70, rfl, HC, HG, HVr, HBr, HNs⟩ := hrel
            have hc1 := HVr.out.cellAt K hlt
            rw [HU.out] at hc1
            by_cases hlm : m < 70
            · have hlm2 : (m : Int) < 70 := by omega
              go_wp2_with fail
              refine (mark_eq wr (K + 1) (n + m) _ _ (by omega) (by omega) (by omega) (by omega)).mono ?_
              rintro e wz ⟨rfl, hw⟩
              have hw' := hw.symm
              subst hw'
              clear hw
              have HCa := hid (HC.out.alloc hlt (.cells #[.int .u8 (mkB (K + 1) (n + m))] 5))
              have HO := HCa.out.2.1
              rw [HNn.out] at HO
              have HOh := hid HO
              clear HO
              go_wp2_with (at_builtin; refine wpList_append_byte rfl _ _ rfl B _ (n + m) _ rfl HOh.out ⟨wr.heap.size, 0, none⟩ 1 (mkB (K + 1) (n + m)) rfl (by simp) ?q1 ?q2 ?_)
              case q1 => omega
              case q2 => have := HBr.out.size; simp; omega
              intro g' w2 hown2 hgr2 hd2
              have hBT := own_BT HOh.out
              have hal := World.grownBy_alloc wr (.cells #[.int .u8 (mkB (K + 1) (n + m))] 5) none
              have HC2 := hid (HCa.out.step hlt (by rw [HNn.out]; exact hown2) hgr2 (by rw [World.size_alloc]; exact hd2))
              have HG2 : Hid (w2.ownsRow N 22 1 u5 K gl) := by
                have h1 := HG.out.alloc (.cells #[.int .u8 (mkB (K + 1) (n + m))] 5)
                refine h1.kept hgr2 ?_
                cases hx : u7.ownBlock with
                | none => cases hy : u5.ownBlock <;> simp
                | some q =>
                  obtain ⟨cur, fz, hh⟩ := hBT q hx
                  exact .inr (own_block_ne h1 hh (by decide))
              have HV2 := hid ((HVr.out.grown hal (fun g e => by cases e)).grown hgr2 hBT)
              have HB2 := hid ((HBr.out.alloc (Nat.le_trans hB HBr.out.size) (.cells #[.int .u8 (mkB (K + 1) (n + m))] 5)).grown hgr2 (by have := HBr.out.size; simp; omega) (fun k e => (HOh.out.lt k e).1))
              have HN2 : Hid (N ≤ w2.heap.size) := by have h1 := hgr2.size; have h2 := HNs.out; simp at h1; exact Nat.le_trans h2 (by omega)
              clear hown2 hgr2 hd2 hBT hal
              go_wp2
              exact ⟨⟨m + 1, by omega, by go_num, HC2, HG2, HV2, HB2, HN2⟩, by simp [intOf]; omega⟩
            · have e70 : m = 70 := by omega
              subst e70
              have HPn := hid (HC.out.finish hlt)
              have HOg := HC.out.2.1
              rw [HNn.out] at HOg
              obtain ⟨pg, cg, eg, _, _⟩ : ∃ pg cg, u7 = .slice pg (n + 70) cg ∧ True ∧ True := by
                rcases HOg.2 with ⟨_, e⟩ | ⟨g', cap, cur, e, _⟩
                · omega
                · exact ⟨_, _, e, trivial, trivial⟩
              subst eg
              obtain ⟨i0, hi, hz0, hz1, hz2⟩ := info_parts info_bytes
              have HGa := hid (HG.out.alloc (.cells #[.slice pg (n + 70) cg] 22))
              have hal := World.grownBy_alloc wr (.cells #[.slice pg (n + 70) cg] 22) none
              have tr : ∀ x : Option Nat, x = none ∨ x ≠ none := fun x => by cases x <;> simp
              have HPa := hid (HPn.out.grown hal (fun i _ => tr _) (fun j _ _ => tr _) (by omega))
              have HVa := hid (HVr.out.grown hal (fun g e => by cases e))
              have HBa := hid (HBr.out.alloc (Nat.le_trans hB HBr.out.size) (.cells #[.slice pg (n + 70) cg] 22))
              clear HOg tr hal
              go_wp2_with (at_builtin; refine wpList_append_own _ rfl _ _ 24 rfl N 22 i0 (.slice none 0 0) 1 24 Try.underlying24 hi hz0 hz1 hz2 rfl (by decide) _ K gl rfl HGa.out ⟨wr.heap.size, 0, none⟩ 1 1 [_] rfl rfl (cell_one_new _ _ _) ?q1 ?q2 ?q3 ?q4 ?_)
              case q1 => intro u hu; simp only [List.mem_singleton] at hu; subst hu; rfl
              case q2 => unfold maxLen; omega
              case q3 => omega
              case q4 => have := HNs.out; simp; omega
              intro gs' w2 hown2 hgr2 _
              have hlo : ∀ g, u5.ownBlock = some g → N ≤ g := fun g e => (HGa.out.lt g e).1
              have HP2 : Hid (Pool B w2 us ls (K + 1) (K + 1) (gl ++ [.slice pg (n + 70) cg])) := by
                refine HPa.out.grown hgr2 (fun i hi => ?_) (fun j hj _ => ?_) (by omega)
                · cases hx : u5.ownBlock with
                  | none => cases hy : ((gl ++ [Value.slice pg (n + 70) cg]).getD i undef).ownBlock <;> simp
                  | some q =>
                    obtain ⟨cur, fz, hh⟩ := own_BT HGa.out q hx
                    exact .inr (own_block_ne (HPa.out.2.2.1 i hi).1 hh (by decide))
                · cases hx : (us.getD j undef).ownBlock with
                  | none => exact .inl rfl
                  | some q =>
                    right
                    intro e
                    have h1 := HNu.out j q hj hx
                    have h2 := hlo q e.symm
                    omega
              have HV2 := hid (HVa.out.apart hgr2 hlo HNv.out)
              have HB2 := hid (HBa.out.grown hgr2 (by have := HBr.out.size; simp; omega) (fun k e => Nat.le_trans HNB.out (hlo k e)))
              have HG2 : Hid (w2.ownsRow N 22 1 gs' (K + 1) (gl ++ [.slice pg (n + 70) cg])) := hown2
              have HN2 : Hid (N ≤ w2.heap.size) := by have h1 := hgr2.size; have h2 := HNs.out; simp at h1; exact Nat.le_trans h2 (by omega)
              clear hown2 hgr2 hlo
              go_wp2
              exact ⟨⟨K + 1, _, by omega, by go_num, HP2, HG2, HV2, HB2, HN2⟩, by simp [intOf]; omega⟩
        · have hKn : K = us.length := by omega
          subst hKn
          obtain ⟨pg, cg, eg⟩ : ∃ pg cg, u5 = .slice pg us.length cg := by
            rcases HG.out.2 with ⟨e, e2⟩ | ⟨g', cap, cur, e, _⟩
            · exact ⟨none, 0, by rw [e, e2]⟩
            · exact ⟨_, _, e⟩
          subst eg
          go_wp2
          go_loop [9] (fun k => ∃ Q : Nat, Q ≤ us.length ∧ k = .int .i64 Q) (fun k => us.length - (intOf k).toNat)
          case atStart => exact ⟨0, Nat.zero_le _, rfl⟩
          case round =>
            obtain ⟨Q, hQ, rfl⟩ := hrel
            by_cases hlq : Q < us.length
            · obtain ⟨b, off, rfl⟩ := A.out (by omega)
              obtain ⟨n, HNn⟩ : ∃ n, Hid ((ls.getD Q []).length = n) := ⟨_, rfl⟩
              have hn2 : n ≤ 140737488351232 := by rw [← HNn.out]; exact HLS.out Q
              have hc1 := HVr.out.cellAt Q hlq
              obtain ⟨hrow, hu⟩ := HP.out.2.2.1 Q hlq
              rw [HNn.out] at hrow hu
              obtain ⟨pk, ck, HU⟩ : ∃ pk ck, Hid (us.getD Q undef = .slice pk n ck) := by
                obtain ⟨pk, ck, e⟩ := HP.out.2.1.2.2 Q hlq
                rw [HNn.out] at e
                exact ⟨pk, ck, e⟩
              rw [HU.out] at hc1 hu
              obtain ⟨gg, capg, eg, _, hcg1, hcg2, hgc⟩ := ownsRow_cells HG.out (by omega)
              simp only [Value.slice.injEq, true_and] at eg
              obtain ⟨rfl, rfl⟩ := eg
              have hgl : gl.length = us.length := HP.out.1
              have hc2 := hgc Q (gl.getD Q undef) (by simp [List.getD, List.getElem?_eq_getElem (show Q < gl.length by omega)])
              rw [Nat.zero_add] at hc2
              obtain ⟨gq, capq, eq, _, hq1, hq2, hqc⟩ := ownsRow_cells hrow (by omega)
              rw [eq] at hc2
              have HQ : Hid (∀ I, I < n + 70 → wr.cell? ⟨gq, I, none⟩ = some (.int .u8 (mkB (Q + 1) I))) := fun I hI => by
                have hjl : I < (marksL (Q + 1) (n + 70)).length := by rw [marksL_length]; exact hI
                have := hqc I (.int .u8 (mkB (Q + 1) I)) (by rw [List.getElem?_map, List.getElem?_eq_getElem hjl, ← getD_of_lt hjl, marksL_getD _ _ _ hI]; rfl)
                rwa [Nat.zero_add] at this
              have HUc : Hid (∀ I, I < n → ∃ b' off', pk = some ⟨b', off', none⟩ ∧ wr.cell? ⟨b', off' + I, none⟩ = some (.int .u8 (mkB (Q + 1) I)) ∧ n ≤ ck) := fun I hI => by
                obtain ⟨b', off', c', e, h1, h2, hh⟩ := hu.ne (by rw [marksL_length]; omega)
                rw [marksL_length] at e hh h1
                simp only [Value.slice.injEq, true_and] at e
                obtain ⟨rfl, rfl⟩ := e
                have := hh I hI
                rw [marksL_getD _ _ _ hI] at this
                exact ⟨b', off', rfl, this, h1⟩
              unfold maxLen at hcg2 hq2
              clear hrow hu hgc hqc eq hgl
              go_wp2
              go_loop [10] (fun i => ∃ I : Nat, I ≤ n + 70 ∧ i = .int .i64 I) (fun i => n + 70 - (intOf i).toNat)
              case atStart => exact ⟨0, Nat.zero_le _, rfl⟩
              case round =>
                obtain ⟨I, hI, rfl⟩ := hrel
                by_cases hli : I < n + 70
                · have hx1 := HQ.out I hli
                  have hli2 : (I : Int) < (n : Int) + 70 := by omega
                  go_wp2_with fail
                  refine (mark_eq wr (Q + 1) I _ _ (by omega) rfl (by omega) (by omega)).mono ?_
                  rintro e wz ⟨rfl, hw⟩
                  have hw' := hw.symm
                  subst hw'
                  clear hw
                  obtain ⟨x, HX⟩ : ∃ x, Hid (mkB (Q + 1) I = x) := ⟨_, rfl⟩
                  rw [HX.out] at hx1 ⊢
                  have hxx : (x != x) = false := by simp
                  by_cases hln : I < n
                  · have hdn : decide ((I : Int) < (n : Int)) = true := by simp; omega
                    have hln2 : (I : Int) < (n : Int) := by omega
                    obtain ⟨b', off', rfl, hx2, _⟩ := HUc.out I hln
                    rw [HX.out] at hx2
                    go_wp2
                    exact ⟨⟨I + 1, by omega, by go_num⟩, by simp [intOf]; omega⟩
                  · have hdn : decide ((I : Int) < (n : Int)) = false := by simp; omega
                    go_wp2
                    exact ⟨⟨I + 1, by omega, by go_num⟩, by simp [intOf]; omega⟩
                · have hli2 : ¬ ((I : Int) < (n : Int) + 70) := by omega
                  go_wp2
                  exact ⟨⟨Q + 1, by omega, by go_num⟩, by simp [intOf]; omega⟩
            · go_wp2
              go_ret
              exact ⟨rfl, HBr.out⟩
end Go.Proofs.Ytnifnoadfepegaa
namespace Go.Proofs.Ytnifnoadfepegaa
open Go Go.RowKit
theorem HV.three (w : World) (a b c : Value) : HV (w.alloc (.cells #[a, b, c] 22)) (.slice (some ⟨w.heap.size, 0, none⟩) 3 3) [a, b, c] := by
  refine ⟨_, _, rfl, by simp, by decide, fun _ => ⟨w.heap.size, 0, rfl, ⟨_, _, heap_alloc_new w _⟩, fun k hk => ?_⟩⟩
  match k, hk with
  | 0, _ => simp
  | 1, _ => simp
  | 2, _ => simp
theorem lent_part {w : World} {B : Nat} {v : Value} {l : List Int} (h : w.ownsRow B 5 1 v (lent l).length ((lent l).map (Value.int .u8))) (hby : ∀ x ∈ l, 0 ≤ x ∧ x < 256) :
    ∃ g c, v = .slice (some ⟨g, 0, none⟩) (l.length + 70) c ∧ B ≤ g ∧ g < w.heap.size ∧ l.length + 70 ≤ c ∧ c ≤ 9223372036854775807 ∧ HB w (.slice (some ⟨g, 0, none⟩) l.length c) l ∧ HB w (.slice (some ⟨g, 0, none⟩) (l.length + 70) c) (lent l) := by
  have hf := HB.of_own h (lent_byt hby)
  have hll := lent_length l
  rcases h.2 with ⟨_, e0⟩ | ⟨g, cap, cur, rfl, hb, hh, hn, hm, _⟩
  · omega
  · unfold maxLen at hm
    refine ⟨g, cap, by rw [hll], hb, (Array.getElem?_eq_some_iff.1 hh).1, by omega, hm, ?_, by rw [hll] at hf; exact hf⟩
    have h3 := hf.sliced 0 l.length cap (Nat.zero_le _) (by omega) (by omega) (Nat.le_refl _)
    rw [lent_take] at h3
    have e : (if cap = 0 then (some (⟨g, 0, none⟩ : Addr)) else (some (⟨g, 0, none⟩ : Addr)).map (·.add 0)) = some ⟨g, 0, none⟩ := by
      split
      · rfl
      · simp [Addr.add]
    rw [e] at h3
    simpa using h3
theorem own_pre {w : World} {B g n c : Nat} {l : List Int} (h : w.ownsRow B 5 1 (.slice (some ⟨g, 0, none⟩) n c) l.length (l.map (Value.int .u8))) (hl : ∀ x ∈ l, 0 ≤ x ∧ x < 256) (m : Nat) (hm : m ≤ l.length) (hmc : m ≤ c) : HB w (.slice (some ⟨g, 0, none⟩) m c) (l.take m) := by
  have hf := HB.of_own h hl
  obtain ⟨p, c', e, h1, h2⟩ := hf.open
  simp only [Value.slice.injEq] at e
  obtain ⟨rfl, rfl, rfl⟩ := e
  have h3 := hf.sliced 0 m c (Nat.zero_le _) hm (by omega) (Nat.le_refl _)
  have e : (if c = 0 then (some (⟨g, 0, none⟩ : Addr)) else (some (⟨g, 0, none⟩ : Addr)).map (·.add 0)) = some ⟨g, 0, none⟩ := by
    split
    · rfl
    · simp [Addr.add]
  rw [e] at h3
  simpa using h3
theorem own_other {w w' : World} {B n g : Nat} {e : TypeId} {v : Value} {xs : List Value} (h : w.ownsRow B e 1 v n xs) (hg : w.grownBy w' (some g)) (hb : g < B) : w'.ownsRow B e 1 v n xs :=
  h.kept hg (by
    rcases none_or v.ownBlock with q | q
    · exact .inl q
    · exact .inr fun e => by have := (h.lt g e).1; omega)
theorem HB.other {w w' : World} {u : Value} {l : List Int} {g : Nat} (h : HB w u l) (hg : w.grownBy w' (some g)) (hr : u.ownBlock = none ∨ u.ownBlock ≠ some g) : HB w' u l := h.away hg hr
end Go.Proofs.Ytnifnoadfepegaa
namespace Go.Proofs.Ytnifnoadfepegaa
open Go.RowKit
theorem Apt.away {B : Nat} {w w' : World} {us : List Value} {ls : List (List Int)} {row : Option Nat} (h : Apt B w us ls) (hg : w.grownBy w' row) (hr : ∀ k, row = Option.some k → ∃ e, BT w k e ∧ e ≠ 5) : Apt B w' us ls := by
  refine ⟨h.1, fun k hk => (h.2.1 k hk).kept hg ?_, h.2.2⟩
  cases hrow : row with
  | none => cases (us.getD k undef).ownBlock <;> simp
  | some q =>
    obtain ⟨e, ⟨cur, fz, hh⟩, hne⟩ := hr q hrow
    exact .inr (own_block_ne (h.2.1 k hk) hh (Ne.symm hne))
theorem own_slice {w : World} {B n : Nat} {e : TypeId} {v : Value} {xs : List Value} (h : w.ownsRow B e 1 v n xs) : ∃ p c, v = .slice p n c := by
  rcases h.2 with ⟨rfl, rfl⟩ | ⟨g, cap, cur, rfl, _⟩
  · exact ⟨_, _, rfl⟩
  · exact ⟨_, _, rfl⟩
theorem Dr.grownBy {w w' : World} (h : Dr w w') : w.grownBy w' none := by
  have b := h.below w.heap.size
  exact ⟨b.os, b.tape, b.output, b.size, fun k hk _ => b.block k hk⟩
theorem one_cell {w : World} {g : Nat} {a : Value} {T : TypeId} (h : w.heap[g]? = some (.cells #[a] T (0, 0))) : w.cell? ⟨g, 0, none⟩ = some a ∧ w.frozen? ⟨g, 0, none⟩ = false := by
  simp [World.cell?, World.frozen?, h]
theorem third_cell {w : World} {g : Nat} {a b c : Value} {T : TypeId} (h : w.heap[g]? = some (.cells #[a, b, c] T (0, 0))) : w.cell? ⟨g, 2, none⟩ = some c := by
  simp [World.cell?, h]
theorem Apt.snoc {B : Nat} {w : World} {us : List Value} {ls : List (List Int)} (h : Apt B w us ls) {u : Value} {l : List Int} (hu : w.ownsRow B 5 1 u l.length (l.map (Value.int .u8))) (hd : ∀ j, j < us.length → u.ownBlock = none ∨ u.ownBlock ≠ (us.getD j undef).ownBlock) : Apt B w (us ++ [u]) (ls ++ [l]) := by
  obtain ⟨h1, h2, h3⟩ := h
  have gd : ∀ j, j < us.length + 1 → (us ++ [u]).getD j undef = if j < us.length then us.getD j undef else u := by
    intro j hj
    rw [getD_app]
    split
    · rfl
    · have : j - us.length = 0 := by omega
      rw [this]; rfl
  refine ⟨by simp [h1], fun k hk => ?_, fun i j hi hj hij => ?_⟩
  · rw [List.length_append, List.length_singleton] at hk
    rw [gd k hk, getD_app]
    by_cases hk2 : k < us.length
    · rw [if_pos hk2, if_pos (by omega)]
      exact h2 k hk2
    · have e : k - ls.length = 0 := by omega
      rw [if_neg hk2, if_neg (by omega), e]
      exact hu
  · rw [List.length_append, List.length_singleton] at hi hj
    rw [gd i hi, gd j hj]
    by_cases hi2 : i < us.length
    · by_cases hj2 : j < us.length
      · rw [if_pos hi2, if_pos hj2]; exact h3 i j hi2 hj2 hij
      · rw [if_pos hi2, if_neg hj2]
        rcases hd i hi2 with h | h
        · rw [h]
          cases (us.getD i undef).ownBlock <;> simp
        · exact .inr (Ne.symm h)
    · have hj2 : j < us.length := by omega
      rw [if_neg hi2, if_pos hj2]
      exact hd j hj2
theorem run_append_slice (w : World) (base : Nat) (ty : TypeId) (v : Value) (n : Nat) (xs : List Value) (hown : w.ownsRow base 22 1 v n xs) (a : Addr) (c : Nat) (x : Value) (hx : w.cell? a = some x) (hx1 : x.oneCell' = true) (hn : (n + 1) * 24 ≤ 140737488355328) (hbase : base ≤ w.heap.size) :
    ∃ v' w', (Builtin.append_ #[24, 24] ty #[v, .slice (some a) 1 c]).run Try.prog w = .ok v' w' ∧ w'.ownsRow base 22 1 v' (n + 1) (xs ++ [x]) ∧ w.grownBy w' v.ownBlock ∧
      (v'.ownBlock = v.ownBlock ∨ v'.ownBlock = some w.heap.size) := by
  obtain ⟨i0, hi, hz0, hz1, hz2⟩ := info_parts info_bytes
  have hnews : ∀ j u, [x][j]? = some u → w.cell? (a.add j) = some u := by
    intro j u hj
    match j, hj with
    | 0, hj => simp at hj; subst hj; simpa [Addr.add] using hx
  have h1 : ∀ u ∈ [x], u.oneCell' = true := by intro u hu; simp at hu; subst hu; exact hx1
  obtain ⟨v', w', hr, h2, h3, _⟩ := run_append_own (P := Try.prog) w base 24 ty 22 i0 (.slice none 0 0) 1 24 Try.underlying24 hi hz0 hz1 hz2 rfl (by decide) v n xs hown a 1 c [x] rfl hnews h1 (by unfold maxLen; omega) hn hbase
  refine ⟨v', w', hr, h2, h3, ?_⟩
  rcases hown.2 with ⟨rfl, rfl⟩ | ⟨g, cap, cur, rfl, hbg, hg, hnc, hcm, hcs, htake⟩
  · have hr2 := run_append_nil (P := Try.prog) w 24 ty 22 i0 (.slice none 0 0) Try.underlying24 hi hz0 a 1 c [x] (by rw [hz1]; rfl) hnews (by omega) (by omega) (by rw [hz2]; omega)
    rw [hr] at hr2
    simp only [Result.ok.injEq] at hr2
    obtain ⟨rfl, rfl⟩ := hr2
    exact .inr rfl
  · by_cases hroom : n + 1 ≤ cap
    · obtain ⟨w2, hr2, _⟩ := run_append_fits (P := Try.prog) w base 24 ty 22 i0 1 Try.underlying24 hi hz1 g n cap xs hown a 1 c [x] rfl hnews h1 hroom
      rw [hr] at hr2
      simp only [Result.ok.injEq] at hr2
      obtain ⟨rfl, rfl⟩ := hr2
      exact .inl rfl
    · have hr2 := run_append_grow (P := Try.prog) w 24 ty 22 i0 (.slice none 0 0) Try.underlying24 hi hz0 ⟨g, 0, none⟩ n cap xs (by rw [hz1]; exact hown.1) (hown.cells (g := g) rfl) a 1 c [x] (by rw [hz1]; rfl) hnews (by omega) (by omega) (growslice_fits (by omega) (by rw [hz2]; exact hn))
      rw [hr] at hr2
      simp only [Result.ok.injEq] at hr2
      obtain ⟨rfl, rfl⟩ := hr2
      exact .inr rfl
theorem wpList_append_slice {w : World} {ops : Array Oper} {rest : List Oper} {o : Oper} {a : Act} {Q : Exit → Act → World → Prop} (hgd : o.guard = none) (s x : Operand)
    (ho : o.op = .call { callee := .builtin .append, args := #[s, x], argTypes := #[24, 24] })
    (base : Nat) (v : Value) (n : Nat) (xs : List Value) (hs : a.eval s = v) (hown : w.ownsRow base 22 1 v n xs)
    (ad : Addr) (c : Nat) (y : Value) (hx : a.eval x = .slice (some ad) 1 c) (hy : w.cell? ad = some y) (hy1 : y.oneCell' = true) (hn : (n + 1) * 24 ≤ 140737488355328) (hbase : base ≤ w.heap.size)
    (h : ∀ v' w', w'.ownsRow base 22 1 v' (n + 1) (xs ++ [y]) → w.grownBy w' v.ownBlock → (v'.ownBlock = v.ownBlock ∨ v'.ownBlock = some w.heap.size) → wpList Try.prog ops Q rest (a.put o.dst v') w') : wpList Try.prog ops Q (o :: rest) a w := by
  refine wpList_plain hgd fun K hK => ?_
  obtain ⟨v', w', hr, h2, h3, h4⟩ := run_append_slice w base o.type v n xs hown ad c y hy hy1 hn hbase
  unfold Oper.wp execOp
  simp only [ho, resolve, invoke, builtin, Sem.run_bind, Sem.run_pure, Result.andThen_ok, List.map_toArray, List.map_cons, List.map_nil, hs, hx, hr]
  exact hK _ _ (h v' w' h2 h3 h4)
theorem lent_pre {w : World} {p : Option Addr} {c : Nat} {l : List Int} (h : HB w (.slice p (l.length + 70) c) (lent l)) (hc : l.length ≤ c) : HB w (.slice p l.length c) l := by
  have hll := lent_length l
  have h2 : HB w (.slice p (lent l).length c) (lent l) := by rw [hll]; exact h
  have h3 := h2.sliced 0 l.length c (Nat.zero_le _) (by rw [hll]; omega) hc (Nat.le_refl _)
  rw [lent_take] at h3
  have e : (if c = 0 then p else p.map (·.add 0)) = p := by
    split
    · rfl
    · cases p <;> simp [Addr.add]
  rw [e] at h3
  simpa using h3
structure Fr (S : Nat → Prop) (w w' : World) : Prop where
  os : w'.os = w.os
  tape : w'.tape = w.tape
  output : w'.output = w.output
  size : w.heap.size ≤ w'.heap.size
  block : ∀ k, k < w.heap.size → ¬ S k → w'.heap[k]? = w.heap[k]?
theorem Fr.refl (S : Nat → Prop) (w : World) : Fr S w w := ⟨rfl, rfl, rfl, Nat.le_refl _, fun _ _ _ => rfl⟩
theorem Fr.step {S : Nat → Prop} {w w1 w2 : World} {row : Option Nat} (h : Fr S w w1) (hg : w1.grownBy w2 row) (hr : ∀ k, row = some k → S k ∨ w.heap.size ≤ k) : Fr S w w2 :=
  ⟨hg.os.trans h.os, hg.tape.trans h.tape, hg.output.trans h.output, Nat.le_trans h.size hg.size, fun k hk hs => (hg.block k (Nat.lt_of_lt_of_le hk h.size) (fun e => by
    rcases hr k e.symm with h1 | h1
    · exact hs h1
    · omega)).trans (h.block k hk hs)⟩
structure BF (B : Nat) (w w' : World) : Prop where
  bel : Below B w w'
  typ : ∀ (b : Nat) (cs : Array Value) (T : TypeId) (fz : Nat × Nat), w.heap[b]? = some (.cells cs T fz) → T ≠ 5 → w'.heap[b]? = w.heap[b]?
theorem BF.refl (B : Nat) (w : World) : BF B w w := ⟨Below.refl _ _, fun _ _ _ _ _ _ => rfl⟩
theorem BF.size {B : Nat} {w w' : World} (h : BF B w w') : w.heap.size ≤ w'.heap.size := h.bel.size
theorem BF.drew {B : Nat} {w w' : World} (h : BF B w w') : BF B w w'.drew := ⟨h.bel.drew, h.typ⟩
theorem BF.alloc {B : Nat} {w w' : World} (h : BF B w w') (hB : B ≤ w'.heap.size) (o : Obj) : BF B w (w'.alloc o) :=
  ⟨h.bel.alloc hB o, fun b cs T fz q n => (heap_alloc_old w' o (Nat.lt_of_lt_of_le (Array.getElem?_eq_some_iff.1 q).1 h.size)).trans (h.typ b cs T fz q n)⟩
theorem BF.setCell {B : Nat} {w w' : World} (h : BF B w w') {g i : Nat} (hp : B ≤ g) (u : Value) (hT : BT w' g 5) : BF B w (w'.setCell ⟨g, i, none⟩ u) :=
  ⟨h.bel.setCell hp u, fun b cs T fz q n => by
    have e := h.typ b cs T fz q n
    rw [← e]
    obtain ⟨cur, f2, hh⟩ := hT
    have : g ≠ b := fun x => by
      rw [← x] at q e
      rw [e, q] at hh
      simp only [Option.some.injEq, Obj.cells.injEq] at hh
      exact n hh.2.1
    simp [World.setCell, Array.getElem?_modify, this]⟩
theorem BF.grown {B : Nat} {w w' w2 : World} {row : Option Nat} (h : BF B w w') (hg : w'.grownBy w2 row) (hB : B ≤ w'.heap.size) (hr : ∀ k, row = some k → B ≤ k) (hT : ∀ k, row = some k → BT w' k 5 ∨ w.heap.size ≤ k) : BF B w w2 :=
  ⟨h.bel.grown hg hB hr, fun b cs T fz q n => by
    have e := h.typ b cs T fz q n
    have hb := (Array.getElem?_eq_some_iff.1 q).1
    rw [← e]
    refine hg.block b (Nat.lt_of_lt_of_le hb h.size) (fun x => ?_)
    rcases hT b x.symm with ⟨cur, f2, hh⟩ | h2
    · rw [e, q] at hh
      simp only [Option.some.injEq, Obj.cells.injEq] at hh
      exact n hh.2.1
    · omega⟩
set_option maxHeartbeats 4000000 in
theorem apart_anyF (B : Nat) (w : World) (v : Value) (us : List Value) (ls : List (List Int)) (hv : HV w v us) (ha : Apt B w us ls) (hB : B ≤ w.heap.size) (hn : us.length ≤ 5864062014634) (hls : ∀ k, (ls.getD k []).length ≤ 140737488351232) :
    Calls Try.prog 12 #[v] w fun e w' => e = .returned (.bool true) ∧ BF B w w' := by
  obtain ⟨p, c, e, hlc, hm, hcell⟩ := id hv
  unfold maxLen at hm
  subst e
  have A : Hid (0 < us.length → ∃ b off, p = some ⟨b, off, none⟩) := fun h0 => by
    obtain ⟨b, off, e, _⟩ := hcell (by intro e; subst e; simp at h0)
    exact ⟨b, off, e⟩
  have HV0 := hid hv
  have HA0 := hid (Ph1.start ha)
  have HLS := hid hls
  clear hcell hv ha hls
  go_enter Try.func12, Try.ntmps12
  go_wp2
  go_loopw [3] (fun k wr => ∃ K : Nat, K ≤ us.length ∧ k = .int .i64 K ∧ Hid (Ph1 B wr us ls K 0) ∧ Hid (HV wr (.slice p us.length c) us) ∧ Hid (BF B w wr)) (fun k _ => us.length - (intOf k).toNat)
  case atStart => exact ⟨0, Nat.zero_le _, rfl, HA0, HV0, BF.refl _ _⟩
  case round =>
    clear HA0 HV0
    obtain ⟨K, hK, rfl, HP, HVr, HBr⟩ := hrel
    by_cases hlt : K < us.length
    · obtain ⟨b, off, rfl⟩ := A.out (by omega)
      have hcells : Hid (∀ wz, HV wz (.slice (some ⟨b, off, none⟩) us.length c) us → wz.cell? ⟨b, off + K, none⟩ = some (us.getD K undef)) := by
        intro wz hz
        obtain ⟨p', c', e', _, _, h4⟩ := hz
        obtain ⟨b', off', e2, _, hc⟩ := h4 (by intro e; subst e; simp at hlt)
        simp only [Value.slice.injEq, true_and] at e'
        rw [← e'.1] at e2
        simp only [Option.some.injEq, Addr.mk.injEq, and_true] at e2
        obtain ⟨rfl, rfl⟩ := e2
        exact hc K hlt
      obtain ⟨n, HN⟩ : ∃ n, Hid ((ls.getD K []).length = n) := ⟨_, rfl⟩
      have hn2 : n ≤ 140737488351232 := by rw [← HN.out]; exact HLS.out K
      obtain ⟨pk, ck, HU⟩ : ∃ pk ck, Hid (us.getD K undef = .slice pk n ck) := by
        obtain ⟨pk, ck, e⟩ := HP.out.slice K hlt
        rw [HN.out] at e
        exact ⟨pk, ck, e⟩
      go_wp2
      go_loopw [4] (fun i wz => ∃ I : Nat, I ≤ n ∧ i = .int .i64 I ∧ Hid (Ph1 B wz us ls K I) ∧ Hid (HV wz (.slice (some ⟨b, off, none⟩) us.length c) us) ∧ Hid (BF B w wz)) (fun i _ => n - (intOf i).toNat)
      case atStart => exact ⟨0, Nat.zero_le _, rfl, HP, HVr, HBr⟩
      case round =>
        clear HP HVr HBr
        obtain ⟨I, hI, rfl, HP, HVr, HBr⟩ := hrel
        have hc1 := hcells.out wr HVr.out
        rw [HU.out] at hc1
        by_cases hli : I < n
        · obtain ⟨g, ck', e, hck, hck2, hgB, hBT, hcc⟩ := HP.out.some K hlt (by rw [HN.out]; omega)
          rw [HU.out, HN.out] at e
          simp only [Value.slice.injEq, true_and] at e
          obtain ⟨rfl, rfl⟩ := e
          obtain ⟨⟨z, hz⟩, hfz⟩ := hcc I (by rw [HN.out]; exact hli)
          rw [HN.out] at hck2
          unfold maxLen at hck
          have HBT := hid hBT
          have hgb : b ≠ g := (HVr.out.block (by omega)).ne hBT (by decide)
          have hbg : g ≠ b := Ne.symm hgb
          clear hcc hBT
          go_wp2
          go_region_held3 (fun w' => w'.cell? ⟨b, off + K, none⟩ = some (.slice (some ⟨g, 0, none⟩) n ck)) (go_keep) ((go_at_call 13; refine (mark_eq _ (K + 1) I _ _ (wrap_succ K (by omega)) rfl (by omega) (by omega)).mono ?_; rintro e wz ⟨rfl, hw⟩; have hw' := hw.symm; subst hw'; clear hw))
          have hst := HP.out.step hlt (by rw [HN.out]; exact hli) HU.out
          have HP2 := hid hst.1.drew
          have HV2 := hid (HVr.out.grown hst.2 (fun g' e => by cases e; exact HBT.out)).drew
          have HB2 := hid (HBr.out.setCell (g := g) (i := I) hgB (.int .u8 (mkB (K + 1) I)) HBT.out).drew
          clear hst
          go_wp2
          exact ⟨⟨I + 1, by omega, by go_num, HP2, HV2, HB2⟩, by simp [intOf]; omega⟩
        · have HP2 := hid (HP.out.next (by rw [HN.out]; omega))
          go_wp2
          exact ⟨⟨K + 1, by omega, by go_num, HP2, HVr, HBr⟩, by simp [intOf]; omega⟩
    · have hKn : K = us.length := by omega
      have HPl : Hid (Pool B wr us ls 0 0 []) := by
        have := HP.out
        rw [hKn] at this
        exact this.pool
      obtain ⟨N, HN⟩ : ∃ N, Hid (wr.heap.size = N) := ⟨_, rfl⟩
      have HNu : Hid (∀ j b, j < us.length → (us.getD j undef).ownBlock = some b → b < N) := fun j b hj hb => by rw [← HN.out]; exact (HPl.out.2.1.2.1 j b hj hb).1
      have HNv : Hid (∀ b off n c', Value.slice p us.length c = .slice (some ⟨b, off, none⟩) n c' → 0 < us.length → b < N) := fun b off n c' e h0 => by
        rw [← HN.out]
        have h1 := HVr.out
        rw [e] at h1
        obtain ⟨cur, fz, hh⟩ := h1.block h0
        exact (Array.getElem?_eq_some_iff.1 hh).1
      have HNW : Hid (w.heap.size ≤ N) := by rw [← HN.out]; exact HBr.out.size
      have HNB : Hid (B ≤ N) := by rw [← HN.out]; exact Nat.le_trans hB HBr.out.size
      have HNs : Hid (N ≤ wr.heap.size) := by rw [HN.out]; exact Nat.le_refl N
      clear HP hKn HN
      go_wp2
      go_loopw [5, 6] (fun gs k wz => ∃ (K : Nat) (gl : List Value), K ≤ us.length ∧ k = .int .i64 K ∧ Hid (Pool B wz us ls K K gl) ∧ Hid (wz.ownsRow N 22 1 gs K gl) ∧ Hid (HV wz (.slice p us.length c) us) ∧ Hid (BF B w wz) ∧ Hid (N ≤ wz.heap.size)) (fun _ k _ => us.length - (intOf k).toNat)
      case atStart => exact ⟨0, [], Nat.zero_le _, rfl, HPl, World.ownsRow_nil _ _ _ _, HVr, HBr, HNs⟩
      case round =>
        clear HPl HVr HBr HNs hlt hK
        obtain ⟨K, gl, hK, rfl, HP, HG, HVr, HBr, HNs⟩ := hrel
        by_cases hlt : K < us.length
        · obtain ⟨b, off, rfl⟩ := A.out (by omega)
          obtain ⟨n, HNn⟩ : ∃ n, Hid ((ls.getD K []).length = n) := ⟨_, rfl⟩
          have hn2 : n ≤ 140737488351232 := by rw [← HNn.out]; exact HLS.out K
          obtain ⟨pk, ck, HU⟩ : ∃ pk ck, Hid (us.getD K undef = .slice pk n ck) := by
            obtain ⟨pk, ck, e⟩ := HP.out.2.1.2.2 K hlt
            rw [HNn.out] at e
            exact ⟨pk, ck, e⟩
          have hc1 := HVr.out.cellAt K hlt
          rw [HU.out] at hc1
          have HC := hid (Cur.start HP.out hlt)
          rw [HU.out] at HC
          go_wp2
          go_loopw [7, 8] (fun g i wz => ∃ m : Nat, m ≤ 70 ∧ i = .int .i64 m ∧ Hid (Cur B wz us ls K gl g m) ∧ Hid (wz.ownsRow N 22 1 u5 K gl) ∧ Hid (HV wz (.slice (some ⟨b, off, none⟩) us.length c) us) ∧ Hid (BF B w wz) ∧ Hid (N ≤ wz.heap.size)) (fun _ i _ => 70 - (intOf i).toNat)
          case atStart => exact ⟨0, Nat.zero_le _, rfl, HC, HG, HVr, HBr, HNs⟩
          case round =>
            clear HC HG HVr HBr HNs hc1
            obtain ⟨m, hm70, rfl, HC, HG, HVr, HBr, HNs⟩ := hrel
            have hc1 := HVr.out.cellAt K hlt
            rw [HU.out] at hc1
            by_cases hlm : m < 70
            · have hlm2 : (m : Int) < 70 := by omega
              go_wp2_with fail
              refine (mark_eq wr (K + 1) (n + m) _ _ (by omega) (by omega) (by omega) (by omega)).mono ?_
              rintro e wz ⟨rfl, hw⟩
              have hw' := hw.symm
              subst hw'
              clear hw
              have HCa := hid (HC.out.alloc hlt (.cells #[.int .u8 (mkB (K + 1) (n + m))] 5))
              have HO := HCa.out.2.1
              rw [HNn.out] at HO
              have HOh := hid HO
              clear HO
              go_wp2_with (at_builtin; refine wpList_append_byte rfl _ _ rfl B _ (n + m) _ rfl HOh.out ⟨wr.heap.size, 0, none⟩ 1 (mkB (K + 1) (n + m)) rfl (by simp) ?q1 ?q2 ?_)
              case q1 => omega
              case q2 => have := HBr.out.size; simp; omega
              intro g' w2 hown2 hgr2 hd2
              have hBT := own_BT HOh.out
              have hal := World.grownBy_alloc wr (.cells #[.int .u8 (mkB (K + 1) (n + m))] 5) none
              have HC2 := hid (HCa.out.step hlt (by rw [HNn.out]; exact hown2) hgr2 (by rw [World.size_alloc]; exact hd2))
              have HG2 : Hid (w2.ownsRow N 22 1 u5 K gl) := by
                have h1 := HG.out.alloc (.cells #[.int .u8 (mkB (K + 1) (n + m))] 5)
                refine h1.kept hgr2 ?_
                cases hx : u7.ownBlock with
                | none => cases hy : u5.ownBlock <;> simp
                | some q =>
                  obtain ⟨cur, fz, hh⟩ := hBT q hx
                  exact .inr (own_block_ne h1 hh (by decide))
              have HV2 := hid ((HVr.out.grown hal (fun g e => by cases e)).grown hgr2 hBT)
              have HB2 := hid ((HBr.out.alloc (Nat.le_trans hB HBr.out.size) (.cells #[.int .u8 (mkB (K + 1) (n + m))] 5)).grown hgr2 (by have := HBr.out.size; simp; omega) (fun k e => (HOh.out.lt k e).1) (fun k e => .inl (hBT k e)))
              have HN2 : Hid (N ≤ w2.heap.size) := by have h1 := hgr2.size; have h2 := HNs.out; simp at h1; exact Nat.le_trans h2 (by omega)
              clear hown2 hgr2 hd2 hBT hal
              go_wp2
              exact ⟨⟨m + 1, by omega, by go_num, HC2, HG2, HV2, HB2, HN2⟩, by simp [intOf]; omega⟩
            · have e70 : m = 70 := by omega
              subst e70
              have HPn := hid (HC.out.finish hlt)
              have HOg := HC.out.2.1
              rw [HNn.out] at HOg
              obtain ⟨pg, cg, eg, _, _⟩ : ∃ pg cg, u7 = .slice pg (n + 70) cg ∧ True ∧ True := by
                rcases HOg.2 with ⟨_, e⟩ | ⟨g', cap, cur, e, _⟩
                · omega
                · exact ⟨_, _, e, trivial, trivial⟩
              subst eg
              obtain ⟨i0, hi, hz0, hz1, hz2⟩ := info_parts info_bytes
              have HGa := hid (HG.out.alloc (.cells #[.slice pg (n + 70) cg] 22))
              have hal := World.grownBy_alloc wr (.cells #[.slice pg (n + 70) cg] 22) none
              have tr : ∀ x : Option Nat, x = none ∨ x ≠ none := fun x => by cases x <;> simp
              have HPa := hid (HPn.out.grown hal (fun i _ => tr _) (fun j _ _ => tr _) (by omega))
              have HVa := hid (HVr.out.grown hal (fun g e => by cases e))
              have HBa := hid (HBr.out.alloc (Nat.le_trans hB HBr.out.size) (.cells #[.slice pg (n + 70) cg] 22))
              clear HOg tr hal
              go_wp2_with (at_builtin; refine wpList_append_own _ rfl _ _ 24 rfl N 22 i0 (.slice none 0 0) 1 24 Try.underlying24 hi hz0 hz1 hz2 rfl (by decide) _ K gl rfl HGa.out ⟨wr.heap.size, 0, none⟩ 1 1 [_] rfl rfl (cell_one_new _ _ _) ?q1 ?q2 ?q3 ?q4 ?_)
              case q1 => intro u hu; simp only [List.mem_singleton] at hu; subst hu; rfl
              case q2 => unfold maxLen; omega
              case q3 => omega
              case q4 => have := HNs.out; simp; omega
              intro gs' w2 hown2 hgr2 _
              have hlo : ∀ g, u5.ownBlock = some g → N ≤ g := fun g e => (HGa.out.lt g e).1
              have HP2 : Hid (Pool B w2 us ls (K + 1) (K + 1) (gl ++ [.slice pg (n + 70) cg])) := by
                refine HPa.out.grown hgr2 (fun i hi => ?_) (fun j hj _ => ?_) (by omega)
                · cases hx : u5.ownBlock with
                  | none => cases hy : ((gl ++ [Value.slice pg (n + 70) cg]).getD i undef).ownBlock <;> simp
                  | some q =>
                    obtain ⟨cur, fz, hh⟩ := own_BT HGa.out q hx
                    exact .inr (own_block_ne (HPa.out.2.2.1 i hi).1 hh (by decide))
                · cases hx : (us.getD j undef).ownBlock with
                  | none => exact .inl rfl
                  | some q =>
                    right
                    intro e
                    have h1 := HNu.out j q hj hx
                    have h2 := hlo q e.symm
                    omega
              have HV2 := hid (HVa.out.apart hgr2 hlo HNv.out)
              have HB2 := hid (HBa.out.grown hgr2 (by have := HBr.out.size; simp; omega) (fun k e => Nat.le_trans HNB.out (hlo k e)) (fun k e => .inr (Nat.le_trans HNW.out (hlo k e))))
              have HG2 : Hid (w2.ownsRow N 22 1 gs' (K + 1) (gl ++ [.slice pg (n + 70) cg])) := hown2
              have HN2 : Hid (N ≤ w2.heap.size) := by have h1 := hgr2.size; have h2 := HNs.out; simp at h1; exact Nat.le_trans h2 (by omega)
              clear hown2 hgr2 hlo
              go_wp2
              exact ⟨⟨K + 1, _, by omega, by go_num, HP2, HG2, HV2, HB2, HN2⟩, by simp [intOf]; omega⟩
        · have hKn : K = us.length := by omega
          subst hKn
          obtain ⟨pg, cg, eg⟩ : ∃ pg cg, u5 = .slice pg us.length cg := by
            rcases HG.out.2 with ⟨e, e2⟩ | ⟨g', cap, cur, e, _⟩
            · exact ⟨none, 0, by rw [e, e2]⟩
            · exact ⟨_, _, e⟩
          subst eg
          go_wp2
          go_loop [9] (fun k => ∃ Q : Nat, Q ≤ us.length ∧ k = .int .i64 Q) (fun k => us.length - (intOf k).toNat)
          case atStart => exact ⟨0, Nat.zero_le _, rfl⟩
          case round =>
            obtain ⟨Q, hQ, rfl⟩ := hrel
            by_cases hlq : Q < us.length
            · obtain ⟨b, off, rfl⟩ := A.out (by omega)
              obtain ⟨n, HNn⟩ : ∃ n, Hid ((ls.getD Q []).length = n) := ⟨_, rfl⟩
              have hn2 : n ≤ 140737488351232 := by rw [← HNn.out]; exact HLS.out Q
              have hc1 := HVr.out.cellAt Q hlq
              obtain ⟨hrow, hu⟩ := HP.out.2.2.1 Q hlq
              rw [HNn.out] at hrow hu
              obtain ⟨pk, ck, HU⟩ : ∃ pk ck, Hid (us.getD Q undef = .slice pk n ck) := by
                obtain ⟨pk, ck, e⟩ := HP.out.2.1.2.2 Q hlq
                rw [HNn.out] at e
                exact ⟨pk, ck, e⟩
              rw [HU.out] at hc1 hu
              obtain ⟨gg, capg, eg, _, hcg1, hcg2, hgc⟩ := ownsRow_cells HG.out (by omega)
              simp only [Value.slice.injEq, true_and] at eg
              obtain ⟨rfl, rfl⟩ := eg
              have hgl : gl.length = us.length := HP.out.1
              have hc2 := hgc Q (gl.getD Q undef) (by simp [List.getD, List.getElem?_eq_getElem (show Q < gl.length by omega)])
              rw [Nat.zero_add] at hc2
              obtain ⟨gq, capq, eq, _, hq1, hq2, hqc⟩ := ownsRow_cells hrow (by omega)
              rw [eq] at hc2
              have HQ : Hid (∀ I, I < n + 70 → wr.cell? ⟨gq, I, none⟩ = some (.int .u8 (mkB (Q + 1) I))) := fun I hI => by
                have hjl : I < (marksL (Q + 1) (n + 70)).length := by rw [marksL_length]; exact hI
                have := hqc I (.int .u8 (mkB (Q + 1) I)) (by rw [List.getElem?_map, List.getElem?_eq_getElem hjl, ← getD_of_lt hjl, marksL_getD _ _ _ hI]; rfl)
                rwa [Nat.zero_add] at this
              have HUc : Hid (∀ I, I < n → ∃ b' off', pk = some ⟨b', off', none⟩ ∧ wr.cell? ⟨b', off' + I, none⟩ = some (.int .u8 (mkB (Q + 1) I)) ∧ n ≤ ck) := fun I hI => by
                obtain ⟨b', off', c', e, h1, h2, hh⟩ := hu.ne (by rw [marksL_length]; omega)
                rw [marksL_length] at e hh h1
                simp only [Value.slice.injEq, true_and] at e
                obtain ⟨rfl, rfl⟩ := e
                have := hh I hI
                rw [marksL_getD _ _ _ hI] at this
                exact ⟨b', off', rfl, this, h1⟩
              unfold maxLen at hcg2 hq2
              clear hrow hu hgc hqc eq hgl
              go_wp2
              go_loop [10] (fun i => ∃ I : Nat, I ≤ n + 70 ∧ i = .int .i64 I) (fun i => n + 70 - (intOf i).toNat)
              case atStart => exact ⟨0, Nat.zero_le _, rfl⟩
              case round =>
                obtain ⟨I, hI, rfl⟩ := hrel
                by_cases hli : I < n + 70
                · have hx1 := HQ.out I hli
                  have hli2 : (I : Int) < (n : Int) + 70 := by omega
                  go_wp2_with fail
                  refine (mark_eq wr (Q + 1) I _ _ (by omega) rfl (by omega) (by omega)).mono ?_
                  rintro e wz ⟨rfl, hw⟩
                  have hw' := hw.symm
                  subst hw'
                  clear hw
                  obtain ⟨x, HX⟩ : ∃ x, Hid (mkB (Q + 1) I = x) := ⟨_, rfl⟩
                  rw [HX.out] at hx1 ⊢
                  have hxx : (x != x) = false := by simp
                  by_cases hln : I < n
                  · have hdn : decide ((I : Int) < (n : Int)) = true := by simp; omega
                    have hln2 : (I : Int) < (n : Int) := by omega
                    obtain ⟨b', off', rfl, hx2, _⟩ := HUc.out I hln
                    rw [HX.out] at hx2
                    go_wp2
                    exact ⟨⟨I + 1, by omega, by go_num⟩, by simp [intOf]; omega⟩
                  · have hdn : decide ((I : Int) < (n : Int)) = false := by simp; omega
                    go_wp2
                    exact ⟨⟨I + 1, by omega, by go_num⟩, by simp [intOf]; omega⟩
                · have hli2 : ¬ ((I : Int) < (n : Int) + 70) := by omega
                  go_wp2
                  exact ⟨⟨Q + 1, by omega, by go_num⟩, by simp [intOf]; omega⟩
            · go_wp2
              go_ret
              exact ⟨rfl, HBr.out⟩
abbrev TE : TypeId := 22
theorem own_atL {w : World} {B n : Nat} {e : TypeId} {v : Value} {xs : List Value} (h : w.ownsRow B e 1 v n xs) {b : Nat} (hb : v.ownBlock = some b) : b < w.heap.size ∧ B ≤ b ∧ ∃ cs, w.heap[b]? = some (.cells cs e (0, 0)) := by
  rcases h.2 with ⟨rfl, _⟩ | ⟨g, cap, cur, rfl, hB, hh, _⟩
  · cases hb
  · cases hb
    exact ⟨(Array.getElem?_eq_some_iff.1 hh).1, hB, _, hh⟩
theorem own_ofL {w w' : World} {B n : Nat} {e : TypeId} {v : Value} {xs : List Value} (h : w.ownsRow B e 1 v n xs) (hk : ∀ b, v.ownBlock = some b → w'.heap[b]? = w.heap[b]?) : w'.ownsRow B e 1 v n xs := by
  refine ⟨h.1, ?_⟩
  rcases h.2 with q | ⟨g, cap, cur, rfl, hB, hh, r⟩
  · exact .inl q
  · exact .inr ⟨g, cap, cur, rfl, hB, (hk g rfl).trans hh, r⟩
theorem own_slcL {w : World} {B n : Nat} {e : TypeId} {v : Value} {xs : List Value} (h : w.ownsRow B e 1 v n xs) : ∃ p c, v = .slice p n c := by
  rcases h.2 with ⟨rfl, rfl⟩ | ⟨g, cap, cur, rfl, _⟩
  · exact ⟨_, _, rfl⟩
  · exact ⟨_, _, rfl⟩
theorem info_elL : (Try.prog.info? 22).map (fun i => (i.zero, i.size, i.bytes)) = some (some (.slice none 0 0), 1, 24) := by kernel_rfl
theorem info_ellL : (Try.prog.info? 24).map (fun i => (i.zero, i.size, i.bytes)) = some (some (.slice none 0 0), 1, 24) := by kernel_rfl
theorem run_appL (w : World) (base : Nat) (ty : TypeId) (v : Value) (n : Nat) (xs : List Value) (hown : w.ownsRow base TE 1 v n xs) (a : Addr) (c : Nat) (x : Value) (h1x : x.oneCell' = true) (hx : w.cell? a = some x) (hn : n + 1 ≤ 5000000000000) (hbase : base ≤ w.heap.size) :
    ∃ v' w', (Builtin.append_ #[24, 24] ty #[v, .slice (some a) 1 c]).run Try.prog w = .ok v' w' ∧ w'.ownsRow base TE 1 v' (n + 1) (xs ++ [x]) ∧ w.grownBy w' v.ownBlock ∧
      ((∃ g cap, v = .slice (some ⟨g, 0, none⟩) n cap ∧ v' = .slice (some ⟨g, 0, none⟩) (n + 1) cap) ∨ (v'.ownBlock = some w.heap.size ∧ w.grownBy w' none)) := by
  obtain ⟨i0, hi, hz0, hz1, hz2⟩ := info_parts info_elL
  have hnews : ∀ j u, [x][j]? = some u → w.cell? (a.add j) = some u := by
    intro j u hj
    match j, hj with
    | 0, hj => simp at hj; subst hj; simpa [Addr.add] using hx
  have h1 : ∀ u ∈ [x], u.oneCell' = true := by intro u hu; simp at hu; subst hu; exact h1x
  obtain ⟨v', w', hr, h2, h3, _⟩ := run_append_own (P := Try.prog) w base 24 ty TE i0 (.slice none 0 0) 1 24 Try.underlying24 hi hz0 hz1 hz2 rfl (by decide) v n xs hown a 1 c [x] rfl hnews h1 (by unfold maxLen; omega) (by omega) hbase
  refine ⟨v', w', hr, h2, h3, ?_⟩
  rcases hown.2 with ⟨rfl, rfl⟩ | ⟨g, cap, cur, rfl, hbg, hg, hnc, hcm, hcs, htake⟩
  · have hr2 := run_append_nil (P := Try.prog) w 24 ty TE i0 (.slice none 0 0) Try.underlying24 hi hz0 a 1 c [x] (by rw [hz1]; rfl) hnews (by omega) (by omega) (by rw [hz2]; omega)
    rw [hr] at hr2
    simp only [Result.ok.injEq] at hr2
    obtain ⟨rfl, rfl⟩ := hr2
    exact .inr ⟨rfl, ⟨rfl, rfl, rfl, by simp, fun k hk _ => heap_alloc_old w.drew _ hk⟩⟩
  · by_cases hroom : n + 1 ≤ cap
    · obtain ⟨w2, hr2, _⟩ := run_append_fits (P := Try.prog) w base 24 ty TE i0 1 Try.underlying24 hi hz1 g n cap xs hown a 1 c [x] rfl hnews h1 hroom
      rw [hr] at hr2
      simp only [Result.ok.injEq] at hr2
      obtain ⟨rfl, rfl⟩ := hr2
      exact .inl ⟨g, cap, rfl, rfl⟩
    · have hr2 := run_append_grow (P := Try.prog) w 24 ty TE i0 (.slice none 0 0) Try.underlying24 hi hz0 ⟨g, 0, none⟩ n cap xs (by rw [hz1]; exact hown.1) (hown.cells (g := g) rfl) a 1 c [x] (by rw [hz1]; rfl) hnews (by omega) (by omega) (growslice_fits (by omega) (by rw [hz2]; omega))
      rw [hr] at hr2
      simp only [Result.ok.injEq] at hr2
      obtain ⟨rfl, rfl⟩ := hr2
      exact .inr ⟨rfl, ⟨rfl, rfl, rfl, by simp, fun k hk _ => heap_alloc_old w.drew _ hk⟩⟩
theorem wp_appL {w : World} {o : Oper} {a : Act} {K : Act → World → Prop} {Q : Exit → Act → World → Prop} (s x : Operand)
    (ho : o.op = .call { callee := .builtin .append, args := #[s, x], argTypes := #[24, 24] })
    (base : Nat) (v : Value) (n : Nat) (xs : List Value) (hs : a.eval s = v) (hown : w.ownsRow base TE 1 v n xs)
    (ad : Addr) (c : Nat) (y : Value) (hx : a.eval x = .slice (some ad) 1 c) (h1 : y.oneCell' = true) (hy : w.cell? ad = some y) (hn : n + 1 ≤ 5000000000000) (hbase : base ≤ w.heap.size)
    (h : ∀ v' w', w'.ownsRow base TE 1 v' (n + 1) (xs ++ [y]) → w.grownBy w' v.ownBlock → ((∃ g cap, v = .slice (some ⟨g, 0, none⟩) n cap ∧ v' = .slice (some ⟨g, 0, none⟩) (n + 1) cap) ∨ (v'.ownBlock = some w.heap.size ∧ w.grownBy w' none)) → K (a.put o.dst v') w') : o.wp Try.prog a w K Q := by
  obtain ⟨v', w', hr, h2, h3, h4⟩ := run_appL w base o.type v n xs hown ad c y h1 hy hn hbase
  unfold Oper.wp execOp
  simp only [ho, resolve, invoke, builtin, Sem.run_bind, Sem.run_pure, Result.andThen_ok, List.map_toArray, List.map_cons, List.map_nil, hs, hx, hr]
  exact h v' w' h2 h3 h4
theorem wpList_appL {w : World} {ops : Array Oper} {rest : List Oper} {o : Oper} {a : Act} {Q : Exit → Act → World → Prop} (hgd : o.guard = none) (s x : Operand)
    (ho : o.op = .call { callee := .builtin .append, args := #[s, x], argTypes := #[24, 24] })
    (base : Nat) (v : Value) (n : Nat) (xs : List Value) (hs : a.eval s = v) (hown : w.ownsRow base TE 1 v n xs)
    (ad : Addr) (c : Nat) (y : Value) (hx : a.eval x = .slice (some ad) 1 c) (h1 : y.oneCell' = true) (hy : w.cell? ad = some y) (hn : n + 1 ≤ 5000000000000) (hbase : base ≤ w.heap.size)
    (h : ∀ v' w', w'.ownsRow base TE 1 v' (n + 1) (xs ++ [y]) → w.grownBy w' v.ownBlock → ((∃ g cap, v = .slice (some ⟨g, 0, none⟩) n cap ∧ v' = .slice (some ⟨g, 0, none⟩) (n + 1) cap) ∨ (v'.ownBlock = some w.heap.size ∧ w.grownBy w' none)) → wpList Try.prog ops Q rest (a.put o.dst v') w') : wpList Try.prog ops Q (o :: rest) a w :=
  wpList_plain hgd fun K hK => wp_appL s x ho base v n xs hs hown ad c y hx h1 hy hn hbase fun v' w' q1 q2 q3 => hK _ _ (h v' w' q1 q2 q3)
def HVL (w : World) (v : Value) (us : List Value) : Prop :=
  ∃ (p : Option Addr) (c : Nat), v = .slice p us.length c ∧ us.length ≤ c ∧ c ≤ maxLen ∧
    (us ≠ [] → ∃ b off, p = some ⟨b, off, none⟩ ∧ (∃ cs, w.heap[b]? = some (.cells cs 24 (0, 0))) ∧ ∀ k, k < us.length → w.cell? ⟨b, off + k, none⟩ = some (us.getD k undef))
def mkA (k j : Nat) : Array Value := #[.int .u8 ((k : Int) % 256), .int .u8 ((j : Int) % 256), .int .u8 ((j : Int) / 256 % 256)]
def mkLs (k j : Nat) : List Int := [(k : Int) % 256, (j : Int) % 256, (j : Int) / 256 % 256]
def Mkd (w : World) (u : Value) (k j : Nat) : Prop := ∃ b, u = .slice (some ⟨b, 0, none⟩) 3 3 ∧ w.heap[b]? = some (.cells (mkA k j) 5 (0, 0))
theorem Mkd.hb {w : World} {u : Value} {k j : Nat} (h : Mkd w u k j) : HB w u (mkLs k j) := by
  obtain ⟨b, rfl, hb⟩ := h
  refine ⟨⟨_, 3, rfl, Nat.le_refl _, by unfold maxLen; omega, (fun e => by cases e), fun _ => ⟨b, 0, rfl, fun i hi => ?_⟩⟩, fun x hx => ?_⟩
  · rw [cell_of_row _ _ _ _ _ _ hb]
    match i, hi with
    | 0, _ => rfl
    | 1, _ => rfl
    | 2, _ => rfl
  · simp only [mkLs, List.mem_cons, List.not_mem_nil, or_false] at hx
    rcases hx with rfl | rfl | rfl <;> omega
def KT (w w' : World) : Prop := ∀ (b : Nat) (cs : Array Value), w.heap[b]? = some (.cells cs 5 (0, 0)) → w'.heap[b]? = w.heap[b]?
theorem Mkd.keep {w w' : World} {u : Value} {k j : Nat} (h : Mkd w u k j) (hk : KT w w') : Mkd w' u k j := by
  obtain ⟨b, e, hb⟩ := h
  exact ⟨b, e, (hk b _ hb).trans hb⟩
theorem KT.refl (w : World) : KT w w := fun _ _ _ => rfl
theorem KT.trans {a b c : World} (h : KT a b) (h2 : KT b c) : KT a c := fun x cs q => by
  have e := h x cs q
  rw [← e]
  exact h2 x cs (e.trans q)
theorem KT.below {w w' : World} (h : Below w.heap.size w w') : KT w w' := fun b cs q => h.block b (Array.getElem?_eq_some_iff.1 q).1
theorem KT.grown {w w' : World} {row : Option Nat} (hg : w.grownBy w' row) (hr : ∀ b, row = some b → ∃ cs T, w.heap[b]? = some (.cells cs T (0, 0)) ∧ T ≠ 5) : KT w w' := fun b cs q => hg.block b (Array.getElem?_eq_some_iff.1 q).1 (fun e => by
  obtain ⟨cs', T, q1, q2⟩ := hr b e.symm
  rw [q] at q1
  simp only [Option.some.injEq, Obj.cells.injEq] at q1
  exact q2 q1.2.1.symm)
def RowI (B : Nat) (w : World) (v : Value) (n k i : Nat) : Prop := ∃ xs : List Value, w.ownsRow B TE 1 v n xs ∧ ∀ j, j < i → j < n → Mkd w (xs.getD j undef) k j
theorem RowI.keep {B : Nat} {w w' : World} {v : Value} {n k i : Nat} (h : RowI B w v n k i) (hk : KT w w') (hb : ∀ b, v.ownBlock = some b → w'.heap[b]? = w.heap[b]?) : RowI B w' v n k i := by
  obtain ⟨xs, h1, h2⟩ := h
  exact ⟨xs, own_ofL h1 hb, fun j hj hn => (h2 j hj hn).keep hk⟩
theorem RowI.less {B : Nat} {w : World} {v : Value} {n k i i' : Nat} (h : RowI B w v n k i) (hi : i' ≤ i) : RowI B w v n k i' := by
  obtain ⟨xs, h1, h2⟩ := h
  exact ⟨xs, h1, fun j hj hn => h2 j (by omega) hn⟩
theorem RowI.pre {B : Nat} {w : World} {g n n' c k : Nat} (h : RowI B w (.slice (some ⟨g, 0, none⟩) n c) n k n) (hn : n' ≤ n) : RowI B w (.slice (some ⟨g, 0, none⟩) n' c) n' k n' := by
  obtain ⟨xs, h1, h2⟩ := h
  have hl : xs.length = n := by have := h1.1; omega
  refine ⟨xs.take n', ?_, fun j hj _ => ?_⟩
  · rcases h1.2 with ⟨e, _⟩ | ⟨g', cap, cur, e, hB, hh, hnc, hcm, hcs, htk⟩
    · cases e
    · simp only [Value.slice.injEq, Option.some.injEq, Addr.mk.injEq, and_true, true_and] at e
      obtain ⟨rfl, rfl⟩ := e
      refine ⟨by simp; omega, .inr ⟨_, _, cur, rfl, hB, hh, by omega, hcm, hcs, ?_⟩⟩
      rw [← htk, List.take_take]
      congr 1
      omega
  · have e : (xs.take n').getD j undef = xs.getD j undef := by simp [List.getD, List.getElem?_take, hj]
    rw [e]
    exact h2 j (by omega) (by omega)
end Go.Proofs.Ytnifnoadfepegaa
namespace Go.Proofs.Ytnifnoadfepegaa
open Go Go.RowKit
theorem own_lowL {W : World} {B B' : Nat} {t : TypeId} {v : Value} {n : Nat} {xs : List Value} (ho : W.ownsRow B t 1 v n xs) (hB : B' ≤ B) : W.ownsRow B' t 1 v n xs := ⟨ho.1, ho.2.elim .inl fun ⟨gg, cap, cur, z1, z2, z3⟩ => .inr ⟨gg, cap, cur, z1, Nat.le_trans hB z2, z3⟩⟩
structure PX (B : Nat) (w : World) (v : Value) (xs : List Value) (ls : List (List Int)) : Prop where
  row : w.ownsRow B TE 1 v ls.length xs
  apt : Apt B w xs ls
  byt : ∀ j, j < ls.length → BytI (ls.getD j [])
theorem PX.keep {B : Nat} {w w' : World} {v : Value} {xs : List Value} {ls : List (List Int)} (h : PX B w v xs ls) (hk : ∀ b, B ≤ b → b < w.heap.size → w'.heap[b]? = w.heap[b]?) : PX B w' v xs ls :=
  ⟨own_ofL h.row (fun b e => hk b (own_atL h.row e).2.1 (own_atL h.row e).1), ⟨h.apt.1, fun j hj => own_ofL (h.apt.2.1 j hj) (fun b e => hk b (own_atL (h.apt.2.1 j hj) e).2.1 (own_atL (h.apt.2.1 j hj) e).1), h.apt.2.2⟩, h.byt⟩
theorem PX.below {B : Nat} {w w' : World} {v : Value} {xs : List Value} {ls : List (List Int)} (h : PX B w v xs ls) (hb : Below w.heap.size w w') : PX B w' v xs ls := h.keep fun b _ q => hb.block b q
theorem PX.low {B B' : Nat} {w : World} {v : Value} {xs : List Value} {ls : List (List Int)} (h : PX B w v xs ls) (hB : B' ≤ B) : PX B' w v xs ls :=
  ⟨own_lowL h.row hB, ⟨h.apt.1, fun j hj => own_lowL (h.apt.2.1 j hj) hB, h.apt.2.2⟩, h.byt⟩
theorem PX.nil (B : Nat) (w : World) : PX B w (.slice none 0 0) [] [] := ⟨World.ownsRow_nil _ _ _ _, ⟨rfl, fun j hj => by simp at hj, fun i j hi => by simp at hi⟩, fun j hj => by simp at hj⟩
theorem PX.owl {w0 w : World} {v : Value} {xs : List Value} {ls : List (List Int)} (h : PX w0.heap.size w v xs ls) : OWL w0 w v ls :=
  ⟨xs, h.row, fun j hj => .inl ⟨h.apt.2.1 j (by rw [h.apt.1]; exact hj), h.byt j hj⟩⟩
theorem PX.len {B : Nat} {w : World} {v : Value} {xs : List Value} {ls : List (List Int)} (h : PX B w v xs ls) : xs.length = ls.length := h.apt.1
theorem PX.grown {B : Nat} {w w' : World} {v : Value} {xs : List Value} {ls : List (List Int)} {row : Option Nat} (h : PX B w v xs ls) (hg : w.grownBy w' row) (hr : ∀ g, row = some g → ∃ cur e fz, w.heap[g]? = some (.cells cur e fz) ∧ 5 ≠ e ∧ 22 ≠ e) : PX B w' v xs ls := by
  refine ⟨h.row.kept hg ?_, h.apt.away hg fun k e => ?_, h.byt⟩
  · cases hrow : row with
    | none =>
      cases hv : v.ownBlock with
      | none => exact .inl rfl
      | some k => exact .inr (by simp)
    | some g =>
      obtain ⟨cur, e, fz, hh, _, hne⟩ := hr g hrow
      exact .inr (own_block_ne h.row hh hne)
  · obtain ⟨cur, e', fz, hh, hne, _⟩ := hr k e
    exact ⟨e', ⟨cur, fz, hh⟩, Ne.symm hne⟩
theorem PX.lies {B : Nat} {w : World} {v : Value} {xs : List Value} {ls : List (List Int)} (h : PX B w v xs ls) : (∀ b, v.ownBlock = some b → B ≤ b ∧ b < w.heap.size) ∧ ∀ j, j < xs.length → ∀ b, (xs.getD j undef).ownBlock = some b → B ≤ b ∧ b < w.heap.size :=
  ⟨fun b e => ⟨(own_atL h.row e).2.1, (own_atL h.row e).1⟩, fun j hj b e => ⟨(own_atL (h.apt.2.1 j hj) e).2.1, (own_atL (h.apt.2.1 j hj) e).1⟩⟩
theorem PX.fresh {B C n : Nat} {w w' : World} {v u : Value} {xs ys : List Value} {ls : List (List Int)} {e : TypeId} (h : PX B w v xs ls) (hu : w'.ownsRow C e 1 u n ys) (hC : w.heap.size ≤ C) : ∀ j, j < xs.length → u.ownBlock = none ∨ u.ownBlock ≠ (xs.getD j undef).ownBlock := by
  intro j hj
  cases e : u.ownBlock with
  | none => exact .inl rfl
  | some b =>
    refine .inr fun x => ?_
    have h1 := (own_atL hu e).2.1
    have h2 := (h.lies.2 j hj b x.symm).2
    omega
theorem apt_app {B : Nat} {w : World} {us vs : List Value} {ls ms : List (List Int)} (h : Apt B w us ls) (g : Apt B w vs ms) (hd : ∀ i j b, i < us.length → j < vs.length → (us.getD i undef).ownBlock = some b → (vs.getD j undef).ownBlock ≠ some b) : Apt B w (us ++ vs) (ls ++ ms) := by
  refine ⟨by simp [h.1, g.1], fun k hk => ?_, fun i j hi hj hne => ?_⟩
  · rw [getD_app, getD_app, ← h.1]
    split
    · rename_i q; exact h.2.1 k q
    · refine g.2.1 _ ?_
      rw [List.length_append] at hk
      omega
  · rw [List.length_append] at hi hj
    rw [getD_app, getD_app]
    split <;> split
    · rename_i q1 q2; exact h.2.2 i j q1 q2 hne
    · rename_i q1 q2
      cases e : (us.getD i undef).ownBlock with
      | none => exact .inl rfl
      | some b => exact .inr fun x => hd i _ b q1 (by omega) e x.symm
    · rename_i q1 q2
      cases e : (vs.getD (i - us.length) undef).ownBlock with
      | none => exact .inl rfl
      | some b => exact .inr fun x => hd j (i - us.length) b q2 (by omega) x.symm e
    · exact g.2.2 _ _ (by omega) (by omega) (by omega)
theorem wpList_append_PX {B : Nat} {w : World} {ops : Array Oper} {rest : List Oper} {o : Oper} {a : Act} {Q : Exit → Act → World → Prop} (hgd : o.guard = none) (s x : Operand)
    (ho : o.op = .call { callee := .builtin .append, args := #[s, x], argTypes := #[24, 24] })
    (v : Value) (xs : List Value) (ls : List (List Int)) (hs : a.eval s = v) (hown : PX B w v xs ls)
    (ad : Addr) (c : Nat) (u : Value) (l : List Int) (hx : a.eval x = .slice (some ad) 1 c) (hcell : ∀ j z, [u][j]? = some z → w.cell? (ad.add j) = some z)
    (hu : w.ownsRow B 5 1 u l.length (l.map (Value.int .u8))) (hb : BytI l) (hd : ∀ j, j < xs.length → u.ownBlock = none ∨ u.ownBlock ≠ (xs.getD j undef).ownBlock)
    (hbytes : (ls.length + 1) * 24 ≤ 140737488355328) (hbase : B ≤ w.heap.size)
    (h : ∀ v' w', PX B w' v' (xs ++ [u]) (ls ++ [l]) → w.grownBy w' v.ownBlock → (∀ g, v.ownBlock = some g → B ≤ g ∧ BT w g 22) → wpList Try.prog ops Q rest (a.put o.dst v') w') : wpList Try.prog ops Q (o :: rest) a w := by
  obtain ⟨i0, hi, hz0, hz1, hz2⟩ := info_parts info_bytes
  have hblk : ∀ g, v.ownBlock = some g → B ≤ g ∧ BT w g 22 := by
    intro g hg
    obtain ⟨_, h2, cs, hh⟩ := own_atL hown.row hg
    exact ⟨h2, cs, _, hh⟩
  have h1 : ∀ z ∈ [u], z.oneCell' = true := by
    intro z hz
    simp only [List.mem_singleton] at hz
    subst hz
    obtain ⟨p, c, rfl⟩ := own_slice hu
    rfl
  refine wpList_append_own w hgd s x 24 ho B 22 i0 (.slice none 0 0) 1 24 Try.underlying24 hi hz0 hz1 hz2 rfl (by decide) v ls.length xs hs hown.row ad 1 c [u] hx rfl hcell h1 (by unfold maxLen; omega) hbytes hbase (fun v' w' h2 h3 _ => h v' w' ?_ h3 hblk)
  have hr : ∀ k, v.ownBlock = Option.some k → ∃ e, BT w k e ∧ e ≠ 5 := fun k e => ⟨_, (hblk k e).2, by decide⟩
  have hk : w'.ownsRow B 5 1 u l.length (l.map (Value.int .u8)) := by
    refine hu.kept h3 ?_
    cases e : v.ownBlock with
    | none => cases u.ownBlock <;> simp
    | some q =>
      obtain ⟨_, cur, fz, hh⟩ := hblk q e
      exact .inr (own_block_ne hu hh (by decide))
  refine ⟨by rw [List.length_append]; exact h2, (hown.apt.away h3 hr).snoc hk hd, fun j hj => ?_⟩
  rw [List.length_append, List.length_singleton] at hj
  rw [getD_app]
  split
  · exact hown.byt j ‹_›
  · have e : j - ls.length = 0 := by omega
    rw [e]
    exact hb
theorem wpList_append_bytesW {w : World} {ops : Array Oper} {rest : List Oper} {o : Oper} {a : Act} {Q : Exit → Act → World → Prop} (hgd : o.guard = none) (s x : Operand)
    (ho : o.op = .call { callee := .builtin .append, args := #[s, x], argTypes := #[22, 22] })
    (base : Nat) (v : Value) (n : Nat) (xs : List Value) (hs : a.eval s = v) (hown : w.ownsRow base 5 1 v n xs)
    (u : Value) (l : List Int) (hx : a.eval x = u) (hu : HB w u l) (hn : n + l.length ≤ 140737488355328) (hbase : base ≤ w.heap.size)
    (h : ∀ v' w', w'.ownsRow base 5 1 v' (n + l.length) (xs ++ l.map (Value.int .u8)) → w.grownBy w' v.ownBlock → (v'.ownBlock = v.ownBlock ∨ v'.ownBlock = some w.heap.size) → wpList Try.prog ops Q rest (a.put o.dst v') w') : wpList Try.prog ops Q (o :: rest) a w :=
  wpList_plain hgd fun K hK => wp_append_bytesW s x ho base v n xs hs hown u l hx hu hn hbase fun v' w' h1 h2 h3 => hK _ _ (h v' w' h1 h2 h3)
theorem own_typC {w : World} {B n : Nat} {e : TypeId} {v : Value} {xs : List Value} (h : w.ownsRow B e 1 v n xs) {k : Nat} (hk : v.ownBlock = some k) : k < w.heap.size ∧ B ≤ k ∧ ∃ cur, w.heap[k]? = some (.cells cur e (0, 0)) := by
  rcases h.2 with ⟨rfl, _⟩ | ⟨g, cap, cur, rfl, hB, hh, _⟩
  · cases hk
  · cases hk
    exact ⟨(Array.getElem?_eq_some_iff.1 hh).1, hB, _, hh⟩
theorem own_nothC {w : World} {B B' n n' : Nat} {e e' : TypeId} {v v' : Value} {xs xs' : List Value} (h : w.ownsRow B e 1 v n xs) (h' : w.ownsRow B' e' 1 v' n' xs') (he : e ≠ e') : v.ownBlock = none ∨ v.ownBlock ≠ v'.ownBlock := by
  cases q : v.ownBlock with
  | none => exact .inl rfl
  | some k =>
    refine .inr fun r => ?_
    obtain ⟨_, _, c1, h1⟩ := own_typC h q
    obtain ⟨_, _, c2, h2⟩ := own_typC h' r.symm
    rw [h1] at h2
    simp only [Option.some.injEq, Obj.cells.injEq] at h2
    exact he h2.2.1
def plL (size k : Nat) : List Value := (List.range k).map fun i => .int .i64 ((chAt size i : Nat) : Int)
def pcL (l : List Int) (size k : Nat) : List (List Int) := (List.range k).map fun i => chPiece l size i
theorem plL_len (size k : Nat) : (plL size k).length = k := by simp [plL]
theorem pcL_len (l : List Int) (size k : Nat) : (pcL l size k).length = k := by simp [pcL]
theorem plL_succ (size k : Nat) : plL size (k + 1) = plL size k ++ [.int .i64 ((chAt size k : Nat) : Int)] := by simp [plL, List.range_succ]
theorem pcL_succ (l : List Int) (size k : Nat) : pcL l size (k + 1) = pcL l size k ++ [chPiece l size k] := by simp [pcL, List.range_succ]
theorem pcL_get (l : List Int) (size : Nat) {k i : Nat} (h : i < k) : (pcL l size k).getD i [] = chPiece l size i := by simp [pcL, List.getD, h]
theorem chN_le {len size : Nat} (hs : 1 ≤ size) : chN len size ≤ len := by
  refine Classical.byContradiction fun h => ?_
  have := (chN_iff (len := len) hs).1 (show len < chN len size by omega)
  unfold chAt at this
  have h2 := Nat.le_mul_of_pos_right len (show 0 < size by omega)
  omega
theorem rchunks_bad (w : World) (v : Value) (size : Int) (h : size < 1) :
    Calls Try.prog 4 #[v, .int .i64 size] w fun e w' => e = .returned (.tuple #[.slice none 0 0, .slice none 0 0]) ∧ w' = w := by
  go_enter Try.func4, Try.ntmps4
  go_wp2
  go_ret2
  exact ⟨rfl, rfl⟩
set_option maxRecDepth 100000 in
set_option maxHeartbeats 8000000 in
theorem rchunks_ok (w : World) (v : Value) (l : List Int) (size : Nat) (h : HB w v l) (hl : l.length ≤ 4000) (hs : 1 ≤ size) :
    Calls Try.prog 4 #[v, .int .i64 (size : Int)] w fun e w' => ∃ vp vq xs, e = .returned (.tuple #[vp, vq]) ∧ w'.ownsRow w.heap.size 3 1 vp (chN l.length size) (plL size (chN l.length size)) ∧ PX w.heap.size w' vq xs (pcL l size (chN l.length size)) ∧ Below w.heap.size w w' := by
  have HA := hid h
  obtain ⟨p, c, rfl, hlc, hcm⟩ := h.open
  unfold maxLen at hcm
  have hs' : ¬ ((size : Int) < 1) := by omega
  obtain ⟨M, HM⟩ : ∃ x, Hid (chN l.length size = x) := ⟨_, rfl⟩
  have HIF : Hid (∀ k, k < M ↔ chAt size k < l.length) := hid fun k => by rw [← HM.out]; exact chN_iff hs
  have HML : Hid (M ≤ 4000) := hid (by rw [← HM.out]; have := chN_le (len := l.length) hs; omega)
  have HCP : Hid (∀ k, (chPiece l size k).length = min size (l.length - chAt size k)) := hid fun k => chPiece_length l size k
  obtain ⟨N, HN⟩ : ∃ x, Hid (l.length = x) := ⟨_, rfl⟩
  rw [HM.out]
  rw [HN.out] at hlc hl HIF HCP
  rw [HN.out]
  clear h
  go_enter Try.func4, Try.ntmps4
  go_wp2_with fail
  go_loopw [6, 7, 8] (fun vp vq i wr => ∃ (k : Nat) (xs : List Value), Hid (k ≤ M) ∧ i = .int .i64 ((min (chAt size k) N : Nat) : Int) ∧ Hid (wr.ownsRow w.heap.size 3 1 vp k (plL size k)) ∧ Hid (PX w.heap.size wr vq xs (pcL l size k)) ∧ Hid (Below w.heap.size w wr)) (fun _ _ i _ => N - (intOf i).toNat)
  case atStart => exact ⟨0, [], hid (Nat.zero_le _), by simp [chAt], hid (World.ownsRow_nil _ _ _ _), hid (PX.nil _ _), Below.refl _ _⟩
  case round =>
    obtain ⟨k, xs, hk, rfl, HP, HX, HB0⟩ := hrel
    by_cases hlt : chAt size k < N
    · obtain ⟨A, HA0⟩ : ∃ A, Hid (chAt size k = A) := ⟨_, rfl⟩
      have hmn : min (chAt size k) N = A := by rw [← HA0.out]; omega
      rw [hmn]
      have hAl : A < N := by rw [← HA0.out]; exact hlt
      have hkM : k < M := (HIF.out k).2 hlt
      clear hmn hlt
      obtain ⟨m, Hm⟩ : ∃ m, Hid (min size (N - A) = m) := ⟨_, rfl⟩
      have hm1 : 1 ≤ m := by rw [← Hm.out]; omega
      have hm2 : A + m ≤ N := by rw [← Hm.out]; omega
      by_cases hgt : size < N - A
      · have hms : size = m := by rw [← Hm.out]; omega
        have hcmp : ((N : Int) - (A : Int) > (size : Int)) := by omega
        subst hms
        obtain ⟨pp, cp, ep⟩ := own_slc HP.out
        obtain ⟨pq, cq, eq⟩ := own_slc HX.out.row
        subst ep
        subst eq
        rw [pcL_len] at HX ⊢
        have HSL : Hid (HB wr (.slice (if c = A then p else p.map (·.add A)) size (c - A)) (chPiece l size k)) := by
          have h0 := HA.out.below HB0.out
          have := h0.sliced A (A + size) c (by omega) (by rw [HN.out]; omega) (by omega) (Nat.le_refl _)
          rw [Nat.add_sub_cancel_left] at this
          have e : chPiece l size k = (l.take (A + size)).drop A := by unfold chPiece; rw [HA0.out, HN.out, Hm.out]
          rw [e]
          exact hid this
        have HSM : Hid (HB wr (.slice (p.map (·.add A)) (A + size - A) (c - A)) (chPiece l size k)) := hid (by have := HSL.out; rw [if_neg (by omega)] at this; rw [Nat.add_sub_cancel_left]; exact this)
        have HLP : Hid ((chPiece l size k).length = size) := hid (by rw [HCP.out, HA0.out, Hm.out])
        have HN1 : Hid (min (chAt size (k + 1)) N = A + size) := hid (by
          have e : chAt size (k + 1) = A + size := by rw [← HA0.out]; unfold chAt; rw [Nat.succ_mul]
          rw [e, ← Hm.out]
          omega)
        have hsz := HB0.out.size
        have HES := hid (pcL_succ l size k)
        have HEP := hid (plL_succ size k)
        rw [HA0.out] at HEP
        have hac1 : A + size ≤ c := by omega
        have hk4 : k ≤ 4000 := by have := HML.out; omega
        go_wp2_with (first | (at_builtin; refine wpList_append_bytesW rfl _ _ rfl w.heap.size _ 0 [] rfl (World.ownsRow_nil _ _ _ _) _ _ rfl HSL.out (by rw [HLP.out]; omega) hsz ?_) | (at_builtin; refine wpList_append_bytesW rfl _ _ rfl w.heap.size _ 0 [] rfl (World.ownsRow_nil _ _ _ _) _ _ rfl HSM.out (by rw [HLP.out]; omega) hsz ?_) | fail)
        intro v5 w5 ho5 hg5 hn5
        have HP5 := hid (HP.out.kept hg5 (by cases (Value.slice pp k cp).ownBlock <;> simp [Value.ownBlock]))
        have HX5 := hid (HX.out.grown hg5 (fun g e => by cases e))
        have B5 := hid (HB0.out.grown hg5 hsz (fun g e => by cases e))
        have hs5 : w.heap.size ≤ w5.heap.size := B5.out.size
        have O5 : Hid (w5.ownsRow w.heap.size 5 1 v5 (chPiece l size k).length ((chPiece l size k).map (Value.int .u8))) := hid (by simpa using ho5)
        have HD5 : Hid (∀ j, j < xs.length → v5.ownBlock = none ∨ v5.ownBlock ≠ (xs.getD j undef).ownBlock) := hid fun j hj => by
          rcases hn5 with q | q
          · exact .inl q
          · rw [q]
            refine .inr fun z => ?_
            have := (HX.out.lies.2 j hj _ z.symm).2
            omega
        have HBY : Hid (BytI (chPiece l size k)) := hid HSL.out.2
        obtain ⟨p5, c5, e5⟩ := own_slc O5.out
        subst e5
        rw [HLP.out]
        clear ho5 hg5 hn5
        go_wp2_with (first | (at_builtin; refine wpList_append_int rfl _ _ rfl w.heap.size _ k (plL size k) rfl (HP5.out.alloc _) _ _ (A : Int) rfl (by rw [cell_of_row _ w5.heap.size 0 _ _ _ (heap_alloc_new w5 _)]; rfl) (by omega) (by simp; omega) ?_) | fail)
        intro v6 w6 ho6 hg6 _
        have HX6 := hid ((HX5.out.grown (World.grownBy_alloc w5 _ none) (fun g e => by cases e)).grown hg6 (fun g e => by
          obtain ⟨_, _, cur, hh⟩ := own_typC (HP5.out.alloc (.cells #[.int .i64 (A : Int)] 3)) e
          exact ⟨cur, _, _, hh, by decide, by decide⟩))
        have O6 := hid ((O5.out.alloc (.cells #[.int .i64 (A : Int)] 3)).kept hg6 (own_nothC (O5.out.alloc (.cells #[.int .i64 (A : Int)] 3)) (HP5.out.alloc (.cells #[.int .i64 (A : Int)] 3)) (by decide)))
        have B6 := hid ((B5.out.alloc hs5 (.cells #[.int .i64 (A : Int)] 3)).grown hg6 (by simp; omega) (fun g e => (own_typC (HP5.out.alloc (.cells #[.int .i64 (A : Int)] 3)) e).2.1))
        have HP6 := hid ho6
        have hs6 : w.heap.size ≤ w6.heap.size := B6.out.size
        obtain ⟨p6, c6, e6⟩ := own_slc ho6
        subst e6
        clear ho6 hg6
        rw [HLP.out] at O6 HD5
        go_wp2_with (first | (at_builtin; refine wpList_append_PX (B := w.heap.size) rfl _ _ rfl _ xs (pcL l size k) rfl (HX6.out.grown (World.grownBy_alloc w6 _ none) (fun g e => by cases e)) ⟨w6.heap.size, 0, none⟩ 1 _ (chPiece l size k) rfl (cell_one_new _ _ _) ?q1 HBY.out HD5.out ?q2 ?q3 ?_) | fail)
        case q1 => rw [HLP.out]; exact O6.out.alloc _
        case q2 => rw [pcL_len]; omega
        case q3 => simp; omega
        intro v7 w7 ho7 hg7 hblk
        have B7 : Hid (Below w.heap.size w w7) := hid ((B6.out.alloc hs6 _).grown hg7 (by simp; omega) (fun g e => (hblk g e).1))
        have HP7 : Hid (w7.ownsRow w.heap.size 3 1 (.slice p6 (k + 1) c6) (k + 1) (plL size (k + 1))) := hid (by
          rw [HEP.out]
          refine (HP6.out.alloc _).kept hg7 ?_
          cases q : (Value.slice p6 (k + 1) c6).ownBlock with
          | none => exact .inl rfl
          | some b =>
            refine .inr fun r => ?_
            obtain ⟨_, cur, fz, h2⟩ := hblk b r.symm
            obtain ⟨_, _, c1, h1⟩ := own_typC (HP6.out.alloc _) q
            rw [h1] at h2
            simp only [Option.some.injEq, Obj.cells.injEq] at h2
            exact absurd h2.2.1 (by decide))
        rw [← HES.out] at ho7
        have HX7 := hid ho7
        clear ho7 hg7 hblk
        go_wp2
        exact ⟨⟨k + 1, _, hid (by have := hk.out; omega), by rw [HN1.out]; go_num, HP7, HX7, B7⟩, by simp [intOf]; omega⟩
      · have hms : m = N - A := by rw [← Hm.out]; omega
        have hcmp : ¬ ((N : Int) - (A : Int) > (size : Int)) := by omega
        have hmI : (N : Int) - (A : Int) = (m : Int) := by omega
        clear hms
        obtain ⟨pp, cp, ep⟩ := own_slc HP.out
        obtain ⟨pq, cq, eq⟩ := own_slc HX.out.row
        subst ep
        subst eq
        rw [pcL_len] at HX ⊢
        have HSL : Hid (HB wr (.slice (if c = A then p else p.map (·.add A)) m (c - A)) (chPiece l size k)) := by
          have h0 := HA.out.below HB0.out
          have := h0.sliced A (A + m) c (by omega) (by rw [HN.out]; omega) (by omega) (Nat.le_refl _)
          rw [Nat.add_sub_cancel_left] at this
          have e : chPiece l size k = (l.take (A + m)).drop A := by unfold chPiece; rw [HA0.out, HN.out, Hm.out]
          rw [e]
          exact hid this
        have HSM : Hid (HB wr (.slice (p.map (·.add A)) (A + m - A) (c - A)) (chPiece l size k)) := hid (by have := HSL.out; rw [if_neg (by omega)] at this; rw [Nat.add_sub_cancel_left]; exact this)
        have HLP : Hid ((chPiece l size k).length = m) := hid (by rw [HCP.out, HA0.out, Hm.out])
        have HN1 : Hid (min (chAt size (k + 1)) N = A + m) := hid (by
          have e : chAt size (k + 1) = A + size := by rw [← HA0.out]; unfold chAt; rw [Nat.succ_mul]
          rw [e, ← Hm.out]
          omega)
        have hsz := HB0.out.size
        have HES := hid (pcL_succ l size k)
        have HEP := hid (plL_succ size k)
        rw [HA0.out] at HEP
        have hac1 : A + m ≤ c := by omega
        have hk4 : k ≤ 4000 := by have := HML.out; omega
        go_wp2_with (first | (at_builtin; refine wpList_append_bytesW rfl _ _ rfl w.heap.size _ 0 [] rfl (World.ownsRow_nil _ _ _ _) _ _ rfl HSL.out (by rw [HLP.out]; omega) hsz ?_) | (at_builtin; refine wpList_append_bytesW rfl _ _ rfl w.heap.size _ 0 [] rfl (World.ownsRow_nil _ _ _ _) _ _ rfl HSM.out (by rw [HLP.out]; omega) hsz ?_) | fail)
        intro v5 w5 ho5 hg5 hn5
        have HP5 := hid (HP.out.kept hg5 (by cases (Value.slice pp k cp).ownBlock <;> simp [Value.ownBlock]))
        have HX5 := hid (HX.out.grown hg5 (fun g e => by cases e))
        have B5 := hid (HB0.out.grown hg5 hsz (fun g e => by cases e))
        have hs5 : w.heap.size ≤ w5.heap.size := B5.out.size
        have O5 : Hid (w5.ownsRow w.heap.size 5 1 v5 (chPiece l size k).length ((chPiece l size k).map (Value.int .u8))) := hid (by simpa using ho5)
        have HD5 : Hid (∀ j, j < xs.length → v5.ownBlock = none ∨ v5.ownBlock ≠ (xs.getD j undef).ownBlock) := hid fun j hj => by
          rcases hn5 with q | q
          · exact .inl q
          · rw [q]
            refine .inr fun z => ?_
            have := (HX.out.lies.2 j hj _ z.symm).2
            omega
        have HBY : Hid (BytI (chPiece l size k)) := hid HSL.out.2
        obtain ⟨p5, c5, e5⟩ := own_slc O5.out
        subst e5
        rw [HLP.out]
        clear ho5 hg5 hn5
        go_wp2_with (first | (at_builtin; refine wpList_append_int rfl _ _ rfl w.heap.size _ k (plL size k) rfl (HP5.out.alloc _) _ _ (A : Int) rfl (by rw [cell_of_row _ w5.heap.size 0 _ _ _ (heap_alloc_new w5 _)]; rfl) (by omega) (by simp; omega) ?_) | fail)
        intro v6 w6 ho6 hg6 _
        have HX6 := hid ((HX5.out.grown (World.grownBy_alloc w5 _ none) (fun g e => by cases e)).grown hg6 (fun g e => by
          obtain ⟨_, _, cur, hh⟩ := own_typC (HP5.out.alloc (.cells #[.int .i64 (A : Int)] 3)) e
          exact ⟨cur, _, _, hh, by decide, by decide⟩))
        have O6 := hid ((O5.out.alloc (.cells #[.int .i64 (A : Int)] 3)).kept hg6 (own_nothC (O5.out.alloc (.cells #[.int .i64 (A : Int)] 3)) (HP5.out.alloc (.cells #[.int .i64 (A : Int)] 3)) (by decide)))
        have B6 := hid ((B5.out.alloc hs5 (.cells #[.int .i64 (A : Int)] 3)).grown hg6 (by simp; omega) (fun g e => (own_typC (HP5.out.alloc (.cells #[.int .i64 (A : Int)] 3)) e).2.1))
        have HP6 := hid ho6
        have hs6 : w.heap.size ≤ w6.heap.size := B6.out.size
        obtain ⟨p6, c6, e6⟩ := own_slc ho6
        subst e6
        clear ho6 hg6
        rw [HLP.out] at O6 HD5
        go_wp2_with (first | (at_builtin; refine wpList_append_PX (B := w.heap.size) rfl _ _ rfl _ xs (pcL l size k) rfl (HX6.out.grown (World.grownBy_alloc w6 _ none) (fun g e => by cases e)) ⟨w6.heap.size, 0, none⟩ 1 _ (chPiece l size k) rfl (cell_one_new _ _ _) ?q1 HBY.out HD5.out ?q2 ?q3 ?_) | fail)
        case q1 => rw [HLP.out]; exact O6.out.alloc _
        case q2 => rw [pcL_len]; omega
        case q3 => simp; omega
        intro v7 w7 ho7 hg7 hblk
        have B7 : Hid (Below w.heap.size w w7) := hid ((B6.out.alloc hs6 _).grown hg7 (by simp; omega) (fun g e => (hblk g e).1))
        have HP7 : Hid (w7.ownsRow w.heap.size 3 1 (.slice p6 (k + 1) c6) (k + 1) (plL size (k + 1))) := hid (by
          rw [HEP.out]
          refine (HP6.out.alloc _).kept hg7 ?_
          cases q : (Value.slice p6 (k + 1) c6).ownBlock with
          | none => exact .inl rfl
          | some b =>
            refine .inr fun r => ?_
            obtain ⟨_, cur, fz, h2⟩ := hblk b r.symm
            obtain ⟨_, _, c1, h1⟩ := own_typC (HP6.out.alloc _) q
            rw [h1] at h2
            simp only [Option.some.injEq, Obj.cells.injEq] at h2
            exact absurd h2.2.1 (by decide))
        rw [← HES.out] at ho7
        have HX7 := hid ho7
        clear ho7 hg7 hblk
        go_wp2
        exact ⟨⟨k + 1, _, hid (by have := hk.out; omega), by rw [HN1.out]; go_num, HP7, HX7, B7⟩, by simp [intOf]; omega⟩
    · have hkM : k = M := by
        have h1 : ¬ k < M := fun q => hlt ((HIF.out k).1 q)
        have := hk.out
        omega
      have hmn : min (chAt size k) N = N := by omega
      rw [hmn]
      clear hlt hmn
      subst hkM
      obtain ⟨pp, cp, ep⟩ := own_slc HP.out
      obtain ⟨pq, cq, eq⟩ := own_slc HX.out.row
      subst ep
      subst eq
      go_wp2_with fail
      go_ret2
      exact ⟨_, _, xs, rfl, HP.out, HX.out, HB0.out⟩
end Go.Proofs.Ytnifnoadfepegaa
namespace Go.Proofs.Ytnifnoadfepegaa.Ev
open Go Go.RowKit
def edgeB (ops : Array Oper) (K i : Nat) : Bool := (ops[K]?).any fun o => o.after.any fun e => Region.binds .any e && e.on == i
section
variable {P : Program} {ops : Array Oper} {Q : Exit → Act → World → Prop} {S : World → Prop} {K : Nat}
theorem wpN_load {i : Nat} {oi : Oper} {v : Value} {f : Nat} {listed : Array Bool} {a : Act} {w : World} (hi : ops[i]? = some oi) (hsel : Region.noSelect ops = true) (hf : Region.free .any ops listed i = true) (hr : (Region.ready .any ops listed).contains i = true)
    (hQ : ∀ c a w, ¬ Q (.panic c) a w) (hK : (i == K) = false) (hw : edgeB ops K i = true) (hy : YieldsIf P ops S oi v a) (hS : S w)
    (h : wpN P ops Q S (fun j => j == K) f false (listed.setIfInBounds i true) (a.put oi.dst v) w) : wpN P ops Q S (fun j => j == K) (f + 1) false listed a w := by
  refine wpN_take (W := fun j => j == K) (S' := S) hi hsel hQ hK f false listed a w (.inr ⟨rfl, rfl, fun j oj hj hWj => ?_⟩) (Region.free_spec hi hf) (by simpa using hr) hy hS (.inl hS) h
  have e : j = K := by simpa using hWj
  subst e
  unfold edgeB at hw
  rw [hj] at hw
  simp only [Option.any_some, Array.any_eq_true', Bool.and_eq_true, beq_iff_eq] at hw
  obtain ⟨e, h1, h2, h3⟩ := hw
  exact ⟨e, h1, h2, h3⟩
theorem wpN_step {i : Nat} {o : Oper} {f : Nat} {late : Bool} {listed : Array Bool} {a : Act} {w : World} (hr : Region.ready .any ops listed = [i]) (ho : ops[i]? = some o) (hw : Region.wanted o (yielded ops a.tmps) = true)
    (h : o.wp P a w (fun a' w' => (S w' ∨ (late || i == K) = true) ∧ wpN P ops Q S (fun j => j == K) f (late || i == K) (listed.setIfInBounds i true) a' w') Q) : wpN P ops Q S (fun j => j == K) (f + 1) late listed a w := by
  refine ⟨fun h0 => (by rw [hr] at h0; cases h0), fun j hj => ?_⟩
  rw [hr] at hj
  obtain rfl := List.mem_singleton.1 hj
  unfold wpOp
  rw [ho]
  simp only [hw, if_true]
  exact .inl h
theorem wpN_end {f : Nat} {late : Bool} {listed : Array Bool} {a : Act} {w : World} (hr : Region.ready .any ops listed = []) (h : Q .normal a w) : wpN P ops Q S (fun j => j == K) f late listed a w := by
  cases f with
  | zero => exact ⟨hr, h⟩
  | succ f => exact ⟨fun _ => h, fun j hj => by rw [hr] at hj; cases hj⟩
end
end Go.Proofs.Ytnifnoadfepegaa.Ev
