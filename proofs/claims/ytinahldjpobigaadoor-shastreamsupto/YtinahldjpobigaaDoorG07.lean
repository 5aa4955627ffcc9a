/- Of the road to shaStreamsUptoCard_holds: Apart, LentKit, RefShaTurn, RefShaWords, RefShaConst, RefShaMix, RefShaPad, ShaMixesLaw. -/
import Derived.Test.YtinahldjpobigaaDoorG06
import Derived.Deep.RegionHeld3
import Derived.Test.YtinahldjpobigaaDoorG00
import Derived.Test.YtinahldjpobigaaDoorG05
set_option linter.unusedVariables false
set_option linter.unusedSimpArgs false
namespace Go.Proofs.YtinahldjpobigaaDoor
open Go.RowKit
def marksL (k n : Nat) : List Int := (List.range n).map (mkB k)
theorem marksL_length (k n : Nat) : (marksL k n).length = n := by simp [marksL]
theorem marksL_getD (k n i : Nat) (h : i < n) : (marksL k n).getD i 0 = mkB k i := by simp [marksL, List.getD, h]
theorem marksL_byt (k n : Nat) : ∀ x ∈ marksL k n, 0 ≤ x ∧ x < 256 := by
  intro x hx
  obtain ⟨i, _, rfl⟩ := List.mem_map.1 hx
  exact mkB_byt _ _
theorem marksL_succ (k n : Nat) : marksL k (n + 1) = marksL k n ++ [mkB k n] := by simp [marksL, List.range_succ]
theorem marksL_take (k n m : Nat) (h : n ≤ m) : (marksL k m).take n = marksL k n := by
  unfold marksL
  rw [← List.map_take, List.take_range]
  congr 2
  omega
def Apt (B : Nat) (w : World) (us : List Value) (ls : List (List Int)) : Prop :=
  us.length = ls.length ∧ (∀ k, k < us.length → w.ownsRow B 5 1 (us.getD k undef) (ls.getD k []).length ((ls.getD k []).map (Value.int .u8))) ∧
    ∀ i j, i < us.length → j < us.length → i ≠ j → (us.getD i undef).ownBlock = none ∨ (us.getD i undef).ownBlock ≠ (us.getD j undef).ownBlock
def HV (w : World) (v : Value) (us : List Value) : Prop :=
  ∃ (p : Option Addr) (c : Nat), v = .slice p us.length c ∧ us.length ≤ c ∧ c ≤ maxLen ∧
    (us ≠ [] → ∃ b off, p = some ⟨b, off, none⟩ ∧ BT w b 32 ∧ ∀ k, k < us.length → w.cell? ⟨b, off + k, none⟩ = some (us.getD k undef))
theorem BT.grown {w w' : World} {b : Nat} {T : TypeId} {row : Option Nat} (h : BT w b T) (hg : w.grownBy w' row) (hr : ∀ g, row = some g → ∃ e, BT w g e ∧ e ≠ T) : BT w' b T := by
  obtain ⟨cur, fz, hh⟩ := h
  refine ⟨cur, fz, ?_⟩
  rw [hg.block b (Array.getElem?_eq_some_iff.1 hh).1 ?_]
  · exact hh
  · intro e
    obtain ⟨e', ⟨cur', fz', hh'⟩, hne⟩ := hr b e.symm
    rw [hh] at hh'
    simp only [Option.some.injEq, Obj.cells.injEq] at hh'
    exact hne hh'.2.1.symm
theorem HV.grown {w w' : World} {v : Value} {us : List Value} {row : Option Nat} (h : HV w v us) (hg : w.grownBy w' row) (hr : ∀ g, row = some g → BT w g 5) : HV w' v us := by
  obtain ⟨p, c, h1, h2, h3, h4⟩ := h
  refine ⟨p, c, h1, h2, h3, fun hne => ?_⟩
  obtain ⟨b, off, e, hb, hc⟩ := h4 hne
  have hb' : BT w' b 32 := hb.grown hg (fun g e => ⟨_, hr g e, by decide⟩)
  refine ⟨b, off, e, hb', fun k hk => hg.cell (hc k hk) ?_⟩
  intro e
  obtain ⟨cur, fz, hh⟩ := hb
  obtain ⟨cur', fz', hh'⟩ := hr b e.symm
  rw [hh] at hh'
  simp at hh'
theorem own_BT {w : World} {B n : Nat} {v : Value} {xs : List Value} {e : TypeId} (h : w.ownsRow B e 1 v n xs) : ∀ g, v.ownBlock = some g → BT w g e := by
  intro g hg
  rcases h.2 with ⟨rfl, _⟩ | ⟨g', cap, cur, rfl, _, hh, _⟩
  · simp [Value.ownBlock] at hg
  · simp only [Value.ownBlock, Option.some.injEq] at hg
    subst hg
    exact ⟨cur, _, hh⟩
theorem BT.ne {w : World} {b g : Nat} {T U : TypeId} (h : BT w b T) (k : BT w g U) (hne : T ≠ U) : b ≠ g := by
  intro e
  subst e
  obtain ⟨cur, fz, hh⟩ := h
  obtain ⟨cur', fz', hh'⟩ := k
  rw [hh] at hh'
  simp only [Option.some.injEq, Obj.cells.injEq] at hh'
  exact hne hh'.2.1
theorem HV.block {w : World} {b off n c : Nat} {us : List Value} (h : HV w (.slice (some ⟨b, off, none⟩) n c) us) (h0 : 0 < us.length) : BT w b 32 := by
  obtain ⟨p, c', e, _, _, h4⟩ := h
  obtain ⟨b', off', e2, hb, _⟩ := h4 (by intro e; subst e; simp at h0)
  simp only [Value.slice.injEq] at e
  rw [← e.1] at e2
  simp only [Option.some.injEq, Addr.mk.injEq, and_true] at e2
  rw [e2.1]
  exact hb
theorem getD_set {α : Type} (l : List α) (d x : α) (k j : Nat) (hk : k < l.length) : (l.set k x).getD j d = if j = k then x else l.getD j d := by
  by_cases h : j = k
  · subst h
    simp [List.getD, hk]
  · rw [if_neg h]
    simp only [List.getD]
    rw [List.getElem?_set_ne (Ne.symm h)]
theorem Apt.store {B : Nat} {w : World} {us : List Value} {ls : List (List Int)} (h : Apt B w us ls) (k i : Nat) (x : Int) (hk : k < us.length) {g cap n : Nat} (hu : us.getD k undef = .slice (some ⟨g, 0, none⟩) n cap) :
    Apt B (w.setCell ⟨g, i, none⟩ (.int .u8 x)) us (ls.set k ((ls.getD k []).set i x)) ∧ w.grownBy (w.setCell ⟨g, i, none⟩ (.int .u8 x)) (some g) := by
  obtain ⟨h1, h2, h3⟩ := h
  have hok := h2 k hk
  rw [hu] at hok
  have hn : n = (ls.getD k []).length := by
    rcases hok.2 with ⟨e, _⟩ | ⟨_, _, _, e, _⟩
    · cases e
    · cases e; rfl
  subst hn
  have hst := hok.stored i (.int .u8 x)
  refine ⟨⟨by simpa using h1, fun j hj => ?_, h3⟩, hst.2⟩
  rw [getD_set ls [] _ k j (by omega)]
  by_cases hjk : j = k
  · subst hjk
    rw [if_pos rfl, hu, List.length_set, List.map_set]
    exact hst.1
  · rw [if_neg hjk]
    refine (h2 j hj).kept hst.2 ?_
    have := h3 j k hj hk hjk
    rw [hu] at this
    exact this
theorem Apt.slice {B : Nat} {w : World} {us : List Value} {ls : List (List Int)} (h : Apt B w us ls) (k : Nat) (hk : k < us.length) : ∃ p c, us.getD k undef = .slice p (ls.getD k []).length c := by
  rcases (h.2.1 k hk).2 with ⟨e, e2⟩ | ⟨g, cap, _, e, _⟩
  · exact ⟨none, 0, by rw [e, e2]⟩
  · exact ⟨_, _, e⟩
theorem Apt.some {B : Nat} {w : World} {us : List Value} {ls : List (List Int)} (h : Apt B w us ls) (k : Nat) (hk : k < us.length) (h0 : 0 < (ls.getD k []).length) : ∃ g c, us.getD k undef = .slice (Option.some ⟨g, 0, none⟩) (ls.getD k []).length c ∧ c ≤ maxLen ∧ (ls.getD k []).length ≤ c ∧ B ≤ g ∧ BT w g 5 := by
  rcases (h.2.1 k hk).2 with ⟨_, e2⟩ | ⟨g, cap, cur, e, hb, hh, h1, h2, _⟩
  · omega
  · exact ⟨g, cap, e, h2, h1, hb, cur, _, hh⟩
def Ph1 (B : Nat) (w : World) (us : List Value) (ls : List (List Int)) (K i : Nat) : Prop :=
  ∃ ms, Apt B w us ms ∧ (∀ j, (ms.getD j []).length = (ls.getD j []).length) ∧ (∀ j, j < K → ms.getD j [] = marksL (j + 1) (ls.getD j []).length) ∧ (ms.getD K []).take i = marksL (K + 1) i
theorem Ph1.start {B : Nat} {w : World} {us : List Value} {ls : List (List Int)} (h : Apt B w us ls) : Ph1 B w us ls 0 0 := ⟨ls, h, fun _ => rfl, fun j hj => by omega, by simp [marksL]⟩
theorem take_set_succ (l : List Int) (i : Nat) (x : Int) (hi : i < l.length) : (l.set i x).take (i + 1) = l.take i ++ [x] := by
  rw [List.take_succ_eq_append_getElem (by simpa using hi)]
  have e : (l.set i x).take i = l.take i := by
    apply List.ext_getElem?
    intro j
    simp only [List.getElem?_take]
    split
    · rw [List.getElem?_set_ne (by omega)]
    · rfl
  rw [e]
  simp
theorem Ph1.step {B : Nat} {w : World} {us : List Value} {ls : List (List Int)} {K i : Nat} (h : Ph1 B w us ls K i) (hK : K < us.length) (hi : i < (ls.getD K []).length) {g cap n : Nat} (hu : us.getD K undef = .slice (some ⟨g, 0, none⟩) n cap) :
    Ph1 B (w.setCell ⟨g, i, none⟩ (.int .u8 (mkB (K + 1) i))) us ls K (i + 1) ∧ w.grownBy (w.setCell ⟨g, i, none⟩ (.int .u8 (mkB (K + 1) i))) (some g) := by
  obtain ⟨ms, ha, hl, hd, ht⟩ := h
  have hs := ha.store K i (mkB (K + 1) i) hK hu
  have hKm : K < ms.length := by have := ha.1; omega
  refine ⟨⟨_, hs.1, fun j => ?_, fun j hj => ?_, ?_⟩, hs.2⟩
  · rw [getD_set ms [] _ K j hKm]
    split
    · rename_i e; subst e; rw [List.length_set]; exact hl _
    · exact hl j
  · rw [getD_set ms [] _ K j hKm, if_neg (by omega)]
    exact hd j hj
  · rw [getD_set ms [] _ K K hKm, if_pos rfl, take_set_succ _ _ _ (by rw [hl]; exact hi), ht, marksL_succ]
theorem Ph1.next {B : Nat} {w : World} {us : List Value} {ls : List (List Int)} {K i : Nat} (h : Ph1 B w us ls K i) (hi : (ls.getD K []).length ≤ i) : Ph1 B w us ls (K + 1) 0 := by
  obtain ⟨ms, ha, hl, hd, ht⟩ := h
  refine ⟨ms, ha, hl, fun j hj => ?_, by simp [marksL]⟩
  by_cases hj2 : j < K
  · exact hd j hj2
  · have e : j = K := by omega
    subst e
    have e1 := congrArg (List.take (ls.getD j []).length) ht
    rw [List.take_take, marksL_take _ _ _ hi] at e1
    rw [← e1, List.take_of_length_le]
    rw [hl]
    omega
theorem Ph1.slice {B : Nat} {w : World} {us : List Value} {ls : List (List Int)} {K i : Nat} (h : Ph1 B w us ls K i) (k : Nat) (hk : k < us.length) : ∃ p c, us.getD k undef = .slice p (ls.getD k []).length c := by
  obtain ⟨ms, ha, hl, _, _⟩ := h
  obtain ⟨p, c, e⟩ := ha.slice k hk
  rw [hl] at e
  exact ⟨p, c, e⟩
theorem Ph1.some {B : Nat} {w : World} {us : List Value} {ls : List (List Int)} {K i : Nat} (h : Ph1 B w us ls K i) (k : Nat) (hk : k < us.length) (h0 : 0 < (ls.getD k []).length) : ∃ g c, us.getD k undef = .slice (Option.some ⟨g, 0, none⟩) (ls.getD k []).length c ∧ c ≤ maxLen ∧ (ls.getD k []).length ≤ c ∧ B ≤ g ∧ BT w g 5 ∧ ∀ j, j < (ls.getD k []).length → (∃ z, w.cell? ⟨g, j, none⟩ = Option.some z) ∧ w.frozen? ⟨g, j, none⟩ = false := by
  obtain ⟨ms, ha, hl, _, _⟩ := h
  obtain ⟨g, c, e, h1, h2, h3, h4⟩ := ha.some k hk (by rw [hl]; exact h0)
  have hrow := ha.2.1 k hk
  rw [e] at hrow
  rw [hl] at e h2
  refine ⟨g, c, e, h1, h2, h3, h4, fun j hj => ⟨?_, hrow.frozenAt j⟩⟩
  have := hrow.cellAt j (by rw [hl]; omega)
  rw [this]
  exact ⟨_, List.getElem?_eq_getElem (by simp only [List.length_map]; rw [hl]; exact hj)⟩
theorem Ph1.drew {B : Nat} {w : World} {us : List Value} {ls : List (List Int)} {K i : Nat} (h : Ph1 B w us ls K i) : Ph1 B w.drew us ls K i := h
theorem HV.drew {w : World} {v : Value} {us : List Value} (h : HV w v us) : HV w.drew v us := h
theorem HB.away {w w' : World} {u : Value} {l : List Int} {row : Option Nat} (h : HB w u l) (hg : w.grownBy w' row) (hr : u.ownBlock = none ∨ u.ownBlock ≠ row) : HB w' u l := by
  obtain ⟨⟨p, c, rfl, h2, h3, h6, h4⟩, h5⟩ := h
  refine ⟨⟨p, c, rfl, h2, h3, h6, fun hl => ?_⟩, h5⟩
  obtain ⟨b, off, rfl, hh⟩ := h4 hl
  refine ⟨b, off, rfl, fun j hj => hg.cell (hh j hj) ?_⟩
  rcases hr with hr | hr
  · simp [Value.ownBlock] at hr
  · exact hr
def Usf (w : World) (us : List Value) (ls : List (List Int)) : Prop :=
  (∀ i j, i < us.length → j < us.length → i ≠ j → (us.getD i undef).ownBlock = none ∨ (us.getD i undef).ownBlock ≠ (us.getD j undef).ownBlock) ∧
  (∀ j b, j < us.length → (us.getD j undef).ownBlock = some b → b < w.heap.size ∧ ∃ c, us.getD j undef = .slice (some ⟨b, 0, none⟩) (ls.getD j []).length c ∧ (ls.getD j []).length ≤ c ∧ c ≤ maxLen) ∧
  (∀ j, j < us.length → ∃ p c, us.getD j undef = .slice p (ls.getD j []).length c)
theorem Usf.grown {w w' : World} {us : List Value} {ls : List (List Int)} (h : Usf w us ls) (hs : w.heap.size ≤ w'.heap.size) : Usf w' us ls :=
  ⟨h.1, fun j b hj hb => ⟨Nat.lt_of_lt_of_le (h.2.1 j b hj hb).1 hs, (h.2.1 j b hj hb).2⟩, h.2.2⟩
def Pool (B : Nat) (w : World) (us : List Value) (ls : List (List Int)) (K L : Nat) (gl : List Value) : Prop :=
  gl.length = K ∧ Usf w us ls ∧
  (∀ j, j < K → w.ownsRow B 5 1 (gl.getD j undef) ((ls.getD j []).length + 70) ((marksL (j + 1) ((ls.getD j []).length + 70)).map (Value.int .u8)) ∧ HB w (us.getD j undef) (marksL (j + 1) (ls.getD j []).length)) ∧
  (∀ j, L ≤ j → j < us.length → w.ownsRow B 5 1 (us.getD j undef) (ls.getD j []).length ((marksL (j + 1) (ls.getD j []).length).map (Value.int .u8))) ∧
  (∀ i j, i < K → K ≤ j → j < us.length → (gl.getD i undef).ownBlock ≠ (us.getD j undef).ownBlock)
theorem Pool.grown {B : Nat} {w w' : World} {us : List Value} {ls : List (List Int)} {K L : Nat} {gl : List Value} {row : Option Nat} (h : Pool B w us ls K L gl) (hg : w.grownBy w' row)
    (hr1 : ∀ i, i < K → (gl.getD i undef).ownBlock = none ∨ (gl.getD i undef).ownBlock ≠ row) (hr2 : ∀ j, j < us.length → (j < K ∨ L ≤ j) → (us.getD j undef).ownBlock = none ∨ (us.getD j undef).ownBlock ≠ row) (hKL : K ≤ us.length) : Pool B w' us ls K L gl := by
  obtain ⟨h1, h2, h3, h4, h5⟩ := h
  refine ⟨h1, h2.grown hg.size, fun j hj => ⟨(h3 j hj).1.kept hg (hr1 j hj), (h3 j hj).2.away hg (hr2 j (by omega) (.inl hj))⟩, fun j hj hj2 => (h4 j hj hj2).kept hg (hr2 j hj2 (.inr hj)), h5⟩
def Cur (B : Nat) (w : World) (us : List Value) (ls : List (List Int)) (K : Nat) (gl : List Value) (g : Value) (m : Nat) : Prop :=
  Pool B w us ls K (K + 1) gl ∧ w.ownsRow B 5 1 g ((ls.getD K []).length + m) ((marksL (K + 1) ((ls.getD K []).length + m)).map (Value.int .u8)) ∧ HB w (us.getD K undef) (marksL (K + 1) (ls.getD K []).length) ∧
  (∀ i, i < K → (gl.getD i undef).ownBlock ≠ g.ownBlock) ∧ ∀ j, j < us.length → j ≠ K → (us.getD j undef).ownBlock = none ∨ (us.getD j undef).ownBlock ≠ g.ownBlock
theorem Cur.start {B : Nat} {w : World} {us : List Value} {ls : List (List Int)} {K : Nat} {gl : List Value} (h : Pool B w us ls K K gl) (hK : K < us.length) : Cur B w us ls K gl (us.getD K undef) 0 := by
  obtain ⟨h1, h2, h3, h4, h5⟩ := h
  have hk := h4 K (Nat.le_refl _) hK
  refine ⟨⟨h1, h2, h3, fun j hj => h4 j (by omega), h5⟩, by simpa using hk, HB.of_own (by rw [marksL_length]; exact hk) (marksL_byt _ _), fun i hi => h5 i K hi (Nat.le_refl _) hK, fun j hj hne => h2.1 j K hj hK hne⟩
theorem Cur.finish {B : Nat} {w : World} {us : List Value} {ls : List (List Int)} {K : Nat} {gl : List Value} {g : Value} (h : Cur B w us ls K gl g 70) (hK : K < us.length) : Pool B w us ls (K + 1) (K + 1) (gl ++ [g]) := by
  obtain ⟨⟨h1, h2, h3, h4, h5⟩, hg, hu, hs1, hs2⟩ := h
  have gd : ∀ j, (gl ++ [g]).getD j undef = if j < K then gl.getD j undef else if j = K then g else undef := by
    intro j
    rw [getD_app, h1]
    split
    · rfl
    · split
      · rename_i e; subst e; simp
      · rename_i h6 h7
        have : 0 < j - K := by omega
        obtain ⟨t, ht⟩ : ∃ t, j - K = t + 1 := ⟨j - K - 1, by omega⟩
        rw [ht]; rfl
  refine ⟨by simp [h1], h2, fun j hj => ?_, h4, fun i j hi hj hj2 => ?_⟩
  · rw [gd]
    by_cases hjk : j < K
    · rw [if_pos hjk]; exact h3 j hjk
    · have e : j = K := by omega
      subst e
      rw [if_neg hjk, if_pos rfl]
      exact ⟨hg, hu⟩
  · rw [gd]
    by_cases hik : i < K
    · rw [if_pos hik]; exact h5 i j hik (by omega) hj2
    · have e : i = K := by omega
      subst e
      rw [if_neg hik, if_pos rfl]
      rcases hs2 j hj2 (by omega) with h | h
      · rw [h]
        intro e
        rcases hg.2 with ⟨_, e2⟩ | ⟨g', cap, cur, e2, _⟩
        · omega
        · rw [e2] at e; simp [Value.ownBlock] at e
      · exact Ne.symm h
theorem Cur.alloc {B : Nat} {w : World} {us : List Value} {ls : List (List Int)} {K : Nat} {gl : List Value} {g : Value} {m : Nat} (h : Cur B w us ls K gl g m) (hK : K < us.length) (o : Obj) : Cur B (w.alloc o) us ls K gl g m := by
  have hg := World.grownBy_alloc w o none
  have tr : ∀ x : Option Nat, x = none ∨ x ≠ none := fun x => by cases x <;> simp
  exact ⟨h.1.grown hg (fun i _ => tr _) (fun j _ _ => tr _) (by omega), h.2.1.kept hg (tr _), h.2.2.1.away hg (tr _), h.2.2.2⟩
theorem Cur.step {B : Nat} {w w' : World} {us : List Value} {ls : List (List Int)} {K : Nat} {gl : List Value} {g g' : Value} {m : Nat} (h : Cur B w us ls K gl g m) (hK : K < us.length)
    (hown : w'.ownsRow B 5 1 g' ((ls.getD K []).length + m + 1) ((marksL (K + 1) ((ls.getD K []).length + m)).map (Value.int .u8) ++ [.int .u8 (mkB (K + 1) ((ls.getD K []).length + m))])) (hgr : w.grownBy w' g.ownBlock)
    (hd : g'.ownBlock = g.ownBlock ∨ (g'.ownBlock = some w.heap.size ∧ w.grownBy w' none)) : Cur B w' us ls K gl g' (m + 1) := by
  obtain ⟨hp, hg, hu, hs1, hs2⟩ := h
  have hp2 := hp
  obtain ⟨h1, h2, h3, h4, h5⟩ := hp2
  have hown2 : w'.ownsRow B 5 1 g' ((ls.getD K []).length + (m + 1)) ((marksL (K + 1) ((ls.getD K []).length + (m + 1))).map (Value.int .u8)) := by
    rw [← Nat.add_assoc, marksL_succ, List.map_append]
    exact hown
  have tr : ∀ x : Option Nat, x = none ∨ x ≠ none := fun x => by cases x <;> simp
  have hpool : Pool B w' us ls K (K + 1) gl := hp.grown hgr (fun i hi => .inr (hs1 i hi)) (fun j hj hj2 => hs2 j hj (by omega)) (by omega)
  rcases hd with hd | ⟨hd, hgn⟩
  · refine ⟨hpool, hown2, ?_, fun i hi => by rw [hd]; exact hs1 i hi, fun j hj hne => by rw [hd]; exact hs2 j hj hne⟩
    by_cases hsame : (us.getD K undef).ownBlock = none ∨ (us.getD K undef).ownBlock ≠ g.ownBlock
    · exact hu.away hgr hsame
    · obtain ⟨b, hb⟩ : ∃ b, (us.getD K undef).ownBlock = some b := by
        cases hx : (us.getD K undef).ownBlock with
        | none => exact absurd (.inl hx) hsame
        | some b => exact ⟨b, rfl⟩
      have hbg : g.ownBlock = some b := by
        apply Classical.byContradiction
        intro hn
        exact hsame (.inr (by rw [hb]; exact Ne.symm hn))
      obtain ⟨_, c, e, hc1, hc2⟩ := h2.2.1 K b hK hb
      rw [e]
      refine ⟨⟨some ⟨b, 0, none⟩, c, by rw [marksL_length], by rw [marksL_length]; exact hc1, hc2, (fun e => by cases e), fun _ => ⟨b, 0, rfl, fun j hj => ?_⟩⟩, marksL_byt _ _⟩
      rw [marksL_length] at hj
      obtain ⟨g2, cap, e2, _, _, _, hcell⟩ := ownsRow_cells hown2 (by omega)
      rw [hbg, e2] at hd
      simp only [Value.ownBlock, Option.some.injEq] at hd
      subst hd
      have hjl : j < (marksL (K + 1) ((ls.getD K []).length + (m + 1))).length := by rw [marksL_length]; omega
      have := hcell j (.int .u8 (mkB (K + 1) j)) (by
        rw [List.getElem?_map, List.getElem?_eq_getElem hjl, ← getD_of_lt hjl, marksL_getD _ _ _ (by omega)]; rfl)
      rw [this, marksL_getD _ _ _ hj]
  · refine ⟨hpool, hown2, hu.away hgn (tr _), fun i hi => ?_, fun j hj hne => ?_⟩
    · rw [hd]
      intro e
      have := ((h3 i hi).1.lt _ e).2
      omega
    · rw [hd]
      right
      intro e
      have := (h2.2.1 j _ hj e).1
      omega
theorem Ph1.pool {B : Nat} {w : World} {us : List Value} {ls : List (List Int)} (h : Ph1 B w us ls us.length 0) : Pool B w us ls 0 0 [] := by
  obtain ⟨ms, ha, hl, hd, _⟩ := h
  refine ⟨rfl, ⟨ha.2.2, fun j b hj hb => ?_, fun j hj => ?_⟩, fun j hj => by omega, fun j _ hj => ?_, fun i j hi => by omega⟩
  · have hrow := ha.2.1 j hj
    refine ⟨(hrow.lt b hb).2, ?_⟩
    rcases hrow.2 with ⟨e, _⟩ | ⟨g, cap, cur, e, _, _, h1, h2, _⟩
    · rw [e] at hb; simp [Value.ownBlock] at hb
    · rw [e] at hb
      simp only [Value.ownBlock, Option.some.injEq] at hb
      subst hb
      rw [hl] at e h1
      exact ⟨cap, e, h1, h2⟩
  · obtain ⟨p, c, e⟩ := ha.slice j hj
    rw [hl] at e
    exact ⟨p, c, e⟩
  · have := ha.2.1 j hj
    rw [hd j hj, marksL_length] at this
    exact this
theorem HV.apart {w w' : World} {v : Value} {us : List Value} {row : Option Nat} {N : Nat} (h : HV w v us) (hg : w.grownBy w' row) (hr : ∀ g, row = some g → N ≤ g) (hv : ∀ b off n c, v = .slice (some ⟨b, off, none⟩) n c → 0 < us.length → b < N) : HV w' v us := by
  obtain ⟨p, c, h1, h2, h3, h4⟩ := h
  refine ⟨p, c, h1, h2, h3, fun hne => ?_⟩
  obtain ⟨b, off, e, ⟨cur, fz, hh⟩, hc⟩ := h4 hne
  have hb : b < N := hv b off us.length c (by rw [h1, e]) (by cases us with | nil => exact absurd rfl hne | cons _ _ => simp)
  have hne2 : some b ≠ row := fun e => by have := hr b e.symm; omega
  exact ⟨b, off, e, ⟨cur, fz, by rw [hg.block b (Array.getElem?_eq_some_iff.1 hh).1 hne2]; exact hh⟩, fun k hk => hg.cell (hc k hk) hne2⟩
theorem HV.cellAt {w : World} {b off n c : Nat} {us : List Value} (h : HV w (.slice (some ⟨b, off, none⟩) n c) us) (k : Nat) (hk : k < us.length) : w.cell? ⟨b, off + k, none⟩ = some (us.getD k undef) := by
  obtain ⟨p', c', e', _, _, h4⟩ := h
  obtain ⟨b', off', e2, _, hc⟩ := h4 (by intro e; subst e; simp at hk)
  simp only [Value.slice.injEq] at e'
  rw [← e'.1] at e2
  simp only [Option.some.injEq, Addr.mk.injEq, and_true] at e2
  obtain ⟨rfl, rfl⟩ := e2
  exact hc k hk
set_option maxHeartbeats 4000000 in
theorem apart_any (B : Nat) (w : World) (v : Value) (us : List Value) (ls : List (List Int)) (hv : HV w v us) (ha : Apt B w us ls) (hB : B ≤ w.heap.size) (hn : us.length ≤ 5864062014634) (hls : ∀ k, (ls.getD k []).length ≤ 140737488351232) :
    Calls Tryd.prog 14 #[v] w fun e w' => e = .returned (.bool true) ∧ Below B w w' := by
  obtain ⟨p, c, e, hlc, hm, hcell⟩ := id hv
  unfold maxLen at hm
  subst e
  have A : Hid (0 < us.length → ∃ b off, p = some ⟨b, off, none⟩) := fun h0 => by
    obtain ⟨b, off, e, _⟩ := hcell (by intro e; subst e; simp at h0)
    exact ⟨b, off, e⟩
  have HV0 := hid hv
  have HA0 := hid (Ph1.start ha)
  have HLS := hid hls
  clear hcell hv ha hls
  go_enter Tryd.func14, Tryd.ntmps14
  go_wp2
  go_loopw [3] (fun k wr => ∃ K : Nat, K ≤ us.length ∧ k = .int .i64 K ∧ Hid (Ph1 B wr us ls K 0) ∧ Hid (HV wr (.slice p us.length c) us) ∧ Hid (Below B w wr)) (fun k _ => us.length - (intOf k).toNat)
  case atStart => exact ⟨0, Nat.zero_le _, rfl, HA0, HV0, Below.refl _ _⟩
  case round =>
    clear HA0 HV0
    obtain ⟨K, hK, rfl, HP, HVr, HBr⟩ := hrel
    by_cases hlt : K < us.length
    · obtain ⟨b, off, rfl⟩ := A.out (by omega)
      have hcells : Hid (∀ wz, HV wz (.slice (some ⟨b, off, none⟩) us.length c) us → wz.cell? ⟨b, off + K, none⟩ = some (us.getD K undef)) := by
        intro wz hz
        obtain ⟨p', c', e', _, _, h4⟩ := hz
        obtain ⟨b', off', e2, _, hc⟩ := h4 (by intro e; subst e; simp at hlt)
        simp only [Value.slice.injEq, true_and] at e'
        rw [← e'.1] at e2
        simp only [Option.some.injEq, Addr.mk.injEq, and_true] at e2
        obtain ⟨rfl, rfl⟩ := e2
        exact hc K hlt
      obtain ⟨n, HN⟩ : ∃ n, Hid ((ls.getD K []).length = n) := ⟨_, rfl⟩
      have hn2 : n ≤ 140737488351232 := by rw [← HN.out]; exact HLS.out K
      obtain ⟨pk, ck, HU⟩ : ∃ pk ck, Hid (us.getD K undef = .slice pk n ck) := by
        obtain ⟨pk, ck, e⟩ := HP.out.slice K hlt
        rw [HN.out] at e
        exact ⟨pk, ck, e⟩
      go_wp2
      go_loopw [4] (fun i wz => ∃ I : Nat, I ≤ n ∧ i = .int .i64 I ∧ Hid (Ph1 B wz us ls K I) ∧ Hid (HV wz (.slice (some ⟨b, off, none⟩) us.length c) us) ∧ Hid (Below B w wz)) (fun i _ => n - (intOf i).toNat)
      case atStart => exact ⟨0, Nat.zero_le _, rfl, HP, HVr, HBr⟩
      case round =>
        clear HP HVr HBr
        obtain ⟨I, hI, rfl, HP, HVr, HBr⟩ := hrel
        have hc1 := hcells.out wr HVr.out
        rw [HU.out] at hc1
        by_cases hli : I < n
        · obtain ⟨g, ck', e, hck, hck2, hgB, hBT, hcc⟩ := HP.out.some K hlt (by rw [HN.out]; omega)
          rw [HU.out, HN.out] at e
          simp only [Value.slice.injEq, true_and] at e
          obtain ⟨rfl, rfl⟩ := e
          obtain ⟨⟨z, hz⟩, hfz⟩ := hcc I (by rw [HN.out]; exact hli)
          rw [HN.out] at hck2
          unfold maxLen at hck
          have HBT := hid hBT
          have hgb : b ≠ g := (HVr.out.block (by omega)).ne hBT (by decide)
          have hbg : g ≠ b := Ne.symm hgb
          clear hcc hBT
          go_wp2
          go_region_held3 (fun w' => w'.cell? ⟨b, off + K, none⟩ = some (.slice (some ⟨g, 0, none⟩) n ck)) (go_keep) ((go_at_call 39; refine (mark_eq _ (K + 1) I _ _ (wrap_succ K (by omega)) rfl (by omega) (by omega)).mono ?_; rintro e wz ⟨rfl, hw⟩; have hw' := hw.symm; subst hw'; clear hw))
          have hst := HP.out.step hlt (by rw [HN.out]; exact hli) HU.out
          have HP2 := hid hst.1.drew
          have HV2 := hid (HVr.out.grown hst.2 (fun g' e => by cases e; exact HBT.out)).drew
          have HB2 := hid (HBr.out.setCell (p := ⟨g, I, none⟩) hgB (.int .u8 (mkB (K + 1) I))).drew
          clear hst
          go_wp2
          exact ⟨⟨I + 1, by omega, by go_num, HP2, HV2, HB2⟩, by simp [intOf]; omega⟩
        · have HP2 := hid (HP.out.next (by rw [HN.out]; omega))
          go_wp2
          exact ⟨⟨K + 1, by omega, by go_num, HP2, HVr, HBr⟩, by simp [intOf]; omega⟩
    · have hKn : K = us.length := by omega
      have HPl : Hid (Pool B wr us ls 0 0 []) := by
        have := HP.out
        rw [hKn] at this
        exact this.pool
      obtain ⟨N, HN⟩ : ∃ N, Hid (wr.heap.size = N) := ⟨_, rfl⟩
      have HNu : Hid (∀ j b, j < us.length → (us.getD j undef).ownBlock = some b → b < N) := fun j b hj hb => by rw [← HN.out]; exact (HPl.out.2.1.2.1 j b hj hb).1
      have HNv : Hid (∀ b off n c', Value.slice p us.length c = .slice (some ⟨b, off, none⟩) n c' → 0 < us.length → b < N) := fun b off n c' e h0 => by
        rw [← HN.out]
        have h1 := HVr.out
        rw [e] at h1
        obtain ⟨cur, fz, hh⟩ := h1.block h0
        exact (Array.getElem?_eq_some_iff.1 hh).1
      have HNB : Hid (B ≤ N) := by rw [← HN.out]; exact Nat.le_trans hB HBr.out.size
      have HNs : Hid (N ≤ wr.heap.size) := by rw [HN.out]; exact Nat.le_refl N
      clear HP hKn HN
      go_wp2
      go_loopw [5, 6] (fun gs k wz => ∃ (K : Nat) (gl : List Value), K ≤ us.length ∧ k = .int .i64 K ∧ Hid (Pool B wz us ls K K gl) ∧ Hid (wz.ownsRow N 32 1 gs K gl) ∧ Hid (HV wz (.slice p us.length c) us) ∧ Hid (Below B w wz) ∧ Hid (N ≤ wz.heap.size)) (fun _ k _ => us.length - (intOf k).toNat)
      case atStart => exact ⟨0, [], Nat.zero_le _, rfl, HPl, World.ownsRow_nil _ _ _ _, HVr, HBr, HNs⟩
      case round =>
        clear HPl HVr HBr HNs hlt hK
        obtain ⟨K, gl, hK, rfl, HP, HG, HVr, HBr, HNs⟩ := hrel
        by_cases hlt : K < us.length
        · obtain ⟨b, off, rfl⟩ := A.out (by omega)
          obtain ⟨n, HNn⟩ : ∃ n, Hid ((ls.getD K []).length = n) := ⟨_, rfl⟩
          have hn2 : n ≤ 140737488351232 := by rw [← HNn.out]; exact HLS.out K
          obtain ⟨pk, ck, HU⟩ : ∃ pk ck, Hid (us.getD K undef = .slice pk n ck) := by
            obtain ⟨pk, ck, e⟩ := HP.out.2.1.2.2 K hlt
            rw [HNn.out] at e
            exact ⟨pk, ck, e⟩
          have hc1 := HVr.out.cellAt K hlt
          rw [HU.out] at hc1
          have HC := hid (Cur.start HP.out hlt)
          rw [HU.out] at HC
          go_wp2
          go_loopw [7, 8] (fun g i wz => ∃ m : Nat, m ≤ 70 ∧ i = .int .i64 m ∧ Hid (Cur B wz us ls K gl g m) ∧ Hid (wz.ownsRow N 32 1 u5 K gl) ∧ Hid (HV wz (.slice (some ⟨b, off, none⟩) us.length c) us) ∧ Hid (Below B w wz) ∧ Hid (N ≤ wz.heap.size)) (fun _ i _ => 70 - (intOf i).toNat)
          case atStart => exact ⟨0, Nat.zero_le _, rfl, HC, HG, HVr, HBr, HNs⟩
          case round =>
            clear HC HG HVr HBr HNs hc1
            obtain ⟨m, hm70, rfl, HC, HG, HVr, HBr, HNs⟩ := hrel
            have hc1 := HVr.out.cellAt K hlt
            rw [HU.out] at hc1
            by_cases hlm : m < 70
            · have hlm2 : (m : Int) < 70 := by omega
              go_wp2_with fail
              refine (mark_eq wr (K + 1) (n + m) _ _ (by omega) (by omega) (by omega) (by omega)).mono ?_
              rintro e wz ⟨rfl, hw⟩
              have hw' := hw.symm
              subst hw'
              clear hw
              have HCa := hid (HC.out.alloc hlt (.cells #[.int .u8 (mkB (K + 1) (n + m))] 5))
              have HO := HCa.out.2.1
              rw [HNn.out] at HO
              have HOh := hid HO
              clear HO
              go_wp2_with (at_builtin; refine wpList_append_byte rfl _ _ rfl B _ (n + m) _ rfl HOh.out ⟨wr.heap.size, 0, none⟩ 1 (mkB (K + 1) (n + m)) rfl (by simp) ?q1 ?q2 ?_)
              case q1 => omega
              case q2 => have := HBr.out.size; simp; omega
              intro g' w2 hown2 hgr2 hd2
              have hBT := own_BT HOh.out
              have hal := World.grownBy_alloc wr (.cells #[.int .u8 (mkB (K + 1) (n + m))] 5) none
              have HC2 := hid (HCa.out.step hlt (by rw [HNn.out]; exact hown2) hgr2 (by rw [World.size_alloc]; exact hd2))
              have HG2 : Hid (w2.ownsRow N 32 1 u5 K gl) := by
                have h1 := HG.out.alloc (.cells #[.int .u8 (mkB (K + 1) (n + m))] 5)
                refine h1.kept hgr2 ?_
                cases hx : u7.ownBlock with
                | none => cases hy : u5.ownBlock <;> simp
                | some q =>
                  obtain ⟨cur, fz, hh⟩ := hBT q hx
                  exact .inr (own_block_ne h1 hh (by decide))
              have HV2 := hid ((HVr.out.grown hal (fun g e => by cases e)).grown hgr2 hBT)
              have HB2 := hid ((HBr.out.alloc (Nat.le_trans hB HBr.out.size) (.cells #[.int .u8 (mkB (K + 1) (n + m))] 5)).grown hgr2 (by have := HBr.out.size; simp; omega) (fun k e => (HOh.out.lt k e).1))
              have HN2 : Hid (N ≤ w2.heap.size) := by have h1 := hgr2.size; have h2 := HNs.out; simp at h1; exact Nat.le_trans h2 (by omega)
              clear hown2 hgr2 hd2 hBT hal
              go_wp2
              exact ⟨⟨m + 1, by omega, by go_num, HC2, HG2, HV2, HB2, HN2⟩, by simp [intOf]; omega⟩
            · have e70 : m = 70 := by omega
              subst e70
              have HPn := hid (HC.out.finish hlt)
              have HOg := HC.out.2.1
              rw [HNn.out] at HOg
              obtain ⟨pg, cg, eg, _, _⟩ : ∃ pg cg, u7 = .slice pg (n + 70) cg ∧ True ∧ True := by
                rcases HOg.2 with ⟨_, e⟩ | ⟨g', cap, cur, e, _⟩
                · omega
                · exact ⟨_, _, e, trivial, trivial⟩
              subst eg
              obtain ⟨i0, hi, hz0, hz1, hz2⟩ := info_parts info_bytes
              have HGa := hid (HG.out.alloc (.cells #[.slice pg (n + 70) cg] 32))
              have hal := World.grownBy_alloc wr (.cells #[.slice pg (n + 70) cg] 32) none
              have tr : ∀ x : Option Nat, x = none ∨ x ≠ none := fun x => by cases x <;> simp
              have HPa := hid (HPn.out.grown hal (fun i _ => tr _) (fun j _ _ => tr _) (by omega))
              have HVa := hid (HVr.out.grown hal (fun g e => by cases e))
              have HBa := hid (HBr.out.alloc (Nat.le_trans hB HBr.out.size) (.cells #[.slice pg (n + 70) cg] 32))
              clear HOg tr hal
              go_wp2_with (at_builtin; refine wpList_append_own _ rfl _ _ 27 rfl N 32 i0 (.slice none 0 0) 1 24 Tryd.underlying27 hi hz0 hz1 hz2 rfl (by decide) _ K gl rfl HGa.out ⟨wr.heap.size, 0, none⟩ 1 1 [_] rfl rfl (cell_one_new _ _ _) ?q1 ?q2 ?q3 ?q4 ?_)
              case q1 => intro u hu; simp only [List.mem_singleton] at hu; subst hu; rfl
              case q2 => unfold maxLen; omega
              case q3 => omega
              case q4 => have := HNs.out; simp; omega
              intro gs' w2 hown2 hgr2 _
              have hlo : ∀ g, u5.ownBlock = some g → N ≤ g := fun g e => (HGa.out.lt g e).1
              have HP2 : Hid (Pool B w2 us ls (K + 1) (K + 1) (gl ++ [.slice pg (n + 70) cg])) := by
                refine HPa.out.grown hgr2 (fun i hi => ?_) (fun j hj _ => ?_) (by omega)
                · cases hx : u5.ownBlock with
                  | none => cases hy : ((gl ++ [Value.slice pg (n + 70) cg]).getD i undef).ownBlock <;> simp
                  | some q =>
                    obtain ⟨cur, fz, hh⟩ := own_BT HGa.out q hx
                    exact .inr (own_block_ne (HPa.out.2.2.1 i hi).1 hh (by decide))
                · cases hx : (us.getD j undef).ownBlock with
                  | none => exact .inl rfl
                  | some q =>
                    right
                    intro e
                    have h1 := HNu.out j q hj hx
                    have h2 := hlo q e.symm
                    omega
              have HV2 := hid (HVa.out.apart hgr2 hlo HNv.out)
              have HB2 := hid (HBa.out.grown hgr2 (by have := HBr.out.size; simp; omega) (fun k e => Nat.le_trans HNB.out (hlo k e)))
              have HG2 : Hid (w2.ownsRow N 32 1 gs' (K + 1) (gl ++ [.slice pg (n + 70) cg])) := hown2
              have HN2 : Hid (N ≤ w2.heap.size) := by have h1 := hgr2.size; have h2 := HNs.out; simp at h1; exact Nat.le_trans h2 (by omega)
              clear hown2 hgr2 hlo
              go_wp2
              exact ⟨⟨K + 1, _, by omega, by go_num, HP2, HG2, HV2, HB2, HN2⟩, by simp [intOf]; omega⟩
        · have hKn : K = us.length := by omega
          subst hKn
          obtain ⟨pg, cg, eg⟩ : ∃ pg cg, u5 = .slice pg us.length cg := by
            rcases HG.out.2 with ⟨e, e2⟩ | ⟨g', cap, cur, e, _⟩
            · exact ⟨none, 0, by rw [e, e2]⟩
            · exact ⟨_, _, e⟩
          subst eg
          go_wp2
          go_loop [9] (fun k => ∃ Q : Nat, Q ≤ us.length ∧ k = .int .i64 Q) (fun k => us.length - (intOf k).toNat)
          case atStart => exact ⟨0, Nat.zero_le _, rfl⟩
          case round =>
            obtain ⟨Q, hQ, rfl⟩ := hrel
            by_cases hlq : Q < us.length
            · obtain ⟨b, off, rfl⟩ := A.out (by omega)
              obtain ⟨n, HNn⟩ : ∃ n, Hid ((ls.getD Q []).length = n) := ⟨_, rfl⟩
              have hn2 : n ≤ 140737488351232 := by rw [← HNn.out]; exact HLS.out Q
              have hc1 := HVr.out.cellAt Q hlq
              obtain ⟨hrow, hu⟩ := HP.out.2.2.1 Q hlq
              rw [HNn.out] at hrow hu
              obtain ⟨pk, ck, HU⟩ : ∃ pk ck, Hid (us.getD Q undef = .slice pk n ck) := by
                obtain ⟨pk, ck, e⟩ := HP.out.2.1.2.2 Q hlq
                rw [HNn.out] at e
                exact ⟨pk, ck, e⟩
              rw [HU.out] at hc1 hu
              obtain ⟨gg, capg, eg, _, hcg1, hcg2, hgc⟩ := ownsRow_cells HG.out (by omega)
              simp only [Value.slice.injEq, true_and] at eg
              obtain ⟨rfl, rfl⟩ := eg
              have hgl : gl.length = us.length := HP.out.1
              have hc2 := hgc Q (gl.getD Q undef) (by simp [List.getD, List.getElem?_eq_getElem (show Q < gl.length by omega)])
              rw [Nat.zero_add] at hc2
              obtain ⟨gq, capq, eq, _, hq1, hq2, hqc⟩ := ownsRow_cells hrow (by omega)
              rw [eq] at hc2
              have HQ : Hid (∀ I, I < n + 70 → wr.cell? ⟨gq, I, none⟩ = some (.int .u8 (mkB (Q + 1) I))) := fun I hI => by
                have hjl : I < (marksL (Q + 1) (n + 70)).length := by rw [marksL_length]; exact hI
                have := hqc I (.int .u8 (mkB (Q + 1) I)) (by rw [List.getElem?_map, List.getElem?_eq_getElem hjl, ← getD_of_lt hjl, marksL_getD _ _ _ hI]; rfl)
                rwa [Nat.zero_add] at this
              have HUc : Hid (∀ I, I < n → ∃ b' off', pk = some ⟨b', off', none⟩ ∧ wr.cell? ⟨b', off' + I, none⟩ = some (.int .u8 (mkB (Q + 1) I)) ∧ n ≤ ck) := fun I hI => by
                obtain ⟨b', off', c', e, h1, h2, hh⟩ := hu.ne (by rw [marksL_length]; omega)
                rw [marksL_length] at e hh h1
                simp only [Value.slice.injEq, true_and] at e
                obtain ⟨rfl, rfl⟩ := e
                have := hh I hI
                rw [marksL_getD _ _ _ hI] at this
                exact ⟨b', off', rfl, this, h1⟩
              unfold maxLen at hcg2 hq2
              clear hrow hu hgc hqc eq hgl
              go_wp2
              go_loop [10] (fun i => ∃ I : Nat, I ≤ n + 70 ∧ i = .int .i64 I) (fun i => n + 70 - (intOf i).toNat)
              case atStart => exact ⟨0, Nat.zero_le _, rfl⟩
              case round =>
                obtain ⟨I, hI, rfl⟩ := hrel
                by_cases hli : I < n + 70
                · have hx1 := HQ.out I hli
                  have hli2 : (I : Int) < (n : Int) + 70 := by omega
                  go_wp2_with fail
                  refine (mark_eq wr (Q + 1) I _ _ (by omega) rfl (by omega) (by omega)).mono ?_
                  rintro e wz ⟨rfl, hw⟩
                  have hw' := hw.symm
                  subst hw'
                  clear hw
                  obtain ⟨x, HX⟩ : ∃ x, Hid (mkB (Q + 1) I = x) := ⟨_, rfl⟩
                  rw [HX.out] at hx1 ⊢
                  have hxx : (x != x) = false := by simp
                  by_cases hln : I < n
                  · have hdn : decide ((I : Int) < (n : Int)) = true := by simp; omega
                    have hln2 : (I : Int) < (n : Int) := by omega
                    obtain ⟨b', off', rfl, hx2, _⟩ := HUc.out I hln
                    rw [HX.out] at hx2
                    go_wp2
                    exact ⟨⟨I + 1, by omega, by go_num⟩, by simp [intOf]; omega⟩
                  · have hdn : decide ((I : Int) < (n : Int)) = false := by simp; omega
                    go_wp2
                    exact ⟨⟨I + 1, by omega, by go_num⟩, by simp [intOf]; omega⟩
                · have hli2 : ¬ ((I : Int) < (n : Int) + 70) := by omega
                  go_wp2
                  exact ⟨⟨Q + 1, by omega, by go_num⟩, by simp [intOf]; omega⟩
            · go_wp2
              go_ret
              exact ⟨rfl, HBr.out⟩
end Go.Proofs.YtinahldjpobigaaDoor
namespace Go.Proofs.YtinahldjpobigaaDoor
open Go Go.RowKit
theorem HV.three (w : World) (a b c : Value) : HV (w.alloc (.cells #[a, b, c] 32)) (.slice (some ⟨w.heap.size, 0, none⟩) 3 3) [a, b, c] := by
  refine ⟨_, _, rfl, by simp, by decide, fun _ => ⟨w.heap.size, 0, rfl, ⟨_, _, heap_alloc_new w _⟩, fun k hk => ?_⟩⟩
  match k, hk with
  | 0, _ => simp
  | 1, _ => simp
  | 2, _ => simp
theorem lent_part {w : World} {B : Nat} {v : Value} {l : List Int} (h : w.ownsRow B 5 1 v (lent l).length ((lent l).map (Value.int .u8))) (hby : ∀ x ∈ l, 0 ≤ x ∧ x < 256) :
    ∃ g c, v = .slice (some ⟨g, 0, none⟩) (l.length + 70) c ∧ B ≤ g ∧ g < w.heap.size ∧ l.length + 70 ≤ c ∧ c ≤ 9223372036854775807 ∧ HB w (.slice (some ⟨g, 0, none⟩) l.length c) l ∧ HB w (.slice (some ⟨g, 0, none⟩) (l.length + 70) c) (lent l) := by
  have hf := HB.of_own h (lent_byt hby)
  have hll := lent_length l
  rcases h.2 with ⟨_, e0⟩ | ⟨g, cap, cur, rfl, hb, hh, hn, hm, _⟩
  · omega
  · unfold maxLen at hm
    refine ⟨g, cap, by rw [hll], hb, (Array.getElem?_eq_some_iff.1 hh).1, by omega, hm, ?_, by rw [hll] at hf; exact hf⟩
    have h3 := hf.sliced 0 l.length cap (Nat.zero_le _) (by omega) (by omega) (Nat.le_refl _)
    rw [lent_take] at h3
    have e : (if cap = 0 then (some (⟨g, 0, none⟩ : Addr)) else (some (⟨g, 0, none⟩ : Addr)).map (·.add 0)) = some ⟨g, 0, none⟩ := by
      split
      · rfl
      · simp [Addr.add]
    rw [e] at h3
    simpa using h3
theorem own_pre {w : World} {B g n c : Nat} {l : List Int} (h : w.ownsRow B 5 1 (.slice (some ⟨g, 0, none⟩) n c) l.length (l.map (Value.int .u8))) (hl : ∀ x ∈ l, 0 ≤ x ∧ x < 256) (m : Nat) (hm : m ≤ l.length) (hmc : m ≤ c) : HB w (.slice (some ⟨g, 0, none⟩) m c) (l.take m) := by
  have hf := HB.of_own h hl
  obtain ⟨p, c', e, h1, h2⟩ := hf.open
  simp only [Value.slice.injEq] at e
  obtain ⟨rfl, rfl, rfl⟩ := e
  have h3 := hf.sliced 0 m c (Nat.zero_le _) hm (by omega) (Nat.le_refl _)
  have e : (if c = 0 then (some (⟨g, 0, none⟩ : Addr)) else (some (⟨g, 0, none⟩ : Addr)).map (·.add 0)) = some ⟨g, 0, none⟩ := by
    split
    · rfl
    · simp [Addr.add]
  rw [e] at h3
  simpa using h3
theorem own_other {w w' : World} {B n g : Nat} {e : TypeId} {v : Value} {xs : List Value} (h : w.ownsRow B e 1 v n xs) (hg : w.grownBy w' (some g)) (hb : g < B) : w'.ownsRow B e 1 v n xs :=
  h.kept hg (by
    rcases none_or v.ownBlock with q | q
    · exact .inl q
    · exact .inr fun e => by have := (h.lt g e).1; omega)
theorem HB.other {w w' : World} {u : Value} {l : List Int} {g : Nat} (h : HB w u l) (hg : w.grownBy w' (some g)) (hr : u.ownBlock = none ∨ u.ownBlock ≠ some g) : HB w' u l := h.away hg hr
end Go.Proofs.YtinahldjpobigaaDoor
namespace Go.Proofs.YtinahldjpobigaaDoor
open Go.RowKit
theorem rot_bits2 (x n : Nat) (hx : x < 4294967296) : bits .or .u32 ((x : Int) / 2 ^ n) (IntKind.u32.wrap ((x : Int) * 2 ^ (32 - n))) = ((rot x n : Nat) : Int) := by
  have e1 : IntKind.u32.wrap ((x : Int) * 2 ^ (32 - n)) = ((x * 2 ^ (32 - n) % 4294967296 : Nat) : Int) := by
    rw [IntKind.wrap_u32, Int.natCast_emod, Int.natCast_mul, Int.natCast_pow]
    rfl
  have e2 : (x : Int) / 2 ^ n = ((x / 2 ^ n : Nat) : Int) := by rw [Int.natCast_ediv, Int.natCast_pow]; rfl
  rw [e1, e2, u32_or_nat _ _ (Nat.lt_of_le_of_lt (Nat.div_le_self _ _) hx) (Nat.mod_lt _ (by decide)), Nat.or_comm]
  rfl
set_option maxRecDepth 100000 in
set_option maxHeartbeats 1000000 in
theorem rturn_6 (w : World) (x : Nat) (hx : x < 4294967296) : Calls Tryd.prog 32 #[.int .u32 (x : Int), .int .u64 6] w fun e w' => e = .returned (.int .u32 ((rot x 6 : Nat) : Int)) ∧ w' = w := by
  have HR := hid (rot_bits2 x 6 hx)
  go_enter Tryd.func32, Tryd.ntmps32
  go_wp2
  go_ret
  refine ⟨?_, rfl⟩
  rw [← HR.out]
  rfl
set_option maxRecDepth 100000 in
set_option maxHeartbeats 1000000 in
theorem rturn_11 (w : World) (x : Nat) (hx : x < 4294967296) : Calls Tryd.prog 32 #[.int .u32 (x : Int), .int .u64 11] w fun e w' => e = .returned (.int .u32 ((rot x 11 : Nat) : Int)) ∧ w' = w := by
  have HR := hid (rot_bits2 x 11 hx)
  go_enter Tryd.func32, Tryd.ntmps32
  go_wp2
  go_ret
  refine ⟨?_, rfl⟩
  rw [← HR.out]
  rfl
set_option maxRecDepth 100000 in
set_option maxHeartbeats 1000000 in
theorem rturn_25 (w : World) (x : Nat) (hx : x < 4294967296) : Calls Tryd.prog 32 #[.int .u32 (x : Int), .int .u64 25] w fun e w' => e = .returned (.int .u32 ((rot x 25 : Nat) : Int)) ∧ w' = w := by
  have HR := hid (rot_bits2 x 25 hx)
  go_enter Tryd.func32, Tryd.ntmps32
  go_wp2
  go_ret
  refine ⟨?_, rfl⟩
  rw [← HR.out]
  rfl
set_option maxRecDepth 100000 in
set_option maxHeartbeats 1000000 in
theorem rturn_2 (w : World) (x : Nat) (hx : x < 4294967296) : Calls Tryd.prog 32 #[.int .u32 (x : Int), .int .u64 2] w fun e w' => e = .returned (.int .u32 ((rot x 2 : Nat) : Int)) ∧ w' = w := by
  have HR := hid (rot_bits2 x 2 hx)
  go_enter Tryd.func32, Tryd.ntmps32
  go_wp2
  go_ret
  refine ⟨?_, rfl⟩
  rw [← HR.out]
  rfl
set_option maxRecDepth 100000 in
set_option maxHeartbeats 1000000 in
theorem rturn_13 (w : World) (x : Nat) (hx : x < 4294967296) : Calls Tryd.prog 32 #[.int .u32 (x : Int), .int .u64 13] w fun e w' => e = .returned (.int .u32 ((rot x 13 : Nat) : Int)) ∧ w' = w := by
  have HR := hid (rot_bits2 x 13 hx)
  go_enter Tryd.func32, Tryd.ntmps32
  go_wp2
  go_ret
  refine ⟨?_, rfl⟩
  rw [← HR.out]
  rfl
set_option maxRecDepth 100000 in
set_option maxHeartbeats 1000000 in
theorem rturn_22 (w : World) (x : Nat) (hx : x < 4294967296) : Calls Tryd.prog 32 #[.int .u32 (x : Int), .int .u64 22] w fun e w' => e = .returned (.int .u32 ((rot x 22 : Nat) : Int)) ∧ w' = w := by
  have HR := hid (rot_bits2 x 22 hx)
  go_enter Tryd.func32, Tryd.ntmps32
  go_wp2
  go_ret
  refine ⟨?_, rfl⟩
  rw [← HR.out]
  rfl
set_option maxRecDepth 100000 in
set_option maxHeartbeats 1000000 in
theorem rturn_7 (w : World) (x : Nat) (hx : x < 4294967296) : Calls Tryd.prog 32 #[.int .u32 (x : Int), .int .u64 7] w fun e w' => e = .returned (.int .u32 ((rot x 7 : Nat) : Int)) ∧ w' = w := by
  have HR := hid (rot_bits2 x 7 hx)
  go_enter Tryd.func32, Tryd.ntmps32
  go_wp2
  go_ret
  refine ⟨?_, rfl⟩
  rw [← HR.out]
  rfl
set_option maxRecDepth 100000 in
set_option maxHeartbeats 1000000 in
theorem rturn_18 (w : World) (x : Nat) (hx : x < 4294967296) : Calls Tryd.prog 32 #[.int .u32 (x : Int), .int .u64 18] w fun e w' => e = .returned (.int .u32 ((rot x 18 : Nat) : Int)) ∧ w' = w := by
  have HR := hid (rot_bits2 x 18 hx)
  go_enter Tryd.func32, Tryd.ntmps32
  go_wp2
  go_ret
  refine ⟨?_, rfl⟩
  rw [← HR.out]
  rfl
set_option maxRecDepth 100000 in
set_option maxHeartbeats 1000000 in
theorem rturn_17 (w : World) (x : Nat) (hx : x < 4294967296) : Calls Tryd.prog 32 #[.int .u32 (x : Int), .int .u64 17] w fun e w' => e = .returned (.int .u32 ((rot x 17 : Nat) : Int)) ∧ w' = w := by
  have HR := hid (rot_bits2 x 17 hx)
  go_enter Tryd.func32, Tryd.ntmps32
  go_wp2
  go_ret
  refine ⟨?_, rfl⟩
  rw [← HR.out]
  rfl
set_option maxRecDepth 100000 in
set_option maxHeartbeats 1000000 in
theorem rturn_19 (w : World) (x : Nat) (hx : x < 4294967296) : Calls Tryd.prog 32 #[.int .u32 (x : Int), .int .u64 19] w fun e w' => e = .returned (.int .u32 ((rot x 19 : Nat) : Int)) ∧ w' = w := by
  have HR := hid (rot_bits2 x 19 hx)
  go_enter Tryd.func32, Tryd.ntmps32
  go_wp2
  go_ret
  refine ⟨?_, rfl⟩
  rw [← HR.out]
  rfl
def partW (l : List Int) (I : Nat) : Nat → Nat
  | 0 => 0
  | J + 1 => partW l I J * 256 + (l.getD (4 * I + J) 0).toNat
theorem partW_four (l : List Int) (I : Nat) : partW l I 4 = beW l I := by
  simp only [partW, beW, Nat.add_zero]
  omega
theorem partW_lt {l : List Int} (h : ∀ x ∈ l, 0 ≤ x ∧ x < 256) (I : Nat) : ∀ J, partW l I J < 256 ^ J
  | 0 => by simp [partW]
  | J + 1 => by
    have h1 := partW_lt h I J
    have h2 := byte_nat h (4 * I + J)
    simp only [partW, Nat.pow_succ]
    omega
theorem curWs_zero (l : List Int) (I : Nat) (hI : I < 64) : (curWs l I).set I 0 = curWs l I := by
  unfold curWs
  have hl : (wordsTo l I).length = I := wordsTo_length l I
  rw [List.set_append_right _ _ (by omega), hl, Nat.sub_self, show 64 - I = (63 - I) + 1 by omega, List.replicate_succ, List.set_cons_zero]
set_option maxRecDepth 100000 in
set_option maxHeartbeats 4000000 in
theorem rwords_any (w : World) (l : List Int) (hl : l.length = 64) (hby : ∀ x ∈ l, 0 ≤ x ∧ x < 256) :
    Calls Tryd.prog 30 #[.agg (cellsB l)] w fun e w' => e = .returned (.agg (cellsW (wordsTo l 64))) ∧ Below w.heap.size w w' := by
  obtain ⟨z, HZ⟩ : ∃ z, Hid (cellsW (zerosW 64) = z) := ⟨_, rfl⟩
  have hz := zero_w64
  rw [HZ.out] at hz
  have HZ0 := hid hz
  obtain ⟨bl, HBL⟩ : ∃ bl, Hid (cellsB l = bl) := ⟨_, rfl⟩
  rw [HBL.out]
  clear hz
  go_enter Tryd.func30, Tryd.ntmps30
  go_wp2_with (refine wpList_alloc_agg HZ0.out rfl rfl ?_)
  obtain ⟨W0, hW0⟩ : ∃ W0, Hid (((w.alloc (.cells bl 28)).alloc (.cells z 59)).alloc (.cells z 59) = W0) := ⟨_, rfl⟩
  rw [hW0.out]
  have HB0 : Hid (Below w.heap.size w W0) := by rw [← hW0.out]; exact (((Below.refl _ w).alloc (Nat.le_refl _) _).alloc (by simp) _).alloc (by simp; omega) _
  have HS0 : Hid (W0.heap.size = w.heap.size + 3) := by rw [← hW0.out]; show _ = _; simp
  have H0 : Hid (W0.heap[w.heap.size]? = some (.cells bl 28 (0, 0))) := by
    rw [← hW0.out]
    exact (Below.heap_alloc _ _ _ (by simp; omega)).trans ((Below.heap_alloc _ _ _ (by simp)).trans (heap_alloc_new w _))
  have H1 : Hid (W0.heap[w.heap.size + 1]? = some (.cells z 59 (0, 0))) := by
    rw [← hW0.out]
    refine (Below.heap_alloc _ _ _ (by simp)).trans ?_
    have := heap_alloc_new (w.alloc (.cells bl 28)) (.cells z 59)
    rwa [World.size_alloc] at this
  have H2 : Hid (W0.heap[w.heap.size + 2]? = some (.cells (cellsW (curWs l 0)) 59 (0, 0))) := by
    have := heap_alloc_new ((w.alloc (.cells bl 28)).alloc (.cells z 59)) (.cells z 59)
    rw [World.size_alloc, World.size_alloc, hW0.out, ← HZ.out] at this
    exact this
  clear hW0
  go_loopw [4] (fun i wr => ∃ I : Nat, I ≤ 16 ∧ i = .int .i64 I ∧ Hid (wr.heap[w.heap.size + 2]? = some (.cells (cellsW (curWs l I)) 59 (0, 0))) ∧ Hid (W0.grownBy wr (some (w.heap.size + 2)))) (fun i _ => 16 - (intOf i).toNat)
  case atStart => exact ⟨0, Nat.zero_le _, rfl, H2, ⟨rfl, rfl, rfl, Nat.le_refl _, fun _ _ _ => rfl⟩⟩
  case round =>
    obtain ⟨I, hI, rfl, HF, HG⟩ := hrel
    obtain ⟨wo, rfl⟩ : ∃ wo, wo = wr := ⟨_, rfl⟩
    by_cases hlt : I < 16
    · have HF0 : Hid (wo.heap[w.heap.size + 2]? = some (.cells (cellsW ((curWs l I).set I (partW l I 0))) 59 (0, 0))) := by
        rw [show partW l I 0 = 0 from rfl, curWs_zero l I (by omega)]
        exact HF
      go_wp2
      go_loopw [5] (fun i wq => ∃ J : Nat, J ≤ 4 ∧ i = .int .i64 J ∧ Hid (wq.heap[w.heap.size + 2]? = some (.cells (cellsW ((curWs l I).set I (partW l I J))) 59 (0, 0))) ∧ Hid (W0.grownBy wq (some (w.heap.size + 2)))) (fun i _ => 4 - (intOf i).toNat)
      case atStart => exact ⟨0, Nat.zero_le _, rfl, HF0, HG⟩
      case round =>
        clear HF HG HF0
        obtain ⟨J, hJ, rfl, HF, HG⟩ := hrel
        by_cases hlj : J < 4
        · have hb := (HG.out.block w.heap.size (by rw [HS0.out]; omega) (by simp)).trans H0.out
          have hlj2 : 4 * I + J < l.length := by omega
          obtain ⟨a, HA⟩ : ∃ a, Hid ((l.getD (4 * I + J) 0).toNat = a) := ⟨_, rfl⟩
          have ha : a < 256 := by rw [← HA.out]; exact byte_nat hby _
          have ca : wr.cell? ⟨w.heap.size, 4 * I + J, none⟩ = some (.int .u8 (a : Int)) := by
            rw [cell_of_row wr w.heap.size _ _ _ _ hb, ← HBL.out, ← HA.out]
            have := hby _ (List.getElem_mem hlj2)
            simp only [cellsB, List.getElem?_toArray, List.getElem?_map, List.getElem?_eq_getElem hlj2, Option.map_some, getD_of_lt hlj2]
            congr 2
            omega
          obtain ⟨x, HX⟩ : ∃ x, Hid (partW l I J = x) := ⟨_, rfl⟩
          have hx : x < 16777216 := by
            rw [← HX.out]
            exact Nat.lt_of_lt_of_le (partW_lt hby I J) (Nat.pow_le_pow_right (by decide) (show J ≤ 3 by omega))
          rw [HX.out] at HF
          have HN : Hid (partW l I (J + 1) = x * 256 + a) := by show _ = _; simp only [partW]; rw [HX.out, HA.out]
          have hcx : wr.cell? ⟨w.heap.size + 2, I, none⟩ = some (.int .u32 (x : Int)) := by
            rw [cell_of_row wr (w.heap.size + 2) I _ _ _ HF.out, cellsW_get (by rw [List.length_set, curWs_length l I (by omega)]; omega)]
            simp [List.getD, curWs_length l I (show I ≤ 64 by omega), show I < 64 by omega]
          have hfz : wr.frozen? ⟨w.heap.size + 2, I, none⟩ = false := by simp [World.frozen?, HF.out]
          clear hb
          go_wp2
          go_region
          all_goals go_wp2
          refine ⟨⟨J + 1, by omega, by go_num, ?_, grown_tr HG.out (grown_setd _ _ _ _)⟩, by simp [intOf]; omega⟩
          show _ = _
          rw [HN.out, ← List.set_set (a := x), ← cellsW_set _ I (x * 256 + a)]
          rw [show ((x * 256 + a : Nat) : Int) = (x : Int) * 256 + (a : Int) by omega]
          exact heap_setCell_same _ (w.heap.size + 2) I _ _ _ HF.out
        · have hJ4 : J = 4 := by omega
          subst hJ4
          have HST : Hid ((curWs l I).set I (partW l I 4) = curWs l (I + 1)) := by
            show _ = _
            rw [partW_four, ← curWs_step l I (by omega)]
            unfold nextW
            rw [if_pos hlt]
          rw [HST.out] at HF
          go_wp2
          exact ⟨⟨I + 1, by omega, by go_num, HF, HG⟩, by simp [intOf]; omega⟩
    · have hI16 : I = 16 := by omega
      rw [hI16] at HF
      clear hI16
      go_wp2
      clear hlt
      go_loopw [6] (fun i wq => ∃ I : Nat, 16 ≤ I ∧ I ≤ 64 ∧ i = .int .i64 I ∧ Hid (wq.heap[w.heap.size + 2]? = some (.cells (cellsW (curWs l I)) 59 (0, 0))) ∧ Hid (W0.grownBy wq (some (w.heap.size + 2)))) (fun i _ => 64 - (intOf i).toNat)
      case atStart => exact ⟨16, Nat.le_refl _, by decide, rfl, HF, HG⟩
      case round =>
        clear HF HG hI
        obtain ⟨I, hI16, hI, rfl, HF, HG⟩ := hrel
        by_cases hlt : I < 64
        · have cell : ∀ j, j < I → ∃ a : Nat, a < 4294967296 ∧ wr.cell? ⟨w.heap.size + 2, j, none⟩ = some (.int .u32 (a : Int)) ∧ (wordsTo l I).getD j 0 = a := fun j hj => by
            refine ⟨_, getW_lt (wordsTo_lt hby I) j, ?_, rfl⟩
            rw [cell_of_row wr (w.heap.size + 2) j _ _ _ HF.out, cellsW_get (by rw [curWs_length l I hI]; omega), curWs_get l I j hj]
          obtain ⟨a2, ha2, c2, e2⟩ := cell (I - 2) (by omega)
          obtain ⟨a7, ha7, c7, e7⟩ := cell (I - 7) (by omega)
          obtain ⟨a15, ha15, c15, e15⟩ := cell (I - 15) (by omega)
          obtain ⟨a16, ha16, c16, e16⟩ := cell (I - 16) (by omega)
          have HV : Hid (nextW l (wordsTo l I) I = add32 (add32 (add32 (sig1 a2) a7) (sig0 a15)) a16) := by
            show _ = _
            unfold nextW
            rw [if_neg (by omega), e2, e7, e15, e16]
          have hci : wr.cell? ⟨w.heap.size + 2, I, none⟩ = some (.int .u32 (((curWs l I).getD I 0 : Nat) : Int)) := by
            rw [cell_of_row wr (w.heap.size + 2) I _ _ _ HF.out]
            exact cellsW_get (by rw [curWs_length l I (by omega)]; omega)
          obtain ⟨old, HOLD⟩ : ∃ old, Hid ((curWs l I).getD I 0 = old) := ⟨_, rfl⟩
          rw [HOLD.out] at hci
          have hfz : wr.frozen? ⟨w.heap.size + 2, I, none⟩ = false := by simp [World.frozen?, HF.out]
          have n2 : ((I : Int) - 2) = ((I - 2 : Nat) : Int) := by omega
          have n7 : ((I : Int) - 7) = ((I - 7 : Nat) : Int) := by omega
          have n15 : ((I : Int) - 15) = ((I - 15 : Nat) : Int) := by omega
          have n16 : ((I : Int) - 16) = ((I - 16 : Nat) : Int) := by omega
          clear cell e2 e7 e15 e16
          have HS0 := hid (sig0_bits a15 ha15)
          have HS1 := hid (sig1_bits a2 ha2)
          go_wp2_with fail
          refine (rturn_7 _ a15 ha15).mono ?_
          rintro e w' ⟨rfl, hw⟩
          subst hw
          go_wp2_with fail
          refine (rturn_18 _ a15 ha15).mono ?_
          rintro e w' ⟨rfl, hw⟩
          subst hw
          go_wp2_with fail
          rw [HS0.out]
          refine (rturn_17 _ a2 ha2).mono ?_
          rintro e w' ⟨rfl, hw⟩
          subst hw
          go_wp2_with fail
          refine (rturn_19 _ a2 ha2).mono ?_
          rintro e w' ⟨rfl, hw⟩
          subst hw
          go_wp2_with fail
          rw [HS1.out]
          go_region
          all_goals go_wp2
          have HADD : Hid ((((sig1 a2 : Nat) : Int) + (a7 : Int) + ((sig0 a15 : Nat) : Int) + (a16 : Int)) % 4294967296 = ((add32 (add32 (add32 (sig1 a2) a7) (sig0 a15)) a16 : Nat) : Int)) := by
            show _ = _
            unfold add32
            omega
          refine ⟨⟨I + 1, by omega, by omega, by go_num, ?_, grown_tr HG.out (grown_setd _ _ _ _)⟩, by simp [intOf]; omega⟩
          show _ = _
          rw [← curWs_step l I (by omega), HV.out, ← cellsW_set, HADD.out]
          exact heap_setCell_same _ (w.heap.size + 2) I _ _ _ HF.out
        · have hI64 : I = 64 := by omega
          subst hI64
          have HWW : Hid (curWs l 64 = wordsTo l 64) := by show _ = _; simp [curWs]
          rw [HWW.out] at HF
          obtain ⟨y, HY⟩ : ∃ y, Hid (cellsW (wordsTo l 64) = y) := ⟨_, rfl⟩
          rw [HY.out] at HF
          have hys : y.size = 64 := by rw [← HY.out, cellsW_size, wordsTo_length]
          have HIy : Hid ((Tryd.prog.info? 59).map (·.size) = some y.size) := by rw [hys]; exact size_w64
          have H1y : Hid (y.all (·.oneCell') = true) := by rw [← HY.out]; exact cellsW_one _
          have HF1c : Hid (wr.heap[w.heap.size + 1]? = some (.cells z 59 (0, 0))) := by
            rw [HG.out.block (w.heap.size + 1) (by rw [HS0.out]; omega) (by simp)]
            exact H1
          have HZY : Hid (z.size = y.size) := by rw [hys, ← HZ.out, cellsW_size, zerosW_length]; exact rfl
          have HB1 := hid (below_setRow (HB0.out.grown HG.out (by rw [HS0.out]; omega) (fun k e => by cases e; omega)) (g := w.heap.size + 1) (by omega) y)
          clear hys hlt
          go_wp2_with (first | (refine wpList_load_row rfl 59 _ rfl (w.heap.size + 2) rfl 59 y (0, 0) _ HF.out Tryd.underlying59 rfl HIy.out ?_) | (refine wpList_store_row rfl 59 _ _ rfl (w.heap.size + 1) y rfl rfl 59 _ HF1c.out HIy.out HZY.out H1y.out ?_))
          refine bodyPost_ret (v := .agg y) (results_cell_row (p := 2) (ty := 59) rfl _ _ (w.heap.size + 1) 59 y (0, 0) _ rfl (setRow_heap _ _ _ _ _ _ HF1c.out) Tryd.underlying59 rfl HIy.out) rfl ?_
          rw [HY.out]
          exact ⟨rfl, HB1.out⟩
set_option maxRecDepth 100000 in
set_option maxHeartbeats 1000000 in
theorem rinitial_any (w : World) : Calls Tryd.prog 7 #[] w fun e w' => e = .returned (.agg (cellsW iv)) ∧ Below w.heap.size w w' := by
  obtain ⟨z8, HZ8⟩ : ∃ z8, Hid (cellsW (zerosW 8) = z8) := ⟨_, rfl⟩
  have hz8 := zero_w8
  rw [HZ8.out] at hz8
  have HZ1 := hid hz8
  have HIm : Hid ((Tryd.prog.info? 25).map (·.size) = some (cellsW iv).size) := size_w8
  have H1m : Hid ((cellsW iv).all (·.oneCell') = true) := cellsW_one _
  have HZM : Hid (z8.size = (cellsW iv).size) := by rw [← HZ8.out, cellsW_size, zerosW_length]; exact rfl
  have HR : Hid ((w.alloc (.cells z8 25)).heap[w.heap.size]? = some (.cells z8 25 (0, 0))) := heap_alloc_new w _
  have HB := hid (below_setRow ((Below.refl _ w).alloc (Nat.le_refl _) (.cells z8 25)) (g := w.heap.size) (Nat.le_refl _) (cellsW iv))
  clear hz8
  go_enter Tryd.func7, Tryd.ntmps7
  go_wp2_with (first | (refine wpList_alloc_agg HZ1.out rfl rfl ?_) | (refine wpList_store_row rfl 25 _ _ rfl w.heap.size (cellsW iv) rfl rfl 25 _ HR.out HIm.out HZM.out H1m.out ?_))
  refine bodyPost_ret (v := .agg (cellsW iv)) (results_cell_row (p := 0) (ty := 25) rfl _ _ w.heap.size 25 (cellsW iv) (0, 0) _ rfl (setRow_heap _ _ _ _ _ _ HR.out) Tryd.underlying25 rfl HIm.out) rfl ?_
  exact ⟨rfl, HB.out⟩
set_option maxRecDepth 100000 in
set_option maxHeartbeats 1000000 in
theorem rconst_any (w : World) : Calls Tryd.prog 31 #[] w fun e w' => e = .returned (.agg (cellsW kW)) ∧ Below w.heap.size w w' := by
  obtain ⟨z8, HZ8⟩ : ∃ z8, Hid (cellsW (zerosW 64) = z8) := ⟨_, rfl⟩
  have hz8 := zero_w64
  rw [HZ8.out] at hz8
  have HZ1 := hid hz8
  have HIm : Hid ((Tryd.prog.info? 59).map (·.size) = some (cellsW kW).size) := size_w64
  have H1m : Hid ((cellsW kW).all (·.oneCell') = true) := cellsW_one _
  have HZM : Hid (z8.size = (cellsW kW).size) := by rw [← HZ8.out, cellsW_size, zerosW_length]; exact rfl
  have HR : Hid ((w.alloc (.cells z8 59)).heap[w.heap.size]? = some (.cells z8 59 (0, 0))) := heap_alloc_new w _
  have HB := hid (below_setRow ((Below.refl _ w).alloc (Nat.le_refl _) (.cells z8 59)) (g := w.heap.size) (Nat.le_refl _) (cellsW kW))
  clear hz8
  go_enter Tryd.func31, Tryd.ntmps31
  go_wp2_with (first | (refine wpList_alloc_agg HZ1.out rfl rfl ?_) | (refine wpList_store_row rfl 59 _ _ rfl w.heap.size (cellsW kW) rfl rfl 59 _ HR.out HIm.out HZM.out H1m.out ?_))
  refine bodyPost_ret (v := .agg (cellsW kW)) (results_cell_row (p := 0) (ty := 59) rfl _ _ w.heap.size 59 (cellsW kW) (0, 0) _ rfl (setRow_heap _ _ _ _ _ _ HR.out) Tryd.underlying59 rfl HIm.out) rfl ?_
  exact ⟨rfl, HB.out⟩
theorem rturn_i (w : World) (x : Nat) (i : Int) (hx : x < 4294967296) (hi : i = 6 ∨ i = 11 ∨ i = 25 ∨ i = 2 ∨ i = 13 ∨ i = 22) : Calls Tryd.prog 32 #[.int .u32 (x : Int), .int .u64 i] w fun e w' => e = .returned (.int .u32 ((rot x i.toNat : Nat) : Int)) ∧ w' = w := by
  rcases hi with rfl | rfl | rfl | rfl | rfl | rfl
  · exact rturn_6 w x hx
  · exact rturn_11 w x hx
  · exact rturn_25 w x hx
  · exact rturn_2 w x hx
  · exact rturn_13 w x hx
  · exact rturn_22 w x hx
theorem grown_setRow2 (w : World) (g : Nat) (cs : Array Value) : w.grownBy (w.setRow g cs) (some g) :=
  ⟨rfl, rfl, rfl, by simp [World.setRow], fun i _ hne => by
    have h1 : g ≠ i := fun e => hne (by rw [e])
    simp [World.setRow, Array.getElem?_modify, h1]⟩
theorem rnd_open {k x a b c d e f g h : Nat} : rnd k x [a, b, c, d, e, f, g, h] = [((h + bs1 e + chW e f g + k + x) % 4294967296 + (bs0 a + majW a b c) % 4294967296) % 4294967296, a, b, c, (d + (h + bs1 e + chW e f g + k + x) % 4294967296) % 4294967296, e, f, g] := rfl
set_option maxRecDepth 100000 in
set_option maxHeartbeats 4000000 in
theorem rmix_core (w : World) (hs ws : List Nat) (l : List Int) (h8 : W8 hs) (hl : l.length = 64) (hwl : ws.length = 64) (hwb : ∀ x ∈ ws, x < 4294967296)
    (hS : ∀ W, Calls Tryd.prog 30 #[.agg (cellsB l)] W fun e w' => e = .returned (.agg (cellsW ws)) ∧ Below W.heap.size W w') :
    Calls Tryd.prog 9 #[.agg (cellsW hs), .agg (cellsB l)] w fun e w' => e = .returned (.agg (cellsW (List.zipWith add32 hs (rnds hs ws 64)))) ∧ Below w.heap.size w w' := by
  obtain ⟨z, HZ⟩ : ∃ z, Hid (cellsW (zerosW 64) = z) := ⟨_, rfl⟩
  obtain ⟨z8, HZ8⟩ : ∃ z8, Hid (cellsW (zerosW 8) = z8) := ⟨_, rfl⟩
  have hz := zero_w64
  rw [HZ.out] at hz
  have HZ0 := hid hz
  have hz8 := zero_w8
  rw [HZ8.out] at hz8
  have HZ1 := hid hz8
  obtain ⟨bl, HBL⟩ : ∃ bl, Hid (cellsB l = bl) := ⟨_, rfl⟩
  obtain ⟨hw, HHW⟩ : ∃ hw, Hid (cellsW hs = hw) := ⟨_, rfl⟩
  obtain ⟨kc, HKC⟩ : ∃ kc, Hid (cellsW kW = kc) := ⟨_, rfl⟩
  rw [HBL.out, HHW.out]
  have HWB := hid hwb
  clear hz hz8 hwb
  obtain ⟨W0, hW0⟩ : ∃ W0, Hid (((w.alloc (.cells hw 25)).alloc (.cells bl 28)).alloc (.cells z8 25) = W0) := ⟨_, rfl⟩
  have HB0 : Hid (Below w.heap.size w W0) := by rw [← hW0.out]; exact (((Below.refl _ w).alloc (Nat.le_refl _) _).alloc (by simp) _).alloc (by simp; omega) _
  have hS0 : W0.heap.size = w.heap.size + 3 := by rw [← hW0.out]; simp
  have H0 : Hid (W0.heap[w.heap.size]? = some (.cells hw 25 (0, 0))) := by
    rw [← hW0.out]
    exact (Below.heap_alloc _ _ _ (by simp; omega)).trans ((Below.heap_alloc _ _ _ (by simp)).trans (heap_alloc_new w _))
  have H1 : Hid (W0.heap[w.heap.size + 1]? = some (.cells bl 28 (0, 0))) := by
    rw [← hW0.out]
    refine (Below.heap_alloc _ _ _ (by simp)).trans ?_
    have := heap_alloc_new (w.alloc (.cells hw 25)) (.cells bl 28)
    rwa [World.size_alloc] at this
  have H2 : Hid (W0.heap[w.heap.size + 2]? = some (.cells z8 25 (0, 0))) := by
    have := heap_alloc_new ((w.alloc (.cells hw 25)).alloc (.cells bl 28)) (.cells z8 25)
    rw [World.size_alloc, World.size_alloc, hW0.out] at this
    exact this
  have hbs : bl.size = 64 := by rw [← HBL.out, cellsB_size, hl]
  have HIb : Hid ((Tryd.prog.info? 28).map (·.size) = some bl.size) := by rw [hbs]; exact size_b64
  have CS := hS W0
  clear hS
  rw [HBL.out] at CS
  obtain ⟨y, HY⟩ : ∃ y, Hid (cellsW ws = y) := ⟨_, rfl⟩
  rw [HY.out] at CS
  have C1 := hid CS
  have hys : y.size = 64 := by rw [← HY.out, cellsW_size, hwl]
  have HIy : Hid ((Tryd.prog.info? 59).map (·.size) = some y.size) := by rw [hys]; exact size_w64
  have H1y : Hid (y.all (·.oneCell') = true) := by rw [← HY.out]; exact cellsW_one _
  have HZY : Hid (z.size = y.size) := by rw [hys, ← HZ.out, cellsW_size, zerosW_length]; exact rfl
  have hks : kc.size = 64 := by rw [← HKC.out, cellsW_size]; rfl
  have HIk : Hid ((Tryd.prog.info? 59).map (·.size) = some kc.size) := by rw [hks]; exact size_w64
  have H1k : Hid (kc.all (·.oneCell') = true) := by rw [← HKC.out]; exact cellsW_one _
  have HZK : Hid (z.size = kc.size) := by rw [hks, ← HZ.out, cellsW_size, zerosW_length]; exact rfl
  have hhs : hw.size = 8 := by rw [← HHW.out, cellsW_size, h8.1]
  have HIh : Hid ((Tryd.prog.info? 25).map (·.size) = some hw.size) := by rw [hhs]; exact size_w8
  have H1h : Hid (hw.all (·.oneCell') = true) := by rw [← HHW.out]; exact cellsW_one _
  have HZH : Hid (z8.size = hw.size) := by rw [hhs, ← HZ8.out, cellsW_size, zerosW_length]; exact rfl
  clear CS hbs hys hks hhs
  go_enter Tryd.func9, Tryd.ntmps9
  go_wp2_with (first | (refine wpList_alloc_agg HZ1.out rfl rfl ?_; rw [hW0.out]) | refine wpList_load_row rfl 28 _ rfl (w.heap.size + 1) rfl 28 bl (0, 0) _ H1.out Tryd.underlying28 rfl HIb.out ?_)
  refine C1.out.mono ?_
  rintro e w1 ⟨rfl, hB1⟩
  have HF1 : Hid ((w1.alloc (.cells z 59)).heap[w1.heap.size]? = some (.cells z 59 (0, 0))) := heap_alloc_new w1 _
  have HB1 := hid hB1
  have hs1 := hB1.size
  clear hB1 C1
  obtain ⟨W2, hW2⟩ : ∃ W2, Hid ((w1.alloc (.cells z 59)).setRow w1.heap.size y = W2) := ⟨_, rfl⟩
  have HB2 : Hid (Below W0.heap.size W0 W2) := by
    rw [← hW2.out]
    exact below_setRow (HB1.out.alloc hs1 _) hs1 y
  have HY2 : Hid (W2.heap[w1.heap.size]? = some (.cells y 59 (0, 0))) := by
    rw [← hW2.out]
    exact setRow_heap _ _ _ _ _ _ HF1.out
  have hS2 : W2.heap.size = w1.heap.size + 1 := by rw [← hW2.out]; simp [World.setRow]
  have CK := hid (rconst_any W2)
  rw [HKC.out] at CK
  go_wp2_with (first | (refine wpList_alloc_agg HZ0.out rfl rfl ?_) | (refine wpList_store_row rfl 59 _ _ rfl w1.heap.size y rfl rfl 59 _ HF1.out HIy.out HZY.out H1y.out ?_; rw [hW2.out]))
  refine CK.out.mono ?_
  rintro e w3 ⟨rfl, hB3⟩
  have hs3 := hB3.size
  have HB3 : Hid (Below W0.heap.size W0 w3) := HB2.out.trans (hB3.mono HB2.out.size)
  have HY3 : Hid (w3.heap[w1.heap.size]? = some (.cells y 59 (0, 0))) := (hB3.block _ (by omega)).trans HY2.out
  have HF3 : Hid ((w3.alloc (.cells z 59)).heap[w3.heap.size]? = some (.cells z 59 (0, 0))) := heap_alloc_new w3 _
  obtain ⟨W4, hW4⟩ : ∃ W4, Hid ((w3.alloc (.cells z 59)).setRow w3.heap.size kc = W4) := ⟨_, rfl⟩
  have HB34 : Hid (Below w3.heap.size w3 W4) := by rw [← hW4.out]; exact below_setRow ((Below.refl _ w3).alloc (Nat.le_refl _) _) (Nat.le_refl _) kc
  have HB4 : Hid (Below W0.heap.size W0 W4) := HB3.out.trans (HB34.out.mono HB3.out.size)
  have HK4 : Hid (W4.heap[w3.heap.size]? = some (.cells kc 59 (0, 0))) := by rw [← hW4.out]; exact setRow_heap _ _ _ _ _ _ HF3.out
  have HY4 : Hid (W4.heap[w1.heap.size]? = some (.cells y 59 (0, 0))) := (HB34.out.block _ (by omega)).trans HY3.out
  have hS4 : W4.heap.size = w3.heap.size + 1 := by rw [← hW4.out]; simp [World.setRow]
  have HH4 : Hid (W4.heap[w.heap.size]? = some (.cells hw 25 (0, 0))) := (HB4.out.block w.heap.size (by omega)).trans H0.out
  have HR4 : Hid (W4.heap[w.heap.size + 2]? = some (.cells z8 25 (0, 0))) := (HB4.out.block (w.heap.size + 2) (by omega)).trans H2.out
  have HF5 : Hid ((W4.alloc (.cells z8 25)).heap[W4.heap.size]? = some (.cells z8 25 (0, 0))) := heap_alloc_new W4 _
  obtain ⟨W6, hW6⟩ : ∃ W6, Hid ((W4.alloc (.cells z8 25)).setRow W4.heap.size hw = W6) := ⟨_, rfl⟩
  have HB46 : Hid (Below W4.heap.size W4 W6) := by rw [← hW6.out]; exact below_setRow ((Below.refl _ W4).alloc (Nat.le_refl _) _) (Nat.le_refl _) hw
  have HS6 : Hid (W6.heap[W4.heap.size]? = some (.cells (cellsW (rnds hs ws 0)) 25 (0, 0))) := by
    rw [← hW6.out, show cellsW (rnds hs ws 0) = hw from HHW.out]
    exact setRow_heap _ _ _ _ _ _ HF5.out
  have hS6 : W6.heap.size = W4.heap.size + 1 := by rw [← hW6.out]; simp [World.setRow]
  clear hB3 CK hW2 HF1
  go_wp2_with (first | (refine wpList_alloc_agg HZ0.out rfl rfl ?_) | (refine wpList_alloc_agg HZ1.out rfl rfl ?_) | (refine wpList_store_row rfl 59 _ _ rfl w3.heap.size kc rfl rfl 59 _ HF3.out HIk.out HZK.out H1k.out ?_; rw [hW4.out]) | (refine wpList_load_row rfl 25 _ rfl w.heap.size rfl 25 hw (0, 0) _ HH4.out Tryd.underlying25 rfl HIh.out ?_) | (refine wpList_store_row rfl 25 _ _ rfl W4.heap.size hw rfl rfl 25 _ HF5.out HIh.out HZH.out H1h.out ?_; rw [hW6.out]))
  clear hW4 hW6 HF3 HF5
  rw [hS4] at HS6 hS6 HB46
  have HH6 : Hid (W6.heap[w.heap.size]? = some (.cells hw 25 (0, 0))) := (HB46.out.block _ (by omega)).trans HH4.out
  have HR6 : Hid (W6.heap[w.heap.size + 2]? = some (.cells z8 25 (0, 0))) := (HB46.out.block _ (by omega)).trans HR4.out
  have HY6 : Hid (W6.heap[w1.heap.size]? = some (.cells y 59 (0, 0))) := (HB46.out.block _ (by omega)).trans HY4.out
  have HK6 : Hid (W6.heap[w3.heap.size]? = some (.cells kc 59 (0, 0))) := (HB46.out.block _ (by omega)).trans HK4.out
  have HB6 : Hid (Below w.heap.size w W6) := HB0.out.trans ((HB4.out.trans (HB46.out.mono (by omega))).mono (by omega))
  have H8 := hid h8
  clear h8 HH4 HR4 HY4 HK4 H0 H1 H2 HIb HB34 HB4 HB3 HY3 HY2 HB2 HB1
  go_loopw [8] (fun i wr => ∃ t : Nat, t ≤ 64 ∧ i = .int .i64 t ∧ Hid (wr.heap[w3.heap.size + 1]? = some (.cells (cellsW (rnds hs ws t)) 25 (0, 0))) ∧ Hid (W6.grownBy wr (some (w3.heap.size + 1)))) (fun i _ => 64 - (intOf i).toNat)
  case atStart => exact ⟨0, by decide, rfl, HS6, ⟨rfl, rfl, rfl, Nat.le_refl _, fun _ _ _ => rfl⟩⟩
  case round =>
    obtain ⟨t, ht, rfl, HF, HG⟩ := hrel
    obtain ⟨a, b, c, d, e, f, g, h, ers, ha, hb, hc, hd, he, hf, hg, hh⟩ := (W8.rnds (ws := ws) H8.out t).open
    have HRS := hid ers
    rw [ers] at HF
    clear ers
    by_cases hlt : t < 64
    · obtain ⟨k, HK⟩ : ∃ k, Hid (kW.getD t 0 = k) := ⟨_, rfl⟩
      obtain ⟨x, HX⟩ : ∃ x, Hid (ws.getD t 0 = x) := ⟨_, rfl⟩
      have ck : wr.cell? ⟨w3.heap.size, t, none⟩ = some (.int .u32 (k : Int)) := by
        rw [cell_of_row wr w3.heap.size t _ _ _ ((HG.out.block w3.heap.size (by omega) (by simp)).trans HK6.out), ← HKC.out, cellsW_get (by rw [kW_length]; exact hlt), HK.out]
      have cx : wr.cell? ⟨w1.heap.size, t, none⟩ = some (.int .u32 (x : Int)) := by
        rw [cell_of_row wr w1.heap.size t _ _ _ ((HG.out.block w1.heap.size (by omega) (by simp; omega)).trans HY6.out), ← HY.out, cellsW_get (by rw [hwl]; exact hlt), HX.out]
      have hkl : k < 4294967296 := by rw [← HK.out]; exact getW_lt kW_lt t
      have hxl : x < 4294967296 := by rw [← HX.out]; exact getW_lt HWB.out t
      have cs : ∀ j, j < 8 → wr.cell? ⟨w3.heap.size + 1, j, none⟩ = some (.int .u32 ((([a, b, c, d, e, f, g, h] : List Nat).getD j 0 : Nat) : Int)) := fun j hj => by
        rw [cell_of_row wr (w3.heap.size + 1) j _ _ _ HF.out]
        exact cellsW_get hj
      have s0 := cs 0 (by decide)
      have s1 := cs 1 (by decide)
      have s2 := cs 2 (by decide)
      have s3 := cs 3 (by decide)
      have s4 := cs 4 (by decide)
      have s5 := cs 5 (by decide)
      have s6 := cs 6 (by decide)
      have s7 := cs 7 (by decide)
      simp only [List.getD_cons_zero, List.getD_cons_succ] at s0 s1 s2 s3 s4 s5 s6 s7
      clear cs
      have B1 := hid (bs1_bits e he)
      have B0 := hid (bs0_bits a ha)
      have BC := hid (ch_bits e f g he hf hg)
      have BM := hid (maj_bits a b c ha hb hc)
      go_wp2
      go_quiet ((go_at_call 32; exact Calls.quiet_of_same (rturn_i _ _ _ (by assumption) (by decide))))
      rw [B1.out, BC.out]
      obtain ⟨u, HU⟩ : ∃ u : Nat, Hid ((((h : Int) + ((bs1 e : Nat) : Int) + ((chW e f g : Nat) : Int) + (k : Int)) % 4294967296 + (x : Int)) % 4294967296 = (u : Int)) := ⟨((h + bs1 e + chW e f g + k) % 4294967296 + x) % 4294967296, by show _ = _; omega⟩
      rw [HU.out]
      have hu : u < 4294967296 := by have := HU.out; omega
      obtain ⟨wa, Hq1, Hd1⟩ : ∃ wa, Hid (wr.drewN nq = wa) ∧ Hid (Dr wr wa) := ⟨_, rfl, Dr.one _ _⟩
      rw [Hq1.out]
      clear Hq1 nq
      replace s0 := (Hd1.out.cell _).trans s0
      replace s1 := (Hd1.out.cell _).trans s1
      replace s2 := (Hd1.out.cell _).trans s2
      replace s3 := (Hd1.out.cell _).trans s3
      replace s4 := (Hd1.out.cell _).trans s4
      replace s5 := (Hd1.out.cell _).trans s5
      replace s6 := (Hd1.out.cell _).trans s6
      replace s7 := (Hd1.out.cell _).trans s7
      go_wp2
      go_quiet ((go_at_call 32; exact Calls.quiet_of_same (rturn_i _ _ _ (by assumption) (by decide))))
      rw [B0.out, BM.out]
      obtain ⟨v, HV⟩ : ∃ v : Nat, Hid ((((bs0 a : Nat) : Int) + ((majW a b c : Nat) : Int)) % 4294967296 = (v : Int)) := ⟨(bs0 a + majW a b c) % 4294967296, by show _ = _; omega⟩
      rw [HV.out]
      have hv : v < 4294967296 := by have := HV.out; omega
      obtain ⟨p, hp⟩ : ∃ p : Nat, ((u : Int) + (v : Int)) % 4294967296 = (p : Int) := ⟨(u + v) % 4294967296, by omega⟩
      obtain ⟨q, hq⟩ : ∃ q : Nat, ((d : Int) + (u : Int)) % 4294967296 = (q : Int) := ⟨(d + u) % 4294967296, by omega⟩
      have HN : Hid (rnds hs ws (t + 1) = [p, a, b, c, q, e, f, g]) := by
        show rnd (kW.getD t 0) (ws.getD t 0) (rnds hs ws t) = _
        rw [HRS.out, HK.out, HX.out, rnd_open]
        have h1 := HU.out
        have h2 := HV.out
        have e1 : (h + bs1 e + chW e f g + k + x) % 4294967296 = u := by omega
        have e2 : (bs0 a + majW a b c) % 4294967296 = v := by omega
        rw [e1, e2, show (u + v) % 4294967296 = p by omega, show (d + u) % 4294967296 = q by omega]
      have HIm : Hid ((Tryd.prog.info? 25).map (·.size) = some (cellsW [p, a, b, c, q, e, f, g]).size) := size_w8
      have H1m : Hid ((cellsW [p, a, b, c, q, e, f, g]).all (·.oneCell') = true) := cellsW_one _
      have HZM : Hid ((cellsW [a, b, c, d, e, f, g, h]).size = (cellsW [p, a, b, c, q, e, f, g]).size) := rfl
      obtain ⟨wb, Hq2, Hd2⟩ : ∃ wb, Hid (wa.drewN nq = wb) ∧ Hid (Dr wa wb) := ⟨_, rfl, Dr.one _ _⟩
      rw [Hq2.out]
      clear Hq2 nq
      replace s0 := (Hd2.out.cell _).trans s0
      replace s1 := (Hd2.out.cell _).trans s1
      replace s2 := (Hd2.out.cell _).trans s2
      replace s3 := (Hd2.out.cell _).trans s3
      replace s4 := (Hd2.out.cell _).trans s4
      replace s5 := (Hd2.out.cell _).trans s5
      replace s6 := (Hd2.out.cell _).trans s6
      replace s7 := (Hd2.out.cell _).trans s7
      have HFb : Hid (wb.heap[w3.heap.size + 1]? = some (.cells (cellsW [a, b, c, d, e, f, g, h]) 25 (0, 0))) := by
        show _ = _
        rw [Hd2.out.heap, Hd1.out.heap]
        exact HF.out
      have HGb : Hid (W6.grownBy wb (some (w3.heap.size + 1))) := by
        obtain ⟨n1, r1⟩ := Hd1.out
        obtain ⟨n2, r2⟩ := Hd2.out
        rw [r2, r1]
        exact grown_tr HG.out ⟨rfl, rfl, rfl, Nat.le_refl _, fun _ _ _ => rfl⟩
      clear HU HV B0 B1 BC BM
      go_wp2_with (refine wpList_store_row rfl 25 _ _ rfl (w3.heap.size + 1) (cellsW [p, a, b, c, q, e, f, g]) rfl rfl 25 _ HFb.out HIm.out HZM.out H1m.out ?_)
      refine ⟨⟨t + 1, by omega, by go_num, ?_, grown_tr HGb.out (grown_setRow2 _ _ _)⟩, by simp [intOf]; omega⟩
      show _ = _
      rw [HN.out]
      exact setRow_heap _ _ _ _ _ _ HFb.out
    · have H64 : Hid (t = 64) := by show _ = _; omega
      rw [H64.out] at HRS
      obtain ⟨st, HST⟩ : ∃ st, Hid (([a, b, c, d, e, f, g, h] : List Nat) = st) := ⟨_, rfl⟩
      have hst8 : st.length = 8 := by rw [← HST.out]; rfl
      have hstb : ∀ x ∈ st, x < 4294967296 := by
        rw [← HST.out, ← HRS.out]
        exact (W8.rnds (ws := ws) H8.out 64).2
      rw [HST.out] at HF HRS
      have HSB := hid hstb
      have hnlt : ¬ ((t : Int) < 64) := by omega
      obtain ⟨wo, rfl⟩ : ∃ wo, wo = wr := ⟨_, rfl⟩
      have HM0 : Hid (wo.heap[w.heap.size]? = some (.cells (cellsW (curM hs st 0)) 25 (0, 0))) := by
        rw [show curM hs st 0 = hs from by simp [curM], HHW.out]
        exact (HG.out.block w.heap.size (by omega) (by simp; omega)).trans HH6.out
      have HR7 : Hid (wo.heap[w.heap.size + 2]? = some (.cells z8 25 (0, 0))) := (HG.out.block (w.heap.size + 2) (by omega) (by simp; omega)).trans HR6.out
      have HB7 : Hid (Below w.heap.size w wo) := HB6.out.grown HG.out HB6.out.size (fun q e => by cases e; omega)
      have hso : w3.heap.size + 1 < wo.heap.size := (Array.getElem?_eq_some_iff.1 HF.out).1
      clear hlt ht hstb ha hb hc hd he hf hg hh HST
      go_wp2
      clear hnlt
      go_loopw [13] (fun i wq => ∃ I : Nat, I ≤ 8 ∧ i = .int .i64 I ∧ Hid (wq.heap[w.heap.size]? = some (.cells (cellsW (curM hs st I)) 25 (0, 0))) ∧ Hid (wo.grownBy wq (some w.heap.size))) (fun i _ => 8 - (intOf i).toNat)
      case atStart => exact ⟨0, by decide, rfl, HM0, ⟨rfl, rfl, rfl, Nat.le_refl _, fun _ _ _ => rfl⟩⟩
      case round =>
        obtain ⟨I, hI, rfl, HFI, HGI⟩ := hrel
        by_cases hlt : I < 8
        · have hci := cell_of_row wr w.heap.size I _ _ _ HFI.out
          rw [cellsW_get (by rw [curM_length H8.out.1 hst8]; exact hlt), curM_get H8.out.1 hst8 hlt] at hci
          have hcs : wr.cell? ⟨w3.heap.size + 1, I, none⟩ = some (.int .u32 ((st.getD I 0 : Nat) : Int)) := by
            rw [cell_of_row wr (w3.heap.size + 1) I _ _ _ ((HGI.out.block (w3.heap.size + 1) hso (by simp; omega)).trans HF.out)]
            exact cellsW_get (by rw [hst8]; exact hlt)
          obtain ⟨p, HP⟩ : ∃ p, Hid (hs.getD I 0 = p) := ⟨_, rfl⟩
          obtain ⟨q, HQ⟩ : ∃ q, Hid (st.getD I 0 = q) := ⟨_, rfl⟩
          rw [HP.out] at hci
          rw [HQ.out] at hcs
          have hpl : p < 4294967296 := by rw [← HP.out]; exact getW_lt H8.out.2 I
          have hql : q < 4294967296 := by rw [← HQ.out]; exact getW_lt HSB.out I
          have hfz : wr.frozen? ⟨w.heap.size, I, none⟩ = false := by simp [World.frozen?, HFI.out]
          go_wp2
          go_region
          all_goals go_wp2
          refine ⟨⟨I + 1, by omega, by go_num, ?_, grown_tr HGI.out (grown_setd _ _ _ _)⟩, by simp [intOf]; omega⟩
          show _ = _
          rw [← curM_step H8.out.1 hst8 hlt, HP.out, HQ.out, ← cellsW_set, show ((add32 p q : Nat) : Int) = ((p : Int) + (q : Int)) % 4294967296 by unfold add32; omega]
          exact heap_setCell_same _ w.heap.size I _ _ _ HFI.out
        · have hI8 : I = 8 := by omega
          have HCM : Hid (curM hs st I = List.zipWith add32 hs (rnds hs ws 64)) := by
            show _ = _
            rw [hI8, HRS.out]
            unfold curM
            rw [List.take_of_length_le (by simp; omega), List.drop_eq_nil_of_le (by rw [H8.out.1]; exact Nat.le_refl _), List.append_nil]
          rw [HCM.out] at HFI
          obtain ⟨m, HMM⟩ : ∃ m, Hid (cellsW (List.zipWith add32 hs (rnds hs ws 64)) = m) := ⟨_, rfl⟩
          rw [HMM.out] at HFI
          have hms : m.size = 8 := by
            rw [← HMM.out, cellsW_size, ← HCM.out, curM_length H8.out.1 hst8]
          have HIm : Hid ((Tryd.prog.info? 25).map (·.size) = some m.size) := by rw [hms]; exact size_w8
          have H1m : Hid (m.all (·.oneCell') = true) := by rw [← HMM.out]; exact cellsW_one _
          have HR8 : Hid (wr.heap[w.heap.size + 2]? = some (.cells z8 25 (0, 0))) := (HGI.out.block (w.heap.size + 2) (by omega) (by simp)).trans HR7.out
          have HZM : Hid (z8.size = m.size) := by rw [hms, ← HZ8.out, cellsW_size, zerosW_length]; exact rfl
          have HBF := hid (below_setRow (HB7.out.grown HGI.out HB7.out.size (fun k e => by cases e; exact Nat.le_refl _)) (g := w.heap.size + 2) (by omega) m)
          have hnl : ¬ ((I : Int) < 8) := by omega
          clear hms hlt hI8
          go_wp2_with (first | (refine wpList_load_row rfl 25 _ rfl w.heap.size rfl 25 m (0, 0) _ HFI.out Tryd.underlying25 rfl HIm.out ?_) | (refine wpList_store_row rfl 25 _ _ rfl (w.heap.size + 2) m rfl rfl 25 _ HR8.out HIm.out HZM.out H1m.out ?_))
          refine bodyPost_ret (v := .agg m) (results_cell_row (p := 4) (ty := 25) rfl _ _ (w.heap.size + 2) 25 m (0, 0) _ rfl (setRow_heap _ _ _ _ _ _ HR8.out) Tryd.underlying25 rfl HIm.out) rfl ?_
          rw [HMM.out]
          exact ⟨rfl, HBF.out⟩
theorem rmix_any (w : World) (hs : List Nat) (l : List Int) (h8 : W8 hs) (hl : l.length = 64) (hby : ∀ x ∈ l, 0 ≤ x ∧ x < 256) :
    Calls Tryd.prog 9 #[.agg (cellsW hs), .agg (cellsB l)] w fun e w' => e = .returned (.agg (cellsW (mixL hs l))) ∧ Below w.heap.size w w' :=
  rmix_core w hs (wordsTo l 64) l h8 hl (wordsTo_length l 64) (wordsTo_lt hby 64) (fun W => rwords_any W l hl hby)
def hiL2 (n m x : Nat) : List Int := (bigL n x).take (n - m)
theorem hiL2_step (n m x : Nat) (h : m < n) : hiL2 n m x = hiL2 n (m + 1) x ++ [((x / 256 ^ m % 256 : Nat) : Int)] := by
  have key : ∀ r j, j < r → (bigL r x)[j]? = some ((x / 256 ^ (r - 1 - j) % 256 : Nat) : Int) := by
    intro r
    induction r with
    | zero => intro j hj; omega
    | succ r ih =>
      intro j hj
      cases j with
      | zero => simp [bigL]
      | succ j =>
        simp only [bigL, List.getElem?_cons_succ]
        rw [ih j (by omega), show r + 1 - 1 - (j + 1) = r - 1 - j by omega]
  unfold hiL2
  have e : n - m = (n - (m + 1)) + 1 := by omega
  rw [e, List.take_add_one, key n _ (by omega), show n - 1 - (n - (m + 1)) = m by omega]
  rfl
theorem lit_HB (w : World) (x : Int) (hx : 0 ≤ x ∧ x < 256) : HB (w.alloc (.cells #[.int .u8 x] 5)) (.slice (some ⟨w.heap.size, 0, none⟩) 1 1) [x] := by
  have h1 : (w.alloc (.cells #[.int .u8 x] 5)).ownsRow w.heap.size 5 1 (.slice (some ⟨w.heap.size, 0, none⟩) 1 1) 1 [.int .u8 x] := World.ownsRow_lit (base := w.heap.size) (e := 5) (size := 1) w #[.int .u8 x] 1 (Nat.le_refl _) (by decide) rfl
  exact HB.of_own (l := [x]) h1 (fun y hy => by have : y = x := (by simpa using hy); omega)
theorem lit_HB2 (w : World) (x y : Int) (e : x = y) (hy : 0 ≤ y ∧ y < 256) : HB (w.alloc (.cells #[.int .u8 x] 5)) (.slice (some ⟨w.heap.size, 0, none⟩) 1 1) [y] := by
  subst e
  exact lit_HB w x hy
set_option maxRecDepth 100000 in
set_option maxHeartbeats 2000000 in
theorem rpad_ok (w : World) (n : Nat) (hn : n ≤ 1152921504606846976) :
    Calls Tryd.prog 11 #[.int .i64 (n : Int)] w fun e w' => ∃ v', e = .returned (.tuple #[v', .int .i64 0]) ∧ w'.ownsRow w.heap.size 5 1 v' (padL n).length ((padL n).map (Value.int .u8)) ∧ Below w.heap.size w w' := by
  obtain ⟨z, HZ⟩ : ∃ z, Hid (padZ n = z) := ⟨_, rfl⟩
  have HZE : Hid (z = (64 - (n + 9) % 64) % 64) := by rw [← HZ.out]; rfl
  have hz64 : z < 64 := by have := HZE.out; omega
  have HO1 : Hid ((w.alloc (.cells #[.int .u8 128] 5)).ownsRow w.heap.size 5 1 (.slice (some ⟨w.heap.size, 0, none⟩) 1 1) (1 + 0) ([.int .u8 128] ++ List.replicate 0 (.int .u8 0))) := World.ownsRow_lit (base := w.heap.size) (e := 5) (size := 1) w #[.int .u8 128] 1 (Nat.le_refl _) (by decide) rfl
  have HB1 : Hid (Below w.heap.size w (w.alloc (.cells #[.int .u8 128] 5))) := (Below.refl _ w).alloc (Nat.le_refl _) _
  go_enter Tryd.func11, Tryd.ntmps11
  go_wp2
  go_loopw [4] (fun v wr => ∃ j : Nat, j ≤ z ∧ Hid (wr.ownsRow w.heap.size 5 1 v (1 + j) ([.int .u8 128] ++ List.replicate j (.int .u8 0))) ∧ Hid (Below w.heap.size w wr)) (fun v _ => 64 - lenV v)
  case atStart => exact ⟨0, Nat.zero_le _, HO1, HB1⟩
  case round =>
    obtain ⟨j, hj, HO, HB⟩ := hrel
    obtain ⟨g, cap, ev, hg0⟩ : ∃ g cap, u4 = .slice (some ⟨g, 0, none⟩) (1 + j) cap ∧ w.heap.size ≤ g := by
      rcases HO.out.2 with ⟨_, h⟩ | ⟨g, cap, _, h, h2, _⟩
      · omega
      · exact ⟨g, cap, h, h2⟩
    subst ev
    have hsz := HB.out.size
    by_cases hlt : j < z
    · have hc : ¬ (((n : Int) + (1 + (j : Int))) % 64 = 56) := by have := HZE.out; omega
      have HO2 : Hid ((wr.alloc (.cells #[.int .u8 0] 5)).ownsRow w.heap.size 5 1 (.slice (some ⟨g, 0, none⟩) (1 + j) cap) (1 + j) ([.int .u8 128] ++ List.replicate j (.int .u8 0))) := HO.out.alloc _
      have HLB := hid (lit_HB wr 0 (by decide))
      have HB2 : Hid (Below w.heap.size w (wr.alloc (.cells #[.int .u8 0] 5))) := HB.out.alloc hsz _
      go_wp2_with (at_builtin; refine wpList_append_HB rfl _ _ rfl w.heap.size _ _ _ rfl HO2.out _ _ rfl HLB.out ?q1 ?q2 ?_)
      case q1 => simp; omega
      case q2 => simp; omega
      intro v4 w4 ho4 hg4
      have HO4 : Hid (w4.ownsRow w.heap.size 5 1 v4 (1 + (j + 1)) ([.int .u8 128] ++ List.replicate (j + 1) (.int .u8 0))) := by
        rw [List.replicate_succ', ← Nat.add_assoc]
        exact ho4
      have HB4 : Hid (Below w.heap.size w w4) := HB2.out.grown hg4 HB2.out.size (fun k e => by
        have : g = k := by simpa [Value.ownBlock] using e
        omega)
      obtain ⟨g4, cap4, ev4⟩ : ∃ g cap, v4 = .slice (some ⟨g, 0, none⟩) (1 + (j + 1)) cap := by
        rcases HO4.out.2 with ⟨_, h⟩ | ⟨g, cap, _, h, h2, _⟩
        · omega
        · exact ⟨g, cap, h⟩
      subst ev4
      clear ho4 hg4 HO2 HLB HB2 hc
      go_wp2
      exact ⟨⟨j + 1, by omega, HO4, HB4⟩, by simp [lenV]; omega⟩
    · have hjz : j = z := by omega
      subst hjz
      have hc : ((n : Int) + (1 + (j : Int))) % 64 = 56 := by have := HZE.out; omega
      obtain ⟨xs, HXS⟩ : ∃ xs : List Value, Hid (([Value.int .u8 128] ++ List.replicate j (Value.int .u8 0)) = xs) := ⟨_, rfl⟩
      have HO0 := hid HO.out
      rw [HXS.out] at HO0
      obtain ⟨x, HX0⟩ : ∃ x, Hid (n * 8 = x) := ⟨_, rfl⟩
      have hnx : (n : Int) * 8 = (x : Int) := by rw [← HX0.out]; omega
      have hxb : x ≤ 9223372036854775808 := by rw [← HX0.out]; omega
      go_wp2
      clear hc HO hlt hnx
      go_loopw [4, 6] (fun o i wq => ∃ m : Nat, m ≤ 8 ∧ i = .int .i64 ((m : Int) - 1) ∧ Hid (wq.ownsRow w.heap.size 5 1 o (1 + j + (8 - m)) (xs ++ (hiL2 8 m x).map (Value.int .u8))) ∧ Hid (Below w.heap.size w wq)) (fun _ i _ => (intOf i + 1).toNat)
      case atStart => exact ⟨8, Nat.le_refl _, rfl, by rw [Nat.sub_self, show hiL2 8 8 x = [] from rfl, List.map_nil, List.append_nil]; exact HO0, HB⟩
      case round =>
        clear HO0 HB hsz
        obtain ⟨m, hm, rfl, HO, HBw⟩ := hrel
        obtain ⟨g2, cap2, ev, hg2⟩ : ∃ g cap, u4 = .slice (some ⟨g, 0, none⟩) (1 + j + (8 - m)) cap ∧ w.heap.size ≤ g := by
          rcases HO.out.2 with ⟨_, h⟩ | ⟨g, cap, _, h, h2, _⟩
          · omega
          · exact ⟨g, cap, h, h2⟩
        cases m with
        | zero =>
          have HPL : Hid ((padL n).map (Value.int .u8) = xs ++ (hiL2 8 0 x).map (Value.int .u8)) := by
            show _ = _
            rw [← HXS.out, show hiL2 8 0 x = bigL 8 x from by unfold hiL2; rw [Nat.sub_zero, List.take_of_length_le (by rw [bigL_length]; exact Nat.le_refl 8)], ← HX0.out]
            unfold padL
            rw [HZ.out]
            simp
          have HLn : Hid ((padL n).length = 1 + j + (8 - 0)) := by show _ = _; rw [padL_length, HZ.out]; omega
          go_wp2
          go_ret2
          refine ⟨_, rfl, ?_, HBw.out⟩
          rw [HPL.out, HLn.out]
          exact HO.out
        | succ m =>
          have HS := hid (hiL2_step 8 m x (by omega))
          have hmc : m = 0 ∨ m = 1 ∨ m = 2 ∨ m = 3 ∨ m = 4 ∨ m = 5 ∨ m = 6 ∨ m = 7 := by omega
          have hxi : (x : Int) ≤ 9223372036854775808 := by omega
          have hsz := HBw.out.size
          obtain ⟨y, HY⟩ : ∃ y, Hid (((x / 256 ^ m % 256 : Nat) : Int) = y) := ⟨_, rfl⟩
          rw [HY.out] at HS
          have hyb : Hid (0 ≤ y ∧ y < 256) := by rw [← HY.out]; refine hid ?_; omega
          obtain ⟨k0, HK⟩ : ∃ k0, Hid (1 + j + (8 - (m + 1)) = k0) := ⟨_, rfl⟩
          have HK2 : Hid (1 + j + (8 - m) = k0 + 1) := by show _ = _; rw [← HK.out]; omega
          have hk0 : k0 ≤ 80 := by rw [← HK.out]; omega
          obtain ⟨lst, HLs⟩ : ∃ lst, Hid (xs ++ (hiL2 8 (m + 1) x).map (Value.int .u8) = lst) := ⟨_, rfl⟩
          have HSX : Hid (xs ++ (hiL2 8 m x).map (Value.int .u8) = lst ++ [.int .u8 y]) := by
            show _ = _
            rw [HS.out, List.map_append, ← List.append_assoc, HLs.out]
            rfl
          have HO' := hid HO.out
          rw [HK.out, HLs.out] at HO'
          rw [HK.out] at ev
          clear HO
          subst ev
          rcases hmc with rfl | rfl | rfl | rfl | rfl | rfl | rfl | rfl
          all_goals
            go_wp2_with (at_builtin; refine wpList_append_HB rfl _ _ rfl w.heap.size _ _ _ rfl (HO'.out.alloc _) _ [y] rfl ?q0 ?q1 ?q2 ?_)
            case q0 => exact lit_HB2 _ _ _ (by rw [← HY.out]; simp; try omega) hyb.out
            case q1 => simp; omega
            case q2 => simp; omega
            intro v' w2 hown2 hgr2
            have HO2 : Hid (w2.ownsRow w.heap.size 5 1 v' (k0 + 1) (lst ++ [.int .u8 y])) := hown2
            have HB2 := hid ((HBw.out.alloc HBw.out.size _).grown hgr2 (by simp; omega) (fun k e => (HO'.out.lt k e).1))
            clear hown2 hgr2
            go_wp2
            exact ⟨⟨_, Nat.le_of_succ_le hm, rfl, by rw [HK2.out, HSX.out]; exact HO2, HB2⟩, by simp [intOf]⟩
theorem rpad_bad (w : World) (n : Int) (hn : n < 0 ∨ 1152921504606846976 < n) : Calls Tryd.prog 11 #[.int .i64 n] w fun e w' => e = .returned (.tuple #[.slice none 0 0, .int .i64 2]) ∧ w' = w := by
  rcases hn with h | h
  · go_enter Tryd.func11, Tryd.ntmps11
    go_wp2
    go_ret2
    exact ⟨rfl, rfl⟩
  · have h0 : ¬ n < 0 := by omega
    go_enter Tryd.func11, Tryd.ntmps11
    go_wp2
    go_ret2
    exact ⟨rfl, rfl⟩
theorem zero_b64 : (Tryd.prog.info? 28).map (·.zero) = some (some (.agg (cellsB (List.replicate 64 0)))) := by kernel_rfl
theorem cellsB_set2 (l : List Int) (i : Nat) (x : Int) : (cellsB l).setIfInBounds i (.int .u8 x) = cellsB (l.set i x) := by
  unfold cellsB
  rw [List.map_set]
  simp
theorem dig_get {W : List Nat} (hW : W8 W) (a r : Nat) (ha : a < 8) (hr : r < 4) : (W.flatMap (bigL 4)).getD (4 * a + r) 0 = ((W.getD a 0 / 256 ^ (3 - r) % 256 : Nat) : Int) := by
  obtain ⟨x0, x1, x2, x3, x4, x5, x6, x7, rfl, _⟩ := hW.open
  have h1 : a = 0 ∨ a = 1 ∨ a = 2 ∨ a = 3 ∨ a = 4 ∨ a = 5 ∨ a = 6 ∨ a = 7 := by omega
  have h2 : r = 0 ∨ r = 1 ∨ r = 2 ∨ r = 3 := by omega
  rcases h1 with rfl | rfl | rfl | rfl | rfl | rfl | rfl | rfl <;> rcases h2 with rfl | rfl | rfl | rfl <;> rfl
def curB (t : List Int) (i : Nat) : List Int := t.take i ++ (List.replicate 64 (0 : Int)).drop i
theorem curB_length (t : List Int) (i : Nat) (hi : i ≤ 64) (ht : t.length = 64) : (curB t i).length = 64 := by
  unfold curB
  rw [List.length_append, List.length_take, List.length_drop, List.length_replicate]
  omega
theorem curB_step (t : List Int) (i : Nat) (hi : i < 64) (ht : t.length = 64) : (curB t i).set i (t.getD i 0) = curB t (i + 1) := by
  unfold curB
  have hl : (t.take i).length = i := by rw [List.length_take]; omega
  have hz : i < (List.replicate 64 (0 : Int)).length := by rw [List.length_replicate]; omega
  have hi2 : i < t.length := by omega
  rw [List.set_append_right _ _ (by omega), hl, Nat.sub_self, List.drop_eq_getElem_cons hz, List.set_cons_zero, List.take_succ_eq_append_getElem hi2, getD_of_lt hi2, List.append_assoc]
  rfl
theorem blkOf_get (M : List Int) (k j : Nat) (hj : j < 64) : (blkOf M k).getD j 0 = M.getD (64 * k + j) 0 := by
  unfold blkOf
  simp only [List.getD, List.getElem?_take, List.getElem?_drop, if_pos hj]
end Go.Proofs.YtinahldjpobigaaDoor
