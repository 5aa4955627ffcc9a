/- Of the road to wireCallsUpto_holds: Apart, WrBk, RegLast, WrRRq0. -/
import Derived.Test.YtgjadpidoaianaaG10
import Derived.Test.YtgjadpidoaianaaG00
import Derived.Deep.RegionHeld3
import Derived.Test.YtgjadpidoaianaaG01
import Derived.Laws.AppendOwn
import Derived.OrdersHeld
import Derived.Deep.RegionHeld
import Derived.Test.YtgjadpidoaianaaG09
set_option linter.unusedVariables false
set_option linter.unusedSimpArgs false
namespace Go.Proofs.Ytgjadpidoaianaa
open Go.RowKit
def marksL (k n : Nat) : List Int := (List.range n).map (mkB k)
theorem marksL_length (k n : Nat) : (marksL k n).length = n := by simp [marksL]
theorem marksL_getD (k n i : Nat) (h : i < n) : (marksL k n).getD i 0 = mkB k i := by simp [marksL, List.getD, h]
theorem marksL_byt (k n : Nat) : ∀ x ∈ marksL k n, 0 ≤ x ∧ x < 256 := by
  intro x hx
  obtain ⟨i, _, rfl⟩ := List.mem_map.1 hx
  exact mkB_byt _ _
theorem marksL_succ (k n : Nat) : marksL k (n + 1) = marksL k n ++ [mkB k n] := by simp [marksL, List.range_succ]
theorem marksL_take (k n m : Nat) (h : n ≤ m) : (marksL k m).take n = marksL k n := by
  unfold marksL
  rw [← List.map_take, List.take_range]
  congr 2
  omega
def Apt (B : Nat) (w : World) (us : List Value) (ls : List (List Int)) : Prop :=
  us.length = ls.length ∧ (∀ k, k < us.length → w.ownsRow B 5 1 (us.getD k undef) (ls.getD k []).length ((ls.getD k []).map (Value.int .u8))) ∧
    ∀ i j, i < us.length → j < us.length → i ≠ j → (us.getD i undef).ownBlock = none ∨ (us.getD i undef).ownBlock ≠ (us.getD j undef).ownBlock
def HV (w : World) (v : Value) (us : List Value) : Prop :=
  ∃ (p : Option Addr) (c : Nat), v = .slice p us.length c ∧ us.length ≤ c ∧ c ≤ maxLen ∧
    (us ≠ [] → ∃ b off, p = some ⟨b, off, none⟩ ∧ BT w b 36 ∧ ∀ k, k < us.length → w.cell? ⟨b, off + k, none⟩ = some (us.getD k undef))
theorem BT.grown {w w' : World} {b : Nat} {T : TypeId} {row : Option Nat} (h : BT w b T) (hg : w.grownBy w' row) (hr : ∀ g, row = some g → ∃ e, BT w g e ∧ e ≠ T) : BT w' b T := by
  obtain ⟨cur, fz, hh⟩ := h
  refine ⟨cur, fz, ?_⟩
  rw [hg.block b (Array.getElem?_eq_some_iff.1 hh).1 ?_]
  · exact hh
  · intro e
    obtain ⟨e', ⟨cur', fz', hh'⟩, hne⟩ := hr b e.symm
    rw [hh] at hh'
    simp only [Option.some.injEq, Obj.cells.injEq] at hh'
    exact hne hh'.2.1.symm
theorem HV.grown {w w' : World} {v : Value} {us : List Value} {row : Option Nat} (h : HV w v us) (hg : w.grownBy w' row) (hr : ∀ g, row = some g → BT w g 5) : HV w' v us := by
  obtain ⟨p, c, h1, h2, h3, h4⟩ := h
  refine ⟨p, c, h1, h2, h3, fun hne => ?_⟩
  obtain ⟨b, off, e, hb, hc⟩ := h4 hne
  have hb' : BT w' b 36 := hb.grown hg (fun g e => ⟨_, hr g e, by decide⟩)
  refine ⟨b, off, e, hb', fun k hk => hg.cell (hc k hk) ?_⟩
  intro e
  obtain ⟨cur, fz, hh⟩ := hb
  obtain ⟨cur', fz', hh'⟩ := hr b e.symm
  rw [hh] at hh'
  simp at hh'
theorem own_BT {w : World} {B n : Nat} {v : Value} {xs : List Value} {e : TypeId} (h : w.ownsRow B e 1 v n xs) : ∀ g, v.ownBlock = some g → BT w g e := by
  intro g hg
  rcases h.2 with ⟨rfl, _⟩ | ⟨g', cap, cur, rfl, _, hh, _⟩
  · simp [Value.ownBlock] at hg
  · simp only [Value.ownBlock, Option.some.injEq] at hg
    subst hg
    exact ⟨cur, _, hh⟩
theorem BT.ne {w : World} {b g : Nat} {T U : TypeId} (h : BT w b T) (k : BT w g U) (hne : T ≠ U) : b ≠ g := by
  intro e
  subst e
  obtain ⟨cur, fz, hh⟩ := h
  obtain ⟨cur', fz', hh'⟩ := k
  rw [hh] at hh'
  simp only [Option.some.injEq, Obj.cells.injEq] at hh'
  exact hne hh'.2.1
theorem HV.block {w : World} {b off n c : Nat} {us : List Value} (h : HV w (.slice (some ⟨b, off, none⟩) n c) us) (h0 : 0 < us.length) : BT w b 36 := by
  obtain ⟨p, c', e, _, _, h4⟩ := h
  obtain ⟨b', off', e2, hb, _⟩ := h4 (by intro e; subst e; simp at h0)
  simp only [Value.slice.injEq] at e
  rw [← e.1] at e2
  simp only [Option.some.injEq, Addr.mk.injEq, and_true] at e2
  rw [e2.1]
  exact hb
theorem getD_set {α : Type} (l : List α) (d x : α) (k j : Nat) (hk : k < l.length) : (l.set k x).getD j d = if j = k then x else l.getD j d := by
  by_cases h : j = k
  · subst h
    simp [List.getD, hk]
  · rw [if_neg h]
    simp only [List.getD]
    rw [List.getElem?_set_ne (Ne.symm h)]
theorem Apt.store {B : Nat} {w : World} {us : List Value} {ls : List (List Int)} (h : Apt B w us ls) (k i : Nat) (x : Int) (hk : k < us.length) {g cap n : Nat} (hu : us.getD k undef = .slice (some ⟨g, 0, none⟩) n cap) :
    Apt B (w.setCell ⟨g, i, none⟩ (.int .u8 x)) us (ls.set k ((ls.getD k []).set i x)) ∧ w.grownBy (w.setCell ⟨g, i, none⟩ (.int .u8 x)) (some g) := by
  obtain ⟨h1, h2, h3⟩ := h
  have hok := h2 k hk
  rw [hu] at hok
  have hn : n = (ls.getD k []).length := by
    rcases hok.2 with ⟨e, _⟩ | ⟨_, _, _, e, _⟩
    · cases e
    · cases e; rfl
  subst hn
  have hst := hok.stored i (.int .u8 x)
  refine ⟨⟨by simpa using h1, fun j hj => ?_, h3⟩, hst.2⟩
  rw [getD_set ls [] _ k j (by omega)]
  by_cases hjk : j = k
  · subst hjk
    rw [if_pos rfl, hu, List.length_set, List.map_set]
    exact hst.1
  · rw [if_neg hjk]
    refine (h2 j hj).kept hst.2 ?_
    have := h3 j k hj hk hjk
    rw [hu] at this
    exact this
theorem Apt.slice {B : Nat} {w : World} {us : List Value} {ls : List (List Int)} (h : Apt B w us ls) (k : Nat) (hk : k < us.length) : ∃ p c, us.getD k undef = .slice p (ls.getD k []).length c := by
  rcases (h.2.1 k hk).2 with ⟨e, e2⟩ | ⟨g, cap, _, e, _⟩
  · exact ⟨none, 0, by rw [e, e2]⟩
  · exact ⟨_, _, e⟩
theorem Apt.some {B : Nat} {w : World} {us : List Value} {ls : List (List Int)} (h : Apt B w us ls) (k : Nat) (hk : k < us.length) (h0 : 0 < (ls.getD k []).length) : ∃ g c, us.getD k undef = .slice (Option.some ⟨g, 0, none⟩) (ls.getD k []).length c ∧ c ≤ maxLen ∧ (ls.getD k []).length ≤ c ∧ B ≤ g ∧ BT w g 5 := by
  rcases (h.2.1 k hk).2 with ⟨_, e2⟩ | ⟨g, cap, cur, e, hb, hh, h1, h2, _⟩
  · omega
  · exact ⟨g, cap, e, h2, h1, hb, cur, _, hh⟩
def Ph1 (B : Nat) (w : World) (us : List Value) (ls : List (List Int)) (K i : Nat) : Prop :=
  ∃ ms, Apt B w us ms ∧ (∀ j, (ms.getD j []).length = (ls.getD j []).length) ∧ (∀ j, j < K → ms.getD j [] = marksL (j + 1) (ls.getD j []).length) ∧ (ms.getD K []).take i = marksL (K + 1) i
theorem Ph1.start {B : Nat} {w : World} {us : List Value} {ls : List (List Int)} (h : Apt B w us ls) : Ph1 B w us ls 0 0 := ⟨ls, h, fun _ => rfl, fun j hj => by omega, by simp [marksL]⟩
theorem take_set_succ (l : List Int) (i : Nat) (x : Int) (hi : i < l.length) : (l.set i x).take (i + 1) = l.take i ++ [x] := by
  rw [List.take_succ_eq_append_getElem (by simpa using hi)]
  have e : (l.set i x).take i = l.take i := by
    apply List.ext_getElem?
    intro j
    simp only [List.getElem?_take]
    split
    · rw [List.getElem?_set_ne (by omega)]
    · rfl
  rw [e]
  simp
theorem Ph1.step {B : Nat} {w : World} {us : List Value} {ls : List (List Int)} {K i : Nat} (h : Ph1 B w us ls K i) (hK : K < us.length) (hi : i < (ls.getD K []).length) {g cap n : Nat} (hu : us.getD K undef = .slice (some ⟨g, 0, none⟩) n cap) :
    Ph1 B (w.setCell ⟨g, i, none⟩ (.int .u8 (mkB (K + 1) i))) us ls K (i + 1) ∧ w.grownBy (w.setCell ⟨g, i, none⟩ (.int .u8 (mkB (K + 1) i))) (some g) := by
  obtain ⟨ms, ha, hl, hd, ht⟩ := h
  have hs := ha.store K i (mkB (K + 1) i) hK hu
  have hKm : K < ms.length := by have := ha.1; omega
  refine ⟨⟨_, hs.1, fun j => ?_, fun j hj => ?_, ?_⟩, hs.2⟩
  · rw [getD_set ms [] _ K j hKm]
    split
    · rename_i e; subst e; rw [List.length_set]; exact hl _
    · exact hl j
  · rw [getD_set ms [] _ K j hKm, if_neg (by omega)]
    exact hd j hj
  · rw [getD_set ms [] _ K K hKm, if_pos rfl, take_set_succ _ _ _ (by rw [hl]; exact hi), ht, marksL_succ]
theorem Ph1.next {B : Nat} {w : World} {us : List Value} {ls : List (List Int)} {K i : Nat} (h : Ph1 B w us ls K i) (hi : (ls.getD K []).length ≤ i) : Ph1 B w us ls (K + 1) 0 := by
  obtain ⟨ms, ha, hl, hd, ht⟩ := h
  refine ⟨ms, ha, hl, fun j hj => ?_, by simp [marksL]⟩
  by_cases hj2 : j < K
  · exact hd j hj2
  · have e : j = K := by omega
    subst e
    have e1 := congrArg (List.take (ls.getD j []).length) ht
    rw [List.take_take, marksL_take _ _ _ hi] at e1
    rw [← e1, List.take_of_length_le]
    rw [hl]
    omega
theorem Ph1.slice {B : Nat} {w : World} {us : List Value} {ls : List (List Int)} {K i : Nat} (h : Ph1 B w us ls K i) (k : Nat) (hk : k < us.length) : ∃ p c, us.getD k undef = .slice p (ls.getD k []).length c := by
  obtain ⟨ms, ha, hl, _, _⟩ := h
  obtain ⟨p, c, e⟩ := ha.slice k hk
  rw [hl] at e
  exact ⟨p, c, e⟩
theorem Ph1.some {B : Nat} {w : World} {us : List Value} {ls : List (List Int)} {K i : Nat} (h : Ph1 B w us ls K i) (k : Nat) (hk : k < us.length) (h0 : 0 < (ls.getD k []).length) : ∃ g c, us.getD k undef = .slice (Option.some ⟨g, 0, none⟩) (ls.getD k []).length c ∧ c ≤ maxLen ∧ (ls.getD k []).length ≤ c ∧ B ≤ g ∧ BT w g 5 ∧ ∀ j, j < (ls.getD k []).length → (∃ z, w.cell? ⟨g, j, none⟩ = Option.some z) ∧ w.frozen? ⟨g, j, none⟩ = false := by
  obtain ⟨ms, ha, hl, _, _⟩ := h
  obtain ⟨g, c, e, h1, h2, h3, h4⟩ := ha.some k hk (by rw [hl]; exact h0)
  have hrow := ha.2.1 k hk
  rw [e] at hrow
  rw [hl] at e h2
  refine ⟨g, c, e, h1, h2, h3, h4, fun j hj => ⟨?_, hrow.frozenAt j⟩⟩
  have := hrow.cellAt j (by rw [hl]; omega)
  rw [this]
  exact ⟨_, List.getElem?_eq_getElem (by simp only [List.length_map]; rw [hl]; exact hj)⟩
theorem Ph1.drew {B : Nat} {w : World} {us : List Value} {ls : List (List Int)} {K i : Nat} (h : Ph1 B w us ls K i) : Ph1 B w.drew us ls K i := h
theorem HV.drew {w : World} {v : Value} {us : List Value} (h : HV w v us) : HV w.drew v us := h
theorem HB.away {w w' : World} {u : Value} {l : List Int} {row : Option Nat} (h : HB w u l) (hg : w.grownBy w' row) (hr : u.ownBlock = none ∨ u.ownBlock ≠ row) : HB w' u l := by
  obtain ⟨⟨p, c, rfl, h2, h3, h6, h4⟩, h5⟩ := h
  refine ⟨⟨p, c, rfl, h2, h3, h6, fun hl => ?_⟩, h5⟩
  obtain ⟨b, off, rfl, hh⟩ := h4 hl
  refine ⟨b, off, rfl, fun j hj => hg.cell (hh j hj) ?_⟩
  rcases hr with hr | hr
  · simp [Value.ownBlock] at hr
  · exact hr
def Usf (w : World) (us : List Value) (ls : List (List Int)) : Prop :=
  (∀ i j, i < us.length → j < us.length → i ≠ j → (us.getD i undef).ownBlock = none ∨ (us.getD i undef).ownBlock ≠ (us.getD j undef).ownBlock) ∧
  (∀ j b, j < us.length → (us.getD j undef).ownBlock = some b → b < w.heap.size ∧ ∃ c, us.getD j undef = .slice (some ⟨b, 0, none⟩) (ls.getD j []).length c ∧ (ls.getD j []).length ≤ c ∧ c ≤ maxLen) ∧
  (∀ j, j < us.length → ∃ p c, us.getD j undef = .slice p (ls.getD j []).length c)
theorem Usf.grown {w w' : World} {us : List Value} {ls : List (List Int)} (h : Usf w us ls) (hs : w.heap.size ≤ w'.heap.size) : Usf w' us ls :=
  ⟨h.1, fun j b hj hb => ⟨Nat.lt_of_lt_of_le (h.2.1 j b hj hb).1 hs, (h.2.1 j b hj hb).2⟩, h.2.2⟩
def Pool (B : Nat) (w : World) (us : List Value) (ls : List (List Int)) (K L : Nat) (gl : List Value) : Prop :=
  gl.length = K ∧ Usf w us ls ∧
  (∀ j, j < K → w.ownsRow B 5 1 (gl.getD j undef) ((ls.getD j []).length + 70) ((marksL (j + 1) ((ls.getD j []).length + 70)).map (Value.int .u8)) ∧ HB w (us.getD j undef) (marksL (j + 1) (ls.getD j []).length)) ∧
  (∀ j, L ≤ j → j < us.length → w.ownsRow B 5 1 (us.getD j undef) (ls.getD j []).length ((marksL (j + 1) (ls.getD j []).length).map (Value.int .u8))) ∧
  (∀ i j, i < K → K ≤ j → j < us.length → (gl.getD i undef).ownBlock ≠ (us.getD j undef).ownBlock)
theorem Pool.grown {B : Nat} {w w' : World} {us : List Value} {ls : List (List Int)} {K L : Nat} {gl : List Value} {row : Option Nat} (h : Pool B w us ls K L gl) (hg : w.grownBy w' row)
    (hr1 : ∀ i, i < K → (gl.getD i undef).ownBlock = none ∨ (gl.getD i undef).ownBlock ≠ row) (hr2 : ∀ j, j < us.length → (j < K ∨ L ≤ j) → (us.getD j undef).ownBlock = none ∨ (us.getD j undef).ownBlock ≠ row) (hKL : K ≤ us.length) : Pool B w' us ls K L gl := by
  obtain ⟨h1, h2, h3, h4, h5⟩ := h
  refine ⟨h1, h2.grown hg.size, fun j hj => ⟨(h3 j hj).1.kept hg (hr1 j hj), (h3 j hj).2.away hg (hr2 j (by omega) (.inl hj))⟩, fun j hj hj2 => (h4 j hj hj2).kept hg (hr2 j hj2 (.inr hj)), h5⟩
def Cur (B : Nat) (w : World) (us : List Value) (ls : List (List Int)) (K : Nat) (gl : List Value) (g : Value) (m : Nat) : Prop :=
  Pool B w us ls K (K + 1) gl ∧ w.ownsRow B 5 1 g ((ls.getD K []).length + m) ((marksL (K + 1) ((ls.getD K []).length + m)).map (Value.int .u8)) ∧ HB w (us.getD K undef) (marksL (K + 1) (ls.getD K []).length) ∧
  (∀ i, i < K → (gl.getD i undef).ownBlock ≠ g.ownBlock) ∧ ∀ j, j < us.length → j ≠ K → (us.getD j undef).ownBlock = none ∨ (us.getD j undef).ownBlock ≠ g.ownBlock
theorem Cur.start {B : Nat} {w : World} {us : List Value} {ls : List (List Int)} {K : Nat} {gl : List Value} (h : Pool B w us ls K K gl) (hK : K < us.length) : Cur B w us ls K gl (us.getD K undef) 0 := by
  obtain ⟨h1, h2, h3, h4, h5⟩ := h
  have hk := h4 K (Nat.le_refl _) hK
  refine ⟨⟨h1, h2, h3, fun j hj => h4 j (by omega), h5⟩, by simpa using hk, HB.of_own (by rw [marksL_length]; exact hk) (marksL_byt _ _), fun i hi => h5 i K hi (Nat.le_refl _) hK, fun j hj hne => h2.1 j K hj hK hne⟩
theorem Cur.finish {B : Nat} {w : World} {us : List Value} {ls : List (List Int)} {K : Nat} {gl : List Value} {g : Value} (h : Cur B w us ls K gl g 70) (hK : K < us.length) : Pool B w us ls (K + 1) (K + 1) (gl ++ [g]) := by
  obtain ⟨⟨h1, h2, h3, h4, h5⟩, hg, hu, hs1, hs2⟩ := h
  have gd : ∀ j, (gl ++ [g]).getD j undef = if j < K then gl.getD j undef else if j = K then g else undef := by
    intro j
    rw [getD_app, h1]
    split
    · rfl
    · split
      · rename_i e; subst e; simp
      · rename_i h6 h7
        have : 0 < j - K := by omega
        obtain ⟨t, ht⟩ : ∃ t, j - K = t + 1 := ⟨j - K - 1, by omega⟩
        rw [ht]; rfl
  refine ⟨by simp [h1], h2, fun j hj => ?_, h4, fun i j hi hj hj2 => ?_⟩
  · rw [gd]
    by_cases hjk : j < K
    · rw [if_pos hjk]; exact h3 j hjk
    · have e : j = K := by omega
      subst e
      rw [if_neg hjk, if_pos rfl]
      exact ⟨hg, hu⟩
  · rw [gd]
    by_cases hik : i < K
    · rw [if_pos hik]; exact h5 i j hik (by omega) hj2
    · have e : i = K := by omega
      subst e
      rw [if_neg hik, if_pos rfl]
      rcases hs2 j hj2 (by omega) with h | h
      · rw [h]
        intro e
        rcases hg.2 with ⟨_, e2⟩ | ⟨g', cap, cur, e2, _⟩
        · omega
        · rw [e2] at e; simp [Value.ownBlock] at e
      · exact Ne.symm h
theorem Cur.alloc {B : Nat} {w : World} {us : List Value} {ls : List (List Int)} {K : Nat} {gl : List Value} {g : Value} {m : Nat} (h : Cur B w us ls K gl g m) (hK : K < us.length) (o : Obj) : Cur B (w.alloc o) us ls K gl g m := by
  have hg := World.grownBy_alloc w o none
  have tr : ∀ x : Option Nat, x = none ∨ x ≠ none := fun x => by cases x <;> simp
  exact ⟨h.1.grown hg (fun i _ => tr _) (fun j _ _ => tr _) (by omega), h.2.1.kept hg (tr _), h.2.2.1.away hg (tr _), h.2.2.2⟩
theorem Cur.step {B : Nat} {w w' : World} {us : List Value} {ls : List (List Int)} {K : Nat} {gl : List Value} {g g' : Value} {m : Nat} (h : Cur B w us ls K gl g m) (hK : K < us.length)
    (hown : w'.ownsRow B 5 1 g' ((ls.getD K []).length + m + 1) ((marksL (K + 1) ((ls.getD K []).length + m)).map (Value.int .u8) ++ [.int .u8 (mkB (K + 1) ((ls.getD K []).length + m))])) (hgr : w.grownBy w' g.ownBlock)
    (hd : g'.ownBlock = g.ownBlock ∨ (g'.ownBlock = some w.heap.size ∧ w.grownBy w' none)) : Cur B w' us ls K gl g' (m + 1) := by
  obtain ⟨hp, hg, hu, hs1, hs2⟩ := h
  have hp2 := hp
  obtain ⟨h1, h2, h3, h4, h5⟩ := hp2
  have hown2 : w'.ownsRow B 5 1 g' ((ls.getD K []).length + (m + 1)) ((marksL (K + 1) ((ls.getD K []).length + (m + 1))).map (Value.int .u8)) := by
    rw [← Nat.add_assoc, marksL_succ, List.map_append]
    exact hown
  have tr : ∀ x : Option Nat, x = none ∨ x ≠ none := fun x => by cases x <;> simp
  have hpool : Pool B w' us ls K (K + 1) gl := hp.grown hgr (fun i hi => .inr (hs1 i hi)) (fun j hj hj2 => hs2 j hj (by omega)) (by omega)
  rcases hd with hd | ⟨hd, hgn⟩
  · refine ⟨hpool, hown2, ?_, fun i hi => by rw [hd]; exact hs1 i hi, fun j hj hne => by rw [hd]; exact hs2 j hj hne⟩
    by_cases hsame : (us.getD K undef).ownBlock = none ∨ (us.getD K undef).ownBlock ≠ g.ownBlock
    · exact hu.away hgr hsame
    · obtain ⟨b, hb⟩ : ∃ b, (us.getD K undef).ownBlock = some b := by
        cases hx : (us.getD K undef).ownBlock with
        | none => exact absurd (.inl hx) hsame
        | some b => exact ⟨b, rfl⟩
      have hbg : g.ownBlock = some b := by
        apply Classical.byContradiction
        intro hn
        exact hsame (.inr (by rw [hb]; exact Ne.symm hn))
      obtain ⟨_, c, e, hc1, hc2⟩ := h2.2.1 K b hK hb
      rw [e]
      refine ⟨⟨some ⟨b, 0, none⟩, c, by rw [marksL_length], by rw [marksL_length]; exact hc1, hc2, (fun e => by cases e), fun _ => ⟨b, 0, rfl, fun j hj => ?_⟩⟩, marksL_byt _ _⟩
      rw [marksL_length] at hj
      obtain ⟨g2, cap, e2, _, _, _, hcell⟩ := ownsRow_cells hown2 (by omega)
      rw [hbg, e2] at hd
      simp only [Value.ownBlock, Option.some.injEq] at hd
      subst hd
      have hjl : j < (marksL (K + 1) ((ls.getD K []).length + (m + 1))).length := by rw [marksL_length]; omega
      have := hcell j (.int .u8 (mkB (K + 1) j)) (by
        rw [List.getElem?_map, List.getElem?_eq_getElem hjl, ← getD_of_lt hjl, marksL_getD _ _ _ (by omega)]; rfl)
      rw [this, marksL_getD _ _ _ hj]
  · refine ⟨hpool, hown2, hu.away hgn (tr _), fun i hi => ?_, fun j hj hne => ?_⟩
    · rw [hd]
      intro e
      have := ((h3 i hi).1.lt _ e).2
      omega
    · rw [hd]
      right
      intro e
      have := (h2.2.1 j _ hj e).1
      omega
theorem Ph1.pool {B : Nat} {w : World} {us : List Value} {ls : List (List Int)} (h : Ph1 B w us ls us.length 0) : Pool B w us ls 0 0 [] := by
  obtain ⟨ms, ha, hl, hd, _⟩ := h
  refine ⟨rfl, ⟨ha.2.2, fun j b hj hb => ?_, fun j hj => ?_⟩, fun j hj => by omega, fun j _ hj => ?_, fun i j hi => by omega⟩
  · have hrow := ha.2.1 j hj
    refine ⟨(hrow.lt b hb).2, ?_⟩
    rcases hrow.2 with ⟨e, _⟩ | ⟨g, cap, cur, e, _, _, h1, h2, _⟩
    · rw [e] at hb; simp [Value.ownBlock] at hb
    · rw [e] at hb
      simp only [Value.ownBlock, Option.some.injEq] at hb
      subst hb
      rw [hl] at e h1
      exact ⟨cap, e, h1, h2⟩
  · obtain ⟨p, c, e⟩ := ha.slice j hj
    rw [hl] at e
    exact ⟨p, c, e⟩
  · have := ha.2.1 j hj
    rw [hd j hj, marksL_length] at this
    exact this
theorem HV.apart {w w' : World} {v : Value} {us : List Value} {row : Option Nat} {N : Nat} (h : HV w v us) (hg : w.grownBy w' row) (hr : ∀ g, row = some g → N ≤ g) (hv : ∀ b off n c, v = .slice (some ⟨b, off, none⟩) n c → 0 < us.length → b < N) : HV w' v us := by
  obtain ⟨p, c, h1, h2, h3, h4⟩ := h
  refine ⟨p, c, h1, h2, h3, fun hne => ?_⟩
  obtain ⟨b, off, e, ⟨cur, fz, hh⟩, hc⟩ := h4 hne
  have hb : b < N := hv b off us.length c (by rw [h1, e]) (by cases us with | nil => exact absurd rfl hne | cons _ _ => simp)
  have hne2 : some b ≠ row := fun e => by have := hr b e.symm; omega
  exact ⟨b, off, e, ⟨cur, fz, by rw [hg.block b (Array.getElem?_eq_some_iff.1 hh).1 hne2]; exact hh⟩, fun k hk => hg.cell (hc k hk) hne2⟩
theorem HV.cellAt {w : World} {b off n c : Nat} {us : List Value} (h : HV w (.slice (some ⟨b, off, none⟩) n c) us) (k : Nat) (hk : k < us.length) : w.cell? ⟨b, off + k, none⟩ = some (us.getD k undef) := by
  obtain ⟨p', c', e', _, _, h4⟩ := h
  obtain ⟨b', off', e2, _, hc⟩ := h4 (by intro e; subst e; simp at hk)
  simp only [Value.slice.injEq] at e'
  rw [← e'.1] at e2
  simp only [Option.some.injEq, Addr.mk.injEq, and_true] at e2
  obtain ⟨rfl, rfl⟩ := e2
  exact hc k hk
set_option maxHeartbeats 4000000 in
theorem apart_any (B : Nat) (w : World) (v : Value) (us : List Value) (ls : List (List Int)) (hv : HV w v us) (ha : Apt B w us ls) (hB : B ≤ w.heap.size) (hn : us.length ≤ 5864062014634) (hls : ∀ k, (ls.getD k []).length ≤ 140737488351232) :
    Calls Try.prog 12 #[v] w fun e w' => e = .returned (.bool true) ∧ Below B w w' := by
  obtain ⟨p, c, e, hlc, hm, hcell⟩ := id hv
  unfold maxLen at hm
  subst e
  have A : Hid (0 < us.length → ∃ b off, p = some ⟨b, off, none⟩) := fun h0 => by
    obtain ⟨b, off, e, _⟩ := hcell (by intro e; subst e; simp at h0)
    exact ⟨b, off, e⟩
  have HV0 := hid hv
  have HA0 := hid (Ph1.start ha)
  have HLS := hid hls
  clear hcell hv ha hls
  go_enter Try.func12, Try.ntmps12
  go_wp2
  go_loopw [3] (fun k wr => ∃ K : Nat, K ≤ us.length ∧ k = .int .i64 K ∧ Hid (Ph1 B wr us ls K 0) ∧ Hid (HV wr (.slice p us.length c) us) ∧ Hid (Below B w wr)) (fun k _ => us.length - (intOf k).toNat)
  case atStart => exact ⟨0, Nat.zero_le _, rfl, HA0, HV0, Below.refl _ _⟩
  case round =>
    clear HA0 HV0
    obtain ⟨K, hK, rfl, HP, HVr, HBr⟩ := hrel
    by_cases hlt : K < us.length
    · obtain ⟨b, off, rfl⟩ := A.out (by omega)
      have hcells : Hid (∀ wz, HV wz (.slice (some ⟨b, off, none⟩) us.length c) us → wz.cell? ⟨b, off + K, none⟩ = some (us.getD K undef)) := by
        intro wz hz
        obtain ⟨p', c', e', _, _, h4⟩ := hz
        obtain ⟨b', off', e2, _, hc⟩ := h4 (by intro e; subst e; simp at hlt)
        simp only [Value.slice.injEq, true_and] at e'
        rw [← e'.1] at e2
        simp only [Option.some.injEq, Addr.mk.injEq, and_true] at e2
        obtain ⟨rfl, rfl⟩ := e2
        exact hc K hlt
      obtain ⟨n, HN⟩ : ∃ n, Hid ((ls.getD K []).length = n) := ⟨_, rfl⟩
      have hn2 : n ≤ 140737488351232 := by rw [← HN.out]; exact HLS.out K
      obtain ⟨pk, ck, HU⟩ : ∃ pk ck, Hid (us.getD K undef = .slice pk n ck) := by
        obtain ⟨pk, ck, e⟩ := HP.out.slice K hlt
        rw [HN.out] at e
        exact ⟨pk, ck, e⟩
      go_wp2
      go_loopw [4] (fun i wz => ∃ I : Nat, I ≤ n ∧ i = .int .i64 I ∧ Hid (Ph1 B wz us ls K I) ∧ Hid (HV wz (.slice (some ⟨b, off, none⟩) us.length c) us) ∧ Hid (Below B w wz)) (fun i _ => n - (intOf i).toNat)
      case atStart => exact ⟨0, Nat.zero_le _, rfl, HP, HVr, HBr⟩
      case round =>
        clear HP HVr HBr
        obtain ⟨I, hI, rfl, HP, HVr, HBr⟩ := hrel
        have hc1 := hcells.out wr HVr.out
        rw [HU.out] at hc1
        by_cases hli : I < n
        · obtain ⟨g, ck', e, hck, hck2, hgB, hBT, hcc⟩ := HP.out.some K hlt (by rw [HN.out]; omega)
          rw [HU.out, HN.out] at e
          simp only [Value.slice.injEq, true_and] at e
          obtain ⟨rfl, rfl⟩ := e
          obtain ⟨⟨z, hz⟩, hfz⟩ := hcc I (by rw [HN.out]; exact hli)
          rw [HN.out] at hck2
          unfold maxLen at hck
          have HBT := hid hBT
          have hgb : b ≠ g := (HVr.out.block (by omega)).ne hBT (by decide)
          have hbg : g ≠ b := Ne.symm hgb
          clear hcc hBT
          go_wp2
          go_region_held3 (fun w' => w'.cell? ⟨b, off + K, none⟩ = some (.slice (some ⟨g, 0, none⟩) n ck)) (go_keep) ((go_at_call 34; refine (mark_eq _ (K + 1) I _ _ (wrap_succ K (by omega)) rfl (by omega) (by omega)).mono ?_; rintro e wz ⟨rfl, hw⟩; have hw' := hw.symm; subst hw'; clear hw))
          have hst := HP.out.step hlt (by rw [HN.out]; exact hli) HU.out
          have HP2 := hid hst.1.drew
          have HV2 := hid (HVr.out.grown hst.2 (fun g' e => by cases e; exact HBT.out)).drew
          have HB2 := hid (HBr.out.setCell (p := ⟨g, I, none⟩) hgB (.int .u8 (mkB (K + 1) I))).drew
          clear hst
          go_wp2
          exact ⟨⟨I + 1, by omega, by go_num, HP2, HV2, HB2⟩, by simp [intOf]; omega⟩
        · have HP2 := hid (HP.out.next (by rw [HN.out]; omega))
          go_wp2
          exact ⟨⟨K + 1, by omega, by go_num, HP2, HVr, HBr⟩, by simp [intOf]; omega⟩
    · have hKn : K = us.length := by omega
      have HPl : Hid (Pool B wr us ls 0 0 []) := by
        have := HP.out
        rw [hKn] at this
        exact this.pool
      obtain ⟨N, HN⟩ : ∃ N, Hid (wr.heap.size = N) := ⟨_, rfl⟩
      have HNu : Hid (∀ j b, j < us.length → (us.getD j undef).ownBlock = some b → b < N) := fun j b hj hb => by rw [← HN.out]; exact (HPl.out.2.1.2.1 j b hj hb).1
      have HNv : Hid (∀ b off n c', Value.slice p us.length c = .slice (some ⟨b, off, none⟩) n c' → 0 < us.length → b < N) := fun b off n c' e h0 => by
        rw [← HN.out]
        have h1 := HVr.out
        rw [e] at h1
        obtain ⟨cur, fz, hh⟩ := h1.block h0
        exact (Array.getElem?_eq_some_iff.1 hh).1
      have HNB : Hid (B ≤ N) := by rw [← HN.out]; exact Nat.le_trans hB HBr.out.size
      have HNs : Hid (N ≤ wr.heap.size) := by rw [HN.out]; exact Nat.le_refl N
      clear HP hKn HN
      go_wp2
      go_loopw [5, 6] (fun gs k wz => ∃ (K : Nat) (gl : List Value), K ≤ us.length ∧ k = .int .i64 K ∧ Hid (Pool B wz us ls K K gl) ∧ Hid (wz.ownsRow N 36 1 gs K gl) ∧ Hid (HV wz (.slice p us.length c) us) ∧ Hid (Below B w wz) ∧ Hid (N ≤ wz.heap.size)) (fun _ k _ => us.length - (intOf k).toNat)
      case atStart => exact ⟨0, [], Nat.zero_le _, rfl, HPl, World.ownsRow_nil _ _ _ _, HVr, HBr, HNs⟩
      case round =>
        clear HPl HVr HBr HNs hlt hK
        obtain ⟨K, gl, hK, rfl, HP, HG, HVr, HBr, HNs⟩ := hrel
        by_cases hlt : K < us.length
        · obtain ⟨b, off, rfl⟩ := A.out (by omega)
          obtain ⟨n, HNn⟩ : ∃ n, Hid ((ls.getD K []).length = n) := ⟨_, rfl⟩
          have hn2 : n ≤ 140737488351232 := by rw [← HNn.out]; exact HLS.out K
          obtain ⟨pk, ck, HU⟩ : ∃ pk ck, Hid (us.getD K undef = .slice pk n ck) := by
            obtain ⟨pk, ck, e⟩ := HP.out.2.1.2.2 K hlt
            rw [HNn.out] at e
            exact ⟨pk, ck, e⟩
          have hc1 := HVr.out.cellAt K hlt
          rw [HU.out] at hc1
          have HC := hid (Cur.start HP.out hlt)
          rw [HU.out] at HC
          go_wp2
          go_loopw [7, 8] (fun g i wz => ∃ m : Nat, m ≤ 70 ∧ i = .int .i64 m ∧ Hid (Cur B wz us ls K gl g m) ∧ Hid (wz.ownsRow N 36 1 u5 K gl) ∧ Hid (HV wz (.slice (some ⟨b, off, none⟩) us.length c) us) ∧ Hid (Below B w wz) ∧ Hid (N ≤ wz.heap.size)) (fun _ i _ => 70 - (intOf i).toNat)
          case atStart => exact ⟨0, Nat.zero_le _, rfl, HC, HG, HVr, HBr, HNs⟩
          case round =>
            clear HC HG HVr HBr HNs hc1
            obtain ⟨m, hm70, rfl, HC, HG, HVr, HBr, HNs⟩ := hrel
            have hc1 := HVr.out.cellAt K hlt
            rw [HU.out] at hc1
            by_cases hlm : m < 70
            · have hlm2 : (m : Int) < 70 := by omega
              go_wp2_with fail
              refine (mark_eq wr (K + 1) (n + m) _ _ (by omega) (by omega) (by omega) (by omega)).mono ?_
              rintro e wz ⟨rfl, hw⟩
              have hw' := hw.symm
              subst hw'
              clear hw
              have HCa := hid (HC.out.alloc hlt (.cells #[.int .u8 (mkB (K + 1) (n + m))] 5))
              have HO := HCa.out.2.1
              rw [HNn.out] at HO
              have HOh := hid HO
              clear HO
              go_wp2_with (at_builtin; refine wpList_append_byte rfl _ _ rfl B _ (n + m) _ rfl HOh.out ⟨wr.heap.size, 0, none⟩ 1 (mkB (K + 1) (n + m)) rfl (by simp) ?q1 ?q2 ?_)
              case q1 => omega
              case q2 => have := HBr.out.size; simp; omega
              intro g' w2 hown2 hgr2 hd2
              have hBT := own_BT HOh.out
              have hal := World.grownBy_alloc wr (.cells #[.int .u8 (mkB (K + 1) (n + m))] 5) none
              have HC2 := hid (HCa.out.step hlt (by rw [HNn.out]; exact hown2) hgr2 (by rw [World.size_alloc]; exact hd2))
              have HG2 : Hid (w2.ownsRow N 36 1 u5 K gl) := by
                have h1 := HG.out.alloc (.cells #[.int .u8 (mkB (K + 1) (n + m))] 5)
                refine h1.kept hgr2 ?_
                cases hx : u7.ownBlock with
                | none => cases hy : u5.ownBlock <;> simp
                | some q =>
                  obtain ⟨cur, fz, hh⟩ := hBT q hx
                  exact .inr (own_block_ne h1 hh (by decide))
              have HV2 := hid ((HVr.out.grown hal (fun g e => by cases e)).grown hgr2 hBT)
              have HB2 := hid ((HBr.out.alloc (Nat.le_trans hB HBr.out.size) (.cells #[.int .u8 (mkB (K + 1) (n + m))] 5)).grown hgr2 (by have := HBr.out.size; simp; omega) (fun k e => (HOh.out.lt k e).1))
              have HN2 : Hid (N ≤ w2.heap.size) := by have h1 := hgr2.size; have h2 := HNs.out; simp at h1; exact Nat.le_trans h2 (by omega)
              clear hown2 hgr2 hd2 hBT hal
              go_wp2
              exact ⟨⟨m + 1, by omega, by go_num, HC2, HG2, HV2, HB2, HN2⟩, by simp [intOf]; omega⟩
            · have e70 : m = 70 := by omega
              subst e70
              have HPn := hid (HC.out.finish hlt)
              have HOg := HC.out.2.1
              rw [HNn.out] at HOg
              obtain ⟨pg, cg, eg, _, _⟩ : ∃ pg cg, u7 = .slice pg (n + 70) cg ∧ True ∧ True := by
                rcases HOg.2 with ⟨_, e⟩ | ⟨g', cap, cur, e, _⟩
                · omega
                · exact ⟨_, _, e, trivial, trivial⟩
              subst eg
              obtain ⟨i0, hi, hz0, hz1, hz2⟩ := info_parts info_bytes
              have HGa := hid (HG.out.alloc (.cells #[.slice pg (n + 70) cg] 36))
              have hal := World.grownBy_alloc wr (.cells #[.slice pg (n + 70) cg] 36) none
              have tr : ∀ x : Option Nat, x = none ∨ x ≠ none := fun x => by cases x <;> simp
              have HPa := hid (HPn.out.grown hal (fun i _ => tr _) (fun j _ _ => tr _) (by omega))
              have HVa := hid (HVr.out.grown hal (fun g e => by cases e))
              have HBa := hid (HBr.out.alloc (Nat.le_trans hB HBr.out.size) (.cells #[.slice pg (n + 70) cg] 36))
              clear HOg tr hal
              go_wp2_with (at_builtin; refine wpList_append_own _ rfl _ _ 24 rfl N 36 i0 (.slice none 0 0) 1 24 Try.underlying24 hi hz0 hz1 hz2 rfl (by decide) _ K gl rfl HGa.out ⟨wr.heap.size, 0, none⟩ 1 1 [_] rfl rfl (cell_one_new _ _ _) ?q1 ?q2 ?q3 ?q4 ?_)
              case q1 => intro u hu; simp only [List.mem_singleton] at hu; subst hu; rfl
              case q2 => unfold maxLen; omega
              case q3 => omega
              case q4 => have := HNs.out; simp; omega
              intro gs' w2 hown2 hgr2 _
              have hlo : ∀ g, u5.ownBlock = some g → N ≤ g := fun g e => (HGa.out.lt g e).1
              have HP2 : Hid (Pool B w2 us ls (K + 1) (K + 1) (gl ++ [.slice pg (n + 70) cg])) := by
                refine HPa.out.grown hgr2 (fun i hi => ?_) (fun j hj _ => ?_) (by omega)
                · cases hx : u5.ownBlock with
                  | none => cases hy : ((gl ++ [Value.slice pg (n + 70) cg]).getD i undef).ownBlock <;> simp
                  | some q =>
                    obtain ⟨cur, fz, hh⟩ := own_BT HGa.out q hx
                    exact .inr (own_block_ne (HPa.out.2.2.1 i hi).1 hh (by decide))
                · cases hx : (us.getD j undef).ownBlock with
                  | none => exact .inl rfl
                  | some q =>
                    right
                    intro e
                    have h1 := HNu.out j q hj hx
                    have h2 := hlo q e.symm
                    omega
              have HV2 := hid (HVa.out.apart hgr2 hlo HNv.out)
              have HB2 := hid (HBa.out.grown hgr2 (by have := HBr.out.size; simp; omega) (fun k e => Nat.le_trans HNB.out (hlo k e)))
              have HG2 : Hid (w2.ownsRow N 36 1 gs' (K + 1) (gl ++ [.slice pg (n + 70) cg])) := hown2
              have HN2 : Hid (N ≤ w2.heap.size) := by have h1 := hgr2.size; have h2 := HNs.out; simp at h1; exact Nat.le_trans h2 (by omega)
              clear hown2 hgr2 hlo
              go_wp2
              exact ⟨⟨K + 1, _, by omega, by go_num, HP2, HG2, HV2, HB2, HN2⟩, by simp [intOf]; omega⟩
        · have hKn : K = us.length := by omega
          subst hKn
          obtain ⟨pg, cg, eg⟩ : ∃ pg cg, u5 = .slice pg us.length cg := by
            rcases HG.out.2 with ⟨e, e2⟩ | ⟨g', cap, cur, e, _⟩
            · exact ⟨none, 0, by rw [e, e2]⟩
            · exact ⟨_, _, e⟩
          subst eg
          go_wp2
          go_loop [9] (fun k => ∃ Q : Nat, Q ≤ us.length ∧ k = .int .i64 Q) (fun k => us.length - (intOf k).toNat)
          case atStart => exact ⟨0, Nat.zero_le _, rfl⟩
          case round =>
            obtain ⟨Q, hQ, rfl⟩ := hrel
            by_cases hlq : Q < us.length
            · obtain ⟨b, off, rfl⟩ := A.out (by omega)
              obtain ⟨n, HNn⟩ : ∃ n, Hid ((ls.getD Q []).length = n) := ⟨_, rfl⟩
              have hn2 : n ≤ 140737488351232 := by rw [← HNn.out]; exact HLS.out Q
              have hc1 := HVr.out.cellAt Q hlq
              obtain ⟨hrow, hu⟩ := HP.out.2.2.1 Q hlq
              rw [HNn.out] at hrow hu
              obtain ⟨pk, ck, HU⟩ : ∃ pk ck, Hid (us.getD Q undef = .slice pk n ck) := by
                obtain ⟨pk, ck, e⟩ := HP.out.2.1.2.2 Q hlq
                rw [HNn.out] at e
                exact ⟨pk, ck, e⟩
              rw [HU.out] at hc1 hu
              obtain ⟨gg, capg, eg, _, hcg1, hcg2, hgc⟩ := ownsRow_cells HG.out (by omega)
              simp only [Value.slice.injEq, true_and] at eg
              obtain ⟨rfl, rfl⟩ := eg
              have hgl : gl.length = us.length := HP.out.1
              have hc2 := hgc Q (gl.getD Q undef) (by simp [List.getD, List.getElem?_eq_getElem (show Q < gl.length by omega)])
              rw [Nat.zero_add] at hc2
              obtain ⟨gq, capq, eq, _, hq1, hq2, hqc⟩ := ownsRow_cells hrow (by omega)
              rw [eq] at hc2
              have HQ : Hid (∀ I, I < n + 70 → wr.cell? ⟨gq, I, none⟩ = some (.int .u8 (mkB (Q + 1) I))) := fun I hI => by
                have hjl : I < (marksL (Q + 1) (n + 70)).length := by rw [marksL_length]; exact hI
                have := hqc I (.int .u8 (mkB (Q + 1) I)) (by rw [List.getElem?_map, List.getElem?_eq_getElem hjl, ← getD_of_lt hjl, marksL_getD _ _ _ hI]; rfl)
                rwa [Nat.zero_add] at this
              have HUc : Hid (∀ I, I < n → ∃ b' off', pk = some ⟨b', off', none⟩ ∧ wr.cell? ⟨b', off' + I, none⟩ = some (.int .u8 (mkB (Q + 1) I)) ∧ n ≤ ck) := fun I hI => by
                obtain ⟨b', off', c', e, h1, h2, hh⟩ := hu.ne (by rw [marksL_length]; omega)
                rw [marksL_length] at e hh h1
                simp only [Value.slice.injEq, true_and] at e
                obtain ⟨rfl, rfl⟩ := e
                have := hh I hI
                rw [marksL_getD _ _ _ hI] at this
                exact ⟨b', off', rfl, this, h1⟩
              unfold maxLen at hcg2 hq2
              clear hrow hu hgc hqc eq hgl
              go_wp2
              go_loop [10] (fun i => ∃ I : Nat, I ≤ n + 70 ∧ i = .int .i64 I) (fun i => n + 70 - (intOf i).toNat)
              case atStart => exact ⟨0, Nat.zero_le _, rfl⟩
              case round =>
                obtain ⟨I, hI, rfl⟩ := hrel
                by_cases hli : I < n + 70
                · have hx1 := HQ.out I hli
                  have hli2 : (I : Int) < (n : Int) + 70 := by omega
                  go_wp2_with fail
                  refine (mark_eq wr (Q + 1) I _ _ (by omega) rfl (by omega) (by omega)).mono ?_
                  rintro e wz ⟨rfl, hw⟩
                  have hw' := hw.symm
                  subst hw'
                  clear hw
                  obtain ⟨x, HX⟩ : ∃ x, Hid (mkB (Q + 1) I = x) := ⟨_, rfl⟩
                  rw [HX.out] at hx1 ⊢
                  have hxx : (x != x) = false := by simp
                  by_cases hln : I < n
                  · have hdn : decide ((I : Int) < (n : Int)) = true := by simp; omega
                    have hln2 : (I : Int) < (n : Int) := by omega
                    obtain ⟨b', off', rfl, hx2, _⟩ := HUc.out I hln
                    rw [HX.out] at hx2
                    go_wp2
                    exact ⟨⟨I + 1, by omega, by go_num⟩, by simp [intOf]; omega⟩
                  · have hdn : decide ((I : Int) < (n : Int)) = false := by simp; omega
                    go_wp2
                    exact ⟨⟨I + 1, by omega, by go_num⟩, by simp [intOf]; omega⟩
                · have hli2 : ¬ ((I : Int) < (n : Int) + 70) := by omega
                  go_wp2
                  exact ⟨⟨Q + 1, by omega, by go_num⟩, by simp [intOf]; omega⟩
            · go_wp2
              go_ret
              exact ⟨rfl, HBr.out⟩
end Go.Proofs.Ytgjadpidoaianaa
namespace Go.Proofs.Ytgjadpidoaianaa
open Go Go.RowKit
theorem info_elb : (Try.prog.info? 36).map (fun i => (i.zero, i.size, i.bytes)) = some (some (.slice none 0 0), 1, 24) := by kernel_rfl
theorem run_appb (w : World) (base : Nat) (ty : TypeId) (v : Value) (n : Nat) (xs : List Value) (hown : w.ownsRow base 36 1 v n xs) (a : Addr) (c : Nat) (x : Value) (h1x : x.oneCell' = true) (hx : w.cell? a = some x) (hn : n + 1 ≤ 4194304) (hbase : base ≤ w.heap.size) :
    ∃ v' w', (Builtin.append_ #[24, 24] ty #[v, .slice (some a) 1 c]).run Try.prog w = .ok v' w' ∧ w'.ownsRow base 36 1 v' (n + 1) (xs ++ [x]) ∧ w.grownBy w' v.ownBlock ∧
      (v'.ownBlock = v.ownBlock ∨ (v'.ownBlock = some w.heap.size ∧ w.grownBy w' none)) := by
  obtain ⟨i0, hi, hz0, hz1, hz2⟩ := info_parts info_elb
  have hnews : ∀ j u, [x][j]? = some u → w.cell? (a.add j) = some u := by
    intro j u hj
    match j, hj with
    | 0, hj => simp at hj; subst hj; simpa [Addr.add] using hx
  have h1 : ∀ u ∈ [x], u.oneCell' = true := by intro u hu; simp at hu; subst hu; exact h1x
  obtain ⟨v', w', hr, h2, h3, _⟩ := run_append_own (P := Try.prog) w base 24 ty 36 i0 (.slice none 0 0) 1 24 Try.underlying24 hi hz0 hz1 hz2 rfl (by decide) v n xs hown a 1 c [x] rfl hnews h1 (by unfold maxLen; omega) (by omega) hbase
  refine ⟨v', w', hr, h2, h3, ?_⟩
  rcases hown.2 with ⟨rfl, rfl⟩ | ⟨g, cap, cur, rfl, hbg, hg, hnc, hcm, hcs, htake⟩
  · have hr2 := run_append_nil (P := Try.prog) w 24 ty 36 i0 (.slice none 0 0) Try.underlying24 hi hz0 a 1 c [x] (by rw [hz1]; rfl) hnews (by omega) (by omega) (by rw [hz2]; omega)
    rw [hr] at hr2
    simp only [Result.ok.injEq] at hr2
    obtain ⟨rfl, rfl⟩ := hr2
    exact .inr ⟨rfl, ⟨rfl, rfl, rfl, by simp, fun k hk _ => heap_alloc_old w.drew _ hk⟩⟩
  · by_cases hroom : n + 1 ≤ cap
    · obtain ⟨w2, hr2, _⟩ := run_append_fits (P := Try.prog) w base 24 ty 36 i0 1 Try.underlying24 hi hz1 g n cap xs hown a 1 c [x] rfl hnews h1 hroom
      rw [hr] at hr2
      simp only [Result.ok.injEq] at hr2
      obtain ⟨rfl, rfl⟩ := hr2
      exact .inl rfl
    · have hr2 := run_append_grow (P := Try.prog) w 24 ty 36 i0 (.slice none 0 0) Try.underlying24 hi hz0 ⟨g, 0, none⟩ n cap xs (by rw [hz1]; exact hown.1) (hown.cells (g := g) rfl) a 1 c [x] (by rw [hz1]; rfl) hnews (by omega) (by omega) (growslice_fits (by omega) (by rw [hz2]; omega))
      rw [hr] at hr2
      simp only [Result.ok.injEq] at hr2
      obtain ⟨rfl, rfl⟩ := hr2
      exact .inr ⟨rfl, ⟨rfl, rfl, rfl, by simp, fun k hk _ => heap_alloc_old w.drew _ hk⟩⟩
theorem wp_appb {w : World} {o : Oper} {a : Act} {K : Act → World → Prop} {Q : Exit → Act → World → Prop} (s x : Operand)
    (ho : o.op = .call { callee := .builtin .append, args := #[s, x], argTypes := #[24, 24] })
    (base : Nat) (v : Value) (n : Nat) (xs : List Value) (hs : a.eval s = v) (hown : w.ownsRow base 36 1 v n xs)
    (ad : Addr) (c : Nat) (y : Value) (hx : a.eval x = .slice (some ad) 1 c) (h1 : y.oneCell' = true) (hy : w.cell? ad = some y) (hn : n + 1 ≤ 4194304) (hbase : base ≤ w.heap.size)
    (h : ∀ v' w', w'.ownsRow base 36 1 v' (n + 1) (xs ++ [y]) → w.grownBy w' v.ownBlock → (v'.ownBlock = v.ownBlock ∨ (v'.ownBlock = some w.heap.size ∧ w.grownBy w' none)) → K (a.put o.dst v') w') : o.wp Try.prog a w K Q := by
  obtain ⟨v', w', hr, h2, h3, h4⟩ := run_appb w base o.type v n xs hown ad c y h1 hy hn hbase
  unfold Oper.wp execOp
  simp only [ho, resolve, invoke, builtin, Sem.run_bind, Sem.run_pure, Result.andThen_ok, List.map_toArray, List.map_cons, List.map_nil, hs, hx, hr]
  exact h v' w' h2 h3 h4
theorem wpList_appb {w : World} {ops : Array Oper} {rest : List Oper} {o : Oper} {a : Act} {Q : Exit → Act → World → Prop} (hgd : o.guard = none) (s x : Operand)
    (ho : o.op = .call { callee := .builtin .append, args := #[s, x], argTypes := #[24, 24] })
    (base : Nat) (v : Value) (n : Nat) (xs : List Value) (hs : a.eval s = v) (hown : w.ownsRow base 36 1 v n xs)
    (ad : Addr) (c : Nat) (y : Value) (hx : a.eval x = .slice (some ad) 1 c) (h1 : y.oneCell' = true) (hy : w.cell? ad = some y) (hn : n + 1 ≤ 4194304) (hbase : base ≤ w.heap.size)
    (h : ∀ v' w', w'.ownsRow base 36 1 v' (n + 1) (xs ++ [y]) → w.grownBy w' v.ownBlock → (v'.ownBlock = v.ownBlock ∨ (v'.ownBlock = some w.heap.size ∧ w.grownBy w' none)) → wpList Try.prog ops Q rest (a.put o.dst v') w') : wpList Try.prog ops Q (o :: rest) a w :=
  wpList_plain hgd fun K hK => wp_appb s x ho base v n xs hs hown ad c y hx h1 hy hn hbase fun v' w' q1 q2 q3 => hK _ _ (h v' w' q1 q2 q3)
theorem info_eli : (Try.prog.info? 40).map (fun i => (i.zero, i.size, i.bytes)) = some (some (.slice none 0 0), 1, 24) := by kernel_rfl
theorem run_appi (w : World) (base : Nat) (ty : TypeId) (v : Value) (n : Nat) (xs : List Value) (hown : w.ownsRow base 40 1 v n xs) (a : Addr) (c : Nat) (x : Value) (h1x : x.oneCell' = true) (hx : w.cell? a = some x) (hn : n + 1 ≤ 4194304) (hbase : base ≤ w.heap.size) :
    ∃ v' w', (Builtin.append_ #[25, 25] ty #[v, .slice (some a) 1 c]).run Try.prog w = .ok v' w' ∧ w'.ownsRow base 40 1 v' (n + 1) (xs ++ [x]) ∧ w.grownBy w' v.ownBlock ∧
      (v'.ownBlock = v.ownBlock ∨ (v'.ownBlock = some w.heap.size ∧ w.grownBy w' none)) := by
  obtain ⟨i0, hi, hz0, hz1, hz2⟩ := info_parts info_eli
  have hnews : ∀ j u, [x][j]? = some u → w.cell? (a.add j) = some u := by
    intro j u hj
    match j, hj with
    | 0, hj => simp at hj; subst hj; simpa [Addr.add] using hx
  have h1 : ∀ u ∈ [x], u.oneCell' = true := by intro u hu; simp at hu; subst hu; exact h1x
  obtain ⟨v', w', hr, h2, h3, _⟩ := run_append_own (P := Try.prog) w base 25 ty 40 i0 (.slice none 0 0) 1 24 Try.underlying25 hi hz0 hz1 hz2 rfl (by decide) v n xs hown a 1 c [x] rfl hnews h1 (by unfold maxLen; omega) (by omega) hbase
  refine ⟨v', w', hr, h2, h3, ?_⟩
  rcases hown.2 with ⟨rfl, rfl⟩ | ⟨g, cap, cur, rfl, hbg, hg, hnc, hcm, hcs, htake⟩
  · have hr2 := run_append_nil (P := Try.prog) w 25 ty 40 i0 (.slice none 0 0) Try.underlying25 hi hz0 a 1 c [x] (by rw [hz1]; rfl) hnews (by omega) (by omega) (by rw [hz2]; omega)
    rw [hr] at hr2
    simp only [Result.ok.injEq] at hr2
    obtain ⟨rfl, rfl⟩ := hr2
    exact .inr ⟨rfl, ⟨rfl, rfl, rfl, by simp, fun k hk _ => heap_alloc_old w.drew _ hk⟩⟩
  · by_cases hroom : n + 1 ≤ cap
    · obtain ⟨w2, hr2, _⟩ := run_append_fits (P := Try.prog) w base 25 ty 40 i0 1 Try.underlying25 hi hz1 g n cap xs hown a 1 c [x] rfl hnews h1 hroom
      rw [hr] at hr2
      simp only [Result.ok.injEq] at hr2
      obtain ⟨rfl, rfl⟩ := hr2
      exact .inl rfl
    · have hr2 := run_append_grow (P := Try.prog) w 25 ty 40 i0 (.slice none 0 0) Try.underlying25 hi hz0 ⟨g, 0, none⟩ n cap xs (by rw [hz1]; exact hown.1) (hown.cells (g := g) rfl) a 1 c [x] (by rw [hz1]; rfl) hnews (by omega) (by omega) (growslice_fits (by omega) (by rw [hz2]; omega))
      rw [hr] at hr2
      simp only [Result.ok.injEq] at hr2
      obtain ⟨rfl, rfl⟩ := hr2
      exact .inr ⟨rfl, ⟨rfl, rfl, rfl, by simp, fun k hk _ => heap_alloc_old w.drew _ hk⟩⟩
theorem wp_appi {w : World} {o : Oper} {a : Act} {K : Act → World → Prop} {Q : Exit → Act → World → Prop} (s x : Operand)
    (ho : o.op = .call { callee := .builtin .append, args := #[s, x], argTypes := #[25, 25] })
    (base : Nat) (v : Value) (n : Nat) (xs : List Value) (hs : a.eval s = v) (hown : w.ownsRow base 40 1 v n xs)
    (ad : Addr) (c : Nat) (y : Value) (hx : a.eval x = .slice (some ad) 1 c) (h1 : y.oneCell' = true) (hy : w.cell? ad = some y) (hn : n + 1 ≤ 4194304) (hbase : base ≤ w.heap.size)
    (h : ∀ v' w', w'.ownsRow base 40 1 v' (n + 1) (xs ++ [y]) → w.grownBy w' v.ownBlock → (v'.ownBlock = v.ownBlock ∨ (v'.ownBlock = some w.heap.size ∧ w.grownBy w' none)) → K (a.put o.dst v') w') : o.wp Try.prog a w K Q := by
  obtain ⟨v', w', hr, h2, h3, h4⟩ := run_appi w base o.type v n xs hown ad c y h1 hy hn hbase
  unfold Oper.wp execOp
  simp only [ho, resolve, invoke, builtin, Sem.run_bind, Sem.run_pure, Result.andThen_ok, List.map_toArray, List.map_cons, List.map_nil, hs, hx, hr]
  exact h v' w' h2 h3 h4
theorem own_at {w : World} {B n : Nat} {e : TypeId} {v : Value} {xs : List Value} (h : w.ownsRow B e 1 v n xs) {b : Nat} (hb : v.ownBlock = some b) : b < w.heap.size ∧ B ≤ b ∧ ∃ cs, w.heap[b]? = some (.cells cs e (0, 0)) := by
  rcases h.2 with ⟨rfl, _⟩ | ⟨g, cap, cur, rfl, hB, hh, _⟩
  · cases hb
  · cases hb
    exact ⟨(Array.getElem?_eq_some_iff.1 hh).1, hB, _, hh⟩
theorem own_of {w w' : World} {B n : Nat} {e : TypeId} {v : Value} {xs : List Value} (h : w.ownsRow B e 1 v n xs) (hk : ∀ b, v.ownBlock = some b → w'.heap[b]? = w.heap[b]?) : w'.ownsRow B e 1 v n xs := by
  refine ⟨h.1, ?_⟩
  rcases h.2 with q | ⟨g, cap, cur, rfl, hB, hh, r⟩
  · exact .inl q
  · exact .inr ⟨g, cap, cur, rfl, hB, (hk g rfl).trans hh, r⟩
structure Els (B S C : Nat) (e : TypeId) (κ : IntKind) (w : World) (xs : List Value) (ls : List (List Int)) : Prop where
  len : xs.length = ls.length
  own : ∀ k, k < xs.length → w.ownsRow B e 1 (xs.getD k undef) (ls.getD k []).length ((ls.getD k []).map (Value.int κ))
  out : ∀ k, k < xs.length → ∀ b, (xs.getD k undef).ownBlock = some b → b < S ∨ C ≤ b
def Pwd (xs : List Value) : Prop := ∀ i j, i < xs.length → j < xs.length → i ≠ j → (xs.getD i undef).ownBlock = none ∨ (xs.getD i undef).ownBlock ≠ (xs.getD j undef).ownBlock
theorem Els.of {B S C : Nat} {e : TypeId} {κ : IntKind} {w w' : World} {xs : List Value} {ls : List (List Int)} (h : Els B S C e κ w xs ls) (hk : ∀ b, b < w.heap.size → (b < S ∨ C ≤ b) → (∃ cs, w.heap[b]? = some (.cells cs e (0, 0))) → w'.heap[b]? = w.heap[b]?) : Els B S C e κ w' xs ls :=
  ⟨h.len, fun k hk2 => own_of (h.own k hk2) fun b hb => hk b (own_at (h.own k hk2) hb).1 (h.out k hk2 b hb) (own_at (h.own k hk2) hb).2.2, h.out⟩
theorem Els.snoc {B S C : Nat} {e : TypeId} {κ : IntKind} {w : World} {xs : List Value} {ls : List (List Int)} (h : Els B S C e κ w xs ls) {u : Value} {l : List Int} (hu : w.ownsRow B e 1 u l.length (l.map (Value.int κ))) (hC : ∀ b, u.ownBlock = some b → C ≤ b) : Els B S C e κ w (xs ++ [u]) (ls ++ [l]) := by
  refine ⟨by simp [h.len], fun k hk => ?_, fun k hk => ?_⟩
  · rw [List.length_append, List.length_singleton] at hk
    rw [getD_app, getD_app, ← h.len]
    split
    · rename_i q; exact h.own k q
    · rw [show k - xs.length = 0 by omega]; exact hu
  · rw [List.length_append, List.length_singleton] at hk
    rw [getD_app]
    split
    · rename_i q; exact h.out k q
    · rw [show k - xs.length = 0 by omega]; exact fun b hb => .inr (hC b hb)
theorem Els.reset {B S C : Nat} {e : TypeId} {κ : IntKind} {w : World} {xs : List Value} {ls : List (List Int)} (h : Els B S C e κ w xs ls) (C' : Nat) : Els B w.heap.size C' e κ w xs ls :=
  ⟨h.len, h.own, fun k hk b hb => .inl (own_at (h.own k hk) hb).1⟩
theorem Pwd.snoc {B S C : Nat} {e : TypeId} {κ : IntKind} {w : World} {xs : List Value} {ls : List (List Int)} (h : Pwd xs) (he : Els B S C e κ w xs ls) {u : Value} (hu : ∀ b, u.ownBlock = some b → ∀ k, k < xs.length → (xs.getD k undef).ownBlock ≠ some b) : Pwd (xs ++ [u]) := by
  intro i j hi hj hne
  rw [List.length_append, List.length_singleton] at hi hj
  rw [getD_app, getD_app]
  split <;> split
  · rename_i q1 q2; exact h i j q1 q2 hne
  · rename_i q1 q2
    rw [show j - xs.length = 0 by omega]
    show _ ∨ _ ≠ u.ownBlock
    cases hb : u.ownBlock with
    | none => cases hx : (xs.getD i undef).ownBlock <;> simp
    | some b => exact .inr (hu b hb i q1)
  · rename_i q1 q2
    rw [show i - xs.length = 0 by omega]
    show u.ownBlock = none ∨ u.ownBlock ≠ _
    cases hb : u.ownBlock with
    | none => exact .inl rfl
    | some b => exact .inr fun e => hu b hb j q2 e.symm
  · omega
theorem heap_setB {w : World} {b : Nat} {cs : Array Value} {T : TypeId} (h : w.heap[b]? = some (.cells cs T (0, 0))) (i : Nat) (v : Value) :
    (w.setCell ⟨b, i, none⟩ v).heap[b]? = some (.cells (cs.setIfInBounds i v) T (0, 0)) := by
  simp [World.setCell, Array.getElem?_modify, h]
abbrev TB : TypeId := 27
structure BK (B S C : Nat) (w : World) (g : Nat) (vb vw vi vm : Value) (xb xw xi xm : List Value) (bs ws is ms : List (List Int)) : Prop where
  blk : w.heap[g]? = some (.cells #[vb, vw, vi, vm] TB (0, 0))
  rb : w.ownsRow B 36 1 vb bs.length xb
  rw' : w.ownsRow B 36 1 vw ws.length xw
  ri : w.ownsRow B 40 1 vi is.length xi
  rm : w.ownsRow B 40 1 vm ms.length xm
  d1 : vb.ownBlock = none ∨ vb.ownBlock ≠ vw.ownBlock
  d2 : vi.ownBlock = none ∨ vi.ownBlock ≠ vm.ownBlock
  eb : Els B S C 5 .u8 w xb bs
  ew : Els B S C 5 .u8 w xw ws
  ei : Els B S C 3 .i64 w xi is
  em : Els B S C 3 .i64 w xm ms
  pb : Pwd xb
  pi' : Pwd xi
  yb : ∀ l ∈ bs, ∀ x ∈ l, 0 ≤ x ∧ x < 256
  yi : ∀ l ∈ is, ∀ x ∈ l, 0 ≤ x ∧ x < 256
  low : B ≤ w.heap.size
theorem BK.of {B S C : Nat} {w w' : World} {g : Nat} {vb vw vi vm : Value} {xb xw xi xm : List Value} {bs ws is ms : List (List Int)} (h : BK B S C w g vb vw vi vm xb xw xi xm bs ws is ms) (hs : w.heap.size ≤ w'.heap.size)
    (hk : ∀ b, b < w.heap.size → (∃ cs T, w.heap[b]? = some (.cells cs T (0, 0)) ∧ ((T ≠ 5 ∧ T ≠ 3) ∨ b < S ∨ C ≤ b)) → w'.heap[b]? = w.heap[b]?) : BK B S C w' g vb vw vi vm xb xw xi xm bs ws is ms := by
  have row : ∀ {e : TypeId} {v : Value} {n : Nat} {xs : List Value}, e ≠ 5 ∧ e ≠ 3 → w.ownsRow B e 1 v n xs → w'.ownsRow B e 1 v n xs := fun {e v n xs} he q => own_of q fun b hb => by
    obtain ⟨q1, _, cs, q2⟩ := own_at q hb
    exact hk b q1 ⟨cs, e, q2, .inl he⟩
  refine ⟨(hk g (Array.getElem?_eq_some_iff.1 h.blk).1 ⟨_, _, h.blk, .inl (by decide)⟩).trans h.blk, row (by decide) h.rb, row (by decide) h.rw', row (by decide) h.ri, row (by decide) h.rm, h.d1, h.d2, h.eb.of ?_, h.ew.of ?_, h.ei.of ?_, h.em.of ?_, h.pb, h.pi', h.yb, h.yi, Nat.le_trans h.low hs⟩
  all_goals exact fun b q1 q2 ⟨cs, q3⟩ => hk b q1 ⟨cs, _, q3, .inr q2⟩
theorem BK.below {B S C : Nat} {w w' : World} {g : Nat} {vb vw vi vm : Value} {xb xw xi xm : List Value} {bs ws is ms : List (List Int)} (h : BK B S C w g vb vw vi vm xb xw xi xm bs ws is ms) (hb : Below w.heap.size w w') : BK B S C w' g vb vw vi vm xb xw xi xm bs ws is ms :=
  h.of hb.size fun b q _ => hb.block b q
theorem BK.over {B S C : Nat} {w w' : World} {g : Nat} {vb vw vi vm : Value} {xb xw xi xm : List Value} {bs ws is ms : List (List Int)} (h : BK B S C w g vb vw vi vm xb xw xi xm bs ws is ms) {r : Option Nat} (hg : w.grownBy w' r) (hr : ∀ b, r = some b → (S ≤ b ∧ b < C) ∧ ∃ cs T, w.heap[b]? = some (.cells cs T (0, 0)) ∧ (T = 5 ∨ T = 3)) : BK B S C w' g vb vw vi vm xb xw xi xm bs ws is ms := by
  refine h.of hg.size fun b q1 ⟨cs, T, q2, q3⟩ => hg.block b q1 fun e => ?_
  obtain ⟨⟨k1, k2⟩, cs', T', k3, k4⟩ := hr b e.symm
  rw [q2] at k3
  simp only [Option.some.injEq, Obj.cells.injEq] at k3
  rcases q3 with ⟨n1, n2⟩ | q3
  · rcases k4 with k4 | k4
    · exact n1 (k3.2.1.trans k4)
    · exact n2 (k3.2.1.trans k4)
  · omega
theorem BK.reset {B S C : Nat} {w : World} {g : Nat} {vb vw vi vm : Value} {xb xw xi xm : List Value} {bs ws is ms : List (List Int)} (h : BK B S C w g vb vw vi vm xb xw xi xm bs ws is ms) (C' : Nat) : BK B w.heap.size C' w g vb vw vi vm xb xw xi xm bs ws is ms :=
  ⟨h.blk, h.rb, h.rw', h.ri, h.rm, h.d1, h.d2, h.eb.reset C', h.ew.reset C', h.ei.reset C', h.em.reset C', h.pb, h.pi', h.yb, h.yi, h.low⟩
theorem grow_keeps {w w1 : World} {o : Obj} {v : Value} (hg : (w.alloc o).grownBy w1 v.ownBlock) {b : Nat} (hb : b < w.heap.size) (hn : v.ownBlock ≠ some b) : w1.heap[b]? = w.heap[b]? :=
  (hg.block b (by simp; omega) (fun e => hn e.symm)).trans (heap_alloc_old w o hb)
theorem BK.push_b {B S C : Nat} {w w1 : World} {g : Nat} {vb vw vi vm : Value} {xb xw xi xm : List Value} {bs ws is ms : List (List Int)} (h : BK B S C w g vb vw vi vm xb xw xi xm bs ws is ms) {u v' : Value} {l : List Int} {o : Obj}
    (hu : w.ownsRow B 5 1 u l.length (l.map (Value.int .u8))) (hy : ∀ x ∈ l, 0 ≤ x ∧ x < 256) (hC : ∀ b, u.ownBlock = some b → C ≤ b) (hS : ∀ b, u.ownBlock = some b → ∀ k, k < xb.length → (xb.getD k undef).ownBlock ≠ some b)
    (hown : w1.ownsRow B 36 1 v' (bs.length + 1) (xb ++ [u])) (hg : (w.alloc o).grownBy w1 vb.ownBlock) (hw : v'.ownBlock = vb.ownBlock ∨ (v'.ownBlock = some (w.alloc o).heap.size ∧ (w.alloc o).grownBy w1 none)) :
    BK B S C (w1.setCell ⟨g, 0, none⟩ v') g v' vw vi vm (xb ++ [u]) xw xi xm (bs ++ [l]) ws is ms := by
  have hgl := (Array.getElem?_eq_some_iff.1 h.blk).1
  have hgne : vb.ownBlock ≠ some g := fun q => by
    obtain ⟨_, _, cs, q2⟩ := own_at h.rb q
    rw [h.blk] at q2
    simp only [Option.some.injEq, Obj.cells.injEq] at q2
    exact absurd q2.2.1 (by decide)
  have hv'g : v'.ownBlock ≠ some g := fun q => by
    rcases hw with e | ⟨e, _⟩
    · exact hgne (e ▸ q)
    · rw [q] at e
      simp only [Option.some.injEq] at e
      have : (w.alloc o).heap.size = w.heap.size + 1 := by simp
      omega
  have keep : ∀ b, b < w.heap.size → vb.ownBlock ≠ some b → b ≠ g → (w1.setCell ⟨g, 0, none⟩ v').heap[b]? = w.heap[b]? := fun b q1 q2 q3 => by
    rw [← grow_keeps hg q1 q2]
    simp [World.setCell, Array.getElem?_modify, show g ≠ b from fun e => q3 e.symm]
  have els : ∀ {e : TypeId} {κ : IntKind} {xs : List Value} {ls : List (List Int)}, e ≠ 36 → e ≠ TB → Els B S C e κ w xs ls → Els B S C e κ (w1.setCell ⟨g, 0, none⟩ v') xs ls := fun {e κ xs ls} n1 n2 q => q.of fun b q1 _ ⟨cs, q3⟩ => keep b q1 (fun q4 => by
      obtain ⟨_, _, cs2, q5⟩ := own_at h.rb q4
      rw [q3] at q5
      simp only [Option.some.injEq, Obj.cells.injEq] at q5
      exact n1 q5.2.1) (fun q4 => by
      rw [q4, h.blk] at q3
      simp only [Option.some.injEq, Obj.cells.injEq] at q3
      exact n2 q3.2.1.symm)
  have row : ∀ {e : TypeId} {v2 : Value} {n : Nat} {xs : List Value}, e ≠ TB → (vb.ownBlock = none ∨ vb.ownBlock ≠ v2.ownBlock) → w.ownsRow B e 1 v2 n xs → (w1.setCell ⟨g, 0, none⟩ v').ownsRow B e 1 v2 n xs := fun {e v2 n xs} n2 hd q => own_of q fun b hb => by
      obtain ⟨q1, _, cs, q3⟩ := own_at q hb
      refine keep b q1 (fun q4 => ?_) (fun q4 => ?_)
      · rcases hd with hd | hd
        · rw [hd] at q4; cases q4
        · exact hd (q4.trans hb.symm)
      · rw [q4, h.blk] at q3
        simp only [Option.some.injEq, Obj.cells.injEq] at q3
        exact n2 q3.2.1.symm
  have typ : ∀ {e : TypeId} {v2 : Value} {n : Nat} {xs : List Value}, e ≠ 36 → w.ownsRow B e 1 v2 n xs → (vb.ownBlock = none ∨ vb.ownBlock ≠ v2.ownBlock) := fun {e v2 n xs} ne q => by
    cases hb : vb.ownBlock with
    | none => exact .inl rfl
    | some b =>
      refine .inr fun q2 => ?_
      obtain ⟨_, _, cs, q3⟩ := own_at h.rb hb
      obtain ⟨_, _, cs2, q4⟩ := own_at q q2.symm
      rw [q3] at q4
      simp only [Option.some.injEq, Obj.cells.injEq] at q4
      exact ne q4.2.1.symm
  have blk1 : w1.heap[g]? = some (.cells #[vb, vw, vi, vm] TB (0, 0)) := (grow_keeps hg hgl hgne).trans h.blk
  have hown2 : (w1.setCell ⟨g, 0, none⟩ v').ownsRow B 36 1 v' (bs.length + 1) (xb ++ [u]) := own_of hown fun b hb => by
    simp [World.setCell, Array.getElem?_modify, show g ≠ b from fun e => hv'g (e ▸ hb)]
  have far : ∀ v2 : Value, (∀ b, v2.ownBlock = some b → b < w.heap.size) → (vb.ownBlock = none ∨ vb.ownBlock ≠ v2.ownBlock) → (v'.ownBlock = none ∨ v'.ownBlock ≠ v2.ownBlock) := fun v2 hl hd => by
    rcases hw with e | ⟨e, _⟩
    · rw [e]; exact hd
    · refine .inr fun q => ?_
      rw [e] at q
      have q1 := hl _ q.symm
      have q2 : (w.alloc o).heap.size = w.heap.size + 1 := by simp
      omega
  exact ⟨by have := heap_setB blk1 0 v'; simpa using this, by rw [List.length_append, List.length_singleton]; exact hown2, row (by decide) h.d1 h.rw', row (by decide) (typ (by decide) h.ri) h.ri, row (by decide) (typ (by decide) h.rm) h.rm, far _ (fun b q => (own_at h.rw' q).1) h.d1, h.d2, (els (by decide) (by decide) h.eb).snoc (own_of hu fun b hb => by
    obtain ⟨q1, _, cs, q3⟩ := own_at hu hb
    refine keep b q1 (fun q4 => ?_) (fun q4 => ?_)
    · obtain ⟨_, _, cs2, q5⟩ := own_at h.rb q4
      rw [q3] at q5
      simp only [Option.some.injEq, Obj.cells.injEq] at q5
      exact absurd q5.2.1 (by decide)
    · rw [q4, h.blk] at q3
      simp only [Option.some.injEq, Obj.cells.injEq] at q3
      exact absurd q3.2.1 (by decide)) hC, els (by decide) (by decide) h.ew, els (by decide) (by decide) h.ei, els (by decide) (by decide) h.em, h.pb.snoc h.eb hS, h.pi', (fun a ha => (List.mem_append.1 ha).elim (h.yb a) fun q => by rw [List.mem_singleton.1 q]; exact hy), h.yi, by have q1 := hg.size; have q2 : (w.alloc o).heap.size = w.heap.size + 1 := (by simp); have := h.low; simp [World.setCell]; omega⟩
theorem BK.push_w {B S C : Nat} {w w1 : World} {g : Nat} {vb vw vi vm : Value} {xb xw xi xm : List Value} {bs ws is ms : List (List Int)} (h : BK B S C w g vb vw vi vm xb xw xi xm bs ws is ms) {u v' : Value} {l : List Int} {o : Obj}
    (hu : w.ownsRow B 5 1 u l.length (l.map (Value.int .u8))) (hy : ∀ x ∈ l, 0 ≤ x ∧ x < 256) (hC : ∀ b, u.ownBlock = some b → C ≤ b) (hS : ∀ b, u.ownBlock = some b → ∀ k, k < xw.length → (xw.getD k undef).ownBlock ≠ some b)
    (hown : w1.ownsRow B 36 1 v' (ws.length + 1) (xw ++ [u])) (hg : (w.alloc o).grownBy w1 vw.ownBlock) (hw : v'.ownBlock = vw.ownBlock ∨ (v'.ownBlock = some (w.alloc o).heap.size ∧ (w.alloc o).grownBy w1 none)) :
    BK B S C (w1.setCell ⟨g, 1, none⟩ v') g vb v' vi vm xb (xw ++ [u]) xi xm bs (ws ++ [l]) is ms := by
  have hgl := (Array.getElem?_eq_some_iff.1 h.blk).1
  have hgne : vw.ownBlock ≠ some g := fun q => by
    obtain ⟨_, _, cs, q2⟩ := own_at h.rw' q
    rw [h.blk] at q2
    simp only [Option.some.injEq, Obj.cells.injEq] at q2
    exact absurd q2.2.1 (by decide)
  have hv'g : v'.ownBlock ≠ some g := fun q => by
    rcases hw with e | ⟨e, _⟩
    · exact hgne (e ▸ q)
    · rw [q] at e
      simp only [Option.some.injEq] at e
      have : (w.alloc o).heap.size = w.heap.size + 1 := by simp
      omega
  have keep : ∀ b, b < w.heap.size → vw.ownBlock ≠ some b → b ≠ g → (w1.setCell ⟨g, 1, none⟩ v').heap[b]? = w.heap[b]? := fun b q1 q2 q3 => by
    rw [← grow_keeps hg q1 q2]
    simp [World.setCell, Array.getElem?_modify, show g ≠ b from fun e => q3 e.symm]
  have els : ∀ {e : TypeId} {κ : IntKind} {xs : List Value} {ls : List (List Int)}, e ≠ 36 → e ≠ TB → Els B S C e κ w xs ls → Els B S C e κ (w1.setCell ⟨g, 1, none⟩ v') xs ls := fun {e κ xs ls} n1 n2 q => q.of fun b q1 _ ⟨cs, q3⟩ => keep b q1 (fun q4 => by
      obtain ⟨_, _, cs2, q5⟩ := own_at h.rw' q4
      rw [q3] at q5
      simp only [Option.some.injEq, Obj.cells.injEq] at q5
      exact n1 q5.2.1) (fun q4 => by
      rw [q4, h.blk] at q3
      simp only [Option.some.injEq, Obj.cells.injEq] at q3
      exact n2 q3.2.1.symm)
  have row : ∀ {e : TypeId} {v2 : Value} {n : Nat} {xs : List Value}, e ≠ TB → (vw.ownBlock = none ∨ vw.ownBlock ≠ v2.ownBlock) → w.ownsRow B e 1 v2 n xs → (w1.setCell ⟨g, 1, none⟩ v').ownsRow B e 1 v2 n xs := fun {e v2 n xs} n2 hd q => own_of q fun b hb => by
      obtain ⟨q1, _, cs, q3⟩ := own_at q hb
      refine keep b q1 (fun q4 => ?_) (fun q4 => ?_)
      · rcases hd with hd | hd
        · rw [hd] at q4; cases q4
        · exact hd (q4.trans hb.symm)
      · rw [q4, h.blk] at q3
        simp only [Option.some.injEq, Obj.cells.injEq] at q3
        exact n2 q3.2.1.symm
  have typ : ∀ {e : TypeId} {v2 : Value} {n : Nat} {xs : List Value}, e ≠ 36 → w.ownsRow B e 1 v2 n xs → (vw.ownBlock = none ∨ vw.ownBlock ≠ v2.ownBlock) := fun {e v2 n xs} ne q => by
    cases hb : vw.ownBlock with
    | none => exact .inl rfl
    | some b =>
      refine .inr fun q2 => ?_
      obtain ⟨_, _, cs, q3⟩ := own_at h.rw' hb
      obtain ⟨_, _, cs2, q4⟩ := own_at q q2.symm
      rw [q3] at q4
      simp only [Option.some.injEq, Obj.cells.injEq] at q4
      exact ne q4.2.1.symm
  have blk1 : w1.heap[g]? = some (.cells #[vb, vw, vi, vm] TB (0, 0)) := (grow_keeps hg hgl hgne).trans h.blk
  have hown2 : (w1.setCell ⟨g, 1, none⟩ v').ownsRow B 36 1 v' (ws.length + 1) (xw ++ [u]) := own_of hown fun b hb => by
    simp [World.setCell, Array.getElem?_modify, show g ≠ b from fun e => hv'g (e ▸ hb)]
  have far : ∀ v2 : Value, (∀ b, v2.ownBlock = some b → b < w.heap.size) → (vw.ownBlock = none ∨ vw.ownBlock ≠ v2.ownBlock) → (v'.ownBlock = none ∨ v'.ownBlock ≠ v2.ownBlock) := fun v2 hl hd => by
    rcases hw with e | ⟨e, _⟩
    · rw [e]; exact hd
    · refine .inr fun q => ?_
      rw [e] at q
      have q1 := hl _ q.symm
      have q2 : (w.alloc o).heap.size = w.heap.size + 1 := by simp
      omega
  exact ⟨by have := heap_setB blk1 1 v'; simpa using this, row (by decide) (h.d1.elim (fun q => by cases q2 : vw.ownBlock with | none => exact .inl rfl | some b => exact .inr (by rw [q]; intro q3; cases q3)) (fun q => .inr fun e => q e.symm)) h.rb, by rw [List.length_append, List.length_singleton]; exact hown2, row (by decide) (typ (by decide) h.ri) h.ri, row (by decide) (typ (by decide) h.rm) h.rm, (by
    have q0 := far vb (fun b q => (own_at h.rb q).1) (h.d1.elim (fun q => by cases q2 : vw.ownBlock with | none => exact .inl rfl | some b => exact .inr (by rw [q]; intro q3; cases q3)) (fun q => .inr fun e => q e.symm))
    cases q1 : vb.ownBlock with
    | none => exact .inl rfl
    | some b =>
      refine .inr fun q2 => ?_
      rcases q0 with q3 | q3
      · rw [q3] at q2; cases q2
      · exact q3 (q2.symm.trans q1.symm)), h.d2, els (by decide) (by decide) h.eb, (els (by decide) (by decide) h.ew).snoc (own_of hu fun b hb => by
    obtain ⟨q1, _, cs, q3⟩ := own_at hu hb
    refine keep b q1 (fun q4 => ?_) (fun q4 => ?_)
    · obtain ⟨_, _, cs2, q5⟩ := own_at h.rw' q4
      rw [q3] at q5
      simp only [Option.some.injEq, Obj.cells.injEq] at q5
      exact absurd q5.2.1 (by decide)
    · rw [q4, h.blk] at q3
      simp only [Option.some.injEq, Obj.cells.injEq] at q3
      exact absurd q3.2.1 (by decide)) hC, els (by decide) (by decide) h.ei, els (by decide) (by decide) h.em, h.pb, h.pi', h.yb, h.yi, by have q1 := hg.size; have q2 : (w.alloc o).heap.size = w.heap.size + 1 := (by simp); have := h.low; simp [World.setCell]; omega⟩
theorem BK.push_i {B S C : Nat} {w w1 : World} {g : Nat} {vb vw vi vm : Value} {xb xw xi xm : List Value} {bs ws is ms : List (List Int)} (h : BK B S C w g vb vw vi vm xb xw xi xm bs ws is ms) {u v' : Value} {l : List Int} {o : Obj}
    (hu : w.ownsRow B 3 1 u l.length (l.map (Value.int .i64))) (hy : ∀ x ∈ l, 0 ≤ x ∧ x < 256) (hC : ∀ b, u.ownBlock = some b → C ≤ b) (hS : ∀ b, u.ownBlock = some b → ∀ k, k < xi.length → (xi.getD k undef).ownBlock ≠ some b)
    (hown : w1.ownsRow B 40 1 v' (is.length + 1) (xi ++ [u])) (hg : (w.alloc o).grownBy w1 vi.ownBlock) (hw : v'.ownBlock = vi.ownBlock ∨ (v'.ownBlock = some (w.alloc o).heap.size ∧ (w.alloc o).grownBy w1 none)) :
    BK B S C (w1.setCell ⟨g, 2, none⟩ v') g vb vw v' vm xb xw (xi ++ [u]) xm bs ws (is ++ [l]) ms := by
  have hgl := (Array.getElem?_eq_some_iff.1 h.blk).1
  have hgne : vi.ownBlock ≠ some g := fun q => by
    obtain ⟨_, _, cs, q2⟩ := own_at h.ri q
    rw [h.blk] at q2
    simp only [Option.some.injEq, Obj.cells.injEq] at q2
    exact absurd q2.2.1 (by decide)
  have hv'g : v'.ownBlock ≠ some g := fun q => by
    rcases hw with e | ⟨e, _⟩
    · exact hgne (e ▸ q)
    · rw [q] at e
      simp only [Option.some.injEq] at e
      have : (w.alloc o).heap.size = w.heap.size + 1 := by simp
      omega
  have keep : ∀ b, b < w.heap.size → vi.ownBlock ≠ some b → b ≠ g → (w1.setCell ⟨g, 2, none⟩ v').heap[b]? = w.heap[b]? := fun b q1 q2 q3 => by
    rw [← grow_keeps hg q1 q2]
    simp [World.setCell, Array.getElem?_modify, show g ≠ b from fun e => q3 e.symm]
  have els : ∀ {e : TypeId} {κ : IntKind} {xs : List Value} {ls : List (List Int)}, e ≠ 40 → e ≠ TB → Els B S C e κ w xs ls → Els B S C e κ (w1.setCell ⟨g, 2, none⟩ v') xs ls := fun {e κ xs ls} n1 n2 q => q.of fun b q1 _ ⟨cs, q3⟩ => keep b q1 (fun q4 => by
      obtain ⟨_, _, cs2, q5⟩ := own_at h.ri q4
      rw [q3] at q5
      simp only [Option.some.injEq, Obj.cells.injEq] at q5
      exact n1 q5.2.1) (fun q4 => by
      rw [q4, h.blk] at q3
      simp only [Option.some.injEq, Obj.cells.injEq] at q3
      exact n2 q3.2.1.symm)
  have row : ∀ {e : TypeId} {v2 : Value} {n : Nat} {xs : List Value}, e ≠ TB → (vi.ownBlock = none ∨ vi.ownBlock ≠ v2.ownBlock) → w.ownsRow B e 1 v2 n xs → (w1.setCell ⟨g, 2, none⟩ v').ownsRow B e 1 v2 n xs := fun {e v2 n xs} n2 hd q => own_of q fun b hb => by
      obtain ⟨q1, _, cs, q3⟩ := own_at q hb
      refine keep b q1 (fun q4 => ?_) (fun q4 => ?_)
      · rcases hd with hd | hd
        · rw [hd] at q4; cases q4
        · exact hd (q4.trans hb.symm)
      · rw [q4, h.blk] at q3
        simp only [Option.some.injEq, Obj.cells.injEq] at q3
        exact n2 q3.2.1.symm
  have typ : ∀ {e : TypeId} {v2 : Value} {n : Nat} {xs : List Value}, e ≠ 40 → w.ownsRow B e 1 v2 n xs → (vi.ownBlock = none ∨ vi.ownBlock ≠ v2.ownBlock) := fun {e v2 n xs} ne q => by
    cases hb : vi.ownBlock with
    | none => exact .inl rfl
    | some b =>
      refine .inr fun q2 => ?_
      obtain ⟨_, _, cs, q3⟩ := own_at h.ri hb
      obtain ⟨_, _, cs2, q4⟩ := own_at q q2.symm
      rw [q3] at q4
      simp only [Option.some.injEq, Obj.cells.injEq] at q4
      exact ne q4.2.1.symm
  have blk1 : w1.heap[g]? = some (.cells #[vb, vw, vi, vm] TB (0, 0)) := (grow_keeps hg hgl hgne).trans h.blk
  have hown2 : (w1.setCell ⟨g, 2, none⟩ v').ownsRow B 40 1 v' (is.length + 1) (xi ++ [u]) := own_of hown fun b hb => by
    simp [World.setCell, Array.getElem?_modify, show g ≠ b from fun e => hv'g (e ▸ hb)]
  have far : ∀ v2 : Value, (∀ b, v2.ownBlock = some b → b < w.heap.size) → (vi.ownBlock = none ∨ vi.ownBlock ≠ v2.ownBlock) → (v'.ownBlock = none ∨ v'.ownBlock ≠ v2.ownBlock) := fun v2 hl hd => by
    rcases hw with e | ⟨e, _⟩
    · rw [e]; exact hd
    · refine .inr fun q => ?_
      rw [e] at q
      have q1 := hl _ q.symm
      have q2 : (w.alloc o).heap.size = w.heap.size + 1 := by simp
      omega
  exact ⟨by have := heap_setB blk1 2 v'; simpa using this, row (by decide) (typ (by decide) h.rb) h.rb, row (by decide) (typ (by decide) h.rw') h.rw', by rw [List.length_append, List.length_singleton]; exact hown2, row (by decide) h.d2 h.rm, h.d1, far _ (fun b q => (own_at h.rm q).1) h.d2, els (by decide) (by decide) h.eb, els (by decide) (by decide) h.ew, (els (by decide) (by decide) h.ei).snoc (own_of hu fun b hb => by
    obtain ⟨q1, _, cs, q3⟩ := own_at hu hb
    refine keep b q1 (fun q4 => ?_) (fun q4 => ?_)
    · obtain ⟨_, _, cs2, q5⟩ := own_at h.ri q4
      rw [q3] at q5
      simp only [Option.some.injEq, Obj.cells.injEq] at q5
      exact absurd q5.2.1 (by decide)
    · rw [q4, h.blk] at q3
      simp only [Option.some.injEq, Obj.cells.injEq] at q3
      exact absurd q3.2.1 (by decide)) hC, els (by decide) (by decide) h.em, h.pb, h.pi'.snoc h.ei hS, h.yb, (fun a ha => (List.mem_append.1 ha).elim (h.yi a) fun q => by rw [List.mem_singleton.1 q]; exact hy), by have q1 := hg.size; have q2 : (w.alloc o).heap.size = w.heap.size + 1 := (by simp); have := h.low; simp [World.setCell]; omega⟩
theorem BK.push_m {B S C : Nat} {w w1 : World} {g : Nat} {vb vw vi vm : Value} {xb xw xi xm : List Value} {bs ws is ms : List (List Int)} (h : BK B S C w g vb vw vi vm xb xw xi xm bs ws is ms) {u v' : Value} {l : List Int} {o : Obj}
    (hu : w.ownsRow B 3 1 u l.length (l.map (Value.int .i64))) (hy : ∀ x ∈ l, 0 ≤ x ∧ x < 256) (hC : ∀ b, u.ownBlock = some b → C ≤ b) (hS : ∀ b, u.ownBlock = some b → ∀ k, k < xm.length → (xm.getD k undef).ownBlock ≠ some b)
    (hown : w1.ownsRow B 40 1 v' (ms.length + 1) (xm ++ [u])) (hg : (w.alloc o).grownBy w1 vm.ownBlock) (hw : v'.ownBlock = vm.ownBlock ∨ (v'.ownBlock = some (w.alloc o).heap.size ∧ (w.alloc o).grownBy w1 none)) :
    BK B S C (w1.setCell ⟨g, 3, none⟩ v') g vb vw vi v' xb xw xi (xm ++ [u]) bs ws is (ms ++ [l]) := by
  have hgl := (Array.getElem?_eq_some_iff.1 h.blk).1
  have hgne : vm.ownBlock ≠ some g := fun q => by
    obtain ⟨_, _, cs, q2⟩ := own_at h.rm q
    rw [h.blk] at q2
    simp only [Option.some.injEq, Obj.cells.injEq] at q2
    exact absurd q2.2.1 (by decide)
  have hv'g : v'.ownBlock ≠ some g := fun q => by
    rcases hw with e | ⟨e, _⟩
    · exact hgne (e ▸ q)
    · rw [q] at e
      simp only [Option.some.injEq] at e
      have : (w.alloc o).heap.size = w.heap.size + 1 := by simp
      omega
  have keep : ∀ b, b < w.heap.size → vm.ownBlock ≠ some b → b ≠ g → (w1.setCell ⟨g, 3, none⟩ v').heap[b]? = w.heap[b]? := fun b q1 q2 q3 => by
    rw [← grow_keeps hg q1 q2]
    simp [World.setCell, Array.getElem?_modify, show g ≠ b from fun e => q3 e.symm]
  have els : ∀ {e : TypeId} {κ : IntKind} {xs : List Value} {ls : List (List Int)}, e ≠ 40 → e ≠ TB → Els B S C e κ w xs ls → Els B S C e κ (w1.setCell ⟨g, 3, none⟩ v') xs ls := fun {e κ xs ls} n1 n2 q => q.of fun b q1 _ ⟨cs, q3⟩ => keep b q1 (fun q4 => by
      obtain ⟨_, _, cs2, q5⟩ := own_at h.rm q4
      rw [q3] at q5
      simp only [Option.some.injEq, Obj.cells.injEq] at q5
      exact n1 q5.2.1) (fun q4 => by
      rw [q4, h.blk] at q3
      simp only [Option.some.injEq, Obj.cells.injEq] at q3
      exact n2 q3.2.1.symm)
  have row : ∀ {e : TypeId} {v2 : Value} {n : Nat} {xs : List Value}, e ≠ TB → (vm.ownBlock = none ∨ vm.ownBlock ≠ v2.ownBlock) → w.ownsRow B e 1 v2 n xs → (w1.setCell ⟨g, 3, none⟩ v').ownsRow B e 1 v2 n xs := fun {e v2 n xs} n2 hd q => own_of q fun b hb => by
      obtain ⟨q1, _, cs, q3⟩ := own_at q hb
      refine keep b q1 (fun q4 => ?_) (fun q4 => ?_)
      · rcases hd with hd | hd
        · rw [hd] at q4; cases q4
        · exact hd (q4.trans hb.symm)
      · rw [q4, h.blk] at q3
        simp only [Option.some.injEq, Obj.cells.injEq] at q3
        exact n2 q3.2.1.symm
  have typ : ∀ {e : TypeId} {v2 : Value} {n : Nat} {xs : List Value}, e ≠ 40 → w.ownsRow B e 1 v2 n xs → (vm.ownBlock = none ∨ vm.ownBlock ≠ v2.ownBlock) := fun {e v2 n xs} ne q => by
    cases hb : vm.ownBlock with
    | none => exact .inl rfl
    | some b =>
      refine .inr fun q2 => ?_
      obtain ⟨_, _, cs, q3⟩ := own_at h.rm hb
      obtain ⟨_, _, cs2, q4⟩ := own_at q q2.symm
      rw [q3] at q4
      simp only [Option.some.injEq, Obj.cells.injEq] at q4
      exact ne q4.2.1.symm
  have blk1 : w1.heap[g]? = some (.cells #[vb, vw, vi, vm] TB (0, 0)) := (grow_keeps hg hgl hgne).trans h.blk
  have hown2 : (w1.setCell ⟨g, 3, none⟩ v').ownsRow B 40 1 v' (ms.length + 1) (xm ++ [u]) := own_of hown fun b hb => by
    simp [World.setCell, Array.getElem?_modify, show g ≠ b from fun e => hv'g (e ▸ hb)]
  have far : ∀ v2 : Value, (∀ b, v2.ownBlock = some b → b < w.heap.size) → (vm.ownBlock = none ∨ vm.ownBlock ≠ v2.ownBlock) → (v'.ownBlock = none ∨ v'.ownBlock ≠ v2.ownBlock) := fun v2 hl hd => by
    rcases hw with e | ⟨e, _⟩
    · rw [e]; exact hd
    · refine .inr fun q => ?_
      rw [e] at q
      have q1 := hl _ q.symm
      have q2 : (w.alloc o).heap.size = w.heap.size + 1 := by simp
      omega
  exact ⟨by have := heap_setB blk1 3 v'; simpa using this, row (by decide) (typ (by decide) h.rb) h.rb, row (by decide) (typ (by decide) h.rw') h.rw', row (by decide) (h.d2.elim (fun q => by cases q2 : vm.ownBlock with | none => exact .inl rfl | some b => exact .inr (by rw [q]; intro q3; cases q3)) (fun q => .inr fun e => q e.symm)) h.ri, by rw [List.length_append, List.length_singleton]; exact hown2, h.d1, (by
    have q0 := far vi (fun b q => (own_at h.ri q).1) (h.d2.elim (fun q => by cases q2 : vm.ownBlock with | none => exact .inl rfl | some b => exact .inr (by rw [q]; intro q3; cases q3)) (fun q => .inr fun e => q e.symm))
    cases q1 : vi.ownBlock with
    | none => exact .inl rfl
    | some b =>
      refine .inr fun q2 => ?_
      rcases q0 with q3 | q3
      · rw [q3] at q2; cases q2
      · exact q3 (q2.symm.trans q1.symm)), els (by decide) (by decide) h.eb, els (by decide) (by decide) h.ew, els (by decide) (by decide) h.ei, (els (by decide) (by decide) h.em).snoc (own_of hu fun b hb => by
    obtain ⟨q1, _, cs, q3⟩ := own_at hu hb
    refine keep b q1 (fun q4 => ?_) (fun q4 => ?_)
    · obtain ⟨_, _, cs2, q5⟩ := own_at h.rm q4
      rw [q3] at q5
      simp only [Option.some.injEq, Obj.cells.injEq] at q5
      exact absurd q5.2.1 (by decide)
    · rw [q4, h.blk] at q3
      simp only [Option.some.injEq, Obj.cells.injEq] at q3
      exact absurd q3.2.1 (by decide)) hC, h.pb, h.pi', h.yb, h.yi, by have q1 := hg.size; have q2 : (w.alloc o).heap.size = w.heap.size + 1 := (by simp); have := h.low; simp [World.setCell]; omega⟩
section
variable {P : Program} {ops : Array Oper} {Q : Exit → Act → World → Prop} {md : Region.Mode} {S : World → Prop} {L : Nat}
def wpAnyL (P : Program) (md : Region.Mode) (ops : Array Oper) (Q : Exit → Act → World → Prop) (S : World → Prop) (L : Nat) : Nat → Array Bool → Act → World → Prop
  | 0, listed, a, w => Region.ready md ops listed = [] ∧ Q .normal a w
  | fuel + 1, listed, a, w =>
    (Region.ready md ops listed = [] → Q .normal a w) ∧
    ∀ i ∈ Region.ready md ops listed, wpOp P ops Q i (fun a' w' => (i ≠ L → S w') ∧ wpAnyL P md ops Q S L fuel (listed.setIfInBounds i true) a' w') a w
theorem wpAny_of_last : ∀ (fuel : Nat) (listed : Array Bool) (a : Act) (w : World), wpAnyL P md ops Q S L fuel listed a w → wpAny P md ops Q fuel listed a w
  | 0, _, _, _, h => h
  | fuel + 1, _, _, _, h => ⟨h.1, fun i hi => wpOp_mono (fun a' w' h' => wpAny_of_last fuel _ a' w' h'.2) (h.2 i hi)⟩
theorem wpAnyL_first {i : Nat} {oi : Oper} {v : Value} (hi : ops[i]? = some oi) (hiL : i ≠ L) (hwait : ∀ o, ops[L]? = some o → ∃ e ∈ o.after, Region.binds md e = true ∧ e.on = i) (hsel : ∀ (j : Nat) (o : Oper) cs b, ops[j]? = some o → o.op ≠ .select cs b)
    (hQ : ∀ c a w, Q (.panic c) (a.put oi.dst v) w → Q (.panic c) a w) :
    ∀ (fuel : Nat) (listed : Array Bool) (a : Act) (w : World),
      (∀ j oj, ops[j]? = some oj → j ≠ i → listed.getD j true = false → (∀ e ∈ oj.after, Region.binds md e = true → e.on ≠ i) → oi.apart ops oj = true) →
      i ∈ Region.ready md ops listed → YieldsIf P ops S oi v a → S w →
      wpAnyL P md ops Q S L fuel (listed.setIfInBounds i true) (a.put oi.dst v) w → wpAnyL P md ops Q S L (fuel + 1) listed a w := by
  intro fuel
  induction fuel with
  | zero =>
    intro listed a w _ hr hy hS H
    refine ⟨fun h => (by rw [h] at hr; cases hr), fun j hj => ?_⟩
    by_cases hji : j = i
    · subst hji; exact hy.wpOp hi hS ⟨fun _ => hS, H⟩
    · have := ready_mono hj hji
      rw [H.1] at this
      cases this
  | succ fuel ih =>
    intro listed a w hfree hr hy hS H
    refine ⟨fun h => (by rw [h] at hr; cases hr), fun j hj => ?_⟩
    by_cases hji : j = i
    · subst hji; exact hy.wpOp hi hS ⟨fun _ => hS, H⟩
    · have h1 := H.2 j (ready_mono hj hji)
      obtain ⟨hjun, oj, hoj, hall⟩ := mem_ready.1 hj
      have hnot : ∀ e ∈ oj.after, Region.binds md e = true → e.on ≠ i := fun e he hb heq => by
        have h1 := hall e he hb
        have h0 := (mem_ready.1 hr).1
        rw [heq] at h1
        rcases Nat.lt_or_ge i listed.size with h' | h'
        · simp [h'] at h0 h1; rw [h0] at h1; cases h1
        · simp [Array.getElem?_eq_none h'] at h1
      have hjL : j ≠ L := fun e => by
        rw [e] at hoj
        obtain ⟨x, hx, hb, he⟩ := hwait oj hoj
        exact hnot x hx hb he
      have h1' : wpOp P ops Q j (fun a' w' => S w' ∧ wpAnyL P md ops Q S L fuel ((listed.setIfInBounds i true).setIfInBounds j true) a' w') (a.put oi.dst v) w := wpOp_mono (fun a' w' q => ⟨q.1 hjL, q.2⟩) h1
      have h2 := wpOp_putIf hoj (hfree j oj hoj hji hjun hnot) (fun cs b => hsel i oi cs b hi) (fun cs b => hsel j oj cs b hoj) hQ hy h1'
      have hfree' : ∀ k ok, ops[k]? = some ok → k ≠ i → (listed.setIfInBounds j true).getD k true = false →
          (∀ e ∈ ok.after, Region.binds md e = true → e.on ≠ i) → oi.apart ops ok = true := fun k ok hk hki hun hno => by
        refine hfree k ok hk hki ?_ hno
        by_cases hjk : j = k
        · subst hjk; exact hjun
        · rw [getD_set_ne true hjk] at hun; exact hun
      refine wpOp_mono (fun a' w' h3 => ⟨fun _ => h3.2.1, ih (listed.setIfInBounds j true) a' w' hfree' (ready_mono hr (Ne.symm hji)) h3.1 h3.2.1 ?_⟩) h2
      rw [Array.setIfInBounds_comm _ _ hji]
      exact h3.2.2
def waitsL (md : Region.Mode) (ops : Array Oper) (L i : Nat) : Bool :=
  match ops[L]? with
  | some o => o.after.any fun e => Region.binds md e && e.on == i
  | none => true
theorem waitsL_spec {i : Nat} (h : waitsL md ops L i = true) : ∀ o, ops[L]? = some o → ∃ e ∈ o.after, Region.binds md e = true ∧ e.on = i := fun o ho => by
  unfold waitsL at h
  rw [ho] at h
  obtain ⟨k, hk, he⟩ := Array.any_eq_true.1 h
  simp only [Bool.and_eq_true, beq_iff_eq] at he
  exact ⟨_, Array.getElem_mem hk, he⟩
theorem wpAnyL_take {i : Nat} {oi : Oper} {v : Value} {fuel : Nat} {listed : Array Bool} {a : Act} {w : World} (hi : ops[i]? = some oi) (hiL : (i == L) = false) (hwt : waitsL md ops L i = true)
    (hs : Region.noSelect ops = true) (hf : Region.free md ops listed i = true) (hr : (Region.ready md ops listed).contains i = true)
    (hQ : ∀ c a w, Q (.panic c) (a.put oi.dst v) w → Q (.panic c) a w) (hy : YieldsIf P ops S oi v a) (hS : S w)
    (h : wpAnyL P md ops Q S L fuel (listed.setIfInBounds i true) (a.put oi.dst v) w) : wpAnyL P md ops Q S L (fuel + 1) listed a w :=
  wpAnyL_first hi (by simpa using hiL) (waitsL_spec hwt) (Region.noSelect_spec hs) hQ fuel listed a w (Region.free_spec hi hf) (by simpa using hr) hy hS h
theorem wpAnyL_done {listed : Array Bool} {a : Act} {w : World} (hr : Region.ready md ops listed = []) (h : Q .normal a w) :
    ∀ fuel, wpAnyL P md ops Q S L fuel listed a w
  | 0 => ⟨hr, h⟩
  | _ + 1 => ⟨fun _ => h, by rw [hr]; simp⟩
theorem wpAnyL_one {i : Nat} {o : Oper} {fuel : Nat} {listed : Array Bool} {a : Act} {w : World} (hr : Region.ready md ops listed = [i]) (ho : ops[i]? = some o)
    (h : ∀ K' : Act → World → Prop, Shut (∀ a w, (i ≠ L → S w) → wpAnyL P md ops Q S L fuel (listed.setIfInBounds i true) a w → K' a w) → if Region.wanted o (yielded ops a.tmps) = true then Oper.wp P o a w K' Q else K' (a.put o.dst undef) w) :
    wpAnyL P md ops Q S L (fuel + 1) listed a w := by
  refine ⟨fun h0 => (by rw [hr] at h0; cases h0), fun j hj => ?_⟩
  rw [hr] at hj
  rcases List.mem_singleton.1 hj with rfl
  exact wpOp_step ho (fun K' hK => h K' (fun a w hS hW => hK a w ⟨hS, hW⟩))
theorem wp_region_last {id : Nat} {a : Act} {w : World} (L : Nat) (hm : P.follows .mixedOrders = true) (hS : S w.drew)
    (h : S w.drew → wpAnyL P .any ops Q S L ops.size (Array.replicate ops.size false) a w.drew) : (Code.region id ops true).wp P Q a w :=
  wp_region_any hm (wpAny_of_last _ _ _ _ (h hS))
end
end Go.Proofs.Ytgjadpidoaianaa
namespace Go.Proofs.Ytgjadpidoaianaa
open Go Go.RowKit
theorem wp_append_HB {w : World} {o : Oper} {a : Act} {K : Act → World → Prop} {Q : Exit → Act → World → Prop} (s x : Operand)
    (ho : o.op = .call { callee := .builtin .append, args := #[s, x], argTypes := #[36, 36] })
    (base : Nat) (v : Value) (n : Nat) (xs : List Value) (hs : a.eval s = v) (hown : w.ownsRow base 5 1 v n xs)
    (u : Value) (l : List Int) (hx : a.eval x = u) (hu : HB w u l) (hbytes : n + l.length ≤ 140737488355328) (hbase : base ≤ w.heap.size)
    (h : ∀ v' w', w'.ownsRow base 5 1 v' (n + l.length) (xs ++ l.map (Value.int .u8)) → w.grownBy w' v.ownBlock → K (a.put o.dst v') w') : o.wp Try.prog a w K Q := by
  obtain ⟨i0, hi, hz0, hz1, hz2⟩ := info_parts info_u8
  obtain ⟨⟨p, c, rfl, hlc, hm, hpc, hcell⟩, hby⟩ := hu
  cases p with
  | none =>
    have e : l = [] := by
      apply Classical.byContradiction
      intro hne
      obtain ⟨b, off, e, _⟩ := hcell hne
      cases e
    subst e
    have := hpc rfl
    subst this
    have hrun := run_append_owned_none (P := Try.prog) (w := w) base 36 o.type 5 i0 1 Try.underlying36 hi v n xs hown
    have hx' : a.eval x = .slice none 0 0 := hx
    unfold Oper.wp
    simp [execOp, ho, resolve, invoke, builtin, hs, hx', hrun, Result.andThen]
    exact h v w (by simpa using hown) ⟨rfl, rfl, rfl, Nat.le_refl _, fun _ _ _ => rfl⟩
  | some ad =>
    refine wp_append_own w s x 36 ho base 5 i0 (.int .u8 0) 1 1 Try.underlying36 hi hz0 hz1 hz2 rfl (by decide) v n xs hs hown ad l.length c (l.map (Value.int .u8)) hx (by simp) ?_ ?_ (by unfold maxLen; omega) (by omega) hbase (fun v' w' h1 h2 _ => h v' w' h1 h2)
    · intro j y hj
      have hjn : j < l.length := by
        have := (List.getElem?_eq_some_iff.1 hj).1
        simpa using this
      obtain ⟨b, off, e, hh⟩ := hcell (by intro e; subst e; simp at hjn)
      cases e
      rw [Go.WideShapes.add_plain, hh j hjn]
      have e : (l.map (Value.int .u8))[j]? = some (Value.int .u8 (l.getD j 0)) := by simp [List.getD, List.getElem?_eq_getElem hjn]
      rw [e] at hj
      exact hj
    · intro u hu; obtain ⟨x, _, rfl⟩ := List.mem_map.1 hu; rfl
abbrev nlS : Value := .slice none 0 0
def zrq : Array Value := zreq
theorem zrq_is : zrq = rqA rq0 nlS := rfl
theorem zrq_size : zrq.size = 23 := rfl
theorem zrq_one : zrq.all (·.oneCell') = true := rqA_one rq0 _ rfl
theorem slice_lB (W : World) (p : Option Addr) (n c lo : Nat) (h1 : lo ≤ n) : (Instr.slice 36 (.slice p n c) (some (.int .i64 (lo : Int))) none none).run Try.prog W = .ok (.slice (if c = lo then p else p.map (·.add lo)) (n - lo) (c - lo)) W := by
  have h := run_slice_l (P := Try.prog) W 36 p n c (by rw [elmB]; exact Try.underlying36) .i64 (lo : Int) (by omega) (by omega)
  rw [h, elmB, size_u8, Result.andThen_ok, Int.toNat_natCast]
  unfold sliced
  rw [Nat.mul_one]
def DocQ (w : World) (l : List Int) (e : Ending) (w' : World) : Prop :=
  (∃ p, dqP l = some p ∧ e = .returned (.tuple #[.agg zrq, .int .i64 p, .int .i64 200])) ∨
  (dqP l = none ∧ ∃ v, e = .returned (.tuple #[.agg (rqA (dqR l (l.getD 0 0)) v), .int .i64 0, .int .i64 0]) ∧ w'.ownsRow w.heap.size 5 1 v (l.drop (hdN (l.getD 0 0))).length ((l.drop (hdN (l.getD 0 0))).map (Value.int .u8)))
structure RS (w W : World) (r : Rq) (u : Value) : Prop where
  x0 : W.heap[w.heap.size]? = some (.cells zrq 38 (0, 0))
  x1 : W.heap[w.heap.size + 1]? = some (.cells zrq 38 (0, 0))
  x2 : W.heap[w.heap.size + 2]? = some (.cells (rqA r u) 38 (0, 0))
  bel : Below w.heap.size w W
theorem RS.set {w W : World} {r r' : Rq} {u u' : Value} (h : RS w W r u) (i : Nat) (v : Value) (e : (rqA r u).setIfInBounds i v = rqA r' u') : RS w (W.setCell ⟨w.heap.size + 2, i, none⟩ v) r' u' :=
  ⟨by rw [← h.x0]; simp [World.setCell, Array.getElem?_modify], by rw [← h.x1]; simp [World.setCell, Array.getElem?_modify], by rw [← e]; exact heap_setA h.x2 i v, h.bel.setCell (by simp) v⟩
theorem RS.cell {w W : World} {r : Rq} {u : Value} (h : RS w W r u) {i : Nat} {v : Value} (e : (rqA r u)[i]? = some v) : W.cell? ⟨w.heap.size + 2, i, none⟩ = some v := by rw [cell_of_row _ _ _ _ _ _ h.x2]; exact e
theorem RS.fr {w W : World} {r : Rq} {u : Value} (h : RS w W r u) (i : Nat) : W.frozen? ⟨w.heap.size + 2, i, none⟩ = false := free_of h.x2 i
theorem RS.rng {w W : World} {r : Rq} {u : Value} (h : RS w W r u) : W.rangeAt (w.heap.size + 2) 0 (rqA r u).toList := fun j v hj => by rw [cell_of_row _ _ _ _ _ _ h.x2, Nat.zero_add, ← Array.getElem?_toList]; exact hj
theorem RS.rng1 {w W : World} {r : Rq} {u : Value} (h : RS w W r u) : W.rangeAt (w.heap.size + 1) 0 zrq.toList := fun j v hj => by rw [cell_of_row _ _ _ _ _ _ h.x1, Nat.zero_add, ← Array.getElem?_toList]; exact hj
theorem RS.below {w W W' : World} {r : Rq} {u : Value} (h : RS w W r u) (hb : Below W.heap.size W W') : RS w W' r u :=
  ⟨(hb.block _ (Array.getElem?_eq_some_iff.1 h.x0).1).trans h.x0, (hb.block _ (Array.getElem?_eq_some_iff.1 h.x1).1).trans h.x1, (hb.block _ (Array.getElem?_eq_some_iff.1 h.x2).1).trans h.x2, h.bel.trans (hb.mono h.bel.size)⟩
theorem RS.ans {w W : World} {r : Rq} {u : Value} (h : RS w W r u) (m : Array Value) : (W.setRow w.heap.size m).heap[w.heap.size]? = some (.cells m 38 (0, 0)) ∧ Below w.heap.size w (W.setRow w.heap.size m) :=
  ⟨setRow_heap _ _ _ _ _ _ h.x0, h.bel.trans ((ex_setRow (Ex.refl (fun k => k = w.heap.size) W) rfl m).below h.bel.size (fun k e => by omega))⟩
theorem RS.there {w W : World} {r : Rq} {u : Value} (h : RS w W r u) (hok : r.ok) (o n : Nat) (hn : o + n ≤ 23) : W.there (w.heap.size + 2) o n := fun j hj => ⟨by
    rw [cell_of_row _ _ _ _ _ _ h.x2, Array.getElem?_eq_getElem (by rw [rqA_size hok]; omega)]
    rfl, free_of h.x2 _⟩
def ixI (l : List Int) (i : Nat) : List Int := (l.drop 1).take i ++ List.replicate (16 - i) 0
theorem ixI_len (l : List Int) (i : Nat) (hi : i ≤ 16) (hl : 17 ≤ l.length) : (ixI l i).length = 16 := by simp [ixI]; omega
theorem ixI_set (l : List Int) (i : Nat) (hi : i < 16) (hl : 17 ≤ l.length) : (ixI l i).set i (l.getD (1 + i) 0) = ixI l (i + 1) := by
  unfold ixI
  have h1 : ((l.drop 1).take i).length = i := by simp; omega
  rw [List.set_append_right _ _ (by omega), h1, Nat.sub_self, show 16 - i = (16 - (i + 1)) + 1 by omega, List.replicate_succ, List.set_cons_zero, List.take_succ_eq_append_getElem (by simp; omega), List.getElem_drop, getD_of_lt (by omega)]
  simp
theorem rqA_ix (k : Int) (ix : List Int) (nb pl ln who til : Int) (u : Value) (i : Nat) (hi : i < 16) (x : Int) (h16 : ix.length = 16) : (rqA ⟨k, ix, nb, pl, ln, who, til⟩ u).setIfInBounds (1 + i) (.int .u8 x) = rqA ⟨k, ix.set i x, nb, pl, ln, who, til⟩ u := by
  unfold rqA rqL
  rw [List.setIfInBounds_toArray, Nat.add_comm 1 i, List.set_cons_succ, List.set_append_left _ _ (by simpa [h16] using hi), List.map_set]
theorem rqA_tail (k : Int) (ix : List Int) (nb pl ln who til : Int) (u : Value) (i : Nat) (v : Value) (h16 : ix.length = 16) : (rqA ⟨k, ix, nb, pl, ln, who, til⟩ u).setIfInBounds (17 + i) v = (Value.int .u8 k :: (ix.map (Value.int .u8) ++ [.int .i64 nb, .int .i64 pl, .int .i64 ln, .int .u32 who, .int .i64 til, u].set i v)).toArray := by
  unfold rqA rqL
  rw [List.setIfInBounds_toArray, show 17 + i = (16 + i) + 1 by omega, List.set_cons_succ, List.set_append_right _ _ (by simp [h16]), List.length_map, h16, Nat.add_sub_cancel_left]
theorem RS.nb {w W : World} {k : Int} {ix : List Int} {nb pl ln who til : Int} {u : Value} (h : RS w W ⟨k, ix, nb, pl, ln, who, til⟩ u) (h16 : ix.length = 16) (x : Int) : RS w (W.setCell ⟨w.heap.size + 2, 17, none⟩ (.int .i64 x)) ⟨k, ix, x, pl, ln, who, til⟩ u := h.set 17 _ (rqA_tail k ix nb pl ln who til u 0 _ h16)
theorem RS.pl {w W : World} {k : Int} {ix : List Int} {nb pl ln who til : Int} {u : Value} (h : RS w W ⟨k, ix, nb, pl, ln, who, til⟩ u) (h16 : ix.length = 16) (x : Int) : RS w (W.setCell ⟨w.heap.size + 2, 18, none⟩ (.int .i64 x)) ⟨k, ix, nb, x, ln, who, til⟩ u := h.set 18 _ (rqA_tail k ix nb pl ln who til u 1 _ h16)
theorem RS.ln {w W : World} {k : Int} {ix : List Int} {nb pl ln who til : Int} {u : Value} (h : RS w W ⟨k, ix, nb, pl, ln, who, til⟩ u) (h16 : ix.length = 16) (x : Int) : RS w (W.setCell ⟨w.heap.size + 2, 19, none⟩ (.int .i64 x)) ⟨k, ix, nb, pl, x, who, til⟩ u := h.set 19 _ (rqA_tail k ix nb pl ln who til u 2 _ h16)
theorem RS.who {w W : World} {k : Int} {ix : List Int} {nb pl ln who til : Int} {u : Value} (h : RS w W ⟨k, ix, nb, pl, ln, who, til⟩ u) (h16 : ix.length = 16) (x : Int) : RS w (W.setCell ⟨w.heap.size + 2, 20, none⟩ (.int .u32 x)) ⟨k, ix, nb, pl, ln, x, til⟩ u := h.set 20 _ (rqA_tail k ix nb pl ln who til u 3 _ h16)
theorem RS.til {w W : World} {k : Int} {ix : List Int} {nb pl ln who til : Int} {u : Value} (h : RS w W ⟨k, ix, nb, pl, ln, who, til⟩ u) (h16 : ix.length = 16) (x : Int) : RS w (W.setCell ⟨w.heap.size + 2, 21, none⟩ (.int .i64 x)) ⟨k, ix, nb, pl, ln, who, x⟩ u := h.set 21 _ (rqA_tail k ix nb pl ln who til u 4 _ h16)
theorem RS.byt {w W : World} {k : Int} {ix : List Int} {nb pl ln who til : Int} {u : Value} (h : RS w W ⟨k, ix, nb, pl, ln, who, til⟩ u) (h16 : ix.length = 16) (v : Value) : RS w (W.setCell ⟨w.heap.size + 2, 22, none⟩ v) ⟨k, ix, nb, pl, ln, who, til⟩ v := h.set 22 _ (rqA_tail k ix nb pl ln who til u 5 _ h16)
theorem RS.lease {w W : World} {k : Int} {ix : List Int} {nb pl ln who til : Int} {u : Value} (h : RS w W ⟨k, ix, nb, pl, ln, who, til⟩ u) (h16 : ix.length = 16) (x y : Int) : RS w (W.setCells (w.heap.size + 2) 20 [.int .u32 x, .int .i64 y]) ⟨k, ix, nb, pl, ln, x, y⟩ u := (h.who h16 x).til h16 y
theorem run_build_le (w : World) (a b : Int) : (Instr.build 35 #[(0, .int .u32 a), (1, .int .i64 b)]).run Try.prog w = .ok (.agg #[.int .u32 a, .int .i64 b]) w := by kernel_rfl
theorem one_le (a b : Int) : (#[Value.int .u32 a, Value.int .i64 b]).all (·.oneCell') = true := all_oneCell_toArray fun u hu => by simp at hu; rcases hu with rfl | rfl <;> rfl
theorem size_le : (Try.prog.info? 35).map (·.size) = some 2 := by kernel_rfl
end Go.Proofs.Ytgjadpidoaianaa
