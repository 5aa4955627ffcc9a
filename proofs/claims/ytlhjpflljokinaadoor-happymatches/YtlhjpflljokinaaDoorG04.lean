/- Of the road to happyMatchesCard_holds: HzCv, HzCw, HzMa, HzLaid. -/
import Derived.Test.YtlhjpflljokinaaDoorG03
import Derived.Test.YtlhjpflljokinaaDoorRows
import Derived.Test.YtlhjpflljokinaaDoorG01
import Derived.ProofKit
import Derived.OpenShut
import Derived.LaidLaws
import Derived.Lay
import Derived.MakeChecks
import Derived.Stop.LaidErr
import Derived.Lib.LaidTab
set_option linter.unusedVariables false
set_option linter.unusedSimpArgs false
namespace Go.Proofs.YtlhjpflljokinaaDoor.Hz
open Go Go.RowKit Go.Proofs.YtlhjpflljokinaaDoor Go.Maps
def bv (l : List Bool) : Array Value := (l.map fun x : Bool => Value.bool x).toArray
theorem bv_at (l : List Bool) (i : Nat) (hi : i < l.length) : (bv l)[i]? = some (.bool (l.getD i false)) := by simp [bv, List.getD, List.getElem?_eq_getElem hi]
theorem bv_set (l : List Bool) (i : Nat) (x : Bool) : (bv l).setIfInBounds i (.bool x) = bv (l.set i x) := by simp [bv]
def OB (w : World) (g : Nat) (T : TypeId) (l : List Bool) : Prop := w.heap[g]? = some (.cells (bv l) T (0, 0))
theorem OB.lt {w : World} {g : Nat} {T : TypeId} {l : List Bool} (h : OB w g T l) : g < w.heap.size := (Array.getElem?_eq_some_iff.1 h).1
theorem OB.cell {w : World} {g : Nat} {T : TypeId} {l : List Bool} (h : OB w g T l) {i : Nat} (hi : i < l.length) : w.cell? ⟨g, i, none⟩ = some (.bool (l.getD i false)) := by
  rw [cell_of_row w g i _ _ _ h]
  exact bv_at l i hi
theorem OB.free {w : World} {g : Nat} {T : TypeId} {l : List Bool} (h : OB w g T l) (i : Nat) : w.frozen? ⟨g, i, none⟩ = false := frozen_of_row w g _ _ _ h
theorem OB.set {w : World} {g : Nat} {T : TypeId} {l : List Bool} (h : OB w g T l) (i : Nat) (x : Bool) : OB (w.setCell ⟨g, i, none⟩ (.bool x)) g T (l.set i x) := by
  have := heap_setCell_same w g i (bv l) T (.bool x) h
  rw [bv_set] at this
  exact this
theorem getD_set {l : List Bool} {i k : Nat} (hi : i < l.length) : (l.set i true).getD k false = if k = i then true else l.getD k false := by
  by_cases h : k = i
  · subst h
    simp [List.getD, hi]
  · rw [if_neg h]
    simp [List.getD, List.getElem?_set_ne (fun e => h e.symm)]
def fls (l : List Bool) : Nat := l.countP fun x => !x
theorem fls_set : ∀ {l : List Bool} {i : Nat}, i < l.length → l.getD i false = false → fls (l.set i true) < fls l
  | [], _, h, _ => by cases h
  | x :: l, 0, _, h => by
    have : x = false := by simpa [List.getD] using h
    subst this
    simp [fls]
  | x :: l, i + 1, h1, h2 => by
    have ih := fls_set (l := l) (i := i) (by simpa using h1) (by simpa [List.getD] using h2)
    unfold fls at ih ⊢
    rw [List.set_cons_succ, List.countP_cons, List.countP_cons]
    omega
def Rn (Q M : List (Nat × Nat)) (n : Nat) : Prop := ∃ k s0, Hy.NoS M s0 ∧ Hy.Pth Q M k s0 n
def Rs (Q M : List (Nat × Nat)) (s : Nat) : Prop := Hy.NoS M s ∨ ∃ n, Rn Q M n ∧ (s, n) ∈ M
theorem Rs.go {Q M : List (Nat × Nat)} {s n : Nat} (h : Rs Q M s) (hp : (s, n) ∈ Q) : Rn Q M n := by
  rcases h with h | ⟨n1, ⟨k, s0, h1, h2⟩, h3⟩
  · exact ⟨0, s, h, .last hp⟩
  · exact ⟨k + 1, s0, h1, h2.snoc h3 hp⟩
structure CI (Q M : List (Nat × Nat)) (S N Mt : List Bool) : Prop where
  ls : S.length = 32
  ln : N.length = 255
  lm : Mt.length = 32
  mt : ∀ s, s < 32 → (Mt.getD s false = true ↔ ¬ Hy.NoS M s)
  init : ∀ p ∈ Q, Hy.NoS M p.1 → S.getD p.1 false = true
  sok : ∀ s, S.getD s false = true → Rs Q M s
  nok : ∀ n, N.getD n false = true → Rn Q M n
theorem CI.setN {Q M : List (Nat × Nat)} {S N Mt : List Bool} (h : CI Q M S N Mt) {s n : Nat} (hn : n < 255) (hp : (s, n) ∈ Q) (hs : S.getD s false = true) : CI Q M S (N.set n true) Mt := by
  refine ⟨h.ls, by rw [List.length_set]; exact h.ln, h.lm, h.mt, h.init, h.sok, fun k hk => ?_⟩
  rw [getD_set (by rw [h.ln]; exact hn)] at hk
  by_cases q : k = n
  · rw [q]; exact (h.sok s hs).go hp
  · rw [if_neg q] at hk; exact h.nok k hk
theorem CI.setS {Q M : List (Nat × Nat)} {S N Mt : List Bool} (h : CI Q M S N Mt) {s n : Nat} (hs : s < 32) (hp : (s, n) ∈ M) (hn : N.getD n false = true) : CI Q M (S.set s true) N Mt := by
  refine ⟨by rw [List.length_set]; exact h.ls, h.ln, h.lm, h.mt, fun p hq hf => ?_, fun k hk => ?_, h.nok⟩
  · rw [getD_set (by rw [h.ls]; exact hs)]
    by_cases q : p.1 = s
    · rw [if_pos q]
    · rw [if_neg q]; exact h.init p hq hf
  · rw [getD_set (by rw [h.ls]; exact hs)] at hk
    by_cases q : k = s
    · rw [q]; exact .inr ⟨n, h.nok n hn, hp⟩
    · rw [if_neg q] at hk; exact h.sok k hk
def Cl1 (L : List (Nat × Nat)) (S N : List Bool) : Prop := ∀ p ∈ L, S.getD p.1 false = true → N.getD p.2 false = true
def Cl2 (L : List (Nat × Nat)) (S N : List Bool) : Prop := ∀ e ∈ L, N.getD e.2 false = true → S.getD e.1 false = true
theorem CI.count {Q M : List (Nat × Nat)} {S N Mt : List Bool} (h : CI Q M S N Mt) (hM : Hy.MaxM Q M) (hb : ∀ e ∈ M, e.1 < 32 ∧ e.2 < 255) (c1 : Cl1 Q S N) (c2 : Cl2 M S N) :
    ((List.range 255).countP fun n => N.getD n false) + ((List.range 32).countP fun s => Mt.getD s false && !S.getD s false) = M.length := by
  have hc := Hy.cover_count hM.1 (fun s => S.getD s false) (fun n => N.getD n false) 32 255 hb (fun e he => ?_) (fun n hn hN => ?_)
  · rw [← hc]
    congr 1
    refine List.countP_congr fun s hs => ?_
    have e : Mt.getD s false = M.any (fun e => decide (s = e.1)) := by
      cases z : M.any (fun e => decide (s = e.1)) with
      | true =>
        refine (h.mt s (List.mem_range.1 hs)).2 fun hno => ?_
        obtain ⟨e, he, hq⟩ := List.any_eq_true.1 z
        exact hno e he (of_decide_eq_true hq).symm
      | false =>
        cases z2 : Mt.getD s false with
        | false => rfl
        | true =>
          exfalso
          refine (h.mt s (List.mem_range.1 hs)).1 z2 fun e he hq => ?_
          have := List.any_eq_false.1 z e he
          exact this (decide_eq_true hq.symm)
    rw [e]
  · cases z : S.getD e.1 false <;> cases z2 : N.getD e.2 false
    · rfl
    · rw [c2 e he z2] at z; cases z
    · rw [c1 e (hM.1.1 e he) z] at z2; cases z2
    · rfl
  · obtain ⟨k, s0, h1, h2⟩ := h.nok n hN
    exact hM.reached h1 h2
structure CV (w : World) (S N Mt : List Bool) (W : World) : Prop where
  sv : OB W w.heap.size 82 S
  nb : OB W (w.heap.size + 1) 66 N
  mt : OB W (w.heap.size + 1 + 1) 82 Mt
  bel : Below w.heap.size w W
theorem CV.alloc {w W : World} {S N Mt : List Bool} (h : CV w S N Mt W) (o : Obj) : CV w S N Mt (W.alloc o) :=
  ⟨(Below.heap_alloc _ _ _ h.sv.lt).trans h.sv, (Below.heap_alloc _ _ _ h.nb.lt).trans h.nb, (Below.heap_alloc _ _ _ h.mt.lt).trans h.mt, h.bel.alloc h.bel.size _⟩
theorem CV.setS {w W : World} {S N Mt : List Bool} (h : CV w S N Mt W) (i : Nat) : CV w (S.set i true) N Mt (W.setCell ⟨w.heap.size, i, none⟩ (.bool true)) :=
  ⟨h.sv.set i true, (heap_setCell_other _ _ _ _ (by simp)).trans h.nb, (heap_setCell_other _ _ _ _ (by simp; omega)).trans h.mt, h.bel.setCell (p := ⟨w.heap.size, i, none⟩) (Nat.le_refl _) _⟩
theorem CV.setN {w W : World} {S N Mt : List Bool} (h : CV w S N Mt W) (i : Nat) : CV w S (N.set i true) Mt (W.setCell ⟨w.heap.size + 1, i, none⟩ (.bool true)) :=
  ⟨(heap_setCell_other _ _ _ _ (by simp)).trans h.sv, h.nb.set i true, (heap_setCell_other _ _ _ _ (by simp)).trans h.mt, h.bel.setCell (p := ⟨w.heap.size + 1, i, none⟩) (Nat.le_succ _) _⟩
theorem CV.setM {w W : World} {S N Mt : List Bool} (h : CV w S N Mt W) (i : Nat) : CV w S N (Mt.set i true) (W.setCell ⟨w.heap.size + 1 + 1, i, none⟩ (.bool true)) :=
  ⟨(heap_setCell_other _ _ _ _ (by simp; omega)).trans h.sv, (heap_setCell_other _ _ _ _ (by simp)).trans h.nb, h.mt.set i true, h.bel.setCell (p := ⟨w.heap.size + 1 + 1, i, none⟩) (by show w.heap.size ≤ w.heap.size + 1 + 1; omega) _⟩
def HQ (w : World) (v : Value) (Q : List (Nat × Nat)) : Prop := HP w v (Q.map intP)
theorem HQ.at {w W : World} {p : Option Addr} {n c : Nat} {Q : List (Nat × Nat)} (h : HQ w (.slice p n c) Q) (hb : Below w.heap.size w W) {i : Nat} (hi : i < Q.length) : ∃ b off, p = some ⟨b, off, none⟩ ∧ W.cell? ⟨b, off + i * 2, none⟩ = some (.int .i64 ((Q[i].1 : Nat) : Int)) ∧ W.cell? ⟨b, off + i * 2 + 1, none⟩ = some (.int .i64 ((Q[i].2 : Nat) : Int)) := by
  obtain ⟨b, off, c', ev, _, _, _, hc⟩ := HP.ne (ps := Q.map intP) h (by rw [List.length_map]; omega)
  simp only [Value.slice.injEq] at ev
  obtain ⟨rfl, _, rfl⟩ := ev
  have hcs := hc i (by rw [List.length_map]; exact hi)
  have e : (Q.map intP).getD i (0, 0) = intP Q[i] := by simp [List.getD, List.getElem?_eq_getElem hi]
  rw [e] at hcs
  exact ⟨b, off, rfl, (hb.cell (World.block_lt_of_cell? w _ hcs.1)).trans hcs.1, (hb.cell (World.block_lt_of_cell? w _ hcs.2)).trans hcs.2⟩
theorem take_next2 {L : List (Nat × Nat)} {i : Nat} (hi : i < L.length) : L.take (i + 1) = L.take i ++ [L[i]] := List.take_succ_eq_append_getElem hi
def MtI (M : List (Nat × Nat)) (i : Nat) (Mt : List Bool) : Prop := Mt.length = 32 ∧ ∀ s, s < 32 → (Mt.getD s false = true ↔ ∃ e ∈ M.take i, e.1 = s)
theorem MtI.step {M : List (Nat × Nat)} {i : Nat} {Mt : List Bool} (h : MtI M i Mt) (hi : i < M.length) (hb : M[i].1 < 32) : MtI M (i + 1) (Mt.set M[i].1 true) := by
  refine ⟨by rw [List.length_set]; exact h.1, fun s hs => ?_⟩
  rw [getD_set (by rw [h.1]; exact hb), take_next2 hi]
  by_cases q : s = M[i].1
  · rw [if_pos q]
    exact ⟨fun _ => ⟨M[i], List.mem_append_right _ (List.mem_singleton.2 rfl), q.symm⟩, fun _ => rfl⟩
  · rw [if_neg q, h.2 s hs]
    constructor
    · rintro ⟨e, he, hq⟩
      exact ⟨e, List.mem_append_left _ he, hq⟩
    · rintro ⟨e, he, hq⟩
      rcases List.mem_append.1 he with z | z
      · exact ⟨e, z, hq⟩
      · rw [List.mem_singleton.1 z] at hq; exact absurd hq.symm q
theorem MtI.all {M : List (Nat × Nat)} {Mt : List Bool} (h : MtI M M.length Mt) (s : Nat) (hs : s < 32) : Mt.getD s false = true ↔ ¬ Hy.NoS M s := by
  rw [h.2 s hs, List.take_of_length_le (Nat.le_refl _)]
  constructor
  · rintro ⟨e, he, hq⟩ hno
    exact hno e he hq
  · intro hno
    apply Classical.byContradiction
    intro hc
    exact hno fun e he hq => hc ⟨e, he, hq⟩
structure SvI (Q M : List (Nat × Nat)) (i : Nat) (S : List Bool) : Prop where
  len : S.length = 32
  sok : ∀ s, S.getD s false = true → Hy.NoS M s
  init : ∀ p ∈ Q.take i, Hy.NoS M p.1 → S.getD p.1 false = true
theorem SvI.set {Q M : List (Nat × Nat)} {i : Nat} {S : List Bool} (h : SvI Q M i S) (hi : i < Q.length) (hb : Q[i].1 < 32) (hn : Hy.NoS M Q[i].1) : SvI Q M (i + 1) (S.set Q[i].1 true) := by
  refine ⟨by rw [List.length_set]; exact h.len, fun s hs => ?_, fun p hp hno => ?_⟩
  · rw [getD_set (by rw [h.len]; exact hb)] at hs
    by_cases q : s = Q[i].1
    · rw [q]; exact hn
    · rw [if_neg q] at hs; exact h.sok s hs
  · rw [getD_set (by rw [h.len]; exact hb)]
    by_cases q : p.1 = Q[i].1
    · rw [if_pos q]
    · rw [if_neg q]
      rw [take_next2 hi] at hp
      rcases List.mem_append.1 hp with z | z
      · exact h.init p z hno
      · rw [List.mem_singleton.1 z] at q; exact absurd rfl q
theorem SvI.skip {Q M : List (Nat × Nat)} {i : Nat} {S : List Bool} (h : SvI Q M i S) (hi : i < Q.length) (hn : ¬ Hy.NoS M Q[i].1) : SvI Q M (i + 1) S := by
  refine ⟨h.len, h.sok, fun p hp hno => ?_⟩
  rw [take_next2 hi] at hp
  rcases List.mem_append.1 hp with z | z
  · exact h.init p z hno
  · rw [List.mem_singleton.1 z] at hno; exact absurd hno hn
def flw (w : World) (g : Nat) : Nat := match w.heap[g]? with
  | some (.cells a _ _) => a.toList.countP fun v => match v with | .bool b => !b | _ => false
  | _ => 0
theorem flw_OB {w : World} {g : Nat} {T : TypeId} {l : List Bool} (h : OB w g T l) : flw w g = fls l := by
  unfold flw fls
  rw [show w.heap[g]? = _ from h]
  simp only [bv, List.countP_map]
  rfl
def b2n : Value → Nat
  | .bool true => 1
  | _ => 0
structure I1 (Q M : List (Nat × Nat)) (S N0 Mt : List Bool) (k : Nat) (N : List Bool) (c : Bool) : Prop where
  ci : CI Q M S N Mt
  no : c = false → N = N0 ∧ Cl1 (Q.take k) S N0
  le : fls N + b2n (.bool c) ≤ fls N0
theorem I1.set {Q M : List (Nat × Nat)} {S N0 Mt N : List Bool} {k : Nat} {c : Bool} (h : I1 Q M S N0 Mt k N c) (hk : k < Q.length) (hs : S.getD Q[k].1 false = true) (hn : N.getD Q[k].2 false = false) (hb : Q[k].2 < 255) : I1 Q M S N0 Mt (k + 1) (N.set Q[k].2 true) true := by
  refine ⟨h.ci.setN hb (List.getElem_mem hk) hs, fun e => (by cases e), ?_⟩
  have h1 := fls_set (l := N) (i := Q[k].2) (by rw [h.ci.ln]; exact hb) hn
  have h2 := h.le
  show fls (N.set Q[k].2 true) + 1 ≤ fls N0
  omega
theorem I1.skip {Q M : List (Nat × Nat)} {S N0 Mt N : List Bool} {k : Nat} {c : Bool} (h : I1 Q M S N0 Mt k N c) (hk : k < Q.length) (hz : S.getD Q[k].1 false = true → N.getD Q[k].2 false = true) : I1 Q M S N0 Mt (k + 1) N c := by
  refine ⟨h.ci, fun e => ?_, h.le⟩
  obtain ⟨rfl, h2⟩ := h.no e
  refine ⟨rfl, fun p hp => ?_⟩
  rw [take_next2 hk] at hp
  rcases List.mem_append.1 hp with z | z
  · exact h2 p z
  · rw [List.mem_singleton.1 z]; exact hz
structure I2 (Q M : List (Nat × Nat)) (S0 N Mt : List Bool) (c1 : Bool) (B : Nat) (k : Nat) (S : List Bool) (c : Bool) : Prop where
  ci : CI Q M S N Mt
  no : c = false → S = S0 ∧ c1 = false ∧ Cl2 (M.take k) S0 N
  le : fls S + fls N + b2n (.bool c) ≤ B
theorem I2.set {Q M : List (Nat × Nat)} {S0 N Mt S : List Bool} {c1 c : Bool} {B k : Nat} (h : I2 Q M S0 N Mt c1 B k S c) (hk : k < M.length) (hn : N.getD M[k].2 false = true) (hs : S.getD M[k].1 false = false) (hb : M[k].1 < 32) : I2 Q M S0 N Mt c1 B (k + 1) (S.set M[k].1 true) true := by
  refine ⟨h.ci.setS hb (List.getElem_mem hk) hn, fun e => (by cases e), ?_⟩
  have h1 := fls_set (l := S) (i := M[k].1) (by rw [h.ci.ls]; exact hb) hs
  have h2 := h.le
  show fls (S.set M[k].1 true) + fls N + 1 ≤ B
  omega
theorem I2.skip {Q M : List (Nat × Nat)} {S0 N Mt S : List Bool} {c1 c : Bool} {B k : Nat} (h : I2 Q M S0 N Mt c1 B k S c) (hk : k < M.length) (hz : N.getD M[k].2 false = true → S.getD M[k].1 false = true) : I2 Q M S0 N Mt c1 B (k + 1) S c := by
  refine ⟨h.ci, fun e => ?_, h.le⟩
  obtain ⟨rfl, h1, h2⟩ := h.no e
  refine ⟨rfl, h1, fun p hp => ?_⟩
  rw [take_next2 hk] at hp
  rcases List.mem_append.1 hp with z | z
  · exact h2 p z
  · rw [List.mem_singleton.1 z]; exact hz
theorem I1.two {Q M : List (Nat × Nat)} {S N0 Mt N : List Bool} {c : Bool} (h : I1 Q M S N0 Mt Q.length N c) : I2 Q M S N Mt c (fls S + fls N0) 0 S c :=
  ⟨h.ci, fun e => ⟨rfl, e, fun p hp => absurd hp (by simp)⟩, by have := h.le; omega⟩
theorem I1.cl {Q M : List (Nat × Nat)} {S N0 Mt N : List Bool} {c : Bool} (h : I1 Q M S N0 Mt Q.length N c) (e : c = false) : Cl1 Q S N := by
  obtain ⟨rfl, h2⟩ := h.no e
  rwa [List.take_of_length_le (Nat.le_refl _)] at h2
structure I3 (Q M : List (Nat × Nat)) (Mt S N : List Bool) (c : Bool) : Prop where
  ci : CI Q M S N Mt
  cl : c = false → Cl1 Q S N ∧ Cl2 M S N
theorem I2.three {Q M : List (Nat × Nat)} {S0 N0 N Mt S : List Bool} {c1 c : Bool} {B : Nat} (h1 : I1 Q M S0 N0 Mt Q.length N c1) (h : I2 Q M S0 N Mt c1 B M.length S c) : I3 Q M Mt S N c := by
  refine ⟨h.ci, fun e => ?_⟩
  obtain ⟨rfl, e1, h2⟩ := h.no e
  rw [List.take_of_length_le (Nat.le_refl _)] at h2
  exact ⟨h1.cl e1, h2⟩
theorem SvI.ci {Q M : List (Nat × Nat)} {S Mt : List Bool} (h : SvI Q M Q.length S) (hm : MtI M M.length Mt) : CI Q M S (List.replicate 255 false) Mt := by
  refine ⟨h.len, List.length_replicate, hm.1, hm.all, ?_, fun s hs => .inl (h.sok s hs), fun n hn => ?_⟩
  · have := h.init
    rwa [List.take_of_length_le (Nat.le_refl _)] at this
  · exfalso
    have e : (List.replicate 255 false).getD n false = false := by
      rw [List.getD_eq_getElem?_getD, List.getElem?_replicate]
      split <;> rfl
    rw [e] at hn; cases hn
theorem bv_none (l : Nat) (s : Nat) : (List.replicate l false).getD s false = false := by
  rw [List.getD_eq_getElem?_getD, List.getElem?_replicate]
  split <;> rfl
theorem MtI.zero (M : List (Nat × Nat)) : MtI M 0 (List.replicate 32 false) := ⟨List.length_replicate, fun s hs => by rw [bv_none]; simp⟩
theorem SvI.zero (Q M : List (Nat × Nat)) : SvI Q M 0 (List.replicate 32 false) := ⟨List.length_replicate, fun s hs => (by rw [bv_none] at hs; cases hs), fun p hp => absurd hp (by simp)⟩
set_option maxRecDepth 100000 in
set_option maxHeartbeats 8000000 in
theorem covered_any (w : World) (v vm : Value) (Q M : List (Nat × Nat)) (hP : HQ w v Q) (hPm : HQ w vm M) (hQ : ∀ p ∈ Q, p.1 < 32 ∧ p.2 < 255) (hM : Hy.MaxM Q M) :
    Calls Tryd.prog 27 #[v, vm] w fun e w' => e = .returned (.bool true) ∧ Below w.heap.size w w' := by
  have HMM := hid hM
  have HQ1 := hid hQ
  have HM1 : Hid (∀ e ∈ M, e.1 < 32 ∧ e.2 < 255) := hid fun e he => hQ e (hM.1.1 e he)
  have HPQ := hid hP
  have HPM := hid hPm
  obtain ⟨p, c, rfl, hc1, hc2⟩ := HP.open (ps := Q.map intP) hP
  obtain ⟨pm, cm, rfl, hc3, hc4⟩ := HP.open (ps := M.map intP) hPm
  unfold maxLen at hc2 hc4
  rw [List.length_map] at hc1 hc3 HPQ HPM
  rw [List.length_map, List.length_map]
  obtain ⟨n, HLn⟩ : ∃ n, Hid (Q.length = n) := ⟨_, rfl⟩
  obtain ⟨m, HLm⟩ : ∃ m, Hid (M.length = m) := ⟨_, rfl⟩
  rw [HLn.out] at hc1 HPQ ⊢
  rw [HLm.out] at hc3 HPM ⊢
  clear hP hPm hM hQ
  obtain ⟨Z32, HZ32⟩ : ∃ Z, Hid (bv (List.replicate 32 false) = Z) := ⟨_, rfl⟩
  obtain ⟨Z255, HZ255⟩ : ∃ Z, Hid (bv (List.replicate 255 false) = Z) := ⟨_, rfl⟩
  obtain ⟨W1, HW1⟩ : ∃ W1, Hid (((w.alloc (.cells (bv (List.replicate 32 false)) 82)).alloc (.cells (bv (List.replicate 255 false)) 66)).alloc (.cells (bv (List.replicate 32 false)) 82) = W1) := ⟨_, rfl⟩
  have HV1 : Hid (CV w (List.replicate 32 false) (List.replicate 255 false) (List.replicate 32 false) W1) := by
    rw [← HW1.out]
    have s1 : (w.alloc (.cells (bv (List.replicate 32 false)) 82)).heap.size = w.heap.size + 1 := by simp
    have s2 : ((w.alloc (.cells (bv (List.replicate 32 false)) 82)).alloc (.cells (bv (List.replicate 255 false)) 66)).heap.size = w.heap.size + 1 + 1 := by simp
    have a1 : OB (w.alloc (.cells (bv (List.replicate 32 false)) 82)) w.heap.size 82 (List.replicate 32 false) := heap_alloc_new w _
    have a2 := heap_alloc_new (w.alloc (.cells (bv (List.replicate 32 false)) 82)) (.cells (bv (List.replicate 255 false)) 66)
    have a3 := heap_alloc_new ((w.alloc (.cells (bv (List.replicate 32 false)) 82)).alloc (.cells (bv (List.replicate 255 false)) 66)) (.cells (bv (List.replicate 32 false)) 82)
    rw [s1] at a2
    rw [s2] at a3
    refine hid ⟨?_, ?_, a3, (((Below.refl _ w).alloc (Nat.le_refl _) _).alloc (by rw [s1]; omega) _).alloc (by rw [s2]; omega) _⟩
    · exact (Below.heap_alloc _ _ _ (by rw [s2]; omega)).trans ((Below.heap_alloc _ _ _ (by rw [s1]; omega)).trans a1)
    · exact (Below.heap_alloc _ _ _ (by rw [s2]; omega)).trans a2
  clear HZ32 HZ255 Z32 Z255
  go_enter Tryd.func27, Tryd.ntmps27
  refine wp_seq_k fun K0 h0 => ?_
  have H0 := hid h0
  clear h0
  go_wp2
  refine H0.out _ _ ?_
  clear H0 K0
  refine wp_seq_k fun K0 h0 => ?_
  have H0 := hid h0
  clear h0
  go_wp2
  refine H0.out _ _ ?_
  clear H0 K0
  refine wp_seq_k fun K0 h0 => ?_
  have H0 := hid h0
  clear h0
  go_wp2
  refine H0.out _ _ ?_
  clear H0 K0
  refine wp_seq_k fun K0 h0 => ?_
  have H0 := hid h0
  clear h0
  go_wp2
  refine H0.out _ _ ?_
  clear H0 K0
  change Code.wp _ _ _ _ (((w.alloc (.cells (bv (List.replicate 32 false)) 82)).alloc (.cells (bv (List.replicate 255 false)) 66)).alloc (.cells (bv (List.replicate 32 false)) 82))
  rw [HW1.out]
  clear HW1
  go_wp2
  go_loopw [8] (fun x wr => ∃ (k : Nat) (Mt : List Bool), k ≤ m ∧ x = .int .i64 (k : Int) ∧ Hid (MtI M k Mt) ∧ Hid (CV w (List.replicate 32 false) (List.replicate 255 false) Mt wr)) (fun x _ => m - (intOf x).toNat)
  case atStart => exact ⟨0, _, Nat.zero_le _, rfl, hid (MtI.zero M), HV1⟩
  case round =>
    clear HV1
    obtain ⟨k, Mt, hk, rfl, HI, HV⟩ := hrel
    by_cases hlt : k < m
    · have hk' : k < M.length := by rw [HLm.out]; exact hlt
      obtain ⟨b, off, rfl, hq1, -⟩ := HPM.out.at HV.out.bel hk'
      have hs := (HM1.out _ (List.getElem_mem hk')).1
      have HI2 := hid (HI.out.step hk' hs)
      have HV2 := hid (HV.out.setM M[k].1)
      have hfr := HV.out.mt.free M[k].1
      have hcl := HV.out.mt.cell (i := M[k].1) (by rw [HI.out.1]; exact hs)
      generalize M[k].1 = s at hq1 hs HI2 HV2 hfr hcl
      clear HI HV hk'
      go_wp2
      exact ⟨⟨k + 1, _, by omega, by go_num, HI2, HV2⟩, by simp [intOf]; omega⟩
    · obtain rfl : k = m := by omega
      go_wp2
      go_loopw [9] (fun x wr => ∃ (k : Nat) (S : List Bool), k ≤ n ∧ x = .int .i64 (k : Int) ∧ Hid (SvI Q M k S) ∧ Hid (CV w S (List.replicate 255 false) Mt wr)) (fun x _ => n - (intOf x).toNat)
      case atStart => exact ⟨0, _, Nat.zero_le _, rfl, hid (SvI.zero Q M), HV⟩
      case round =>
        clear HV hlt hk
        have HMt : Hid (MtI M M.length Mt) := by rw [HLm.out]; exact HI
        clear HI
        rename_i wr0 _ _
        clear wr0
        obtain ⟨j, S, hj, rfl, HI, HV⟩ := hrel
        by_cases hlt : j < n
        · have hk' : j < Q.length := by rw [HLn.out]; exact hlt
          obtain ⟨b, off, rfl, hq1, -⟩ := HPQ.out.at HV.out.bel hk'
          have hs := (HQ1.out _ (List.getElem_mem hk')).1
          have hall := HMt.out.all _ hs
          have hcm := HV.out.mt.cell (i := Q[j].1) (by rw [HMt.out.1]; exact hs)
          have hcs := HV.out.sv.cell (i := Q[j].1) (by rw [HI.out.len]; exact hs)
          have hfr := HV.out.sv.free Q[j].1
          cases hz : Mt.getD Q[j].1 false with
          | true =>
            have HI2 := hid (HI.out.skip hk' (hall.1 hz))
            rw [hz] at hcm
            generalize Q[j].1 = s at hq1 hs hcm hcs hfr
            clear HI hk' hall hz
            go_wp2
            exact ⟨⟨j + 1, _, by omega, by go_num, HI2, HV⟩, by simp [intOf]; omega⟩
          | false =>
            have HI2 := hid (HI.out.set hk' hs (Classical.byContradiction fun q => by rw [hall.2 q] at hz; cases hz))
            have HV2 := hid (HV.out.setS Q[j].1)
            rw [hz] at hcm
            generalize Q[j].1 = s at hq1 hs hcm hcs hfr HI2 HV2
            clear HI HV hk' hall hz
            go_wp2
            exact ⟨⟨j + 1, _, by omega, by go_num, HI2, HV2⟩, by simp [intOf]; omega⟩
        · obtain rfl : j = n := by omega
          have HC3 : Hid (I3 Q M Mt S (List.replicate 255 false) true) := by
            have h1 := HI.out
            rw [← HLn.out] at h1
            exact hid ⟨h1.ci HMt.out, fun e => (by cases e)⟩
          clear HI hlt hj
          go_wp2
          go_loopw [10] (fun x wr => ∃ (q : Bool) (S N : List Bool), x = .bool q ∧ Hid (I3 Q M Mt S N q) ∧ Hid (CV w S N Mt wr)) (fun x wr => flw wr w.heap.size + flw wr (w.heap.size + 1) + b2n x)
          case atStart => exact ⟨true, _, _, rfl, HC3, HV⟩
          case round =>
            clear HC3 HV
            rename_i wr0 _ _
            clear wr0
            clear S
            obtain ⟨q, S, N, rfl, HC3, HV⟩ := hrel
            cases q with
            | true =>
              have HI : Hid (I1 Q M S N Mt 0 N false) := hid ⟨HC3.out.ci, fun _ => ⟨rfl, fun p hp => absurd hp (by simp)⟩, Nat.le_refl _⟩
              have HF : Hid (flw wr w.heap.size + flw wr (w.heap.size + 1) + b2n (.bool true) = fls S + fls N + 1) := by rw [flw_OB HV.out.sv, flw_OB HV.out.nb]; exact hid rfl
              clear HC3
              go_wp2
              go_loopw [10, 11] (fun y x wr => ∃ (k : Nat) (c : Bool) (N1 : List Bool), k ≤ j ∧ x = .int .i64 (k : Int) ∧ y = .bool c ∧ Hid (I1 Q M S N Mt k N1 c) ∧ Hid (CV w S N1 Mt wr)) (fun _ x _ => j - (intOf x).toNat)
              case atStart => exact ⟨0, false, _, Nat.zero_le _, rfl, rfl, HI, HV⟩
              case round =>
                clear HI HV
                obtain ⟨i, c1, N1, hi, rfl, rfl, HI, HV⟩ := hrel
                by_cases hlt : i < j
                · have hk' : i < Q.length := by rw [HLn.out]; exact hlt
                  obtain ⟨b, off, rfl, hq1, hq2⟩ := HPQ.out.at HV.out.bel hk'
                  obtain ⟨hs, hn⟩ := HQ1.out _ (List.getElem_mem hk')
                  have HVa := hid (HV.out.alloc (.cells #[.int .i64 ((Q[i].1 : Nat) : Int), .int .i64 ((Q[i].2 : Nat) : Int)] 51))
                  have hcs := HVa.out.sv.cell (i := Q[i].1) (by rw [HI.out.ci.ls]; exact hs)
                  have hcn := HVa.out.nb.cell (i := Q[i].2) (by rw [HI.out.ci.ln]; exact hn)
                  have hfr := HVa.out.nb.free Q[i].2
                  cases hz : S.getD Q[i].1 false with
                  | false =>
                    have HI2 := hid (HI.out.skip hk' fun z => (by rw [hz] at z; cases z))
                    rw [hz] at hcs
                    generalize Q[i].1 = s at hq1 hs hcs HVa hcn hfr
                    generalize Q[i].2 = t at hq2 hn hcn HVa hcs hfr
                    clear HI hk' hz HV
                    go_wp2
                    exact ⟨⟨i + 1, _, _, by omega, by go_num, rfl, HI2, HVa⟩, by simp [intOf]; omega⟩
                  | true =>
                    cases hz2 : N1.getD Q[i].2 false with
                    | true =>
                      have HI2 := hid (HI.out.skip hk' fun _ => hz2)
                      rw [hz] at hcs
                      rw [hz2] at hcn
                      generalize Q[i].1 = s at hq1 hs hcs HVa hcn hfr
                      generalize Q[i].2 = t at hq2 hn hcn HVa hcs hfr
                      clear HI hk' hz hz2 HV
                      go_wp2
                      exact ⟨⟨i + 1, _, _, by omega, by go_num, rfl, HI2, HVa⟩, by simp [intOf]; omega⟩
                    | false =>
                      have HI2 := hid (HI.out.set hk' hz hz2 hn)
                      have HV2 := hid (HVa.out.setN Q[i].2)
                      rw [hz] at hcs
                      rw [hz2] at hcn
                      generalize Q[i].1 = s at hq1 hs hcs HVa hcn hfr HI2 HV2
                      generalize Q[i].2 = t at hq2 hn hcn HVa hcs hfr HI2 HV2
                      clear HI hk' hz hz2 HV HVa
                      go_wp2
                      exact ⟨⟨i + 1, _, _, by omega, by go_num, rfl, HI2, HV2⟩, by simp [intOf]; omega⟩
                · obtain rfl : i = j := by omega
                  have HI1 : Hid (I1 Q M S N Mt Q.length N1 c1) := by rw [HLn.out]; exact HI
                  have HI2 := hid HI1.out.two
                  clear HI hlt hi
                  go_wp2
                  go_loopw [10, 13] (fun y x wr => ∃ (u : Nat) (c : Bool) (S1 : List Bool), u ≤ k ∧ x = .int .i64 (u : Int) ∧ y = .bool c ∧ Hid (I2 Q M S N1 Mt c1 (fls S + fls N) u S1 c) ∧ Hid (CV w S1 N1 Mt wr)) (fun _ x _ => k - (intOf x).toNat)
                  case atStart => exact ⟨0, c1, _, Nat.zero_le _, rfl, rfl, HI2, HV⟩
                  case round =>
                    clear HI2 HV
                    obtain ⟨u, c2, S1, hu, rfl, rfl, HI, HV⟩ := hrel
                    by_cases hlt : u < k
                    · have hk' : u < M.length := by rw [HLm.out]; exact hlt
                      obtain ⟨b, off, rfl, hq1, hq2⟩ := HPM.out.at HV.out.bel hk'
                      obtain ⟨hs, hn⟩ := HM1.out _ (List.getElem_mem hk')
                      have hcs := HV.out.sv.cell (i := M[u].1) (by rw [HI.out.ci.ls]; exact hs)
                      have hcn := HV.out.nb.cell (i := M[u].2) (by rw [HI.out.ci.ln]; exact hn)
                      have hfr := HV.out.sv.free M[u].1
                      cases hz : N1.getD M[u].2 false with
                      | false =>
                        have HI2 := hid (HI.out.skip hk' fun z => (by rw [hz] at z; cases z))
                        rw [hz] at hcn
                        generalize M[u].1 = s at hq1 hs hcs hcn hfr
                        generalize M[u].2 = t at hq2 hn hcn hcs hfr
                        clear HI hk' hz
                        go_wp2
                        exact ⟨⟨u + 1, _, _, by omega, by go_num, rfl, HI2, HV⟩, by simp [intOf]; omega⟩
                      | true =>
                        cases hz2 : S1.getD M[u].1 false with
                        | true =>
                          have HI2 := hid (HI.out.skip hk' fun _ => hz2)
                          rw [hz] at hcn
                          rw [hz2] at hcs
                          generalize M[u].1 = s at hq1 hs hcs hcn hfr
                          generalize M[u].2 = t at hq2 hn hcn hcs hfr
                          clear HI hk' hz hz2
                          go_wp2
                          exact ⟨⟨u + 1, _, _, by omega, by go_num, rfl, HI2, HV⟩, by simp [intOf]; omega⟩
                        | false =>
                          have HI2 := hid (HI.out.set hk' hz hz2 hs)
                          have HV2 := hid (HV.out.setS M[u].1)
                          rw [hz] at hcn
                          rw [hz2] at hcs
                          generalize M[u].1 = s at hq1 hs hcs hcn hfr HI2 HV2
                          generalize M[u].2 = t at hq2 hn hcn hcs hfr HI2 HV2
                          clear HI hk' hz hz2 HV
                          go_wp2
                          exact ⟨⟨u + 1, _, _, by omega, by go_num, rfl, HI2, HV2⟩, by simp [intOf]; omega⟩
                    · obtain rfl : u = k := by omega
                      have HI2 : Hid (I2 Q M S N1 Mt c1 (fls S + fls N) M.length S1 c2) := by rw [HLm.out]; exact HI
                      have HI3 := hid (HI2.out.three HI1.out)
                      clear HI hlt hu
                      go_wp2
                      refine ⟨⟨c2, S1, N1, rfl, HI3, HV⟩, ?_⟩
                      rw [HF.out, flw_OB HV.out.sv, flw_OB HV.out.nb]
                      have := HI2.out.le
                      omega
            | false =>
              obtain ⟨h1, h2⟩ := HC3.out.cl rfl
              have HC1 := hid h1
              have HC2 := hid h2
              have HCI := hid HC3.out.ci
              clear h1 h2 HC3
              go_wp2
              go_loopw [14] (fun x wr => ∃ i : Nat, i ≤ j ∧ x = .int .i64 (i : Int) ∧ Hid (CV w S N Mt wr)) (fun x _ => j - (intOf x).toNat)
              case atStart => exact ⟨0, Nat.zero_le _, rfl, HV⟩
              case round =>
                clear HV
                obtain ⟨i, hi, rfl, HV⟩ := hrel
                by_cases hlt : i < j
                · have hk' : i < Q.length := by rw [HLn.out]; exact hlt
                  obtain ⟨b, off, rfl, hq1, hq2⟩ := HPQ.out.at HV.out.bel hk'
                  obtain ⟨hs, hn⟩ := HQ1.out _ (List.getElem_mem hk')
                  have HVa := hid (HV.out.alloc (.cells #[.int .i64 ((Q[i].1 : Nat) : Int), .int .i64 ((Q[i].2 : Nat) : Int)] 51))
                  have hcs := HVa.out.sv.cell (i := Q[i].1) (by rw [HCI.out.ls]; exact hs)
                  have hcn := HVa.out.nb.cell (i := Q[i].2) (by rw [HCI.out.ln]; exact hn)
                  have hcm := HVa.out.mt.cell (i := Q[i].1) (by rw [HCI.out.lm]; exact hs)
                  have hz1 := HC1.out _ (List.getElem_mem hk')
                  have hz3 := (HCI.out.mt _ hs).2
                  have hz4 := HCI.out.init _ (List.getElem_mem hk')
                  cases hz : N.getD Q[i].2 false with
                  | true =>
                    rw [hz] at hcn
                    generalize Q[i].1 = s at hq1 hs hcs HVa hcn hcm
                    generalize Q[i].2 = t at hq2 hn hcn HVa hcs hcm
                    clear hk' hz HV hz1 hz3 hz4
                    go_wp2
                    exact ⟨⟨i + 1, by omega, by go_num, HVa⟩, by simp [intOf]; omega⟩
                  | false =>
                    have e1 : S.getD Q[i].1 false = false := by
                      cases z : S.getD Q[i].1 false with
                      | false => rfl
                      | true => rw [hz1 z] at hz; cases hz
                    have e2 : Mt.getD Q[i].1 false = true := hz3 fun z => (by rw [hz4 z] at e1; cases e1)
                    rw [hz] at hcn
                    rw [e1] at hcs
                    rw [e2] at hcm
                    generalize Q[i].1 = s at hq1 hs hcs HVa hcn hcm
                    generalize Q[i].2 = t at hq2 hn hcn HVa hcs hcm
                    clear hk' hz HV hz1 hz3 hz4 e1 e2
                    go_wp2
                    exact ⟨⟨i + 1, by omega, by go_num, HVa⟩, by simp [intOf]; omega⟩
                · obtain rfl : i = j := by omega
                  clear hlt hi
                  go_wp2
                  go_loopw [16, 17] (fun y x wr => ∃ u : Nat, u ≤ k ∧ x = .int .i64 (u : Int) ∧ y = .int .i64 (u : Int) ∧ Hid (CV w S N Mt wr)) (fun _ x _ => k - (intOf x).toNat)
                  case atStart => exact ⟨0, Nat.zero_le _, rfl, rfl, HV⟩
                  case round =>
                    clear HV
                    obtain ⟨u, hu, rfl, rfl, HV⟩ := hrel
                    by_cases hlt : u < k
                    · have hk' : u < M.length := by rw [HLm.out]; exact hlt
                      obtain ⟨b, off, rfl, hq1, hq2⟩ := HPM.out.at HV.out.bel hk'
                      obtain ⟨hs, hn⟩ := HM1.out _ (List.getElem_mem hk')
                      have hcs := HV.out.sv.cell (i := M[u].1) (by rw [HCI.out.ls]; exact hs)
                      have hcn := HV.out.nb.cell (i := M[u].2) (by rw [HCI.out.ln]; exact hn)
                      have hz1 := HC1.out _ (HMM.out.1.1 _ (List.getElem_mem hk'))
                      cases hz : N.getD M[u].2 false with
                      | true =>
                        rw [hz] at hcn
                        generalize M[u].1 = s at hq1 hs hcs hcn
                        generalize M[u].2 = t at hq2 hn hcn hcs
                        clear hk' hz hz1
                        go_wp2
                        exact ⟨⟨u + 1, by omega, by go_num, by go_num, HV⟩, by simp [intOf]; omega⟩
                      | false =>
                        have e1 : S.getD M[u].1 false = false := by
                          cases z : S.getD M[u].1 false with
                          | false => rfl
                          | true => rw [hz1 z] at hz; cases hz
                        rw [hz] at hcn
                        rw [e1] at hcs
                        generalize M[u].1 = s at hq1 hs hcs hcn
                        generalize M[u].2 = t at hq2 hn hcn hcs
                        clear hk' hz hz1 e1
                        go_wp2
                        exact ⟨⟨u + 1, by omega, by go_num, by go_num, HV⟩, by simp [intOf]; omega⟩
                    · obtain rfl : u = k := by omega
                      clear hlt hu
                      go_wp2
                      go_loopw [18, 19] (fun y x wr => ∃ r : Nat, r ≤ 255 ∧ x = .int .i64 (r : Int) ∧ y = .int .i64 (((List.range r).countP fun n => N.getD n false : Nat) : Int) ∧ Hid (CV w S N Mt wr)) (fun _ x _ => 255 - (intOf x).toNat)
                      case atStart => exact ⟨0, Nat.zero_le _, rfl, rfl, HV⟩
                      case round =>
                        clear HV
                        obtain ⟨r, hr, rfl, rfl, HV⟩ := hrel
                        obtain ⟨A, HA⟩ : ∃ A, Hid (((List.range r).countP fun n => N.getD n false) = A) := ⟨_, rfl⟩
                        have hA : A ≤ r := by rw [← HA.out]; exact Nat.le_trans List.countP_le_length (by rw [List.length_range]; exact Nat.le_refl _)
                        rw [HA.out]
                        by_cases hlt : r < 255
                        · have hcn := HV.out.nb.cell (i := r) (by rw [HCI.out.ln]; exact hlt)
                          cases hz : N.getD r false with
                          | true =>
                            have HA2 : Hid (((List.range (r + 1)).countP fun n => N.getD n false) = A + 1) := by rw [List.range_succ, List.countP_append, HA.out, List.countP_singleton, hz]; exact hid rfl
                            rw [hz] at hcn
                            go_wp2
                            exact ⟨⟨r + 1, by omega, by go_num, by rw [HA2.out]; go_num, HV⟩, by simp [intOf]; omega⟩
                          | false =>
                            have HA2 : Hid (((List.range (r + 1)).countP fun n => N.getD n false) = A) := by rw [List.range_succ, List.countP_append, HA.out, List.countP_singleton, hz]; exact hid rfl
                            rw [hz] at hcn
                            go_wp2
                            exact ⟨⟨r + 1, by omega, by go_num, by rw [HA2.out], HV⟩, by simp [intOf]; omega⟩
                        · obtain rfl : r = 255 := by omega
                          clear hlt hr
                          go_wp2
                          go_loopw [18, 20] (fun y x wr => ∃ r : Nat, r ≤ 32 ∧ x = .int .i64 (r : Int) ∧ y = .int .i64 ((A + ((List.range r).countP fun s => Mt.getD s false && !S.getD s false) : Nat) : Int) ∧ Hid (CV w S N Mt wr)) (fun _ x _ => 32 - (intOf x).toNat)
                          case atStart => exact ⟨0, Nat.zero_le _, rfl, rfl, HV⟩
                          case round =>
                            clear HV
                            obtain ⟨r, hr, rfl, rfl, HV⟩ := hrel
                            obtain ⟨B, HB⟩ : ∃ B, Hid (((List.range r).countP fun s => Mt.getD s false && !S.getD s false) = B) := ⟨_, rfl⟩
                            have hB : B ≤ r := by rw [← HB.out]; exact Nat.le_trans List.countP_le_length (by rw [List.length_range]; exact Nat.le_refl _)
                            rw [HB.out]
                            by_cases hlt : r < 32
                            · have hcm := HV.out.mt.cell (i := r) (by rw [HCI.out.lm]; exact hlt)
                              have hcs := HV.out.sv.cell (i := r) (by rw [HCI.out.ls]; exact hlt)
                              have HB1 : Hid (((List.range (r + 1)).countP fun s => Mt.getD s false && !S.getD s false) = B + if (Mt.getD r false && !S.getD r false) then 1 else 0) := by rw [List.range_succ, List.countP_append, HB.out, List.countP_singleton]; exact hid rfl
                              cases hz : Mt.getD r false with
                              | true =>
                                cases hz2 : S.getD r false with
                                | true =>
                                  rw [hz, hz2] at HB1
                                  rw [hz] at hcm
                                  rw [hz2] at hcs
                                  go_wp2
                                  exact ⟨⟨r + 1, by omega, by go_num, by rw [HB1.out]; rfl, HV⟩, by simp [intOf]; omega⟩
                                | false =>
                                  rw [hz, hz2] at HB1
                                  rw [hz] at hcm
                                  rw [hz2] at hcs
                                  go_wp2
                                  exact ⟨⟨r + 1, by omega, by go_num, by rw [HB1.out]; go_num, HV⟩, by simp [intOf]; omega⟩
                              | false =>
                                rw [hz] at HB1
                                rw [hz] at hcm
                                go_wp2
                                exact ⟨⟨r + 1, by omega, by go_num, by rw [HB1.out]; rfl, HV⟩, by simp [intOf]; omega⟩
                            · obtain rfl : r = 32 := by omega
                              have hAB : A + B = u := by rw [← HA.out, ← HB.out, HCI.out.count HMM.out HM1.out HC1.out HC2.out, HLm.out]
                              clear hlt hr HA HB
                              go_wp2
                              go_ret
                              exact ⟨rfl, HV.out.bel⟩
end Go.Proofs.YtlhjpflljokinaaDoor.Hz
namespace Go.Proofs.YtlhjpflljokinaaDoor
open Go Go.RowKit Hz
theorem nat_int {ps : List Pr} (h : ps.all mayP = true) : (ps.map natP).map intP = ps := by
  rw [List.map_map]
  conv => rhs; rw [← List.map_id ps]
  refine List.map_congr_left fun p hp => ?_
  have := mayP_iff.1 (List.all_eq_true.1 h p hp)
  obtain ⟨a, b⟩ := p
  simp only [Function.comp, natP, intP, id] at this ⊢
  rw [Prod.mk.injEq]
  omega
theorem below_drewN {N : Nat} {w u : World} (h : Below N w u) (q : Nat) : Below N w (u.drewN q) := ⟨h.os, h.tape, h.output, h.size, h.block⟩
theorem max_len {Q m m' : List (Nat × Nat)} (h : Hy.MaxM Q m) (h' : Hy.MaxM Q m') : m.length = m'.length := Nat.le_antisymm (h'.2 m h.1) (h.2 m' h'.1)
set_option maxRecDepth 100000 in
set_option maxHeartbeats 8000000 in
theorem hmatches_walk (w : World) (v : Value) (ps : List Pr) (hP : HP w v ps) (hl : ps.length ≤ 8796093021952) (hT : TabAt 0 Lib.deBruijn32tab w) :
    Calls Tryd.prog 5 #[v] w fun e w' => e = .returned (.bool true) ∧ Below w.heap.size w w' := by
  have HPw := hid hP
  have HTw := hid hT
  have CL := hid (lives_any w hT)
  obtain ⟨p0, c0, ev, hc1, hc2⟩ := hP.open
  unfold maxLen at hc2
  obtain ⟨n0, HN0⟩ : ∃ n0, Hid (ps.length = n0) := ⟨_, rfl⟩
  rw [HN0.out] at ev hl hc1
  subst ev
  clear hP hT
  go_enter Tryd.func5, Tryd.ntmps5
  go_wp2_with fail
  refine CL.out.mono ?_
  rintro e W1 ⟨rfl, hb1⟩
  have HB1 := hid hb1
  have CM := hid (match_any W1 _ ps (HPw.out.below hb1) (tab_below HTw.out hb1))
  clear hb1 CL
  go_wp2_with fail
  refine CM.out.mono ?_
  rintro e W2 ⟨hma, hb2⟩
  have HB2 : Hid (Below w.heap.size w W2) := hid (HB1.out.trans (hb2.mono HB1.out.size))
  clear hb2 CM
  have CK := hid (look_any W2 _ ps (HPw.out.below HB2.out) (tab_below HTw.out HB2.out))
  cases hm : mayL ps with
  | false =>
    have e1 := hma.2 hm
    subst e1
    have HM := hid hm
    clear hma hm
    go_wp2_with fail
    refine CK.out.mono ?_
    rintro e W3 ⟨hLo, hb3⟩
    have e2 := hLo.2 HM.out
    subst e2
    have HB3 : Hid (Below w.heap.size w W3) := hid (HB2.out.trans (hb3.mono HB2.out.size))
    clear hLo hb3 CK
    obtain ⟨W4, HW4⟩ : ∃ W4, Hid (W3.alloc (.cells #[.int .i64 0, .int .i64 0, .int .i64 0] 32) = W4) := ⟨_, rfl⟩
    have HB4 : Hid (Below w.heap.size w W4) := by rw [← HW4.out]; exact hid (HB3.out.alloc HB3.out.size _)
    have CY := hid (lmay_any W4 _ ps (HPw.out.below HB4.out))
    go_wp2_with fail
    rw [HW4.out]
    refine CY.out.mono ?_
    rintro e W5 ⟨rfl, hb5⟩
    rw [HM.out]
    have HB5 : Hid (Below w.heap.size w W5) := hid (HB4.out.trans (hb5.mono HB4.out.size))
    clear hb5 CY
    go_wp2
    go_ret
    exact ⟨rfl, HB5.out⟩
  | true =>
    obtain ⟨vm, m, rfl, hF, hown⟩ := hma.1 hm
    have HM := hid hm
    have HF := hid hF
    have HALL := hid (mayL_all hm)
    have HB1m : Hid (∀ p ∈ m.map intP, (-9223372036854775808 ≤ p.1 ∧ p.1 < 9223372036854775808) ∧ (-9223372036854775808 ≤ p.2 ∧ p.2 < 9223372036854775808)) := hid (fun p hp => by
      obtain ⟨q, hq, rfl⟩ := List.mem_map.1 hp
      have h1 := (mayL_lt HALL.out).1 q (hF.1.1.1 q hq)
      have h2 := (mayL_lt HALL.out).2 q (hF.1.1.1 q hq)
      simp only [intP]
      omega)
    have HPm2 : Hid (HQ W2 vm m) := hid (HP.of_own hown HB1m.out)
    clear hma hm hF hown
    obtain ⟨pm, cm, rfl, hc3, hc4⟩ := HP.open (ps := m.map intP) HPm2.out
    unfold maxLen at hc4
    rw [List.length_map] at hc3 HPm2 ⊢
    obtain ⟨n1, HN1⟩ : ∃ n1, Hid (m.length = n1) := ⟨_, rfl⟩
    rw [HN1.out] at hc3 HPm2 ⊢
    go_wp2_with fail
    refine CK.out.mono ?_
    rintro e W3 ⟨hLo, hb3⟩
    obtain ⟨m', hm', rfl⟩ := hLo.1 HM.out
    rw [show m'.length = n1 by rw [← HN1.out]; exact max_len hm' HF.out.1]
    have HB3 : Hid (Below w.heap.size w W3) := hid (HB2.out.trans (hb3.mono HB2.out.size))
    have HB23 := hid hb3
    clear hLo hb3 CK hm' m'
    generalize Hy.places Prod.fst 32 (ps.map natP) = a1
    generalize Hy.places Prod.snd 255 (ps.map natP) = a2
    obtain ⟨W4, HW4⟩ : ∃ W4, Hid (W3.alloc (.cells #[.int .i64 (a1 : Int), .int .i64 (a2 : Int), .int .i64 (n1 : Int)] 32) = W4) := ⟨_, rfl⟩
    have HB4 : Hid (Below w.heap.size w W4) := by rw [← HW4.out]; exact hid (HB3.out.alloc HB3.out.size _)
    have HB24 : Hid (Below W2.heap.size W2 W4) := by rw [← HW4.out]; exact hid (HB23.out.alloc HB23.out.size _)
    have HD4 : Hid (W4.heap[W3.heap.size]? = some (.cells #[.int .i64 (a1 : Int), .int .i64 (a2 : Int), .int .i64 (n1 : Int)] 32 (0, 0))) := by rw [← HW4.out]; exact heap_alloc_new W3 _
    obtain ⟨ga, HGA⟩ : ∃ ga, Hid (W3.heap.size = ga) := ⟨_, rfl⟩
    rw [HGA.out] at HD4
    have CY := hid (lmay_any W4 _ ps (HPw.out.below HB4.out))
    go_wp2_with fail
    rw [HW4.out, HGA.out]
    refine CY.out.mono ?_
    rintro e W5 ⟨rfl, hb5⟩
    rw [HM.out]
    have HB5 : Hid (Below w.heap.size w W5) := hid (HB4.out.trans (hb5.mono HB4.out.size))
    have HB25 : Hid (Below W2.heap.size W2 W5) := hid (HB24.out.trans (hb5.mono HB24.out.size))
    have hq2 : W5.cell? ⟨ga, 2, none⟩ = some (.int .i64 (n1 : Int)) := (cell_of_row _ _ _ _ _ _ ((hb5.block _ (Array.getElem?_eq_some_iff.1 HD4.out).1).trans HD4.out)).trans rfl
    clear hb5 CY HD4 HW4 HGA HB24 HB23
    obtain ⟨Q, HQ⟩ : ∃ Q, Hid (ps.map natP = Q) := ⟨_, rfl⟩
    have HN2 : Hid (Q.length = n0) := by rw [← HQ.out, List.length_map]; exact HN0
    have HPQ : Hid (Hz.HQ W5 (.slice p0 n0 c0) Q) := by
      unfold Hz.HQ
      rw [← HQ.out, nat_int HALL.out]
      exact hid (HPw.out.below HB5.out)
    have HPM : Hid (Hz.HQ W5 (.slice pm n1 cm) m) := hid (HP.below HPm2.out HB25.out)
    have HQ1 : Hid (∀ p ∈ Q, p.1 < 32 ∧ p.2 < 255) := hid (fun p hp => by rw [← HQ.out] at hp; exact ⟨(mayL_lt HALL.out).1 p hp, (mayL_lt HALL.out).2 p hp⟩)
    rw [HQ.out] at HF
    clear HQ HPm2 HALL HPw HM HB1m HN0
    go_wp2
    go_loopw [7] (fun x wr => ∃ i : Nat, i ≤ n1 ∧ x = .int .i64 (i : Int) ∧ Hid (Below W5.heap.size W5 wr)) (fun x _ => n1 - (intOf x).toNat)
    case atStart => exact ⟨0, Nat.zero_le _, rfl, hid (Below.refl _ _)⟩
    case round =>
      clear hq2
      obtain ⟨i, hi, rfl, HB⟩ := hrel
      by_cases hlt : i < n1
      · have hi' : i < m.length := by rw [HN1.out]; exact hlt
        go_wp2
        go_loopw [8, 9] (fun y x wr => ∃ (k : Nat) (c : Bool), k ≤ n0 ∧ x = .int .i64 (k : Int) ∧ y = .bool c ∧ Hid (m[i] ∈ Q.take k → c = true) ∧ Hid (Below W5.heap.size W5 wr)) (fun _ x _ => n0 - (intOf x).toNat)
        case atStart => exact ⟨0, false, Nat.zero_le _, rfl, rfl, hid (fun z => absurd z (by simp)), HB⟩
        case round =>
          clear HB
          obtain ⟨k, c, hk, rfl, rfl, HI, HB⟩ := hrel
          by_cases hltk : k < n0
          · have hk' : k < Q.length := by rw [HN2.out]; exact hltk
            obtain ⟨b, off, ep, hq1, hq2⟩ := HPQ.out.at HB.out hk'
            obtain ⟨b', off', ep', hr1, hr2⟩ := HPM.out.at HB.out hi'
            by_cases he : Q[k] = m[i]
            · have HI2 : Hid (m[i] ∈ Q.take (k + 1) → true = true) := hid (fun _ => rfl)
              rw [he] at hq1 hq2
              generalize ((m[i].1 : Nat) : Int) = x at hq1 hr1
              generalize ((m[i].2 : Nat) : Int) = y at hq2 hr2
              clear he hk' HI
              subst ep
              subst ep'
              go_wp2_with fail
              go_quiet (fail)
              go_wp2
              exact ⟨⟨k + 1, true, by omega, by go_num, rfl, hid (fun _ => rfl), hid (below_drewN HB.out _)⟩, by simp [intOf]; omega⟩
            · have HI2 : Hid (m[i] ∈ Q.take (k + 1) → c = true) := hid (fun z => by
                rw [take_next2 hk'] at z
                rcases List.mem_append.1 z with z | z
                · exact HI.out z
                · exact absurd (List.mem_singleton.1 z).symm he)
              have hne : ¬ (((Q[k].1 : Nat) : Int) = ((m[i].1 : Nat) : Int) ∧ ((Q[k].2 : Nat) : Int) = ((m[i].2 : Nat) : Int)) := fun z => he (Prod.ext (Int.ofNat_inj.1 z.1) (Int.ofNat_inj.1 z.2))
              generalize ((m[i].1 : Nat) : Int) = x at hne hr1
              generalize ((m[i].2 : Nat) : Int) = y at hne hr2
              generalize ((Q[k].1 : Nat) : Int) = x1 at hne hq1
              generalize ((Q[k].2 : Nat) : Int) = y1 at hne hq2
              clear he hk' HI
              subst ep
              subst ep'
              by_cases hx : x1 = x
              · subst hx
                have hy : ¬ y1 = y := fun z => hne ⟨rfl, z⟩
                clear hne
                go_wp2_with fail
                go_quiet (fail)
                go_wp2
                exact ⟨⟨k + 1, c, by omega, by go_num, rfl, HI2, hid (below_drewN HB.out _)⟩, by simp [intOf]; omega⟩
              · clear hne
                go_wp2_with fail
                go_quiet (fail)
                go_wp2
                exact ⟨⟨k + 1, c, by omega, by go_num, rfl, HI2, hid (below_drewN HB.out _)⟩, by simp [intOf]; omega⟩
          · obtain rfl : k = n0 := by omega
            have ec : c = true := HI.out (by rw [List.take_of_length_le (by rw [HN2.out]; exact Nat.le_refl _)]; exact HF.out.1.1.1 _ (List.getElem_mem hi'))
            subst ec
            clear HI hltk
            have HNEXT : Hid (∀ k : Nat, k < i → ∀ (hk' : k < m.length), m[k].2 ≠ m[i].2) := hid (fun k hk hk' => ((List.pairwise_iff_getElem.1 HF.out.1.1.2) k i hk' hi' hk).2)
            have REST : Hid (True) := hid trivial
            by_cases h0 : i = 0
            · subst h0
              clear HNEXT
              go_wp2_with fail
              go_quiet (fail)
              go_wp2
              go_loopw [10] (fun x wr => x = .int .i64 0 ∧ Hid (Below W5.heap.size W5 wr)) (fun _ _ => 0)
              case atStart => exact ⟨rfl, hid (below_drewN HB.out _)⟩
              case round =>
                clear HB
                obtain ⟨rfl, HB⟩ := hrel
                go_wp2
                exact ⟨⟨1, by omega, rfl, HB⟩, by simp [intOf]; omega⟩
            · obtain ⟨i', rfl⟩ : ∃ i', i = i' + 1 := ⟨i - 1, by omega⟩
              have hi2 : i' < m.length := by omega
              obtain ⟨b', off', ep', hr1, hr2⟩ := HPM.out.at HB.out hi'
              obtain ⟨b2, off2, ep2, hs1, -⟩ := HPM.out.at HB.out hi2
              rw [ep'] at ep2
              simp only [Option.some.injEq, Addr.mk.injEq, and_true] at ep2
              obtain ⟨rfl, rfl⟩ := ep2
              subst ep'
              have hle : ¬ ((m[i' + 1].1 : Nat) : Int) ≤ ((m[i'].1 : Nat) : Int) := by
                have := (List.pairwise_iff_getElem.1 HF.out.2.1) i' (i' + 1) hi2 hi' (by omega)
                omega
              generalize ((m[i' + 1].1 : Nat) : Int) = x at hr1 hle
              generalize ((m[i'].1 : Nat) : Int) = x1 at hs1 hle
              go_wp2_with fail
              go_quiet (fail)
              go_wp2
              clear hr1 hr2 hs1 hle
              go_loopw [10] (fun x wr => ∃ u : Nat, u ≤ i' + 1 ∧ x = .int .i64 (u : Int) ∧ Hid (Below W5.heap.size W5 wr)) (fun x _ => i' + 1 - (intOf x).toNat)
              case atStart => exact ⟨0, Nat.zero_le _, rfl, hid (below_drewN HB.out _)⟩
              case round =>
                clear HB
                obtain ⟨u, hu, rfl, HB⟩ := hrel
                by_cases hlu : u < i' + 1
                · have hu' : u < m.length := by omega
                  obtain ⟨b3, off3, ep3, -, hr2⟩ := HPM.out.at HB.out hi'
                  obtain ⟨b2, off2, ep2, -, hs2⟩ := HPM.out.at HB.out hu'
                  simp only [Option.some.injEq, Addr.mk.injEq, and_true] at ep2 ep3
                  obtain ⟨rfl, rfl⟩ := ep2
                  obtain ⟨rfl, rfl⟩ := ep3
                  have hne : ¬ ((m[u].2 : Nat) : Int) = ((m[i' + 1].2 : Nat) : Int) := fun z => HNEXT.out u hlu hu' (Int.ofNat_inj.1 z)
                  generalize ((m[i' + 1].2 : Nat) : Int) = y at hr2 hne
                  generalize ((m[u].2 : Nat) : Int) = y1 at hs2 hne
                  go_wp2_with fail
                  go_quiet (fail)
                  go_wp2
                  exact ⟨⟨u + 1, by omega, by go_num, hid (below_drewN HB.out _)⟩, by simp [intOf]; omega⟩
                · obtain rfl : u = i' + 1 := by omega
                  go_wp2
                  exact ⟨⟨i' + 1 + 1, by omega, by go_num, HB⟩, by simp [intOf]; omega⟩
      · obtain rfl : i = n1 := by omega
        have CC := hid (covered_any wr _ _ Q m (HP.below HPQ.out HB.out) (HP.below HPM.out HB.out) HQ1.out HF.out.1)
        have HBw : Hid (Below w.heap.size w wr) := hid (HB5.out.trans (HB.out.mono HB5.out.size))
        go_wp2_with fail
        refine CC.out.mono ?_
        rintro e W6 ⟨rfl, hb6⟩
        have HB6 : Hid (Below w.heap.size w W6) := hid (HBw.out.trans (hb6.mono HBw.out.size))
        clear hb6 CC
        go_wp2
        go_ret
        exact ⟨rfl, HB6.out⟩
end Go.Proofs.YtlhjpflljokinaaDoor
namespace Go.Proofs.YtlhjpflljokinaaDoor
open Go Go.RowKit Go.ChangeShapes Go.WideShapes Go.ChangeAt
def happyLaid : List (String × DataW Unit) := [("math/bits.deBruijn32tab", Rows.laid_math_bits_deBruijn32tab)]
theorem gT32 : Tryd.prog.globalNamed "math/bits.deBruijn32tab" = some 0 := by kernel_rfl
theorem tT32 : (Tryd.prog.globals[0]?).map (·.type) = some 101 := by kernel_rfl
theorem kt_of_laid {W : World} (h : laidMetH Tryd.prog happyLaid W) : TabAt 0 Lib.deBruijn32tab W := by
  rw [MakeChecks.laidMetH_plain _ _ _ (by kernel_rfl)] at h
  have h3 : laidMet Tryd.prog (("math/bits.deBruijn32tab", Lib.tabData .u8 (Lib.deBruijn32tab.map fun k : Nat => (k : Int))) :: []) W := h
  have h4 := Lib.tabIs_of_head gT32 tT32 Tryd.underlying101 Tryd.underlying5 (by kernel_rfl) (by kernel_rfl) h3
  intro j hj
  have h5 := h4.cell gT32 j (by rw [List.length_map]; exact hj)
  rw [h5]
  congr 2
  simp [List.getD, List.getElem?_eq_getElem hj]
end Go.Proofs.YtlhjpflljokinaaDoor
