/- Of the road to shaStreamsUptoCard_holds: ShaPiecesLaw, StA, ShaLaid, ShaUpto, OpensSa, ShaClone, ShaReset, KitCopy, AppB, SameBytes, Marks, Owns, Lists, MarksMore. -/
import Derived.Test.YtinahldjpobigaaDoorG05
import Derived.Test.YtinahldjpobigaaDoorRows
import Derived.Test.YtinahldjpobigaaDoorG00
import Derived.ProofKit
import Derived.OpenShut
import Derived.LaidLaws
import Derived.Lay
import Derived.MakeChecks
import Derived.Stop.Joined
import Derived.SevenTiedAt
import Derived.Deep.Grids
import Derived.Deep.Slices
import Derived.ChangeArms
import Derived.Test.YtinahldjpobigaaDoorG01
import Derived.Laws.AppendOwn
import Derived.Test.YtinahldjpobigaaDoorChecked
import Derived.Laws.AppendOwnNone
set_option linter.unusedVariables false
set_option linter.unusedSimpArgs false
namespace Go.Proofs.YtinahldjpobigaaDoor
open Go.RowKit
def HO (w : World) (v : Value) (ls : List Bool) : Prop :=
  ∃ (p : Option Addr) (c : Nat), v = .slice p ls.length c ∧ ls.length ≤ c ∧ c ≤ maxLen ∧ (0 < ls.length → ∃ b off, p = some ⟨b, off, none⟩ ∧ ∀ j, j < ls.length → w.cell? ⟨b, off + j, none⟩ = some (.bool (ls.getD j false)))
theorem HM.block {A C : World} {g : Nat} {m : List Int} (h : HM A g m) (hb : C.heap[g]? = A.heap[g]?) : HM C g m := by
  obtain ⟨rest, h1, h2⟩ := h
  exact ⟨rest, h1.block hb, h2⟩
theorem own_later {A C : World} {B e n : Nat} {v : Value} {xs : List Value} (h : A.ownsRow B e 1 v n xs) (hb : Below A.heap.size A C) : C.ownsRow B e 1 v n xs := by
  cases hx : v.ownBlock with
  | none => exact h.kept (row := some 0) (grown_below hb) (.inl hx)
  | some y => exact h.kept (row := some (y + 1)) (grown_below hb) (.inr (by rw [hx]; simp))
theorem sum_dig (w : World) (g : Nat) (m : List Int) (h : HM w g m) (hk : KC w) (hlen : m.length ≤ 576460752303423488) :
    Calls Tryd.prog 21 #[.pointer (some ⟨g, 0, none⟩)] w fun e w' => e = .returned (.agg (cellsB (digL m))) ∧ Below w.heap.size w w' := sum_any w g m h hk hlen
theorem sums_one (w : World) (v : Value) (m : List Int) (h : HB w v m) (hk : KC w) (hlen : m.length ≤ 576460752303423488) :
    Calls Tryd.prog 27 #[.slice (some ⟨w.heap.size, 0, none⟩) 1 1] (w.alloc (.cells #[v] 32)) fun e w' => e = .returned (.agg (cellsB (digL m))) ∧ Below w.heap.size w w' := by
  have hB : Below w.heap.size w (w.alloc (.cells #[v] 32)) := (Below.refl _ w).alloc (Nat.le_refl _) _
  have hL : HL (w.alloc (.cells #[v] 32)) (.slice (some ⟨w.heap.size, 0, none⟩) 1 1) [m] := by
    refine ⟨_, 1, rfl, Nat.le_refl _, by decide, (fun e => by cases e), fun _ => ⟨w.heap.size, 0, rfl, fun j hj => ?_⟩⟩
    have hrow : (w.alloc (.cells #[v] 32)).heap[w.heap.size]? = some (.cells #[v] 32 (0, 0)) := heap_alloc_new w _
    match j, hj with
    | 0, _ => exact ⟨_, by rw [cell_of_row _ w.heap.size 0 _ _ _ hrow]; rfl, h.below hB⟩
  have := sums_any _ _ [m] hL (hk.below hB) (by simpa using hlen)
  refine this.mono ?_
  rintro e w' ⟨rfl, hb⟩
  exact ⟨by simp, hB.trans (hb.mono hB.size)⟩
set_option maxHeartbeats 1000000 in
theorem size_any (w : World) (g : Nat) (m : List Int) (h : HM w g m) :
    Calls Tryd.prog 23 #[.pointer (some ⟨g, 0, none⟩)] w fun e w' => e = .returned (.int .i64 (m.length : Int)) ∧ Below w.heap.size w w' := by
  have CM := hid (made_yes w g m h)
  have H := hid h
  obtain ⟨n, HN⟩ : ∃ n, Hid (m.length = n) := ⟨_, rfl⟩
  rw [HN.out]
  clear h
  go_enter Tryd.func23, Tryd.ntmps23
  go_wp2_with fail
  refine CM.out.mono ?_
  rintro e w1 ⟨rfl, hB1⟩
  have HB1 := hid hB1
  obtain ⟨rest, hs, _⟩ := H.out.below hB1
  have c80 := hs.sz
  rw [HN.out] at c80
  clear hs hB1
  go_wp2
  go_ret
  exact ⟨rfl, HB1.out⟩
end Go.Proofs.YtinahldjpobigaaDoor
namespace Go.Proofs.YtinahldjpobigaaDoor
open Go Go.RowKit
def upd {α : Type} (f : Nat → α) (p : Nat) (x : α) : Nat → α := fun i => if i = p then x else f i
theorem upd_same {α : Type} (f : Nat → α) (p : Nat) (x : α) : upd f p x p = x := if_pos rfl
theorem upd_other {α : Type} (f : Nat → α) {p i : Nat} (x : α) (h : i ≠ p) : upd f p x i = f i := if_neg h
structure SS (B bh bm : Nat) (G : Nat → Nat) (V : Nat → Value) (M N : Nat → List Int) (w : World) : Prop where
  hc : ∀ i, i < 3 → w.cell? ⟨bh, i, none⟩ = some (.pointer (some ⟨G i, 0, none⟩)) ∧ w.frozen? ⟨bh, i, none⟩ = false
  mc : ∀ i, i < 3 → w.cell? ⟨bm, i, none⟩ = some (V i) ∧ w.frozen? ⟨bm, i, none⟩ = false
  ne : B ≤ bh ∧ B ≤ bm ∧ bh ≠ bm
  g : ∀ i, i < 3 → HM w (G i) (M i) ∧ B ≤ G i ∧ G i ≠ bh ∧ G i ≠ bm
  dg : ∀ i j, i < 3 → j < 3 → i ≠ j → G i ≠ G j
  v : ∀ i, i < 3 → w.ownsRow B 5 1 (V i) (N i).length ((N i).map (Value.int .u8)) ∧ ∀ x ∈ N i, 0 ≤ x ∧ x < 256
  vg : ∀ i, i < 3 → ∀ k, (V i).ownBlock = some k → k ≠ bh ∧ k ≠ bm ∧ ∀ j, j < 3 → k ≠ G j
  dv : ∀ i j, i < 3 → j < 3 → i ≠ j → (V i).ownBlock = none ∨ (V i).ownBlock ≠ (V j).ownBlock
section
variable {B bh bm : Nat} {G : Nat → Nat} {V : Nat → Value} {M N : Nat → List Int} {w w1 : World}
theorem SS.bh_lt (h : SS B bh bm G V M N w) : bh < w.heap.size := World.block_lt_of_cell? w _ (h.hc 0 (by decide)).1
theorem SS.bm_lt (h : SS B bh bm G V M N w) : bm < w.heap.size := World.block_lt_of_cell? w _ (h.mc 0 (by decide)).1
theorem SS.g_lt (h : SS B bh bm G V M N w) {i : Nat} (hi : i < 3) : G i < w.heap.size := (h.g i hi).1.lt
theorem SS.v_lt (h : SS B bh bm G V M N w) {i k : Nat} (hi : i < 3) (e : (V i).ownBlock = some k) : k < w.heap.size := ((h.v i hi).1.lt k e).2
theorem cell_blk {w w1 : World} {b o : Nat} {u : Value} (h : w.cell? ⟨b, o, none⟩ = some u ∧ w.frozen? ⟨b, o, none⟩ = false) (hb : w1.heap[b]? = w.heap[b]?) : w1.cell? ⟨b, o, none⟩ = some u ∧ w1.frozen? ⟨b, o, none⟩ = false :=
  ⟨(World.cell?_of_block (w := w) (a := ⟨b, o, none⟩) hb).trans h.1, (World.frozen?_of_block (w := w) (a := ⟨b, o, none⟩) hb).trans h.2⟩
theorem own_blk {w w1 : World} {B n : Nat} {e : TypeId} {v : Value} {xs : List Value} (h : w.ownsRow B e 1 v n xs) (hb : ∀ k, v.ownBlock = some k → w1.heap[k]? = w.heap[k]?) : w1.ownsRow B e 1 v n xs := by
  refine ⟨h.1, ?_⟩
  rcases h.2 with hn | ⟨g, cap, cur, rfl, h1, h2, rest⟩
  · exact .inl hn
  · exact .inr ⟨g, cap, cur, rfl, h1, (hb g rfl).trans h2, rest⟩
theorem SS.below (h : SS B bh bm G V M N w) (hb : Below w.heap.size w w1) : SS B bh bm G V M N w1 :=
  ⟨fun i hi => cell_blk (h.hc i hi) (hb.block _ h.bh_lt), fun i hi => cell_blk (h.mc i hi) (hb.block _ h.bm_lt), h.ne, fun i hi => ⟨(h.g i hi).1.below hb, (h.g i hi).2⟩, h.dg,
    fun i hi => ⟨own_blk (h.v i hi).1 fun k e => hb.block _ (h.v_lt hi e), (h.v i hi).2⟩, h.vg, h.dv⟩
theorem SS.setM (h : SS B bh bm G V M N w) {p : Nat} (hp : p < 3) (hg : w.grownBy w1 (some (G p))) {m : List Int} (hm : HM w1 (G p) m) : SS B bh bm G V (upd M p m) N w1 := by
  have nb : ∀ b, b < w.heap.size → b ≠ G p → w1.heap[b]? = w.heap[b]? := fun b hb hn => hg.block b hb fun e => hn (Option.some.inj e)
  refine ⟨fun i hi => cell_blk (h.hc i hi) (nb _ h.bh_lt (h.g p hp).2.2.1.symm), fun i hi => cell_blk (h.mc i hi) (nb _ h.bm_lt (h.g p hp).2.2.2.symm), h.ne, fun i hi => ⟨?_, (h.g i hi).2⟩, h.dg,
    fun i hi => ⟨own_blk (h.v i hi).1 fun k e => nb _ (h.v_lt hi e) ((h.vg i hi k e).2.2 p hp), (h.v i hi).2⟩, h.vg, h.dv⟩
  by_cases e : i = p
  · subst e; rw [upd_same]; exact hm
  · rw [upd_other _ _ e]; exact (h.g i hi).1.block (nb _ (h.g_lt hi) (h.dg i p hi hp e))
theorem SS.setG (h : SS B bh bm G V M N w) (hb : Below w.heap.size w w1) {p g : Nat} (hp : p < 3) (hg : w.heap.size ≤ g) {m : List Int} (hm : HM w1 g m) : SS B bh bm (upd G p g) V (upd M p m) N (w1.setCell ⟨bh, p, none⟩ (.pointer (some ⟨g, 0, none⟩))) := by
  have h1 := h.below hb
  have nb : ∀ b, b ≠ bh → (w1.setCell ⟨bh, p, none⟩ (.pointer (some ⟨g, 0, none⟩))).heap[b]? = w1.heap[b]? := fun b hn => heap_setCell_other _ _ _ _ (by simpa using hn)
  have gne : ∀ i, i < 3 → g ≠ G i := fun i hi e => by have := h.g_lt hi; omega
  refine ⟨fun i hi => ?_, fun i hi => cell_blk (h1.mc i hi) (nb _ h.ne.2.2.symm), h.ne, fun i hi => ?_, fun i j hi hj hij => ?_, fun i hi => ⟨own_blk (h1.v i hi).1 fun k e => nb _ (h1.vg i hi k e).1, (h1.v i hi).2⟩, fun i hi k e => ?_, h.dv⟩
  · by_cases e : i = p
    · subst e
      rw [upd_same]
      exact ⟨World.cell?_setCell_same w1 _ _ (h1.hc i hi).1, by rw [World.frozen?_setCell]; exact (h1.hc i hi).2⟩
    · rw [upd_other _ _ e]
      exact ⟨(World.cell?_setCell_other w1 _ _ _ (fun q => e (by cases q; rfl))).trans (h1.hc i hi).1, by rw [World.frozen?_setCell]; exact (h1.hc i hi).2⟩
  · have := h.bh_lt
    have := h.bm_lt
    by_cases e : i = p
    · subst e
      rw [upd_same, upd_same]
      exact ⟨hm.block (nb _ (by omega)), by have := h.ne.1; omega, by omega, by omega⟩
    · rw [upd_other _ _ e, upd_other _ _ e]
      exact ⟨(h1.g i hi).1.block (nb _ (h1.g i hi).2.2.1), (h1.g i hi).2⟩
  · by_cases e : i = p
    · subst e
      rw [upd_same, upd_other _ _ (Ne.symm hij)]
      exact gne j hj
    · by_cases e2 : j = p
      · subst e2
        rw [upd_same, upd_other _ _ e]
        exact (gne i hi).symm
      · rw [upd_other _ _ e, upd_other _ _ e2]
        exact h.dg i j hi hj hij
  · obtain ⟨q1, q2, q3⟩ := h.vg i hi k e
    refine ⟨q1, q2, fun j hj => ?_⟩
    by_cases e2 : j = p
    · subst e2
      rw [upd_same]
      have := h.v_lt hi e
      omega
    · rw [upd_other _ _ e2]
      exact q3 j hj
theorem SS.setV (h : SS B bh bm G V M N w) {p : Nat} (hp : p < 3) (hg : w.grownBy w1 (V p).ownBlock) {v : Value} {l : List Int} (hv : w1.ownsRow B 5 1 v l.length (l.map (Value.int .u8))) (hl : ∀ x ∈ l, 0 ≤ x ∧ x < 256)
    (hw : ∀ k, v.ownBlock = some k → (V p).ownBlock = some k ∨ w.heap.size ≤ k) : SS B bh bm G (upd V p v) M (upd N p l) (w1.setCell ⟨bm, p, none⟩ v) := by
  have nb1 : ∀ b, b < w.heap.size → (V p).ownBlock ≠ some b → w1.heap[b]? = w.heap[b]? := fun b hb hn => hg.block b hb fun e => hn e.symm
  have nb : ∀ b, b ≠ bm → (w1.setCell ⟨bm, p, none⟩ v).heap[b]? = w1.heap[b]? := fun b hn => heap_setCell_other _ _ _ _ (by simpa using hn)
  have c1 : ∀ i, i < 3 → w1.cell? ⟨bm, i, none⟩ = some (V i) ∧ w1.frozen? ⟨bm, i, none⟩ = false := fun i hi => cell_blk (h.mc i hi) (nb1 _ h.bm_lt fun e => (h.vg p hp _ e).2.1 rfl)
  have L1 := h.bh_lt
  have L2 := h.bm_lt
  have vne : ∀ k, v.ownBlock = some k → k ≠ bh ∧ k ≠ bm ∧ ∀ j, j < 3 → k ≠ G j := fun k e => by
    rcases hw k e with q | q
    · exact h.vg p hp k q
    · exact ⟨by omega, by omega, fun j hj => by have := h.g_lt hj; omega⟩
  have vd : ∀ i, i < 3 → i ≠ p → v.ownBlock = none ∨ v.ownBlock ≠ (V i).ownBlock := fun i hi hip => by
    cases hq : v.ownBlock with
    | none => exact .inl rfl
    | some k =>
      refine .inr fun e => ?_
      rcases hw k hq with q | q
      · rcases h.dv i p hi hp hip with r | r
        · rw [r] at e; cases e
        · exact r (e.symm.trans q.symm)
      · have := h.v_lt hi e.symm
        omega
  refine ⟨fun i hi => cell_blk (cell_blk (h.hc i hi) (nb1 _ L1 fun e => (h.vg p hp _ e).1 rfl)) (nb _ h.ne.2.2), fun i hi => ?_, h.ne, fun i hi => ⟨((h.g i hi).1.block (nb1 _ (h.g_lt hi) fun e => (h.vg p hp _ e).2.2 i hi rfl)).block (nb _ (h.g i hi).2.2.2), (h.g i hi).2⟩, h.dg, fun i hi => ?_, fun i hi k e => ?_, fun i j hi hj hij => ?_⟩
  · by_cases e : i = p
    · subst e
      rw [upd_same]
      exact ⟨World.cell?_setCell_same w1 _ _ (c1 i hi).1, by rw [World.frozen?_setCell]; exact (c1 i hi).2⟩
    · rw [upd_other _ _ e]
      exact ⟨(World.cell?_setCell_other w1 _ _ _ (fun q => e (by cases q; rfl))).trans (c1 i hi).1, by rw [World.frozen?_setCell]; exact (c1 i hi).2⟩
  · by_cases e : i = p
    · subst e
      rw [upd_same, upd_same]
      exact ⟨own_blk hv fun k e => nb _ (vne k e).2.1, hl⟩
    · rw [upd_other _ _ e, upd_other _ _ e]
      refine ⟨own_blk (own_blk (h.v i hi).1 fun k q => nb1 _ (h.v_lt hi q) fun r => ?_) fun k q => nb _ (h.vg i hi k q).2.1, (h.v i hi).2⟩
      rcases h.dv i p hi hp e with s | s
      · rw [s] at q; cases q
      · exact s (q.trans r.symm)
  · by_cases e2 : i = p
    · subst e2
      rw [upd_same] at e
      exact vne k e
    · rw [upd_other _ _ e2] at e
      exact h.vg i hi k e
  · by_cases e : i = p
    · subst e
      rw [upd_same, upd_other _ _ (Ne.symm hij)]
      exact vd j hj (Ne.symm hij)
    · by_cases e2 : j = p
      · subst e2
        rw [upd_same, upd_other _ _ e]
        rcases vd i hi e with r | r
        · cases hq : (V i).ownBlock with
          | none => exact .inl rfl
          | some k => rw [r]; exact .inr (by simp)
        · exact .inr (Ne.symm r)
      · rw [upd_other _ _ e, upd_other _ _ e2]
        exact h.dv i j hi hj hij
theorem SS.away (h : SS B bh bm G V M N w) {row : Option Nat} (hg : w.grownBy w1 row) (hr : ∀ k, row = some k → k ≠ bh ∧ k ≠ bm ∧ (∀ i, i < 3 → k ≠ G i) ∧ ∀ i, i < 3 → (V i).ownBlock ≠ some k) : SS B bh bm G V M N w1 := by
  have nb : ∀ b, b < w.heap.size → (∀ k, row = some k → b ≠ k) → w1.heap[b]? = w.heap[b]? := fun b hb hn => hg.block b hb fun e => hn b e.symm rfl
  exact ⟨fun i hi => cell_blk (h.hc i hi) (nb _ h.bh_lt fun k e => (hr k e).1.symm), fun i hi => cell_blk (h.mc i hi) (nb _ h.bm_lt fun k e => (hr k e).2.1.symm), h.ne, fun i hi => ⟨(h.g i hi).1.block (nb _ (h.g_lt hi) fun k e => ((hr k e).2.2.1 i hi).symm), (h.g i hi).2⟩, h.dg,
    fun i hi => ⟨own_blk (h.v i hi).1 fun k e => nb _ (h.v_lt hi e) fun k2 e2 e3 => (hr k2 e2).2.2.2 i hi (e3 ▸ e), (h.v i hi).2⟩, h.vg, h.dv⟩
theorem upd_len {M : Nat → List Int} {p k : Nat} {l : List Int} (h : ∀ i, i < 3 → (M i).length ≤ k * 1048576) (hl : l.length ≤ (k + 1) * 1048576) : ∀ i, i < 3 → (upd M p l i).length ≤ (k + 1) * 1048576 := fun i hi => by
  by_cases e : i = p
  · rw [e, upd_same]; exact hl
  · rw [upd_other _ _ e]; exact Nat.le_trans (h i hi) (Nat.mul_le_mul_right _ (Nat.le_succ k))
theorem more_len {M : Nat → List Int} {k : Nat} (h : ∀ i, i < 3 → (M i).length ≤ k * 1048576) : ∀ i, i < 3 → (M i).length ≤ (k + 1) * 1048576 := fun i hi => Nat.le_trans (h i hi) (Nat.mul_le_mul_right _ (Nat.le_succ k))
end
theorem own_sliceS {w : World} {B n : Nat} {e : TypeId} {v : Value} {xs : List Value} (h : w.ownsRow B e 1 v n xs) : ∃ p c, v = .slice p n c := by
  rcases h.2 with ⟨rfl, rfl⟩ | ⟨g, cap, cur, rfl, _⟩
  · exact ⟨_, _, rfl⟩
  · exact ⟨_, _, rfl⟩
theorem drew_grownS (w : World) : w.grownBy w.drew none := by
  have b := (Dr.one w 1).below w.heap.size
  exact ⟨b.os, b.tape, b.output, b.size, fun k hk _ => b.block k hk⟩
theorem grown_trS {w w1 w2 : World} {r : Option Nat} (h1 : w.grownBy w1 none) (h2 : w1.grownBy w2 r) : w.grownBy w2 r :=
  ⟨h2.os.trans h1.os, h2.tape.trans h1.tape, h2.output.trans h1.output, Nat.le_trans h1.size h2.size, fun k hk hn => (h2.block k (Nat.lt_of_lt_of_le hk h1.size) hn).trans (h1.block k hk (by simp))⟩
theorem World.grownBy_refl (w : World) (r : Option Nat) : w.grownBy w r := ⟨rfl, rfl, rfl, Nat.le_refl _, fun _ _ _ => rfl⟩
theorem below_thenS {A B C : World} (h1 : Below A.heap.size A B) (h2 : Below B.heap.size B C) : Below A.heap.size A C := h1.trans (h2.mono h1.size)
theorem own_mono4S {w : World} {B B' n : Nat} {e : TypeId} {v : Value} {xs : List Value} (h : w.ownsRow B e 1 v n xs) (hb : B' ≤ B) : w.ownsRow B' e 1 v n xs := by
  obtain ⟨h1, h2⟩ := h
  rcases h2 with h2 | ⟨g, cap, cur, rfl, hg, rest⟩
  · exact ⟨h1, .inl h2⟩
  · exact ⟨h1, .inr ⟨g, cap, cur, rfl, by omega, rest⟩⟩
theorem elmS2 : Tryd.prog.elem 32 = 5 := by kernel_rfl
theorem slice_hS (W : World) (g n c m : Nat) (hm : m ≤ c) : (Instr.slice 32 (.slice (some ⟨g, 0, none⟩) n c) none (some (.int .i64 (m : Int))) none).run Tryd.prog W = .ok (.slice (some ⟨g, 0, none⟩) m c) W := by
  have h := run_slice_h (P := Tryd.prog) W 32 (some ⟨g, 0, none⟩) n c (by rw [elmS2]; exact Tryd.underlying32) .i64 (m : Int) (by omega) (by omega)
  rw [h, elmS2, size_u8, Result.andThen_ok, Int.toNat_natCast]
  simp [sliced, Addr.add]
theorem yieldsIf_slS {P : Program} {ops : Array Oper} {S : World → Prop} {op : Oper} {a : Act} (hw : Region.wanted op (yielded ops a.tmps) = true) (t : TypeId) (x : Operand) (lo hi : Option Operand) (ht : P.underlying t = some (.slice (P.elem t))) (ho : op.op = .slice t x lo hi none) (vx : Value) (vl vh : Option Value) (hx : a.eval x = vx) (hl : lo.map a.eval = vl) (hh : hi.map a.eval = vh) (v : Value)
    (hr : ∀ w, S w → (Instr.slice t vx vl vh none).run P w = .ok v w) : YieldsIf P ops S op v a :=
  .inl ⟨hw, fun w hS => by
    unfold execOp
    simp only [ho, Sem.run_bind, Option.map_none, hx, hl, hh, run_sliceAt_slice w t _ _ _ _ ht, hr w hS, Result.andThen_ok]
    rfl⟩
end Go.Proofs.YtinahldjpobigaaDoor
namespace Go.Proofs.YtinahldjpobigaaDoor
open Go Go.RowKit Go.ChangeShapes Go.WideShapes Go.ChangeAt
def shaLaid : List (String × DataW Unit) := [("strongroom/sha.constants", Rows.laid_strongroom_sha_constants)]
theorem gK : Tryd.prog.globalNamed "strongroom/sha.constants" = some 0 := by kernel_rfl
theorem tK : (Tryd.prog.globals[0]?).map (·.type) = some 59 := by kernel_rfl
theorem cK : Tryd.prog.cellsOf 24 = 1 := by kernel_rfl
theorem dK : (Rows.laid_strongroom_sha_constants : DataW Unit) = .agg (kW.map fun x : Nat => .lit (.int .u32 (x : Int))) := by kernel_rfl
theorem kc_of_laid {W : World} (h : laidMetH Tryd.prog shaLaid W) : KC W := by
  rw [MakeChecks.laidMetH_plain _ _ _ (by kernel_rfl)] at h
  obtain ⟨ps, ⟨g0, t0, cs0, f0, p0, q0, hg0, ht0, hv0, hd0, _, _⟩, _, _⟩ := h
  obtain rfl := Option.some.inj (gK.symm.trans hg0)
  obtain rfl := Option.some.inj (tK.symm.trans ht0)
  obtain ⟨xs, m, rfl, hx, hlen, hn, hel⟩ := DataW.trod_array Tryd.underlying59 hd0
  intro t ht
  have h1 := hel t ht
  have hxt : xs[t]? = some xs[t] := List.getElem?_eq_getElem (by omega)
  rw [cK, hxt] at h1
  obtain ⟨k, e1, e2, _⟩ := DataW.trod_int Tryd.underlying24 h1
  simp only [Prod.mk.injEq] at hx
  have hd := hx.1
  rw [dK] at hd
  simp only [DataW.agg.injEq] at hd
  have hd2 : (kW.map fun x : Nat => (DataW.lit (.int .u32 (x : Int)) : DataW Unit))[t]? = (xs.map (·.1))[t]? := by rw [hd]
  have hkt : t < kW.length := by rw [kW_length]; exact ht
  rw [List.getElem?_map, List.getElem?_map, hxt, List.getElem?_eq_getElem hkt] at hd2
  simp only [Option.map_some, Option.some.injEq, e2, DataW.lit.injEq, Lit.int.injEq, true_and] at hd2
  have hv := World.var?_cell hg0 hv0 t
  have hcs : cs0[t]? = some (.int .u32 k) := by
    have : ((cs0.toList.drop (t * 1)).take 1)[0]? = some (.int .u32 k) := by rw [e1]; rfl
    simpa using this
  rw [hv, hcs, ← hd2]
  simp [List.getD, List.getElem?_eq_getElem hkt]
end Go.Proofs.YtinahldjpobigaaDoor
namespace Go.Proofs.YtinahldjpobigaaDoor
open Go.ChangeShapes Go.WideShapes Go.ChangeAt Go.RowKit
theorem handed_cond_and {H : Type} {enc : TypeId × Value → H} {a : Assume} {C : Checked} {os : Os} {f : FuncId} {fn : Func} {s : OpenSpec} {k : (H : Type) → List (DataW H) → Bool} (hk : s.cond = some k) {F : Stop.Interp} {conds : List PathCond} {apart fresh handsOn again : Bool} {X : World → Array Value → Prop}
    (hX : ∀ (w w' : World) (args : Array Value), w.heap = w'.heap → X w args → X w' args)
    (own : ownKnob C.prog.godebug = none) (started : os.Started) (noInit : C.prog.inits.idxOf? f = none) (hfn : C.prog.funcs[f]? = some fn)
    (witness : ∃ (w : World) (tape : Tape) (i : Input), w.os = os ∧ (w.forCall tape i).Shaped C.prog ∧ i.vars = [] ∧ Input.okWide C.prog (w.forCall tape i) .any w.heap.size f i ∧
      ((s.pre enc C.prog fn conds apart (w.forCall tape i).memory i.args ∧ X (w.forCall tape i).memory i.args) ∧ sizedMet enc C.prog fn s apart (w.forCall tape i).memory i.args) ∧ a.holds C.prog (lone (Frame.enter C.prog f i.args .normal) [] (w.forCall tape i)))
    (contract : ∀ (W : World) (base : Nat) (args : Array Value) (ds gs : List (DataW H)) (before : List MemPlace),
      (∀ (j : Nat) t v, fn.params[j]? = some t → args[j]? = some v → Value.okWide C.prog W .any base t v) →
      DataW.Whole enc C.prog fn.params.toList s.vars apart W args.toList ds gs before → k H (ds ++ gs) = true → X W args →
      Calls C.prog f args W fun e W' => ∃ v, e = .returned v ∧ (s.at F).post enc C.prog fn apart fresh handsOn again W args v W') :
    ReturnsInHanded a C os f .any (fun w args => (s.pre enc C.prog fn conds apart w args ∧ X w args) ∧ sizedMet enc C.prog fn s apart w args) ((s.at F).post enc C.prog fn apart fresh handsOn again) := by
  refine returnsInHanded_of_calls own started noInit witness ?_
  intro w tape i _ _ _ hok hpre hholds
  obtain ⟨_, _, _, fn', hfn', _, _, _, _, hval⟩ := hok
  have e : fn' = fn := Option.some.inj (hfn'.symm.trans hfn)
  subst e
  obtain ⟨⟨hp, hx⟩, _⟩ := hpre
  obtain ⟨ds, gs, before, hw, hc, hkk⟩ := (OpenSpec.pre_some hk conds apart _ _).1 hp
  have hw' := DataW.Whole.of_heap (w' := w.forCall tape i) (by rfl) hw
  refine (contract (w.forCall tape i) w.heap.size i.args ds gs before hval hw' hkk (hX _ _ _ (by rfl) hx)).mono fun e W' ⟨v, he, hp⟩ => ?_
  subst he
  exact ChangeSpec.post_blind hp
theorem witness_cond {H : Type} {enc : TypeId × Value → H} {C : Checked} {os : Os} {f : FuncId} {fn : Func} {s : OpenSpec} {k : (H : Type) → List (DataW H) → Bool} (hk : s.cond = some k) {conds : List PathCond} {apart : Bool} {X : World → Array Value → Prop} (modest : Bool) (w0 : World) (args : Array Value) (fuel : Nat) (hos : w0.os = os)
    (hsh : (w0.forCall (fun _ _ => 0) ⟨#[], args, []⟩).Shaped C.prog)
    (hok : Input.okWideB C.prog (w0.forCall (fun _ _ => 0) ⟨#[], args, []⟩) f ⟨#[], args, []⟩ = true)
    {x : List (DataW H) × List (DataW H) × List MemPlace} (hx : DataW.whole enc C.prog (w0.forCall (fun _ _ => 0) ⟨#[], args, []⟩).memory fn.params.toList s.vars apart args.toList fuel = some x)
    (hconds : conds.all (PathCond.test C.prog ⟨fn.params.toList, x.1, s.bare.plain.varTypes C.prog, x.2.1⟩) = true) (hkk : k H (x.1 ++ x.2.1) = true)
    (hsz : s.bare.sizedB enc C.prog fn apart (w0.forCall (fun _ _ => 0) ⟨#[], args, []⟩).memory args fuel = true)
    (hX : X (w0.forCall (fun _ _ => 0) ⟨#[], args, []⟩).memory args) :
    ∃ (w : World) (tape : Tape) (i : Input), w.os = os ∧ (w.forCall tape i).Shaped C.prog ∧ i.vars = [] ∧ Input.okWide C.prog (w.forCall tape i) .any w.heap.size f i ∧
      ((s.pre enc C.prog fn conds apart (w.forCall tape i).memory i.args ∧ X (w.forCall tape i).memory i.args) ∧ sizedMet enc C.prog fn s apart (w.forCall tape i).memory i.args) ∧ ({ modest := modest } : Assume).holds C.prog (lone (Frame.enter C.prog f i.args .normal) [] (w.forCall tape i)) :=
  ⟨w0, fun _ _ => 0, ⟨#[], args, []⟩, hos, hsh, (Input.okWide_of_okWideB (base := 0) hok).1, (Input.okWide_of_okWideB hok).2,
    ⟨⟨(OpenSpec.pre_some hk conds apart _ _).2 ⟨x.1, x.2.1, x.2.2, DataW.Whole_of_whole hx, hconds, hkk⟩, hX⟩, sizedMet_of_sizedB hsz⟩, by
    simp only [Assume.holds]
    exact ⟨by simp, by simp, fun _ => Modest.zero, by simp, by simp⟩⟩
variable {H : Type} {enc : TypeId × Value → H} {W : World}
structure Sa where
  on : Int
  cl : Int
  v : Value
  l : List Int
def Sa.cs (o : Sa) : List Value := [.int .i64 o.on, .int .i64 o.cl, o.v]
def Sa.zz : Sa := ⟨0, 0, undef, []⟩
def HSa (w : World) (v : Value) (os : List Sa) : Prop :=
  (∃ (p : Option Addr) (c : Nat), v = .slice p os.length c ∧ os.length ≤ c ∧ c ≤ maxLen ∧ (0 < os.length → ∃ b off, p = some ⟨b, off, none⟩ ∧ ∀ i, i < os.length → ∀ j u, (os.getD i Sa.zz).cs[j]? = some u → w.cell? ⟨b, off + i * 3 + j, none⟩ = some u)) ∧ ∀ i, i < os.length → HB w (os.getD i Sa.zz).v (os.getD i Sa.zz).l ∧ (os.getD i Sa.zz).l.length ≤ 1048576 ∧ (-9223372036854775808 ≤ (os.getD i Sa.zz).on ∧ (os.getD i Sa.zz).on ≤ 9223372036854775807)
theorem bulk_memK {H : Type} {d : DataW H} : ∀ {l : List (DataW H)}, d ∈ l → Rows.uptoBulk d ≤ Rows.uptoBulkAll l
  | [], h => by cases h
  | x :: r, h => by
    rcases List.mem_cons.1 h with rfl | h
    · simp only [Rows.uptoBulkAll]; omega
    · have := bulk_memK h
      simp only [Rows.uptoBulkAll]; omega
theorem bulk_posK {H : Type} (d : DataW H) : 1 ≤ Rows.uptoBulk d := by
  cases d with
  | lit l => cases l <;> simp [Rows.uptoBulk]
  | _ => simp [Rows.uptoBulk]
theorem bulk_lenK {H : Type} {n : Nat} : ∀ (l : List (DataW H)), (∀ d ∈ l, n ≤ Rows.uptoBulk d) → l.length * n ≤ Rows.uptoBulkAll l
  | [], _ => by simp
  | x :: r, h => by
    have h1 := h x (by simp)
    have h2 := bulk_lenK r (fun d hd => h d (by simp [hd]))
    simp only [Rows.uptoBulkAll, List.length_cons]
    rw [Nat.add_mul]
    omega
theorem open_bytK {base fuel : Nat} {cs : List Value} {x : DataW H × List MemPlace} (h : DataW.trod enc Tryd.prog W base (fun _ => true) true fuel 32 cs = some x) : ∃ v l, cs = [v] ∧ HB W v l ∧ l.length ≤ Rows.uptoBulk x.1 := by
  obtain ⟨d, p⟩ := x
  obtain ⟨q, c', l, hcs, h1, h2, h3, h4, h5, h6⟩ := open_row Tryd.underlying32 Tryd.underlying5 Opn.cells_u8 h
  exact ⟨_, l, hcs, ⟨⟨q, c', rfl, h1, h2, h3, h4⟩, byte_wf h5⟩, by show l.length ≤ Rows.uptoBulk d; omega⟩
theorem open_intK {base fuel : Nat} {cs : List Value} {x : DataW H × List MemPlace} (h : DataW.trod enc Tryd.prog W base (fun _ => true) true fuel 3 cs = some x) : ∃ z : Int, cs = [.int .i64 z] ∧ -9223372036854775808 ≤ z ∧ z ≤ 9223372036854775807 := by
  obtain ⟨z, e1, _, w1⟩ := DataW.trod_int Tryd.underlying3 h
  have := bounds_i64 w1
  exact ⟨z, e1, by omega, by omega⟩
theorem part_bulkK {xs : List (DataW H × List MemPlace)} {i : Nat} {x : DataW H × List MemPlace} (h : xs[i]? = some x) : Rows.uptoBulk x.1 ≤ Rows.uptoBulkAll (xs.map (·.1)) :=
  bulk_memK (List.mem_map.2 ⟨x, List.mem_of_getElem? h, rfl⟩)
theorem part_ofK {cs : List Value} {o n : Nat} {l : List Value} (h : (cs.drop o).take n = l) (hn : l.length = n) (m : List Value) (hm : cs.drop (o + n) = m) : cs.drop o = l ++ m := by
  rw [← List.take_append_drop n (cs.drop o), h, List.drop_drop, hm]
theorem Opn.cells_sa : Tryd.prog.cellsOf 45 = 3 := by kernel_rfl
theorem Opn.cells_intK : Tryd.prog.cellsOf 3 = 1 := by kernel_rfl
theorem Opn.cells_bytesK : Tryd.prog.cellsOf 32 = 1 := by kernel_rfl
set_option maxRecDepth 100000 in
theorem open_saL {base fuel : Nat} {cs : List Value} {x : DataW H × List MemPlace} (hm : DataW.trod enc Tryd.prog W base (fun _ => true) true fuel 45 cs = some x) (hB : Rows.uptoBulk x.1 ≤ 1048576) :
    (∃ o : Sa, (HB W o.v o.l ∧ o.l.length ≤ 1048576 ∧ (-9223372036854775808 ≤ o.on ∧ o.on ≤ 9223372036854775807)) ∧ cs = o.cs) ∧ 4 ≤ Rows.uptoBulk x.1 := by
  obtain ⟨xs, n, rfl, rfl, hl, hxl, hf⟩ := DataW.trod_struct Tryd.underlying45 hm
  rw [Opn.cells_sa] at hl
  have g : ∀ (i : Nat) (f : Field), _ → DataW.trod enc Tryd.prog W base (fun _ => true) true n f.type ((cs.drop f.offset).take (Tryd.prog.cellsOf f.type)) = xs[i]? := fun i f hi => hf i f hi
  have hx : ∀ i, i < 3 → ∃ x, xs[i]? = some x := fun i hi => ⟨_, List.getElem?_eq_getElem (by rw [hxl]; exact hi)⟩
  obtain ⟨x0, e0⟩ := hx 0 (by omega)
  have f0 : DataW.trod enc Tryd.prog W base (fun _ => true) true n 3 ((cs.drop 0).take (Tryd.prog.cellsOf 3)) = xs[0]? := g 0 _ rfl
  obtain ⟨x1, e1⟩ := hx 1 (by omega)
  have f1 : DataW.trod enc Tryd.prog W base (fun _ => true) true n 3 ((cs.drop 1).take (Tryd.prog.cellsOf 3)) = xs[1]? := g 1 _ rfl
  obtain ⟨x2, e2⟩ := hx 2 (by omega)
  have f2 : DataW.trod enc Tryd.prog W base (fun _ => true) true n 32 ((cs.drop 2).take (Tryd.prog.cellsOf 32)) = xs[2]? := g 2 _ rfl
  rw [e0, Opn.cells_intK] at f0
  rw [e1, Opn.cells_intK] at f1
  rw [e2, Opn.cells_bytesK] at f2
  obtain ⟨on, q0, on1, on2⟩ := open_intK f0
  obtain ⟨cl, q1, _⟩ := open_intK f1
  obtain ⟨v, l, q2, hv, lv⟩ := open_bytK f2
  have b2 := part_bulkK e2
  have hB' : Rows.uptoBulkAll (xs.map (·.1)) + 1 ≤ 1048576 := by
    have : Rows.uptoBulk (.agg (xs.map (·.1))) ≤ 1048576 := hB
    simpa only [Rows.uptoBulk] using this
  refine ⟨⟨⟨on, cl, v, l⟩, ⟨hv, by show l.length ≤ 1048576; omega, on1, on2⟩, ?_⟩, ?_⟩
  · have h3 : cs.drop 3 = [] := List.drop_eq_nil_of_le (by omega)
    have h2 := part_ofK q2 rfl _ h3
    have h1 := part_ofK q1 rfl _ h2
    have h0 := part_ofK q0 rfl _ h1
    rw [List.drop_zero] at h0
    rw [h0]
    rfl
  · show 4 ≤ Rows.uptoBulk (.agg (xs.map (·.1)))
    simp only [Rows.uptoBulk]
    have := bulk_lenK (n := 1) (xs.map (·.1)) (fun d _ => bulk_posK d)
    rw [List.length_map, hxl] at this
    have h4 : (3 : Nat) * 1 ≤ Rows.uptoBulkAll (xs.map (·.1)) := this
    omega
theorem open_HSa {base : Nat} {v : Value} {d : DataW H} {p : List MemPlace} (h : DataW.Trod enc Tryd.prog W base (fun _ => true) true 39 v d p) (hv : ∃ a n c, v = .slice a n c) (hB : Rows.uptoBulk d ≤ 1048576) : ∃ os, HSa W v os ∧ os.length ≤ 300000 := by
  obtain ⟨a, n, c, rfl⟩ := hv
  obtain ⟨fuel, hf⟩ := h
  rcases Go.Deep.open_slice Tryd.underlying39 hf with ⟨hcs, hx⟩ | ⟨a, len, cap, m, n, D, Pl, hcs, hb, hl, hm, hmm, hx, hel⟩
  · simp only [Value.cells, List.cons.injEq, and_true] at hcs
    rw [hcs]
    exact ⟨[], ⟨⟨none, 0, rfl, Nat.le_refl _, Nat.zero_le _, fun h => absurd h (by simp)⟩, fun d hd => by simp at hd⟩, by simp⟩
  · simp only [Value.cells, List.cons.injEq, and_true] at hcs
    rw [hcs]
    simp only [if_true] at hmm
    subst hmm
    simp only [Prod.mk.injEq] at hx
    obtain ⟨rfl, _⟩ := hx
    have hBe : ∀ i, i < len → Rows.uptoBulk (D i) ≤ 1048576 := fun i hi => by
      have h1 : Rows.uptoBulk (D i) ≤ Rows.uptoBulkAll ((List.range len).map D) := bulk_memK (List.mem_map.2 ⟨i, List.mem_range.2 hi, rfl⟩)
      simp only [Rows.uptoBulk] at hB
      omega
    have each : ∀ i, i < len → ∃ o : Sa, (HB W o.v o.l ∧ o.l.length ≤ 1048576 ∧ (-9223372036854775808 ≤ o.on ∧ o.on ≤ 9223372036854775807)) ∧ (∀ j u, o.cs[j]? = some u → W.cell? ((a.add (i * 3)).add j) = some u) ∧ 4 ≤ Rows.uptoBulk (D i) := by
      intro i hi
      obtain ⟨cs', h1, h2⟩ := hel i (by omega)
      rw [Opn.cells_sa] at h1
      obtain ⟨⟨o, d1, d2⟩, d3⟩ := open_saL h2 (hBe i hi)
      obtain ⟨_, _, hc⟩ := World.cells?_some h1
      refine ⟨o, d1, fun j u hj => ?_, d3⟩
      have hj2 : j < 3 := (List.getElem?_eq_some_iff.1 hj).1
      rw [hc j hj2, d2]
      exact hj
    have hch : ∃ T : Nat → Sa, ∀ i, i < len → (HB W (T i).v (T i).l ∧ (T i).l.length ≤ 1048576 ∧ (-9223372036854775808 ≤ (T i).on ∧ (T i).on ≤ 9223372036854775807)) ∧ (∀ j u, (T i).cs[j]? = some u → W.cell? ((a.add (i * 3)).add j) = some u) ∧ 4 ≤ Rows.uptoBulk (D i) := by
      refine ⟨fun i => if hi : i < len then Classical.choose (each i hi) else Sa.zz, fun i hi => ?_⟩
      simp only [hi, dif_pos]
      exact Classical.choose_spec (each i hi)
    obtain ⟨T, hT⟩ := hch
    have hlen : ((List.range len).map T).length = len := by simp
    have hget : ∀ i, i < len → ((List.range len).map T).getD i Sa.zz = T i := fun i hi => by simp [List.getD, hi]
    have h5 : len * 4 ≤ Rows.uptoBulkAll ((List.range len).map D) := by
      have := bulk_lenK (n := 4) ((List.range len).map D) (fun d hd => by
        obtain ⟨i, hi, rfl⟩ := List.mem_map.1 hd
        exact (hT i (List.mem_range.1 hi)).2.2)
      simpa using this
    have hB2 := hB
    simp only [Rows.uptoBulk] at hB2
    refine ⟨(List.range len).map T, ⟨⟨some a, _, by rw [hlen], by rw [hlen]; exact hl, hm, fun h0 => ?_⟩, fun i hi => ?_⟩, by rw [hlen]; omega⟩
    · rw [hlen] at h0
      obtain ⟨b, off, sp⟩ := a
      have hsp : sp = none := by
        have := (hT 0 h0).2.1 0 _ rfl
        simpa [Addr.add] using World.cell?_spot this
      subst hsp
      refine ⟨b, off, rfl, fun i hi => ?_⟩
      rw [hlen] at hi
      rw [hget i hi]
      intro j u hj
      have := (hT i hi).2.1 j u hj
      rwa [Go.WideShapes.add_plain, Go.WideShapes.add_plain] at this
    · rw [hlen] at hi
      rw [hget i hi]
      exact (hT i hi).1
end Go.Proofs.YtinahldjpobigaaDoor
namespace Go.Proofs.YtinahldjpobigaaDoor
open Go.RowKit
set_option maxRecDepth 100000 in
set_option maxHeartbeats 2000000 in
theorem clone_any (w : World) (g : Nat) (m : List Int) (h : HM w g m) :
    Calls Tryd.prog 25 #[.pointer (some ⟨g, 0, none⟩)] w fun e w' => ∃ g', e = .returned (.pointer (some ⟨g', 0, none⟩)) ∧ w.heap.size ≤ g' ∧ HM w' g' m ∧ Below w.heap.size w w' := by
  obtain ⟨zh, HZH⟩ : ∃ zh, Hid ((hcells (zerosW 8) (zerosW 8) (List.replicate 64 0) 0).toArray = zh) := ⟨_, rfl⟩
  have hzh := zero_hash
  rw [HZH.out] at hzh
  have HZ1 := hid hzh
  have hzl : zh.size = 81 := by rw [← HZH.out]; simp [hcells, wcells_length, bcells_length, zerosW_length]
  have CM := hid (made_yes w g m h)
  have HM0 := hid h
  clear h hzh
  go_enter Tryd.func25, Tryd.ntmps25
  go_wp2_with fail
  refine CM.out.mono ?_
  rintro e w1 ⟨rfl, hB1⟩
  obtain ⟨rest, hs1, hrt, hmb⟩ := HM0.out.below hB1
  obtain ⟨hc, HC⟩ : ∃ hc, Hid ((hcells iv (wAt m (m.length / 64)) rest m.length).toArray = hc) := ⟨_, rfl⟩
  have hcl : (hcells iv (wAt m (m.length / 64)) rest m.length).length = 81 := hcells_length iv_W8.1 hs1.w8.1 hs1.rl
  have hcs : hc.size = 81 := by rw [← HC.out, List.size_toArray, hcl]
  have SH : Hid ((Tryd.prog.info? 75).map (·.size) = some (hcells iv (wAt m (m.length / 64)) rest m.length).length) := by rw [hcl]; exact size_hash
  have SH2 : Hid ((Tryd.prog.info? 75).map (·.size) = some hc.size) := by rw [hcs]; exact size_hash
  have OH : Hid (hc.all (·.oneCell') = true) := by
    rw [← HC.out]
    refine all_oneCell_toArray (fun v hv => ?_)
    unfold hcells at hv
    rcases List.mem_append.1 hv with h1 | h1
    · obtain ⟨x, _, rfl⟩ := List.mem_map.1 h1; rfl
    · rcases List.mem_append.1 h1 with h2 | h2
      · obtain ⟨x, _, rfl⟩ := List.mem_map.1 h2; rfl
      · rcases List.mem_append.1 h2 with h3 | h3
        · obtain ⟨x, _, rfl⟩ := List.mem_map.1 h3; rfl
        · have : v = .int .i64 (m.length : Int) := by simpa using h3
          rw [this]; rfl
  have ZH : Hid (zh.size = hc.size) := by rw [hzl, hcs]; exact rfl
  have RA : Hid (w1.rangeAt g 0 (hcells iv (wAt m (m.length / 64)) rest m.length)) := hs1.all
  have HR : Hid ((w1.alloc (.cells zh 75)).heap[w1.heap.size]? = some (.cells zh 75 (0, 0))) := heap_alloc_new w1 _
  have HNew : Hid (HM ((w1.alloc (.cells zh 75)).setRow w1.heap.size hc) w1.heap.size m) := by
    refine ⟨rest, HSt.of_block ?_ hs1.w8 hs1.rl hs1.rb, hrt, hmb⟩
    rw [HC.out]
    exact setRow_heap _ _ _ _ _ _ HR.out
  have HBN : Hid (Below w.heap.size w ((w1.alloc (.cells zh 75)).setRow w1.heap.size hc)) := below_setRow (hB1.alloc hB1.size _) hB1.size hc
  have hsz := hB1.size
  clear hB1 hs1 hrt hmb hcl hcs hzl CM
  go_wp2_with (first | (refine wpList_load_mid rfl 75 _ rfl g 0 rfl _ _ RA.out Tryd.underlying75 rfl SH.out ?_; rw [HC.out]) | (refine wpList_alloc_agg HZ1.out rfl rfl ?_) | (refine wpList_store_row rfl 75 _ _ rfl w1.heap.size hc rfl rfl 75 _ HR.out SH2.out ZH.out OH.out ?_))
  go_ret
  exact ⟨w1.heap.size, rfl, hsz, HNew.out, HBN.out⟩
theorem HSt.of_range {w : World} {g n : Nat} {ww : List Nat} {rest : List Int} (hra : w.rangeAt g 0 (hcells iv ww rest n)) (hth : w.there g 0 81) (h8 : W8 ww) (hr : rest.length = 64) (hrb : ∀ x ∈ rest, 0 ≤ x ∧ x < 256) : HSt w g ww rest n := by
  have key : ∀ j v, (hcells iv ww rest n)[j]? = some v → w.cell? ⟨g, j, none⟩ = some v := fun j v hv => by
    have := hra j v hv
    rwa [Nat.zero_add] at this
  have l1 : (wcells iv).length = 8 := by rw [wcells_length]; rfl
  have l2 : (wcells ww).length = 8 := by rw [wcells_length, h8.1]
  have l3 : (bcells rest).length = 64 := by rw [bcells_length, hr]
  refine ⟨fun j v hv => ?_, fun j v hv => ?_, fun j v hv => ?_, ?_, fun j hj => ?_, h8, hr, hrb⟩
  · rw [Nat.zero_add]
    have hj := (List.getElem?_eq_some_iff.1 hv).1
    refine key j v ?_
    unfold hcells
    rw [List.getElem?_append_left hj]
    exact hv
  · have hj := (List.getElem?_eq_some_iff.1 hv).1
    refine key (8 + j) v ?_
    unfold hcells
    rw [List.getElem?_append_right (by omega), l1, Nat.add_sub_cancel_left, List.getElem?_append_left hj]
    exact hv
  · have hj := (List.getElem?_eq_some_iff.1 hv).1
    refine key (16 + j) v ?_
    unfold hcells
    rw [List.getElem?_append_right (by omega), l1, List.getElem?_append_right (by omega), l2, show 16 + j - 8 - 8 = j by omega, List.getElem?_append_left hj]
    exact hv
  · refine key 80 _ ?_
    unfold hcells
    rw [List.getElem?_append_right (by omega), l1, List.getElem?_append_right (by omega), l2, List.getElem?_append_right (by omega), l3]
    rfl
  · exact hth j hj
set_option maxRecDepth 100000 in
set_option maxHeartbeats 2000000 in
theorem reset_any (w : World) (g : Nat) (m : List Int) (h : HM w g m) :
    Calls Tryd.prog 24 #[.pointer (some ⟨g, 0, none⟩)] w fun e w' => e = .returned (.int .i64 0) ∧ HM w' g [] ∧ w.grownBy w' (some g) := by
  have CM := hid (made_yes w g m h)
  have HM0 := hid h
  have hgl := h.lt
  clear h
  go_enter Tryd.func24, Tryd.ntmps24
  go_wp2_with fail
  refine CM.out.mono ?_
  rintro e w1 ⟨rfl, hB1⟩
  have HB1 := hid hB1
  have hs1 := hB1.size
  clear hB1 CM
  go_wp2_with fail
  refine (new_any w1).mono ?_
  rintro e w2 ⟨g2, rfl, hg2, hblk, hB2⟩
  obtain ⟨L, HL⟩ : ∃ L, Hid (hashC iv iv (List.replicate 64 0) 0 = L) := ⟨_, rfl⟩
  have HLC : Hid (L = hcells iv iv (List.replicate 64 0) 0) := by rw [← HL.out]; rfl
  rw [HL.out] at hblk
  have hLl : L.length = 81 := by rw [HLC.out]; rfl
  have RA : Hid (w2.rangeAt g2 0 L) := fun j v hv => by
    rw [Nat.zero_add, cell_of_row w2 g2 j _ _ _ hblk]
    simpa using hv
  have HB2 := hid (HB1.out.trans (hB2.mono hs1))
  obtain ⟨rest, hs, _, _⟩ := HM0.out.below HB2.out
  have TH : Hid (w2.there g 0 L.toArray.size) := by rw [List.size_toArray, hLl]; exact hs.th
  have SH : Hid ((Tryd.prog.info? 75).map (·.size) = some L.length) := by rw [hLl]; exact size_hash
  have SH2 : Hid ((Tryd.prog.info? 75).map (·.size) = some L.toArray.size) := by rw [List.size_toArray, hLl]; exact size_hash
  have OH : Hid (L.toArray.all (·.oneCell') = true) := by
    refine all_oneCell_toArray (fun v hv => ?_)
    rw [HLC.out] at hv
    unfold hcells at hv
    rcases List.mem_append.1 hv with h1 | h1
    · obtain ⟨x, _, rfl⟩ := List.mem_map.1 h1; rfl
    · rcases List.mem_append.1 h1 with h2 | h2
      · obtain ⟨x, _, rfl⟩ := List.mem_map.1 h2; rfl
      · rcases List.mem_append.1 h2 with h3 | h3
        · obtain ⟨x, _, rfl⟩ := List.mem_map.1 h3; rfl
        · have : v = .int .i64 ((0 : Nat) : Int) := by simpa using h3
          rw [this]; rfl
  have HNew : Hid (HM (w2.setCells g 0 L.toArray.toList) g []) := by
    refine ⟨List.replicate 64 0, HSt.of_range ?_ (World.there_setCells hs.th _ _ _) iv_W8 (by simp) (fun x hx => by have := (List.mem_replicate.1 hx).2; omega), rfl, fun x hx => by cases hx⟩
    have := World.rangeAt_setCells_same w2 g 0 L (by have := TH.out; simpa using this)
    show World.rangeAt _ g 0 (hcells iv iv (List.replicate 64 0) 0)
    rw [← HLC.out]
    exact this
  have HGN : Hid (w.grownBy (w2.setCells g 0 L.toArray.toList) (some g)) := grown_tr (grown_below HB2.out) (grown_setCells g _ _ _)
  clear hs hB2 hblk HLC hLl
  go_wp2_with (first | (refine wpList_load_mid rfl 75 _ rfl g2 0 rfl _ _ RA.out Tryd.underlying75 rfl SH.out ?_) | (refine wpList_store_mid rfl 75 _ _ rfl g 0 L.toArray rfl rfl TH.out SH2.out OH.out ?_))
  go_ret
  exact ⟨rfl, HNew.out, HGN.out⟩
set_option maxHeartbeats 400000 in
theorem kcopy_any (w : World) (v : Value) (l : List Int) (h : HB w v l) (hbig : l.length ≤ 140737488355328) :
    Calls Tryd.prog 26 #[v] w fun e w' => ∃ v', e = .returned v' ∧ w'.ownsRow w.heap.size 5 1 v' l.length (l.map (Value.int .u8)) ∧ Below w.heap.size w w' := by
  have H := hid h
  obtain ⟨p, c, rfl, _, _⟩ := h.open
  clear h
  go_enter Tryd.func26, Tryd.ntmps26
  go_wp2_with (at_builtin; refine wpList_append_HB rfl _ _ rfl w.heap.size _ 0 [] rfl (World.ownsRow_nil _ _ _ _) _ _ rfl H.out ?q1 ?q2 ?_)
  case q1 => omega
  case q2 => exact Nat.le_refl _
  intro v' w2 hown hgr
  have HO : Hid (w2.ownsRow w.heap.size 5 1 v' l.length (l.map (Value.int .u8))) := by
    show World.ownsRow _ _ _ _ _ _ _
    simpa using hown
  have HB2 := hid ((Below.refl _ w).grown hgr (Nat.le_refl _) (fun k e => by cases e))
  clear hown hgr
  go_wp2
  go_ret
  exact ⟨_, rfl, HO.out, HB2.out⟩
set_option maxHeartbeats 1000000 in
theorem kpick_any (w : World) (x : Int) (n : Nat) (h1 : 1 ≤ n) (h2 : n ≤ 140737488355328) : Calls Tryd.prog 16 #[.int .i64 x, .int .i64 (n : Int)] w fun e w' => (∃ p : Nat, p < n ∧ e = .returned (.int .i64 (p : Int))) ∧ w' = w := by
  have b1 : -(n : Int) < Int.tmod x n := Int.lt_tmod_of_pos x (by omega)
  have b2 : Int.tmod x n < (n : Int) := Int.tmod_lt_of_pos x (by omega)
  have hn1 : ¬ ((n : Int) < 1) := by omega
  have hn0 : ¬ ((n : Int) = 0) := by omega
  obtain ⟨y, hy⟩ : ∃ y, Int.tmod x (n : Int) = y := ⟨_, rfl⟩
  rw [hy] at b1 b2
  by_cases hneg : y < 0
  · go_enter Tryd.func16, Tryd.ntmps16
    go_wp2
    go_ret
    refine ⟨⟨(y + n).toNat, by omega, ?_⟩, rfl⟩
    show Ending.returned (Value.int .i64 (y + n)) = _
    rw [Int.toNat_of_nonneg (by omega)]
  · go_enter Tryd.func16, Tryd.ntmps16
    go_wp2
    go_ret
    refine ⟨⟨y.toNat, by omega, ?_⟩, rfl⟩
    show Ending.returned (Value.int .i64 y) = _
    rw [Int.toNat_of_nonneg (by omega)]
theorem run_append_byte (w : World) (base : Nat) (ty : TypeId) (v : Value) (n : Nat) (xs : List Value) (hown : w.ownsRow base 5 1 v n xs) (a : Addr) (c : Nat) (x : Int) (hx : w.cell? a = some (.int .u8 x)) (hn : n + 1 ≤ 140737488355328) (hbase : base ≤ w.heap.size) :
    ∃ v' w', (Builtin.append_ #[32, 32] ty #[v, .slice (some a) 1 c]).run Tryd.prog w = .ok v' w' ∧ w'.ownsRow base 5 1 v' (n + 1) (xs ++ [.int .u8 x]) ∧ w.grownBy w' v.ownBlock ∧
      (v'.ownBlock = v.ownBlock ∨ (v'.ownBlock = some w.heap.size ∧ w.grownBy w' none)) := by
  obtain ⟨i0, hi, hz0, hz1, hz2⟩ := info_parts info_u8
  have hnews : ∀ j u, [Value.int .u8 x][j]? = some u → w.cell? (a.add j) = some u := by
    intro j u hj
    match j, hj with
    | 0, hj => simp at hj; subst hj; simpa [Addr.add] using hx
  have h1 : ∀ u ∈ [Value.int .u8 x], u.oneCell' = true := by intro u hu; simp at hu; subst hu; rfl
  obtain ⟨v', w', hr, h2, h3, _⟩ := run_append_own (P := Tryd.prog) w base 32 ty 5 i0 (.int .u8 0) 1 1 Tryd.underlying32 hi hz0 hz1 hz2 rfl (by decide) v n xs hown a 1 c [.int .u8 x] rfl hnews h1 (by unfold maxLen; omega) (by omega) hbase
  refine ⟨v', w', hr, h2, h3, ?_⟩
  rcases hown.2 with ⟨rfl, rfl⟩ | ⟨g, cap, cur, rfl, hbg, hg, hnc, hcm, hcs, htake⟩
  · have hr2 := run_append_nil (P := Tryd.prog) w 32 ty 5 i0 (.int .u8 0) Tryd.underlying32 hi hz0 a 1 c [.int .u8 x] (by rw [hz1]; rfl) hnews (by omega) (by omega) (by rw [hz2]; omega)
    rw [hr] at hr2
    simp only [Result.ok.injEq] at hr2
    obtain ⟨rfl, rfl⟩ := hr2
    exact .inr ⟨rfl, ⟨rfl, rfl, rfl, by simp, fun k hk _ => heap_alloc_old w.drew _ hk⟩⟩
  · by_cases hroom : n + 1 ≤ cap
    · obtain ⟨w2, hr2, _⟩ := run_append_fits (P := Tryd.prog) w base 32 ty 5 i0 1 Tryd.underlying32 hi hz1 g n cap xs hown a 1 c [.int .u8 x] rfl hnews h1 hroom
      rw [hr] at hr2
      simp only [Result.ok.injEq] at hr2
      obtain ⟨rfl, rfl⟩ := hr2
      exact .inl rfl
    · have hr2 := run_append_grow (P := Tryd.prog) w 32 ty 5 i0 (.int .u8 0) Tryd.underlying32 hi hz0 ⟨g, 0, none⟩ n cap xs (by rw [hz1]; exact hown.1) (hown.cells (g := g) rfl) a 1 c [.int .u8 x] (by rw [hz1]; rfl) hnews (by omega) (by omega) (growslice_fits (by omega) (by rw [hz2]; omega))
      rw [hr] at hr2
      simp only [Result.ok.injEq] at hr2
      obtain ⟨rfl, rfl⟩ := hr2
      exact .inr ⟨rfl, ⟨rfl, rfl, rfl, by simp, fun k hk _ => heap_alloc_old w.drew _ hk⟩⟩
theorem wpList_append_byte {w : World} {ops : Array Oper} {rest : List Oper} {o : Oper} {a : Act} {Q : Exit → Act → World → Prop} (hgd : o.guard = none) (s x : Operand)
    (ho : o.op = .call { callee := .builtin .append, args := #[s, x], argTypes := #[32, 32] })
    (base : Nat) (v : Value) (n : Nat) (xs : List Value) (hs : a.eval s = v) (hown : w.ownsRow base 5 1 v n xs)
    (ad : Addr) (c : Nat) (y : Int) (hx : a.eval x = .slice (some ad) 1 c) (hy : w.cell? ad = some (.int .u8 y)) (hn : n + 1 ≤ 140737488355328) (hbase : base ≤ w.heap.size)
    (h : ∀ v' w', w'.ownsRow base 5 1 v' (n + 1) (xs ++ [.int .u8 y]) → w.grownBy w' v.ownBlock → (v'.ownBlock = v.ownBlock ∨ (v'.ownBlock = some w.heap.size ∧ w.grownBy w' none)) → wpList Tryd.prog ops Q rest (a.put o.dst v') w') : wpList Tryd.prog ops Q (o :: rest) a w := by
  refine wpList_plain hgd fun K hK => ?_
  obtain ⟨v', w', hr, h2, h3, h4⟩ := run_append_byte w base o.type v n xs hown ad c y hy hn hbase
  unfold Oper.wp execOp
  simp only [ho, resolve, invoke, builtin, Sem.run_bind, Sem.run_pure, Result.andThen_ok, List.map_toArray, List.map_cons, List.map_nil, hs, hx, hr]
  exact hK _ _ (h v' w' h2 h3 h4)
theorem take_eq_step (la lb : List Int) (k : Nat) (ha : k < la.length) (hb : k < lb.length) (h : la.take k = lb.take k) (e : la.getD k 0 = lb.getD k 0) : la.take (k + 1) = lb.take (k + 1) := by
  rw [List.take_succ_eq_append_getElem ha, List.take_succ_eq_append_getElem hb, h]
  have e1 : la.getD k 0 = la[k] := by simp [List.getD, List.getElem?_eq_getElem ha]
  have e2 : lb.getD k 0 = lb[k] := by simp [List.getD, List.getElem?_eq_getElem hb]
  rw [e1, e2] at e
  rw [e]
theorem take_ne (la lb : List Int) (k : Nat) (e : la.getD k 0 ≠ lb.getD k 0) : la ≠ lb := fun h => e (by rw [h])
set_option maxHeartbeats 400000 in
theorem sameBytes_any (w : World) (va vb : Value) (la lb : List Int) (ha : HB w va la) (hb : HB w vb lb) :
    Calls Tryd.prog 38 #[va, vb] w fun e w' => e = .returned (.bool (decide (la = lb))) ∧ Dr w w' := by
  by_cases hlen : la.length = lb.length
  · by_cases h0 : 0 < la.length
    · obtain ⟨b1, o1, c1, rfl, hc1, hm1, hk1⟩ := ha.ne h0
      obtain ⟨b2, o2, c2, rfl, hc2, hm2, hk2⟩ := hb.ne (by omega)
      unfold maxLen at hm1 hm2
      have hm : la.length ≤ 9223372036854775807 := by omega
      have HL : Hid (la.length = lb.length) := hlen
      rw [← hlen]
      have hcd : ∀ j, j < la.length → w.cell? ⟨b2, o2 + j, none⟩ = some (.int .u8 (lb.getD j 0)) := fun j hj => hk2 j (by omega)
      clear hlen hk2
      go_enter Tryd.func38, Tryd.ntmps38
      go_wp2
      go_loopw [5] (fun i wr => ∃ k : Nat, k ≤ la.length ∧ i = .int .i64 k ∧ la.take k = lb.take k ∧ Dr w wr) (fun i _ => la.length - (intOf i).toNat)
      case atStart => exact ⟨0, Nat.zero_le _, rfl, rfl, Dr.refl _⟩
      case round =>
        obtain ⟨k, hk, rfl, ht, q, rfl⟩ := hrel
        by_cases hlt : k < la.length
        · have g1 := hk1 k hlt
          have g2 := hcd k hlt
          obtain ⟨x, hx⟩ : ∃ x, la.getD k 0 = x := ⟨_, rfl⟩
          obtain ⟨y, hy⟩ : ∃ y, lb.getD k 0 = y := ⟨_, rfl⟩
          rw [hx] at g1
          rw [hy] at g2
          have HX := hid hx
          have HY := hid hy
          clear hx hy hk1 hcd
          by_cases he : x = y
          · have hne : (x != y) = false := by simpa using he
            have HE := hid he
            clear he
            go_wp2
            go_quiet (fail)
            go_wp2
            exact ⟨⟨k + 1, by omega, by go_num, take_eq_step la lb k hlt (by have := HL.out; omega) ht (by rw [HX.out, HY.out, HE.out]), Dr.one _ _⟩, by simp [intOf]; omega⟩
          · have hne : (x != y) = true := by simpa using he
            go_wp2
            go_quiet (fail)
            go_wp2
            go_ret
            exact ⟨by simp [take_ne la lb k (by rw [HX.out, HY.out]; exact he)], (Dr.one _ _).drewN _⟩
        · go_wp2
          go_ret
          have e : la = lb := by
            have h1 := List.take_of_length_le (show la.length ≤ k by omega)
            have h2 := List.take_of_length_le (show lb.length ≤ k by have := HL.out; omega)
            rw [← h1, ← h2, ht]
          exact ⟨by simp [e], Dr.one _ _⟩
    · obtain ⟨p1, c1, rfl, _, _⟩ := ha.open
      obtain ⟨p2, c2, rfl, _, _⟩ := hb.open
      have e1 : la = [] := List.length_eq_zero_iff.1 (by omega)
      have e2 : lb = [] := List.length_eq_zero_iff.1 (by omega)
      subst e1 e2
      go_enter Tryd.func38, Tryd.ntmps38
      go_wp2
      go_loop [5] (fun i => i = .int .i64 0) (fun _ => 0)
      case atStart => rfl
      case round =>
        subst hrel
        go_wp2
        go_ret
        exact ⟨rfl, Dr.refl _⟩
  · obtain ⟨p1, c1, rfl, _, _⟩ := ha.open
    obtain ⟨p2, c2, rfl, _, _⟩ := hb.open
    have hne : ((la.length : Int) != (lb.length : Int)) = true := by rw [bne_iff_ne]; omega
    go_enter Tryd.func38, Tryd.ntmps38
    go_wp2
    go_ret
    exact ⟨by simp [show la ≠ lb from fun e => hlen (by rw [e])], Dr.refl _⟩
def mkB (k i : Nat) : Int := ((151 * k + 7 * i + 1) % 256 : Nat)
theorem mkB_byt (k i : Nat) : 0 ≤ mkB k i ∧ mkB k i < 256 := by unfold mkB; omega
set_option maxHeartbeats 400000 in
theorem mark_any (w : World) (k i : Nat) (hk : k ≤ 1125899906842624) (hi : i ≤ 1125899906842624) : Calls Tryd.prog 39 #[.int .i64 k, .int .i64 i] w fun e w' => e = .returned (.int .u8 (mkB k i)) ∧ w' = w := by
  go_enter Tryd.func39, Tryd.ntmps39
  go_wp2
  go_ret
  exact ⟨by unfold mkB; first | rfl | (congr 2; done) | (congr 2; omega), rfl⟩
theorem mark_eq (w : World) (k i : Nat) (a b : Int) (ha : a = (k : Int)) (hb : b = (i : Int)) (hk : k ≤ 1125899906842624) (hi : i ≤ 1125899906842624) : Calls Tryd.prog 39 #[.int .i64 a, .int .i64 b] w fun e w' => e = .returned (.int .u8 (mkB k i)) ∧ w' = w := by
  subst ha hb
  exact mark_any w k i hk hi
theorem wrap_succ (k : Nat) (h : k ≤ 1125899906842624) : IntKind.i64.wrap ((k : Int) + 1) = ((k + 1 : Nat) : Int) := by rw [IntKind.wrap_i64]; omega
def lent (l : List Int) : List Int := l ++ (List.range 70).map fun i => mkB 0 (l.length + i)
def lentTo (l : List Int) (m : Nat) : List Int := l ++ (List.range m).map fun i => mkB 0 (l.length + i)
theorem lent_length (l : List Int) : (lent l).length = l.length + 70 := by simp [lent]
theorem lentTo_length (l : List Int) (m : Nat) : (lentTo l m).length = l.length + m := by simp [lentTo]
theorem lentTo_succ (l : List Int) (m : Nat) : lentTo l (m + 1) = lentTo l m ++ [mkB 0 (l.length + m)] := by simp [lentTo, List.range_succ]
theorem lent_byt {l : List Int} (h : ∀ x ∈ l, 0 ≤ x ∧ x < 256) : ∀ x ∈ lent l, 0 ≤ x ∧ x < 256 := by
  intro x hx
  unfold lent at hx
  rcases List.mem_append.1 hx with hx | hx
  · exact h x hx
  · obtain ⟨i, _, rfl⟩ := List.mem_map.1 hx
    exact mkB_byt _ _
theorem lent_take (l : List Int) : (lent l).take l.length = l := by simp [lent]
set_option maxHeartbeats 1000000 in
theorem lent_any (w : World) (v : Value) (l : List Int) (h : HB w v l) (hbig : l.length ≤ 140737488351232) :
    Calls Tryd.prog 17 #[v] w fun e w' => ∃ v', e = .returned v' ∧ w'.ownsRow w.heap.size 5 1 v' (lent l).length ((lent l).map (Value.int .u8)) ∧ Below w.heap.size w w' := by
  obtain ⟨p, c, e, hlc, hm⟩ := h.open
  unfold maxLen at hm
  have A : Hid (0 < l.length → ∃ b off, p = some ⟨b, off, none⟩ ∧ ∀ j, j < l.length → w.cell? ⟨b, off + j, none⟩ = some (.int .u8 (l.getD j 0))) := by
    intro h0
    obtain ⟨b, off, c', e', _, _, hh⟩ := h.ne h0
    rw [e] at e'
    simp only [Value.slice.injEq, true_and] at e'
    exact ⟨b, off, e'.1, hh⟩
  clear h
  subst e
  go_enter Tryd.func17, Tryd.ntmps17
  go_wp2
  go_loopw [3, 4] (fun o i wr => ∃ k : Nat, k ≤ l.length ∧ i = .int .i64 k ∧ Hid (wr.ownsRow w.heap.size 5 1 o k ((l.take k).map (Value.int .u8))) ∧ Hid (Below w.heap.size w wr)) (fun _ i _ => l.length - (intOf i).toNat)
  case atStart => exact ⟨0, Nat.zero_le _, rfl, World.ownsRow_nil _ _ _ _, Below.refl _ _⟩
  case round =>
    obtain ⟨k, hk, rfl, HO, HBw⟩ := hrel
    by_cases hlt : k < l.length
    · obtain ⟨b, off, rfl, hh⟩ := A.out (by omega)
      have hu0 := hh k hlt
      have hu := (HBw.out.cell (World.block_lt_of_cell? w _ hu0)).trans hu0
      have HS : Hid (l.take (k + 1) = l.take k ++ [l.getD k 0]) := by
        show _ = _
        rw [List.take_succ_eq_append_getElem hlt, getD_of_lt hlt]
      obtain ⟨x, HX⟩ : ∃ x, Hid (l.getD k 0 = x) := ⟨_, rfl⟩
      rw [HX.out] at hu HS
      clear hh hu0
      go_wp2_with (at_builtin; refine wpList_append_byte rfl _ _ rfl w.heap.size _ k _ rfl (HO.out.alloc _) ⟨wr.heap.size, 0, none⟩ 1 x rfl (by simp) ?q1 ?q2 ?_)
      case q1 => omega
      case q2 => have := HBw.out.size; simp; omega
      intro v' w2 hown2 hgr2 _
      have HO2 : Hid (w2.ownsRow w.heap.size 5 1 v' (k + 1) ((l.take (k + 1)).map (Value.int .u8))) := by
        rw [HS.out, List.map_append, List.map_take]
        exact hown2
      have HB2 := hid ((HBw.out.alloc HBw.out.size _).grown hgr2 (by have := HBw.out.size; simp; omega) (fun k e => (HO.out.lt k e).1))
      clear hown2 hgr2
      go_wp2
      exact ⟨⟨k + 1, by omega, by go_num, HO2, HB2⟩, by simp [intOf]; omega⟩
    · have hkl : k = l.length := by omega
      have HO' : Hid (wr.ownsRow w.heap.size 5 1 u3 (l.length + 0) ((lentTo l 0).map (Value.int .u8))) := by
        show World.ownsRow _ _ _ _ _ _ _
        have := HO.out
        rw [hkl, List.take_of_length_le (Nat.le_refl _)] at this
        simpa [lentTo] using this
      clear hkl
      go_wp2
      go_loopw [3, 5] (fun o i wz => ∃ m : Nat, m ≤ 70 ∧ i = .int .i64 m ∧ Hid (wz.ownsRow w.heap.size 5 1 o (l.length + m) ((lentTo l m).map (Value.int .u8))) ∧ Hid (Below w.heap.size w wz)) (fun _ i _ => 70 - (intOf i).toNat)
      case atStart => exact ⟨0, Nat.zero_le _, rfl, HO', HBw⟩
      case round =>
        clear HO' HBw HO
        obtain ⟨m, hm70, rfl, HO, HBw⟩ := hrel
        by_cases hlt2 : m < 70
        · have hlt3 : (m : Int) < 70 := by omega
          have HS := hid (lentTo_succ l m)
          go_wp2_with fail
          have e1 : ((l.length : Int) + (m : Int)) = ((l.length + m : Nat) : Int) := by omega
          rw [e1]
          refine (mark_any wr 0 (l.length + m) (by omega) (by omega)).mono ?_
          rintro e wz ⟨rfl, hw⟩
          have hw' := hw.symm
          subst hw'
          clear hw e1
          go_wp2_with (at_builtin; refine wpList_append_byte rfl _ _ rfl w.heap.size _ (l.length + m) _ rfl (HO.out.alloc _) ⟨wr.heap.size, 0, none⟩ 1 (mkB 0 (l.length + m)) rfl (by simp) ?q1 ?q2 ?_)
          case q1 => omega
          case q2 => have := HBw.out.size; simp; omega
          intro v' w2 hown2 hgr2 _
          have HO2 : Hid (w2.ownsRow w.heap.size 5 1 v' (l.length + (m + 1)) ((lentTo l (m + 1)).map (Value.int .u8))) := by
            rw [HS.out, List.map_append]
            exact hown2
          have HB2 := hid ((HBw.out.alloc HBw.out.size _).grown hgr2 (by have := HBw.out.size; simp; omega) (fun k e => (HO.out.lt k e).1))
          clear hown2 hgr2
          go_wp2
          exact ⟨⟨m + 1, by omega, by go_num, HO2, HB2⟩, by simp [intOf]; omega⟩
        · have e70 : m = 70 := by omega
          subst e70
          go_wp2
          go_ret
          refine ⟨_, rfl, ?_, HBw.out⟩
          rw [lent_length]
          exact HO.out
set_option maxHeartbeats 400000 in
theorem kept_any (w : World) (vf vl : Value) (fl l : List Int) (hf : HB w vf fl) (hl : HB w vl l) (hbig : l.length ≤ 140737488351232) :
    Calls Tryd.prog 19 #[vf, vl] w fun e w' => e = .returned (.bool (decide (fl = lent l))) ∧ Below w.heap.size w w' := by
  have HF := hid hf
  have HLl := hid hl
  obtain ⟨p1, c1, rfl, _, _⟩ := hf.open
  obtain ⟨p2, c2, rfl, _, _⟩ := hl.open
  clear hf hl
  go_enter Tryd.func19, Tryd.ntmps19
  go_wp2_with fail
  refine (lent_any w _ l HLl.out hbig).mono ?_
  rintro e w1 ⟨v1, rfl, hown, hB⟩
  have H1 := hid (HB.of_own hown (lent_byt HLl.out.2))
  have HF1 := hid (HF.out.below hB)
  have B1 := hid hB
  obtain ⟨p3, c3, e3, _, _⟩ := H1.out.open
  clear hown hB
  subst e3
  obtain ⟨ll, HLL⟩ : ∃ ll, Hid (lent l = ll) := ⟨_, rfl⟩
  rw [HLL.out] at H1 ⊢
  go_wp2_with fail
  refine (sameBytes_any w1 _ _ fl ll HF1.out H1.out).mono ?_
  rintro e w2 ⟨rfl, hD⟩
  have B2 := hid (B1.out.trans (hD.below _))
  obtain ⟨z, HZ⟩ : ∃ z, Hid (decide (fl = ll) = z) := ⟨_, rfl⟩
  rw [HZ.out]
  clear hD
  go_wp2
  go_ret
  exact ⟨by rw [HLL.out, HZ.out]; rfl, B2.out⟩
set_option maxHeartbeats 1000000 in
theorem over_any (w : World) (B : Nat) (v : Value) (n : Nat) (xs : List Value) (h : w.ownsRow B 5 1 v n xs) (hn : n ≤ 140737488355328) :
    Calls Tryd.prog 20 #[v] w fun e w' => e = .returned (.tuple #[]) ∧ (∃ ys, w'.ownsRow B 5 1 v n ys) ∧ w.grownBy w' v.ownBlock := by
  rcases h.2 with ⟨rfl, rfl⟩ | ⟨g, cap, cur, rfl, hbg, hg, hnc, hcm, hcs, htake⟩
  · go_enter Tryd.func20, Tryd.ntmps20
    go_wp2
    go_loop [2] (fun i => i = .int .i64 0) (fun _ => 0)
    case atStart => rfl
    case round =>
      subst hrel
      go_wp2
      go_end0
      exact ⟨rfl, ⟨xs, h⟩, ⟨rfl, rfl, rfl, Nat.le_refl _, fun _ _ _ => rfl⟩⟩
  · have HO := hid h
    clear h hg htake hcs hbg
    unfold maxLen at hcm
    go_enter Tryd.func20, Tryd.ntmps20
    go_wp2
    go_loopw [2] (fun i wr => ∃ k : Nat, k ≤ n ∧ i = .int .i64 k ∧ Hid (∃ ys, wr.ownsRow B 5 1 (.slice (some ⟨g, 0, none⟩) n cap) n ys) ∧ Hid (w.grownBy wr (some g))) (fun i _ => n - (intOf i).toNat)
    case atStart => exact ⟨0, Nat.zero_le _, rfl, ⟨_, HO.out⟩, ⟨rfl, rfl, rfl, Nat.le_refl _, fun _ _ _ => rfl⟩⟩
    case round =>
      obtain ⟨k, hk, rfl, HY, HG⟩ := hrel
      by_cases hlt : k < n
      · obtain ⟨ys, hy⟩ := HY.out
        have hc := hy.cellAt k (by omega)
        have hfz := hy.frozenAt k
        obtain ⟨z, hz⟩ : ∃ z, ys[k]? = some z := ⟨_, List.getElem?_eq_getElem (by have := hy.1; omega)⟩
        rw [hz] at hc
        have HYY := hid hy
        clear hz hy
        go_wp2_with fail
        have e1 : ((k : Int) + 3) = ((k + 3 : Nat) : Int) := by omega
        rw [e1]
        refine (mark_any wr 7 (k + 3) (by omega) (by omega)).mono ?_
        rintro e wz ⟨rfl, hw⟩
        have hw' := hw.symm
        subst hw'
        clear hw e1
        go_wp2
        exact ⟨⟨k + 1, by omega, by go_num, ⟨_, (HYY.out.stored k _).1⟩, ⟨HG.out.os, HG.out.tape, HG.out.output, by simpa using HG.out.size, fun i hi hne => by
          rw [heap_setCell_other _ _ _ _ (fun e => hne (by simp [e]))]
          exact HG.out.block i hi hne⟩⟩, by simp [intOf]; omega⟩
      · go_wp2
        go_end0
        exact ⟨rfl, HY.out, HG.out⟩
theorem own_mono {w : World} {B B' e n : Nat} {v : Value} {xs : List Value} (h : w.ownsRow B e 1 v n xs) (hb : B' ≤ B) : w.ownsRow B' e 1 v n xs := by
  refine ⟨h.1, ?_⟩
  rcases h.2 with h2 | ⟨g, cap, cur, h1, h2, h3⟩
  · exact .inl h2
  · exact .inr ⟨g, cap, cur, h1, Nat.le_trans hb h2, h3⟩
theorem own_slc {w : World} {B n : Nat} {e : TypeId} {v : Value} {xs : List Value} (h : w.ownsRow B e 1 v n xs) : ∃ p c, v = .slice p n c := by
  rcases h.2 with ⟨rfl, rfl⟩ | ⟨g, cap, cur, rfl, _⟩
  · exact ⟨none, 0, rfl⟩
  · exact ⟨_, _, rfl⟩
theorem none_or (z : Option Nat) : z = none ∨ z ≠ none := by cases z <;> simp
theorem own_below {w w' : World} {B n : Nat} {e : TypeId} {v : Value} {xs : List Value} (h : w.ownsRow B e 1 v n xs) (hb : Below w.heap.size w w') : w'.ownsRow B e 1 v n xs :=
  h.kept ⟨hb.os, hb.tape, hb.output, hb.size, fun k hk _ => hb.block k hk⟩ (none_or _)
theorem own_ne {w w' : World} {B B' n n' : Nat} {e e' : TypeId} {v v' : Value} {xs xs' : List Value} (h : w.ownsRow B e 1 v n xs) (h' : w'.ownsRow B' e' 1 v' n' xs') (hb : w.heap.size ≤ B') :
    (v.ownBlock = none ∨ v.ownBlock ≠ v'.ownBlock) ∧ (v'.ownBlock = none ∨ v'.ownBlock ≠ v.ownBlock) := by
  constructor
  · rcases none_or v.ownBlock with q | q
    · exact .inl q
    · refine .inr fun e => ?_
      obtain ⟨k, hk⟩ := Option.ne_none_iff_exists'.1 q
      have h1 := h.lt k hk
      have h2 := h'.lt k (e ▸ hk)
      omega
  · rcases none_or v'.ownBlock with q | q
    · exact .inl q
    · refine .inr fun e => ?_
      obtain ⟨k, hk⟩ := Option.ne_none_iff_exists'.1 q
      have h1 := h'.lt k hk
      have h2 := h.lt k (e ▸ hk)
      omega
theorem info_bytes : (Tryd.prog.info? 32).map (fun i => (i.zero, i.size, i.bytes)) = some (some (.slice none 0 0), 1, 24) := by kernel_rfl
def BytI (l : List Int) : Prop := ∀ x ∈ l, 0 ≤ x ∧ x < 256
def EL (w0 w : World) (u : Value) (l : List Int) : Prop :=
  (w.ownsRow w0.heap.size 5 1 u l.length (l.map (Value.int .u8)) ∧ BytI l) ∨ HB w0 u l
def OWL (w0 w : World) (v : Value) (ls : List (List Int)) : Prop :=
  ∃ xs, w.ownsRow w0.heap.size 32 1 v ls.length xs ∧ ∀ j, j < ls.length → EL w0 w (xs.getD j undef) (ls.getD j [])
theorem EL.hb {w0 w : World} {u : Value} {l : List Int} (h : EL w0 w u l) (hb : Below w0.heap.size w0 w) : HB w u l := by
  rcases h with ⟨h, hx⟩ | h
  · exact HB.of_own h hx
  · exact h.below hb
theorem own_block_ne {w : World} {B e n : Nat} {v : Value} {xs : List Value} (h : w.ownsRow B e 1 v n xs) {g : Nat} {cur : Array Value} {e' : TypeId} {fz : Nat × Nat} (hg : w.heap[g]? = some (.cells cur e' fz)) (hne : e ≠ e') : v.ownBlock ≠ some g := by
  intro hv
  rcases h.2 with ⟨rfl, _⟩ | ⟨g', cap, cur', rfl, _, hh, _⟩
  · simp [Value.ownBlock] at hv
  · simp only [Value.ownBlock, Option.some.injEq] at hv
    subst hv
    rw [hh] at hg
    simp only [Option.some.injEq, Obj.cells.injEq] at hg
    exact hne hg.2.1
theorem EL.grown {w0 w w' : World} {u : Value} {l : List Int} {row : Option Nat} (h : EL w0 w u l) (hg : w.grownBy w' row) (hr : ∀ g, row = some g → ∃ cur e fz, w.heap[g]? = some (.cells cur e fz) ∧ 5 ≠ e) : EL w0 w' u l := by
  rcases h with ⟨h, hx⟩ | h
  · refine .inl ⟨h.kept hg ?_, hx⟩
    cases hrow : row with
    | none =>
      cases hv : u.ownBlock with
      | none => exact .inl rfl
      | some k => exact .inr (by simp)
    | some g =>
      obtain ⟨cur, e, fz, hh, hne⟩ := hr g hrow
      exact .inr (own_block_ne h hh hne)
  · exact .inr h
theorem OWL.grown {w0 w w' : World} {v : Value} {ls : List (List Int)} {row : Option Nat} (h : OWL w0 w v ls) (hg : w.grownBy w' row) (hr : ∀ g, row = some g → ∃ cur e fz, w.heap[g]? = some (.cells cur e fz) ∧ 5 ≠ e ∧ 32 ≠ e) : OWL w0 w' v ls := by
  obtain ⟨xs, h1, h2⟩ := h
  refine ⟨xs, h1.kept hg ?_, fun j hj => (h2 j hj).grown hg fun g e => ?_⟩
  · cases hrow : row with
    | none =>
      cases hv : v.ownBlock with
      | none => exact .inl rfl
      | some k => exact .inr (by simp)
    | some g =>
      obtain ⟨cur, e, fz, hh, _, hne⟩ := hr g hrow
      exact .inr (own_block_ne h1 hh hne)
  · obtain ⟨cur, e', fz, hh, hne, _⟩ := hr g e
    exact ⟨cur, e', fz, hh, hne⟩
theorem OWL.below {w0 w w' : World} {v : Value} {ls : List (List Int)} (h : OWL w0 w v ls) (hb : Below w.heap.size w w') : OWL w0 w' v ls :=
  h.grown (row := none) ⟨hb.os, hb.tape, hb.output, hb.size, fun k hk _ => hb.block k hk⟩ (fun g e => by cases e)
theorem OWL.hl {w0 w : World} {v : Value} {ls : List (List Int)} (h : OWL w0 w v ls) (hb : Below w0.heap.size w0 w) : HL w v ls := by
  obtain ⟨xs, h1, h2⟩ := h
  by_cases h0 : 0 < ls.length
  · obtain ⟨g, cap, rfl, _, hn, hm, hc⟩ := ownsRow_cells h1 h0
    refine ⟨_, cap, rfl, hn, hm, (fun e => by cases e), fun _ => ⟨g, 0, rfl, fun j hj => ⟨xs.getD j undef, ?_, (h2 j hj).hb hb⟩⟩⟩
    have hx : xs.length = ls.length := by have := h1.1; omega
    exact hc j _ (by simp [List.getD, List.getElem?_eq_getElem (show j < xs.length by omega)])
  · have e : ls = [] := List.length_eq_zero_iff.1 (by omega)
    subst e
    rcases h1.2 with ⟨rfl, _⟩ | ⟨g, cap, cur, rfl, _, _, hn, hm, _⟩
    · exact HL.nil _
    · exact ⟨_, cap, rfl, hn, hm, (fun e => by cases e), fun h => absurd rfl h⟩
theorem OWL.nil (w0 w : World) : OWL w0 w (.slice none 0 0) [] := ⟨[], World.ownsRow_nil _ _ _ _, fun j hj => by simp at hj⟩
theorem getD_app {α : Type} (l m : List α) (d : α) (j : Nat) : (l ++ m).getD j d = if j < l.length then l.getD j d else m.getD (j - l.length) d := by
  simp only [List.getD, List.getElem?_append]
  split <;> rfl
theorem wpList_append_OWL {w0 w : World} {ops : Array Oper} {rest : List Oper} {o : Oper} {a : Act} {Q : Exit → Act → World → Prop} (hgd : o.guard = none) (s x : Operand)
    (ho : o.op = .call { callee := .builtin .append, args := #[s, x], argTypes := #[27, 27] })
    (v : Value) (ls : List (List Int)) (hs : a.eval s = v) (hown : OWL w0 w v ls)
    (ad : Addr) (m c : Nat) (us : List Value) (ns : List (List Int)) (hx : a.eval x = .slice (some ad) m c) (hl : us.length = m) (hn : ns.length = m) (hcell : ∀ j u, us[j]? = some u → w.cell? (ad.add j) = some u)
    (hu : ∀ j, j < m → EL w0 w (us.getD j undef) (ns.getD j [])) (h1 : ∀ u ∈ us, u.oneCell' = true)
    (hbytes : (ls.length + m) * 24 ≤ 140737488355328) (hbase : w0.heap.size ≤ w.heap.size)
    (h : ∀ v' w', OWL w0 w' v' (ls ++ ns) → w.grownBy w' v.ownBlock → (∀ g, v.ownBlock = some g → w0.heap.size ≤ g ∧ BT w g 32) → wpList Tryd.prog ops Q rest (a.put o.dst v') w') : wpList Tryd.prog ops Q (o :: rest) a w := by
  obtain ⟨i0, hi, hz0, hz1, hz2⟩ := info_parts info_bytes
  obtain ⟨xs, hrow, hel⟩ := hown
  have hblk : ∀ g, v.ownBlock = some g → w0.heap.size ≤ g ∧ BT w g 32 := by
    intro g hg
    refine ⟨(hrow.lt g hg).1, ?_⟩
    rcases hrow.2 with ⟨rfl, _⟩ | ⟨g', cap, cur, rfl, _, hh, _⟩
    · simp [Value.ownBlock] at hg
    · simp only [Value.ownBlock, Option.some.injEq] at hg
      subst hg
      exact ⟨cur, _, hh⟩
  refine wpList_append_own w hgd s x 27 ho w0.heap.size 32 i0 (.slice none 0 0) 1 24 Tryd.underlying27 hi hz0 hz1 hz2 rfl (by decide) v ls.length xs hs hrow ad m c us hx (by omega) hcell h1 (by unfold maxLen; omega) hbytes hbase (fun v' w' h2 h3 _ => h v' w' ?_ h3 hblk)
  refine ⟨xs ++ us, by rw [List.length_append, hn]; exact h2, fun j hj => ?_⟩
  have key : ∀ u l, EL w0 w u l → EL w0 w' u l := fun u l he => he.grown h3 fun g hg => by
    obtain ⟨_, cur, fz, hh⟩ := hblk g hg
    exact ⟨cur, _, fz, hh, by decide⟩
  have hxl : xs.length = ls.length := by have := hrow.1; omega
  rw [getD_app, getD_app, hxl]
  rw [List.length_append] at hj
  split
  · exact key _ _ (hel j ‹_›)
  · exact key _ _ (hu _ (by omega))
theorem takel_eq_step (la lb : List (List Int)) (k : Nat) (ha : k < la.length) (hb : k < lb.length) (h : la.take k = lb.take k) (e : la.getD k [] = lb.getD k []) : la.take (k + 1) = lb.take (k + 1) := by
  rw [List.take_succ_eq_append_getElem ha, List.take_succ_eq_append_getElem hb, h]
  have e1 : la.getD k [] = la[k] := by simp [List.getD, List.getElem?_eq_getElem ha]
  have e2 : lb.getD k [] = lb[k] := by simp [List.getD, List.getElem?_eq_getElem hb]
  rw [e1, e2] at e
  rw [e]
set_option maxHeartbeats 400000 in
theorem sameLists_any (w : World) (va vb : Value) (la lb : List (List Int)) (ha : HL w va la) (hb : HL w vb lb) :
    Calls Tryd.prog 13 #[va, vb] w fun e w' => e = .returned (.bool (decide (la = lb))) ∧ Dr w w' := by
  by_cases hlen : la.length = lb.length
  · by_cases h0 : 0 < la.length
    · obtain ⟨b1, o1, c1, rfl, hc1, hm1, hk1⟩ := ha.ne h0
      obtain ⟨b2, o2, c2, rfl, hc2, hm2, hk2⟩ := hb.ne (by omega)
      unfold maxLen at hm1 hm2
      have hm : la.length ≤ 9223372036854775807 := by omega
      have HL : Hid (la.length = lb.length) := hlen
      rw [← hlen]
      have hcd : ∀ j, j < la.length → ∃ u, w.cell? ⟨b2, o2 + j, none⟩ = some u ∧ HB w u (lb.getD j []) := fun j hj => hk2 j (by omega)
      clear hlen hk2
      go_enter Tryd.func13, Tryd.ntmps13
      go_wp2
      go_loopw [5] (fun i wr => ∃ k : Nat, k ≤ la.length ∧ i = .int .i64 k ∧ la.take k = lb.take k ∧ Dr w wr) (fun i _ => la.length - (intOf i).toNat)
      case atStart => exact ⟨0, Nat.zero_le _, rfl, rfl, Dr.refl _⟩
      case round =>
        obtain ⟨k, hk, rfl, ht, hD⟩ := hrel
        have HD := hid hD
        clear hD
        by_cases hlt : k < la.length
        · obtain ⟨u1, g1, e1⟩ := hk1 k hlt
          obtain ⟨u2, g2, e2⟩ := hcd k hlt
          replace g1 := (HD.out.cell _).trans g1
          replace g2 := (HD.out.cell _).trans g2
          replace e1 := e1.dr HD.out
          replace e2 := e2.dr HD.out
          obtain ⟨x, HX⟩ : ∃ x, Hid (la.getD k [] = x) := ⟨_, rfl⟩
          obtain ⟨y, HY⟩ : ∃ y, Hid (lb.getD k [] = y) := ⟨_, rfl⟩
          rw [HX.out] at e1
          rw [HY.out] at e2
          obtain ⟨p1, c1', r1, _, _⟩ := e1.open
          obtain ⟨p2, c2', r2, _, _⟩ := e2.open
          subst r1 r2
          have E1 := hid e1
          have E2 := hid e2
          clear hk1 hcd e1 e2
          by_cases he : x = y
          · have hne : decide (x = y) = true := by simpa using he
            have HE := hid he
            clear he
            go_wp2
            go_quiet ((go_at_call 38; exact Calls.quiet_of (sameBytes_any _ _ _ x y (E1.out.later fun _ _ hx => hx) (E2.out.later fun _ _ hx => hx))))
            go_wp2
            exact ⟨⟨k + 1, by omega, by go_num, takel_eq_step la lb k hlt (by have := HL.out; omega) ht (by rw [HX.out, HY.out, HE.out]), HD.out.drewN _⟩, by simp [intOf]; omega⟩
          · have hne : decide (x = y) = false := by simpa using he
            go_wp2
            go_quiet ((go_at_call 38; exact Calls.quiet_of (sameBytes_any _ _ _ x y (E1.out.later fun _ _ hx => hx) (E2.out.later fun _ _ hx => hx))))
            go_wp2
            go_ret
            exact ⟨by rw [decide_eq_false (fun h => he ((HX.out.symm.trans (congrArg (fun z => List.getD z k []) h)).trans HY.out))]; rfl, HD.out.drewN _⟩
        · go_wp2
          go_ret
          have e : la = lb := by
            have h1 := List.take_of_length_le (show la.length ≤ k by omega)
            have h2 := List.take_of_length_le (show lb.length ≤ k by have := HL.out; omega)
            rw [← h1, ← h2, ht]
          exact ⟨by simp [e], HD.out⟩
    · obtain ⟨p1, c1, rfl, _, _⟩ := ha.open
      obtain ⟨p2, c2, rfl, _, _⟩ := hb.open
      have e1 : la = [] := List.length_eq_zero_iff.1 (by omega)
      have e2 : lb = [] := List.length_eq_zero_iff.1 (by omega)
      subst e1 e2
      go_enter Tryd.func13, Tryd.ntmps13
      go_wp2
      go_loop [5] (fun i => i = .int .i64 0) (fun _ => 0)
      case atStart => rfl
      case round =>
        subst hrel
        go_wp2
        go_ret
        exact ⟨rfl, Dr.refl _⟩
  · obtain ⟨p1, c1, rfl, _, _⟩ := ha.open
    obtain ⟨p2, c2, rfl, _, _⟩ := hb.open
    have hne : ((la.length : Int) != (lb.length : Int)) = true := by rw [bne_iff_ne]; omega
    go_enter Tryd.func13, Tryd.ntmps13
    go_wp2
    go_ret
    exact ⟨by simp [show la ≠ lb from fun e => hlen (by rw [e])], Dr.refl _⟩
set_option maxHeartbeats 1000000 in
theorem over_byt (w : World) (B : Nat) (v : Value) (l : List Int) (h : w.ownsRow B 5 1 v l.length (l.map (Value.int .u8))) (hl : ∀ x ∈ l, 0 ≤ x ∧ x < 256) (hn : l.length ≤ 140737488355328) :
    Calls Tryd.prog 20 #[v] w fun e w' => e = .returned (.tuple #[]) ∧ (∃ l' : List Int, l'.length = l.length ∧ (∀ x ∈ l', 0 ≤ x ∧ x < 256) ∧ w'.ownsRow B 5 1 v l.length (l'.map (Value.int .u8))) ∧ w.grownBy w' v.ownBlock := by
  obtain ⟨n, hnl⟩ : ∃ n, n = l.length := ⟨_, rfl⟩
  rw [← hnl] at h hn ⊢
  rcases h.2 with ⟨rfl, h0⟩ | ⟨g, cap, cur, rfl, hbg, hg, hnc, hcm, hcs, htake⟩
  · subst h0
    clear hnl h
    go_enter Tryd.func20, Tryd.ntmps20
    go_wp2
    go_loop [2] (fun i => i = .int .i64 0) (fun _ => 0)
    case atStart => rfl
    case round =>
      subst hrel
      go_wp2
      go_end0
      exact ⟨rfl, World.ownsRow_nil _ _ _ _, ⟨rfl, rfl, rfl, Nat.le_refl _, fun _ _ _ => rfl⟩⟩
  · have HO : Hid (∃ l' : List Int, l'.length = n ∧ (∀ x ∈ l', 0 ≤ x ∧ x < 256) ∧ w.ownsRow B 5 1 (.slice (some ⟨g, 0, none⟩) n cap) n (l'.map (Value.int .u8))) := ⟨l, hnl.symm, hl, h⟩
    clear h hg htake hcs hbg hl hnl
    unfold maxLen at hcm
    go_enter Tryd.func20, Tryd.ntmps20
    go_wp2
    go_loopw [2] (fun i wr => ∃ k : Nat, k ≤ n ∧ i = .int .i64 k ∧ Hid (∃ l' : List Int, l'.length = n ∧ (∀ x ∈ l', 0 ≤ x ∧ x < 256) ∧ wr.ownsRow B 5 1 (.slice (some ⟨g, 0, none⟩) n cap) n (l'.map (Value.int .u8))) ∧ Hid (w.grownBy wr (some g))) (fun i _ => n - (intOf i).toNat)
    case atStart => exact ⟨0, Nat.zero_le _, rfl, HO, ⟨rfl, rfl, rfl, Nat.le_refl _, fun _ _ _ => rfl⟩⟩
    case round =>
      clear HO
      obtain ⟨k, hk, rfl, HY, HG⟩ := hrel
      by_cases hlt : k < n
      · obtain ⟨l', hl', hby', hy⟩ := HY.out
        have hc := hy.cellAt k (by omega)
        have hfz := hy.frozenAt k
        obtain ⟨z, hz⟩ : ∃ z, (l'.map (Value.int .u8))[k]? = some z := ⟨_, List.getElem?_eq_getElem (by rw [List.length_map]; omega)⟩
        rw [hz] at hc
        have HYY := hid hy
        have HL' := hid hl'
        have HBY := hid hby'
        clear hz hy hl' hby' HY
        go_wp2_with fail
        have e1 : ((k : Int) + 3) = ((k + 3 : Nat) : Int) := by omega
        rw [e1]
        refine (mark_any wr 7 (k + 3) (by omega) (by omega)).mono ?_
        rintro e wz ⟨rfl, hw⟩
        have hw' := hw.symm
        subst hw'
        clear hw e1
        go_wp2
        refine ⟨⟨k + 1, by omega, by go_num, ⟨l'.set k (mkB 7 (k + 3)), by rw [List.length_set]; exact HL'.out, fun x hx => ?_, by rw [List.map_set]; exact (HYY.out.stored k _).1⟩, ⟨HG.out.os, HG.out.tape, HG.out.output, by simpa using HG.out.size, fun i hi hne => by
          rw [heap_setCell_other _ _ _ _ (fun e => hne (by simp [e]))]
          exact HG.out.block i hi hne⟩⟩, by simp [intOf]; omega⟩
        rcases List.mem_or_eq_of_mem_set hx with h1 | h1
        · exact HBY.out x h1
        · rw [h1]; exact mkB_byt _ _
      · go_wp2
        go_end0
        exact ⟨rfl, HY.out, HG.out⟩
end Go.Proofs.YtinahldjpobigaaDoor
