/- Of the road to shaCallsUptoCard_holds: ScA, LentLists2, KeptLists2, ShaTurn, Arrays, ShaWords, ShaSched, ShaMix, ShaInit. -/
import Derived.Test.YtinahldjpobigaaDoorG00
import Derived.Deep.AppendLies
import Derived.Deep.RegionHeld3
import Derived.Deep.RegionLaw
import Derived.Deep.DrawnRows
import Derived.Laws.BitsAllLaws
import Derived.Deep.MidRow
import Derived.BigRegion
set_option linter.unusedVariables false
set_option linter.unusedSimpArgs false
namespace Go.Proofs.YtinahldjpobigaaDoor
open Go Go.RowKit
structure DP (B : Nat) (w : World) (v1 v2 : Value) (x1 x2 : List Value) (l1 l2 : List (List Int)) : Prop where
  r1 : w.ownsRow B 32 1 v1 l1.length x1
  r2 : w.ownsRow B 32 1 v2 l2.length x2
  a1 : Apt B w x1 l1
  a2 : Apt B w x2 l2
  b1 : ∀ j, j < l1.length → BytI (l1.getD j [])
  b2 : ∀ j, j < l2.length → BytI (l2.getD j [])
  ne : v1.ownBlock = none ∨ v1.ownBlock ≠ v2.ownBlock
section
variable {B : Nat} {w w' : World} {v1 v2 : Value} {x1 x2 : List Value} {l1 l2 : List (List Int)}
theorem own_blkD {w w1 : World} {B n : Nat} {e : TypeId} {v : Value} {xs : List Value} (h : w.ownsRow B e 1 v n xs) (hb : ∀ k, v.ownBlock = some k → w1.heap[k]? = w.heap[k]?) : w1.ownsRow B e 1 v n xs := by
  refine ⟨h.1, ?_⟩
  rcases h.2 with hn | ⟨g, cap, cur, rfl, h1, h2, rest⟩
  · exact .inl hn
  · exact .inr ⟨g, cap, cur, rfl, h1, (hb g rfl).trans h2, rest⟩
theorem apt_blk {B : Nat} {w w1 : World} {us : List Value} {ls : List (List Int)} (h : Apt B w us ls) (hb : ∀ j k, j < us.length → (us.getD j undef).ownBlock = some k → w1.heap[k]? = w.heap[k]?) : Apt B w1 us ls :=
  ⟨h.1, fun k hk => own_blkD (h.2.1 k hk) fun q e => hb k q hk e, h.2.2⟩
theorem DP.nil (B : Nat) (w : World) : DP B w (.slice none 0 0) (.slice none 0 0) [] [] [] [] :=
  ⟨World.ownsRow_nil _ _ _ _, World.ownsRow_nil _ _ _ _, ⟨rfl, fun j hj => by simp at hj, fun i j hi => by simp at hi⟩, ⟨rfl, fun j hj => by simp at hj, fun i j hi => by simp at hi⟩, fun j hj => by simp at hj, fun j hj => by simp at hj, .inl rfl⟩
theorem DP.swap (h : DP B w v1 v2 x1 x2 l1 l2) : DP B w v2 v1 x2 x1 l2 l1 :=
  ⟨h.r2, h.r1, h.a2, h.a1, h.b2, h.b1, by
    cases e : v2.ownBlock with
    | none => exact .inl rfl
    | some k =>
      refine .inr fun q => ?_
      rcases h.ne with r | r
      · rw [r] at q; cases q
      · exact r (q.symm.trans e.symm)⟩
theorem DP.below (h : DP B w v1 v2 x1 x2 l1 l2) (hb : Below w.heap.size w w') : DP B w' v1 v2 x1 x2 l1 l2 :=
  ⟨own_blkD h.r1 fun k e => hb.block _ (h.r1.lt k e).2, own_blkD h.r2 fun k e => hb.block _ (h.r2.lt k e).2, apt_blk h.a1 fun j k hj e => hb.block _ ((h.a1.2.1 j hj).lt k e).2, apt_blk h.a2 fun j k hj e => hb.block _ ((h.a2.2.1 j hj).lt k e).2, h.b1, h.b2, h.ne⟩
theorem DP.fresh (h : DP B w v1 v2 x1 x2 l1 l2) {u : Value} (hu : ∀ k, u.ownBlock = some k → w.heap.size ≤ k) : ∀ j, j < x1.length → u.ownBlock = none ∨ u.ownBlock ≠ (x1.getD j undef).ownBlock := fun j hj => by
  cases e : u.ownBlock with
  | none => exact .inl rfl
  | some k =>
    refine .inr fun q => ?_
    have := hu k e
    have := ((h.a1.2.1 j hj).lt k q.symm).2
    omega
theorem own_block_neD {w : World} {B n : Nat} {e t : TypeId} {v : Value} {xs : List Value} {k : Nat} (h : w.ownsRow B e 1 v n xs) (hb : ∃ cur fz, w.heap[k]? = some (.cells cur t fz)) (hne : e ≠ t) : v.ownBlock ≠ some k := fun q => by
  obtain ⟨cur, fz, hh⟩ := hb
  exact own_block_ne h hh hne q
theorem own_mono4D {w : World} {B B' n : Nat} {e : TypeId} {v : Value} {xs : List Value} (h : w.ownsRow B e 1 v n xs) (hb : B' ≤ B) : w.ownsRow B' e 1 v n xs := by
  obtain ⟨h1, h2⟩ := h
  rcases h2 with h2 | ⟨g, cap, cur, rfl, hg, rest⟩
  · exact ⟨h1, .inl h2⟩
  · exact ⟨h1, .inr ⟨g, cap, cur, rfl, by omega, rest⟩⟩
theorem DP.push (h : DP B w v1 v2 x1 x2 l1 l2) {u : Value} {l : List Int} (hu : w.ownsRow B 5 1 u l.length (l.map (Value.int .u8))) (hl : BytI l) (hd : ∀ j, j < x1.length → u.ownBlock = none ∨ u.ownBlock ≠ (x1.getD j undef).ownBlock) {o : Obj} {v' : Value}
    (hr : w'.ownsRow B 32 1 v' (l1.length + 1) (x1 ++ [u])) (hg : (w.alloc o).grownBy w' v1.ownBlock) (hw : v'.ownBlock = v1.ownBlock ∨ v'.ownBlock = some (w.heap.size + 1)) :
    DP B w' v' v2 (x1 ++ [u]) x2 (l1 ++ [l]) l2 := by
  have nb : ∀ b, b < w.heap.size → v1.ownBlock ≠ some b → w'.heap[b]? = w.heap[b]? := fun b hb hn => (hg.block b (by simp; omega) fun e => hn e.symm).trans (Below.heap_alloc _ _ _ hb)
  have by8 : ∀ {n xs} {v : Value}, w.ownsRow B 5 1 v n xs → ∀ k, v.ownBlock = some k → w'.heap[k]? = w.heap[k]? := fun {n xs v} ho k e => by
    refine nb k (ho.lt k e).2 fun q => ?_
    obtain ⟨g, cap, cur, e1, _, hh, _⟩ : ∃ g cap cur, v = .slice (some ⟨g, 0, none⟩) n cap ∧ B ≤ g ∧ w.heap[g]? = some (.cells cur 5 (0, 0)) ∧ True := by
      rcases ho.2 with ⟨rfl, _⟩ | ⟨g, cap, cur, rfl, z1, z2, _⟩
      · cases e
      · exact ⟨g, cap, cur, rfl, z1, z2, trivial⟩
    rw [e1] at e
    obtain rfl : g = k := by simpa [Value.ownBlock] using e
    exact own_block_neD h.r1 ⟨_, _, hh⟩ (by decide) q
  refine ⟨by rw [List.length_append, List.length_singleton]; exact hr, own_blkD h.r2 fun k e => nb k (h.r2.lt k e).2 fun q => ?_, ?_, apt_blk h.a2 fun j k hj e => by8 (h.a2.2.1 j hj) k e, fun j hj => ?_, h.b2, ?_⟩
  · rcases h.ne with r | r
    · rw [r] at q; cases q
    · exact r (q.trans e.symm)
  · exact (apt_blk h.a1 fun j k hj e => by8 (h.a1.2.1 j hj) k e).snoc (own_blkD hu fun k e => by8 hu k e) hd
  · rw [List.length_append, List.length_singleton] at hj
    by_cases q : j < l1.length
    · rw [getD_app, if_pos q]
      exact h.b1 j q
    · have : j = l1.length := by omega
      subst this
      simpa [List.getD] using hl
  · rcases hw with q | q
    · rw [q]; exact h.ne
    · rw [q]
      refine .inr fun e => ?_
      have := (h.r2.lt _ e.symm).2
      omega
theorem DP.owl {w0 : World} (h : DP w0.heap.size w v1 v2 x1 x2 l1 l2) : OWL w0 w v1 l1 := ⟨x1, h.r1, fun j hj => .inl ⟨h.a1.2.1 j (by rw [h.a1.1]; exact hj), h.b1 j hj⟩⟩
theorem DP.hv (h : DP B w v1 v2 x1 x2 l1 l2) : HV w v1 x1 := by
  have hx : x1.length = l1.length := h.a1.1
  rcases h.r1.2 with ⟨e, h0⟩ | ⟨g, cap, cur, e, _, hh, h3, h4, h5, h6⟩
  · refine ⟨none, 0, by rw [hx, h0]; exact e, by omega, Nat.zero_le _, fun hne => ?_⟩
    have : x1 = [] := List.eq_nil_of_length_eq_zero (by omega)
    exact absurd this hne
  · refine ⟨some ⟨g, 0, none⟩, cap, by rw [hx]; exact e, by omega, h4, fun _ => ⟨g, 0, rfl, ⟨cur, _, hh⟩, fun k hk => ?_⟩⟩
    rw [Nat.zero_add, cell_of_row _ _ _ _ _ _ hh]
    rw [Nat.mul_one] at h5 h6
    have : x1[k]? = cur[k]? := by rw [← h6, List.getElem?_take, if_pos (by omega)]; simp
    rw [← this, List.getElem?_eq_getElem hk]
    simp [List.getD, List.getElem?_eq_getElem hk]
end
end Go.Proofs.YtinahldjpobigaaDoor
namespace Go.Proofs.YtinahldjpobigaaDoor
open Go.RowKit
attribute [local go_sem ↓] Go.wp_at_zero Go.wp_at_succ
def LsV (B : Nat) (w : World) (O : Nat) (vF vE : Value) (fU eU : List Value) (ms : List (List Int)) : Prop :=
  (B < O ∧ w.heap[B]? = some (.cells #[.slice none 0 0, .slice none 0 0, .slice none 0 0] 69 (0, 0))) ∧ w.heap[O]? = some (.cells #[.slice none 0 0, vF, vE] 69 (0, 0)) ∧ w.ownsRow B 32 1 vF fU.length fU ∧ w.ownsRow B 32 1 vE ms.length eU ∧
    (∀ k, vF.ownBlock = some k → vE.ownBlock ≠ some k) ∧ Apt B w eU (ms.map lent) ∧
    ∀ j, j < fU.length → j < ms.length → ∃ p c, eU.getD j undef = .slice p ((ms.getD j []).length + 70) c ∧ fU.getD j undef = .slice p (ms.getD j []).length c
theorem LsV.block {B : Nat} {w : World} {O : Nat} {vF vE : Value} {fU eU : List Value} {ms : List (List Int)} (h : LsV B w O vF vE fU eU ms) : BT w O 69 := ⟨_, _, h.2.1⟩
theorem own_away {w w' : World} {B n : Nat} {e : TypeId} {v : Value} {xs : List Value} {row : Option Nat} (h : w.ownsRow B e 1 v n xs) (hg : w.grownBy w' row) (hr : ∀ k, row = some k → v.ownBlock ≠ some k) : w'.ownsRow B e 1 v n xs := by
  refine h.kept hg ?_
  cases hrow : row with
  | none => cases v.ownBlock <;> simp
  | some k => exact .inr (hr k hrow)
theorem LsV.away {B : Nat} {w w' : World} {O : Nat} {vF vE : Value} {fU eU : List Value} {ms : List (List Int)} {row : Option Nat} (h : LsV B w O vF vE fU eU ms) (hg : w.grownBy w' row) (hr : ∀ k, row = some k → k ≠ O ∧ vF.ownBlock ≠ some k ∧ vE.ownBlock ≠ some k ∧ k ≠ B ∧ ∃ e, BT w k e ∧ e ≠ 5) : LsV B w' O vF vE fU eU ms := by
  obtain ⟨h0, h1, h2, h3, h4, h5, h6⟩ := h
  refine ⟨⟨h0.1, by rw [hg.block B (Array.getElem?_eq_some_iff.1 h0.2).1 (fun e => (hr B e.symm).2.2.2.1 rfl)]; exact h0.2⟩, ?_, own_away h2 hg (fun k e => (hr k e).2.1), own_away h3 hg (fun k e => (hr k e).2.2.1), h4, h5.away hg (fun k e => (hr k e).2.2.2.2), h6⟩
  rw [hg.block O (Array.getElem?_eq_some_iff.1 h1).1 (fun e => (hr O e.symm).1 rfl)]
  exact h1
theorem LsV.below {B : Nat} {w w' : World} {O : Nat} {vF vE : Value} {fU eU : List Value} {ms : List (List Int)} (h : LsV B w O vF vE fU eU ms) (hb : Below w.heap.size w w') : LsV B w' O vF vE fU eU ms :=
  h.away (grown_below (r := none) hb) (fun k e => by cases e)
theorem LsV.each {B : Nat} {w w2 : World} {O : Nat} {vF vE vE' : Value} {fU eU : List Value} {ms : List (List Int)} {o : Obj} (h : LsV B w O vF vE fU eU ms) (hg : (w.alloc o).grownBy w2 vE.ownBlock) {u : Value} {x : List Int}
    (hu : w.ownsRow B 5 1 u (lent x).length ((lent x).map (Value.int .u8))) (hd : ∀ j, j < eU.length → u.ownBlock = none ∨ u.ownBlock ≠ (eU.getD j undef).ownBlock) (hle : fU.length ≤ ms.length)
    (hown : w2.ownsRow B 32 1 vE' (ms.length + 1) (eU ++ [u])) (hloc : vE'.ownBlock = vE.ownBlock ∨ vE'.ownBlock = some (w.heap.size + 1)) :
    w2.heap[O]? = some (.cells #[.slice none 0 0, vF, vE] 69 (0, 0)) ∧ LsV B (w2.setCell ⟨O, 2, none⟩ vE') O vF vE' fU (eU ++ [u]) (ms ++ [x]) := by
  have h' : LsV B (w.alloc o) O vF vE fU eU ms := h.away (World.grownBy_alloc w o none) (fun k e => by cases e)
  have hu' := hu.alloc o
  obtain ⟨h0, h1, h2, h3, h4, h5, h6⟩ := h'
  have bk : ∀ k, vE.ownBlock = some k → BT (w.alloc o) k 32 := own_BT h3
  have a2 := own_away h2 hg (fun k e => fun e2 => h4 k e2 e)
  have a5 := h5.away hg (fun k e => ⟨_, bk k e, by decide⟩)
  have au := own_away hu' hg (fun k e => by obtain ⟨cur, fz, hb⟩ := bk k e; exact own_block_ne hu' hb (by decide))
  have hb2 : w2.heap[O]? = some (.cells #[.slice none 0 0, vF, vE] 69 (0, 0)) := by
    rw [hg.block O (Array.getElem?_eq_some_iff.1 h1).1 (fun e => own_block_ne h3 h1 (by decide) e.symm)]
    exact h1
  have hB2 : w2.heap[B]? = some (.cells #[.slice none 0 0, .slice none 0 0, .slice none 0 0] 69 (0, 0)) := by
    rw [hg.block B (Array.getElem?_eq_some_iff.1 h0.2).1 (fun e => own_block_ne h3 h0.2 (by decide) e.symm)]
    exact h0.2
  have gs := grown_set w2 O 2 vE'
  have bO : BT w2 O 69 := ⟨_, _, hb2⟩
  refine ⟨hb2, ⟨h0.1, by rw [gs.block B (Array.getElem?_eq_some_iff.1 hB2).1 (by have := h0.1; simp; omega)]; exact hB2⟩, ?_, own_away a2 gs (fun k e => by cases e; exact own_block_ne a2 hb2 (by decide)), ?_, ?_, ?_, ?_⟩
  · rw [heap_setCell_same w2 O 2 _ _ vE' hb2]; rfl
  · rw [List.length_append, List.length_singleton]
    exact own_away hown gs (fun k e => by cases e; exact own_block_ne hown hb2 (by decide))
  · intro k hk e
    rcases hloc with h | h
    · rw [h] at e; exact h4 k hk e
    · rw [h] at e
      have := (h2.lt k hk).2
      simp at this e
      omega
  · rw [List.map_append]
    exact (a5.away gs (fun k e => by cases e; exact ⟨_, bO, by decide⟩)).snoc (own_away au gs (fun k e => by cases e; exact own_block_ne au hb2 (by decide))) hd
  · intro j hj hj2
    have hl : eU.length = ms.length := by have := h5.1; simpa using this
    rw [getD_app, getD_app, if_pos (by omega), if_pos (by omega)]
    exact h6 j hj (by omega)
theorem LsV.full {B : Nat} {w w2 : World} {O : Nat} {vF vE vF' : Value} {fU eU : List Value} {ms : List (List Int)} {o : Obj} (h : LsV B w O vF vE fU eU ms) (hg : (w.alloc o).grownBy w2 vF.ownBlock) {u : Value}
    (hu : fU.length < ms.length → ∃ p c, eU.getD fU.length undef = .slice p ((ms.getD fU.length []).length + 70) c ∧ u = .slice p (ms.getD fU.length []).length c)
    (hown : w2.ownsRow B 32 1 vF' (fU.length + 1) (fU ++ [u])) (hloc : vF'.ownBlock = vF.ownBlock ∨ vF'.ownBlock = some (w.heap.size + 1)) :
    w2.heap[O]? = some (.cells #[.slice none 0 0, vF, vE] 69 (0, 0)) ∧ LsV B (w2.setCell ⟨O, 1, none⟩ vF') O vF' vE (fU ++ [u]) eU ms := by
  have h' : LsV B (w.alloc o) O vF vE fU eU ms := h.away (World.grownBy_alloc w o none) (fun k e => by cases e)
  obtain ⟨h0, h1, h2, h3, h4, h5, h6⟩ := h'
  have bk : ∀ k, vF.ownBlock = some k → BT (w.alloc o) k 32 := own_BT h2
  have a3 := own_away h3 hg (fun k e => h4 k e)
  have a5 := h5.away hg (fun k e => ⟨_, bk k e, by decide⟩)
  have hb2 : w2.heap[O]? = some (.cells #[.slice none 0 0, vF, vE] 69 (0, 0)) := by
    rw [hg.block O (Array.getElem?_eq_some_iff.1 h1).1 (fun e => own_block_ne h2 h1 (by decide) e.symm)]
    exact h1
  have hB2 : w2.heap[B]? = some (.cells #[.slice none 0 0, .slice none 0 0, .slice none 0 0] 69 (0, 0)) := by
    rw [hg.block B (Array.getElem?_eq_some_iff.1 h0.2).1 (fun e => own_block_ne h2 h0.2 (by decide) e.symm)]
    exact h0.2
  have gs := grown_set w2 O 1 vF'
  have bO : BT w2 O 69 := ⟨_, _, hb2⟩
  refine ⟨hb2, ⟨h0.1, by rw [gs.block B (Array.getElem?_eq_some_iff.1 hB2).1 (by have := h0.1; simp; omega)]; exact hB2⟩, ?_, ?_, own_away a3 gs (fun k e => by cases e; exact own_block_ne a3 hb2 (by decide)), ?_, a5.away gs (fun k e => by cases e; exact ⟨_, bO, by decide⟩), ?_⟩
  · rw [heap_setCell_same w2 O 1 _ _ vF' hb2]; rfl
  · rw [List.length_append, List.length_singleton]
    exact own_away hown gs (fun k e => by cases e; exact own_block_ne hown hb2 (by decide))
  · intro k hk e
    rcases hloc with h | h
    · rw [h] at hk; exact h4 k hk e
    · rw [h] at hk
      have := (h3.lt k e).2
      simp at this hk
      omega
  · intro j hj hj2
    rw [List.length_append, List.length_singleton] at hj
    rw [getD_app]
    by_cases hjl : j < fU.length
    · rw [if_pos hjl]; exact h6 j hjl hj2
    · have : j = fU.length := by omega
      subst this
      rw [if_neg (by omega), Nat.sub_self]
      exact hu hj2
def MkV (B : Nat) (w : World) (fU : List Value) (n J : Nat) : Prop :=
  ∀ j, j < J → w.ownsRow B 5 1 (fU.getD (n + j) undef) 2 [.int .u8 j, .int .u8 99]
theorem MkV.away {B : Nat} {w w' : World} {fU : List Value} {n J : Nat} {row : Option Nat} (h : MkV B w fU n J) (hg : w.grownBy w' row) (hr : ∀ k, row = some k → ∃ e, BT w k e ∧ e ≠ 5) : MkV B w' fU n J := fun j hj =>
  own_away (h j hj) hg (fun k e => by obtain ⟨e', ⟨cur, fz, hb⟩, hne⟩ := hr k e; exact own_block_ne (h j hj) hb (Ne.symm hne))
theorem size_bytes : ∀ w, Sem.run Tryd.prog (Go.sizeOf 32) w = .ok 1 w := fun w => by
  obtain ⟨i0, hi, hz0, hz1, hz2⟩ := info_parts info_bytes
  simp [Go.sizeOf, typeInfo, hi, hz1]
theorem size_lists : (Tryd.prog.info? 69).map (·.size) = some 3 := by kernel_rfl
def XL (B : Nat) (w : World) (vL vF vE : Value) (fU eU : List Value) (ls : List (List Int)) : Prop :=
  w.ownsRow B 32 1 vF (ls.length + 70) fU ∧ w.ownsRow B 32 1 vE ls.length eU ∧ (∀ k, vF.ownBlock = some k → vE.ownBlock ≠ some k) ∧ Apt B w eU (ls.map lent) ∧
    (∀ j, j < ls.length → ∃ p c, eU.getD j undef = .slice p ((ls.getD j []).length + 70) c ∧ fU.getD j undef = .slice p (ls.getD j []).length c) ∧ MkV B w fU ls.length 70 ∧ ∃ p c, vF = .slice p (ls.length + 70) c ∧ vL = .slice p ls.length c
theorem XL.away {B : Nat} {w w' : World} {vL vF vE : Value} {fU eU : List Value} {ls : List (List Int)} {row : Option Nat} (h : XL B w vL vF vE fU eU ls) (hg : w.grownBy w' row) (hr : ∀ k, row = some k → ∃ e, BT w k e ∧ e ≠ 5 ∧ e ≠ 32) : XL B w' vL vF vE fU eU ls := by
  obtain ⟨h1, h2, h3, h4, h5, h6, h7⟩ := h
  have ne : ∀ {v n xs}, w.ownsRow B 32 1 v n xs → ∀ k, row = some k → v.ownBlock ≠ some k := fun {v n xs} h k e => by
    obtain ⟨e', ⟨cur, fz, hb⟩, _, hne⟩ := hr k e
    exact own_block_ne h hb (Ne.symm hne)
  exact ⟨own_away h1 hg (ne h1), own_away h2 hg (ne h2), h3, h4.away hg (fun k e => by obtain ⟨e', hb, hne, _⟩ := hr k e; exact ⟨e', hb, hne⟩), h5, h6.away hg (fun k e => by obtain ⟨e', hb, hne, _⟩ := hr k e; exact ⟨e', hb, hne⟩), h7⟩
theorem three_cells {w : World} {g : Nat} {a b c : Value} {T : TypeId} (h : w.heap[g]? = some (.cells #[a, b, c] T (0, 0))) :
    w.cell? ⟨g, 0, none⟩ = some a ∧ w.cell? ⟨g, 1, none⟩ = some b ∧ w.cell? ⟨g, 2, none⟩ = some c ∧ w.frozen? ⟨g, 0, none⟩ = false ∧ w.frozen? ⟨g, 1, none⟩ = false ∧ w.frozen? ⟨g, 2, none⟩ = false := by
  simp [World.cell?, World.frozen?, h]
set_option maxRecDepth 100000 in
set_option maxHeartbeats 2000000 in
theorem lentLists_any (w : World) (v : Value) (ls : List (List Int)) (h : HL w v ls) (hn : ls.length ≤ 1048576) (hb : ∀ j, (ls.getD j []).length ≤ 1048576) :
    Calls Tryd.prog 35 #[v] w fun e w' => ∃ vL vF vE fU eU, e = .returned (.agg #[vL, vF, vE]) ∧ XL w.heap.size w' vL vF vE fU eU ls ∧ Below w.heap.size w w' := by
  obtain ⟨p, c, rfl, hlc, hm, hpc, hcl⟩ := h
  have HC : Hid (0 < ls.length → _) := fun h0 => hcl (by intro e; subst e; simp at h0)
  clear hcl
  unfold maxLen at hm
  have sz := size_u8
  have HBd := hid hb
  clear hb
  obtain ⟨W0, hW0⟩ : ∃ W0, Hid ((w.alloc (.cells #[.slice none 0 0, .slice none 0 0, .slice none 0 0] 69)).alloc (.cells #[.slice none 0 0, .slice none 0 0, .slice none 0 0] 69) = W0) := ⟨_, rfl⟩
  have B0 : Hid (Below w.heap.size w W0) := by rw [← hW0.out]; exact ((Below.refl _ w).alloc (Nat.le_refl _) _).alloc (by simp) _
  have L0 : Hid (LsV w.heap.size W0 (w.heap.size + 1) (.slice none 0 0) (.slice none 0 0) [] [] []) := by
    rw [← hW0.out]
    exact ⟨⟨by omega, heap_alloc2_old _ _ _⟩, heap_alloc2_new _ _ _, World.ownsRow_nil _ _ _ _, World.ownsRow_nil _ _ _ _, fun k e => by simp [Value.ownBlock] at e, ⟨rfl, fun k hk => by simp at hk, fun i j hi => by simp at hi⟩, fun j hj => by simp at hj⟩
  go_enter Tryd.func35, Tryd.ntmps35
  go_wp2_with fail
  rw [hW0.out]
  clear hW0
  obtain ⟨O, hO⟩ : ∃ O, w.heap.size + 1 = O := ⟨_, rfl⟩
  rw [hO] at L0 ⊢
  go_loopw [4] (fun i wr => ∃ I : Nat, I ≤ ls.length ∧ i = .int .i64 I ∧ ∃ vF vE fU eU, fU.length = I ∧ Hid (LsV w.heap.size wr O vF vE fU eU (ls.take I)) ∧ Hid (Below w.heap.size w wr)) (fun i _ => ls.length - (intOf i).toNat)
  case atStart => exact ⟨0, Nat.zero_le _, rfl, _, _, _, _, rfl, L0, B0⟩
  case round =>
    clear L0 B0
    obtain ⟨I, hI, rfl, vF, vE, fU, eU, hfl, HL1, HB1⟩ := hrel
    by_cases hlt : I < ls.length
    · obtain ⟨b, off, rfl, hh⟩ := HC.out (by omega)
      obtain ⟨u, hcu, hu⟩ := hh I hlt
      have hblt := World.block_lt_of_cell? w _ hcu
      obtain ⟨x, HX⟩ : ∃ x, Hid (ls.getD I [] = x) := ⟨_, rfl⟩
      rw [HX.out] at hu
      have hxl : x.length ≤ 1048576 := by rw [← HX.out]; exact HBd.out I
      obtain ⟨pu, cu, eu, _, hmu⟩ := hu.open
      unfold maxLen at hmu
      have HU := hid (hu.below HB1.out)
      have BY := hid hu.2
      subst eu
      have hcr : wr.cell? ⟨b, off + I, none⟩ = some (.slice pu x.length cu) := (HB1.out.cell (p := ⟨b, off + I, none⟩) hblt).trans hcu
      clear hh hu
      go_wp2_with fail
      refine (lent_any wr _ x HU.out (by omega)).mono ?_
      rintro e w1 ⟨v1, rfl, ho1, hB1⟩
      obtain ⟨p1, c1, e1⟩ := own_slice ho1
      rw [lent_length] at e1
      subst e1
      have F1 := HB.of_own ho1 (lent_byt BY.out)
      have hc1 : x.length ≤ c1 := by
        obtain ⟨p, c, e, h1, _⟩ := F1.open
        rw [lent_length] at e h1
        cases e
        omega
      have L1 := hid (HL1.out.below hB1)
      have O1 := hid ho1
      have B1 := hid (HB1.out.trans (hB1.mono HB1.out.size))
      have hs1 := hB1.size
      have hs0 := HB1.out.size
      have hd1 : Hid (∀ j, j < eU.length → (Value.slice p1 (x.length + 70) c1).ownBlock = none ∨ (Value.slice p1 (x.length + 70) c1).ownBlock ≠ (eU.getD j undef).ownBlock) := by
        intro j hj
        have h1 := (HL1.out.2.2.2.2.2.1.2.1 j hj).lt
        cases hu1 : (Value.slice p1 (x.length + 70) c1).ownBlock with
        | none => exact .inl rfl
        | some k =>
          right
          intro e
          have h3 := h1 k e.symm
          have h4 := ho1.lt k hu1
          omega
      obtain ⟨pF, cF, eF⟩ := own_slice HL1.out.2.2.1
      obtain ⟨pE, cE, eE⟩ := own_slice HL1.out.2.2.2.1
      have htl : (ls.take I).length = I := by rw [List.length_take]; omega
      rw [hfl] at eF
      rw [htl] at eE
      subst eF eE
      obtain ⟨_, k1, k2, _, f1, f2⟩ := three_cells L1.out.2.1
      have hown0 : (w1).ownsRow w.heap.size 32 1 (.slice pE I cE) I eU := by have := L1.out.2.2.2.1; rw [htl] at this; exact this
      have OE := hid hown0
      clear ho1 hB1 HL1 HB1 HU hown0 F1
      go_wp2_with (at_builtin; refine wpList_append_slice rfl _ _ rfl w.heap.size _ I eU rfl (OE.out.alloc _) ⟨w1.heap.size, 0, none⟩ 1 (.slice p1 (x.length + 70) c1) rfl ?q0 rfl ?q1 ?q2 ?_)
      case q0 => exact cell_one_new _ _ _ 0 _ rfl
      case q1 => omega
      case q2 => simp; omega
      intro vE' w2 hown2 hg2 hloc2
      obtain ⟨pE2, cE2, eE2⟩ := own_slice hown2
      subst eE2
      have hlt2 : (ls.take I).length + 1 = I + 1 := by omega
      obtain ⟨hb2, hL2⟩ := L1.out.each (x := x) hg2 (own_mono O1.out (by omega)) hd1.out (by omega) (by rw [hlt2]; exact hown2) hloc2
      obtain ⟨_, _, k22, _, _, f22⟩ := three_cells hb2
      have htk : ls.take I ++ [x] = ls.take (I + 1) := by
        rw [List.take_succ_eq_append_getElem hlt, ← HX.out]; simp [List.getD, List.getElem?_eq_getElem hlt]
      rw [htk] at hL2
      have B2 := hid ((B1.out.alloc B1.out.size (.cells #[.slice p1 (x.length + 70) c1] 32)).grown hg2 (Nat.le_trans B1.out.size (by simp)) (fun k e => (OE.out.lt k e).1))
      have hB2 : Below w.heap.size w (w2.setCell ⟨O, 2, none⟩ (.slice pE2 (I + 1) cE2)) := B2.out.grown (grown_set w2 O 2 _) B2.out.size (fun k e => by cases e; omega)
      obtain ⟨_, k31, _, _, f31, _⟩ := three_cells hL2.2.1
      obtain ⟨W2, hW2⟩ : ∃ W2, w2.setCell ⟨O, 2, none⟩ (.slice pE2 (I + 1) cE2) = W2 := ⟨_, rfl⟩
      rw [hW2] at hL2 hB2 k31 f31
      have L2 := hid hL2
      have B3 := hid hB2
      have hc2 : W2.cell? ⟨b, off + I, none⟩ = some (.slice pu x.length cu) := (hB2.cell (p := ⟨b, off + I, none⟩) hblt).trans hcu
      have hs2 := hB2.size
      have z0 : (0 : Int) ≤ (x.length : Int) := Int.natCast_nonneg _
      have z1 : (x.length : Int) ≤ (c1 : Int) := by omega
      have z2 : (0 : Int) ≤ (I : Int) := Int.natCast_nonneg _
      have z3 : (I : Int) < (ls.length : Int) := by omega
      have OF := hid hL2.2.2.1
      rw [hfl] at OF
      clear hown2 hg2 hloc2 hb2 hL2 hB2 B2 L1 O1 hd1 OE k1 k2 f1 f2 B1
      obtain ⟨i0, hi0, hz0, hz1, hz2⟩ := info_parts info_bytes
      have ag : (Value.slice pF I cF).ownBlock ≠ some O := own_block_ne OF.out L2.out.2.1 (by decide)
      have ab : (Value.slice pF I cF).ownBlock ≠ some b := fun e => by have := (OF.out.lt b e).1; omega
      have lO : O < W2.heap.size := (Array.getElem?_eq_some_iff.1 L2.out.2.1).1
      have lb : b < W2.heap.size := by omega
      have hb24 : (I + 1) * 24 ≤ 140737488355328 := by omega
      have hm24 : I + 1 ≤ Go.maxLen := by unfold Go.maxLen; omega
      have HL0 := hid hm24
      clear hm24
      have fz0 : ((W2.alloc (.cells #[.slice p1 x.length c1] 32)).drew).frozen? ⟨O, 1, none⟩ = false := by
        rw [show ((W2.alloc (.cells #[.slice p1 x.length c1] 32)).drew).frozen? ⟨O, 1, none⟩ = (W2.alloc (.cells #[.slice p1 x.length c1] 32)).frozen? ⟨O, 1, none⟩ from rfl, World.frozen?_of_block (w := W2) ((World.grownBy_alloc W2 _ none).block O lO (by simp))]
        exact f31
      have FZ0 := hid fz0
      clear fz0
      have nO := World.new_ne W2 _ k31
      have FIN : Hid (∀ gF cF3 w3, w3.ownsRow w.heap.size 32 1 (.slice (some ⟨gF, 0, none⟩) (I + 1) cF3) (I + 1) (fU ++ [.slice p1 x.length c1]) → ((W2.alloc (.cells #[.slice p1 x.length c1] 32)).drew).grownBy w3 (Value.slice pF I cF).ownBlock → ((Value.slice pF I cF).ownBlock = some gF ∨ gF = W2.heap.size + 1) →
          Hid (LsV w.heap.size (w3.setCell ⟨O, 1, none⟩ (.slice (some ⟨gF, 0, none⟩) (I + 1) cF3)) O (.slice (some ⟨gF, 0, none⟩) (I + 1) cF3) (.slice pE2 (I + 1) cE2) (fU ++ [.slice p1 x.length c1]) (eU ++ [.slice p1 (x.length + 70) c1]) (ls.take (I + 1))) ∧ Hid (Below w.heap.size w (w3.setCell ⟨O, 1, none⟩ (.slice (some ⟨gF, 0, none⟩) (I + 1) cF3)))) := by
        intro gF cF3 w3 ho hgr hat
        have gg : (W2.alloc (.cells #[.slice p1 x.length c1] 32)).grownBy w3 (Value.slice pF I cF).ownBlock := ⟨hgr.os, hgr.tape, hgr.output, hgr.size, hgr.block⟩
        have hel : eU.length = I := by
          have := L2.out.2.2.2.2.2.1.1
          simp at this
          omega
        refine ⟨(L2.out.full gg (u := .slice p1 x.length c1) (fun _ => ⟨p1, c1, ?_, ?_⟩) (by rw [hfl]; exact ho) ?_).2, ?_⟩
        · rw [hfl, ← htk, getD_app, getD_app, if_neg (by omega), if_neg (by omega), htl, hel, Nat.sub_self]
          rfl
        · rw [hfl, ← htk, getD_app, if_neg (by omega), htl, Nat.sub_self]
          rfl
        · rcases hat with h | h
          · left; rw [h]; rfl
          · right; rw [← h]; rfl
        · have b1 := (B3.out.alloc B3.out.size (.cells #[.slice p1 x.length c1] 32)).grown gg (Nat.le_trans B3.out.size (by simp)) (fun k e => (OF.out.lt k e).1)
          exact b1.grown (grown_set w3 O 1 _) b1.size (fun k e => by cases e; omega)
      have CZ0 : Hid (((W2.alloc (.cells #[.slice p1 x.length c1] 32)).drew).cell? ⟨O, 1, none⟩ = some (.slice pF I cF)) := by
        rw [show ((W2.alloc (.cells #[.slice p1 x.length c1] 32)).drew).cell? ⟨O, 1, none⟩ = (W2.alloc (.cells #[.slice p1 x.length c1] 32)).cell? ⟨O, 1, none⟩ from rfl, World.cell?_of_block (w := W2) ((World.grownBy_alloc W2 _ none).block O lO (by simp))]
        exact hid k31
      go_wp2_with fail
      go_region_law
        ((refine step_append_lies _ (by rfl) _ _ _ (by rfl) w.heap.size 32 i0 _ 1 24 Tryd.underlying27 hi0 hz0 hz1 hz2 rfl (by omega) (.slice pF I cF) I fU (by rfl) ((OF.out.alloc _).drew)
            ⟨W2.heap.size, 0, none⟩ 1 1 [.slice p1 x.length c1] (by rfl) (by rfl) (World.news_of_block (cs := #[.slice p1 x.length c1]) (t := 32) (fr := (0, 0)) (heap_alloc_new W2 _)) (by simp [Value.oneCell'])
            (by omega) HL0.out hb24 (by simp; omega) (W2.heap.size + 1) (by simp) ?_; intro gF cF3 w3 hown3 hgrow hat hlt3; have hfz3 : w3.frozen? ⟨O, 1, none⟩ = false := (hgrow.frozen_far _ (by simp; omega) (Ne.symm ag)).trans FZ0.out; have hc3 : w3.cell? ⟨O, 1, none⟩ = some (.slice pF I cF) := (hgrow.cell_far _ (by simp; omega) (Ne.symm ag)).trans CZ0.out))
      all_goals go_wp2
      all_goals exact ⟨⟨I + 1, by omega, by go_num, _, _, _, _, by simp [hfl], (FIN.out gF cF3 w3 hown3 hgrow hat).1, (FIN.out gF cF3 w3 hown3 hgrow hat).2⟩, by simp [intOf]; omega⟩
    · have hIe : I = ls.length := by omega
      subst hIe
      rw [List.take_of_length_le (Nat.le_refl _)] at HL1
      have M1 : Hid (MkV w.heap.size wr fU ls.length 0) := fun j hj => by omega
      go_wp2_with fail
      go_loopw [6] (fun i wq => ∃ J : Nat, J ≤ 70 ∧ i = .int .i64 J ∧ ∃ vF fU, fU.length = ls.length + J ∧ Hid (LsV w.heap.size wq O vF vE fU eU ls) ∧ Hid (MkV w.heap.size wq fU ls.length J) ∧ Hid (Below w.heap.size w wq)) (fun i _ => 70 - (intOf i).toNat)
      case atStart => exact ⟨0, Nat.zero_le _, rfl, _, _, by omega, HL1, M1, HB1⟩
      case round =>
        clear HL1 HB1 M1 hfl
        obtain ⟨J, hJ, rfl, vF, fU, hfl, HL1, HM1, HB1⟩ := hrel
        by_cases hlt : J < 70
        · obtain ⟨pF, cF, eF⟩ := own_slice HL1.out.2.2.1
          rw [hfl] at eF
          subst eF
          have hO1 : wr.ownsRow w.heap.size 32 1 (.slice pF (ls.length + J) cF) (ls.length + J) fU := by have := HL1.out.2.2.1; rw [hfl] at this; exact this
          obtain ⟨_, k1, _, _, f1, _⟩ := three_cells HL1.out.2.1
          have hs0 := HB1.out.size
          have hJw : IntKind.u8.wrap (J : Int) = J := by
            have e1 : IntKind.u8.bits = 8 := rfl
            have e2 : IntKind.u8.signed = false := rfl
            simp [IntKind.wrap, e1, e2]
            omega
          have lO : O < wr.heap.size := (Array.getElem?_eq_some_iff.1 HL1.out.2.1).1
          have OF := hid hO1
          have nO := World.new_ne wr _ k1
          clear hO1
          go_wp2_with (at_builtin; refine wpList_append_slice rfl _ _ rfl w.heap.size _ (ls.length + J) fU rfl ((OF.out.alloc _).alloc _) ⟨wr.heap.size + 1, 0, none⟩ 1 (.slice (some ⟨wr.heap.size, 0, none⟩) 2 2) rfl ?q0 rfl ?q1 ?q2 ?_)
          case q1 => omega
          case q2 => first | omega | (simp; omega)
          intro vF' w2 hown2 hg2 hloc2
          obtain ⟨pF2, cF2, eF2⟩ := own_slice hown2
          subst eF2
          have ga := World.grownBy_alloc wr (.cells #[.int .u8 J, .int .u8 99] 5) none
          have hL1 : LsV w.heap.size (wr.alloc (.cells #[.int .u8 J, .int .u8 99] 5)) O _ vE fU eU ls := HL1.out.away ga (fun k e => by cases e)
          have hM1 := HM1.out.away ga (fun k e => by cases e)
          have hu1 : (wr.alloc (.cells #[.int .u8 J, .int .u8 99] 5)).ownsRow w.heap.size 5 1 (.slice (some ⟨wr.heap.size, 0, none⟩) 2 2) 2 [.int .u8 J, .int .u8 99] := World.ownsRow_lit (base := w.heap.size) (e := 5) (size := 1) wr #[.int .u8 J, .int .u8 99] 2 hs0 (by decide) rfl
          obtain ⟨hb2, hL2⟩ := hL1.full hg2 (u := .slice (some ⟨wr.heap.size, 0, none⟩) 2 2) (fun h => by omega) (by rw [hfl]; exact hown2) (by simpa using hloc2)
          obtain ⟨_, k2, _, _, f2, _⟩ := three_cells hb2
          have bO : BT w2 O 69 := ⟨_, _, hb2⟩
          have oa := OF.out.alloc (.cells #[.int .u8 J, .int .u8 99] 5)
          have keepM : ∀ {v n xs}, (wr.alloc (.cells #[.int .u8 J, .int .u8 99] 5)).ownsRow w.heap.size 5 1 v n xs → (w2.setCell ⟨O, 1, none⟩ (.slice pF2 (ls.length + J + 1) cF2)).ownsRow w.heap.size 5 1 v n xs := fun {v n xs} h => by
            have h1 := h.alloc (.cells #[.slice (some ⟨wr.heap.size, 0, none⟩) 2 2] 32)
            have h2 := own_away h1 hg2 (fun k e => by obtain ⟨cur, fz, hb⟩ := own_BT (oa.alloc (.cells #[.slice (some ⟨wr.heap.size, 0, none⟩) 2 2] 32)) k e; exact own_block_ne h1 hb (by decide))
            exact own_away h2 (grown_set w2 O 1 _) (fun k e => by cases e; exact own_block_ne h2 hb2 (by decide))
          have hM2 : MkV w.heap.size (w2.setCell ⟨O, 1, none⟩ (.slice pF2 (ls.length + J + 1) cF2)) (fU ++ [.slice (some ⟨wr.heap.size, 0, none⟩) 2 2]) ls.length (J + 1) := by
            intro j hj
            rw [getD_app]
            by_cases hj2 : j < J
            · rw [if_pos (by omega)]
              exact keepM (hM1 j hj2)
            · have : j = J := by omega
              subst this
              rw [if_neg (by omega), hfl, Nat.sub_self]
              exact keepM hu1
          have hB2 : Below w.heap.size w (w2.setCell ⟨O, 1, none⟩ (.slice pF2 (ls.length + J + 1) cF2)) := by
            have b1 := ((HB1.out.alloc hs0 (.cells #[.int .u8 J, .int .u8 99] 5)).alloc (by simp; omega) (.cells #[.slice (some ⟨wr.heap.size, 0, none⟩) 2 2] 32)).grown hg2 (by simp; omega) (fun k e => (OF.out.lt k e).1)
            exact b1.grown (grown_set w2 O 1 _) b1.size (fun k e => by cases e; omega)
          have L2 := hid hL2
          have M2 := hid hM2
          have B2 := hid hB2
          clear hL2 hM2 hB2 keepM oa hu1 hM1 hL1 ga hown2 hg2 hloc2 hb2 k1 f1
          go_wp2
          exact ⟨⟨J + 1, by omega, by go_num, _, _, by simp [hfl]; omega, L2, M2, B2⟩, by simp [intOf]; omega⟩
        · have hJ70 : J = 70 := by omega
          subst hJ70
          obtain ⟨pF, cF, eF⟩ := own_slice HL1.out.2.2.1
          rw [hfl] at eF
          subst eF
          obtain ⟨k0, k1, k2, f0, f1, f2⟩ := three_cells HL1.out.2.1
          have hs0 := HB1.out.size
          have hO1 := HL1.out.2.2.1
          rw [hfl] at hO1
          have hcF : ls.length ≤ cF ∧ cF ≤ 2 ^ 63 - 1 := by
            rcases hO1.2 with ⟨e, h0⟩ | ⟨g, cap, cur, e, _, _, h3, h4, _⟩
            · omega
            · simp only [Value.slice.injEq, true_and] at e
              obtain ⟨_, rfl⟩ := e
              unfold maxLen at h4
              omega
          obtain ⟨hcF, hcF2⟩ := hcF
          have HX : Hid (XL w.heap.size wr (.slice pF ls.length cF) (.slice pF (ls.length + 70) cF) vE fU eU ls) := ⟨hO1, HL1.out.2.2.2.1, HL1.out.2.2.2.2.1, HL1.out.2.2.2.2.2.1, fun j hj => HL1.out.2.2.2.2.2.2 j (by omega) hj, HM1.out, _, _, rfl, rfl⟩
          have BO := hid HL1.out.block
          have sz2 := size_bytes
          obtain ⟨r0, r1, r2, g0, g1, g2⟩ := three_cells HL1.out.1.2
          have HR := hid HL1.out.1.2
          have hBO : w.heap.size ≠ O := by omega
          obtain ⟨pE, cE, eE⟩ := own_slice HL1.out.2.2.2.1
          subst eE
          have FIN : Hid (∀ a b c d : Value, XL w.heap.size ((((wr.setCell ⟨O, 0, none⟩ a).setCell ⟨w.heap.size, 0, none⟩ b).setCell ⟨w.heap.size, 1, none⟩ c).setCell ⟨w.heap.size, 2, none⟩ d) (.slice pF ls.length cF) (.slice pF (ls.length + 70) cF) (.slice pE ls.length cE) fU eU ls ∧ Below w.heap.size w ((((wr.setCell ⟨O, 0, none⟩ a).setCell ⟨w.heap.size, 0, none⟩ b).setCell ⟨w.heap.size, 1, none⟩ c).setCell ⟨w.heap.size, 2, none⟩ d) ∧ ((((wr.setCell ⟨O, 0, none⟩ a).setCell ⟨w.heap.size, 0, none⟩ b).setCell ⟨w.heap.size, 1, none⟩ c).setCell ⟨w.heap.size, 2, none⟩ d).heap[w.heap.size]? = some (.cells #[b, c, d] 69 (0, 0))) := by
            intro a b c d
            have x1 := HX.out.away (grown_set wr O 0 a) (fun k e => by cases e; exact ⟨_, BO.out, by decide, by decide⟩)
            have y1 := HB1.out.grown (grown_set wr O 0 a) hs0 (fun k e => by cases e; omega)
            have t1 : (wr.setCell ⟨O, 0, none⟩ a).heap[w.heap.size]? = some (.cells #[.slice none 0 0, .slice none 0 0, .slice none 0 0] 69 (0, 0)) := by rw [(grown_set wr O 0 a).block w.heap.size (Array.getElem?_eq_some_iff.1 HR.out).1 (by simp; omega)]; exact HR.out
            have t2 : ((wr.setCell ⟨O, 0, none⟩ a).setCell ⟨w.heap.size, 0, none⟩ b).heap[w.heap.size]? = some (.cells #[b, .slice none 0 0, .slice none 0 0] 69 (0, 0)) := by rw [heap_setCell_same _ w.heap.size 0 _ _ b t1]; rfl
            have t3 : (((wr.setCell ⟨O, 0, none⟩ a).setCell ⟨w.heap.size, 0, none⟩ b).setCell ⟨w.heap.size, 1, none⟩ c).heap[w.heap.size]? = some (.cells #[b, c, .slice none 0 0] 69 (0, 0)) := by rw [heap_setCell_same _ w.heap.size 1 _ _ c t2]; rfl
            have t4 : ((((wr.setCell ⟨O, 0, none⟩ a).setCell ⟨w.heap.size, 0, none⟩ b).setCell ⟨w.heap.size, 1, none⟩ c).setCell ⟨w.heap.size, 2, none⟩ d).heap[w.heap.size]? = some (.cells #[b, c, d] 69 (0, 0)) := by rw [heap_setCell_same _ w.heap.size 2 _ _ d t3]; rfl
            have x2 := x1.away (grown_set _ w.heap.size 0 b) (fun k e => by cases e; exact ⟨_, ⟨_, _, t1⟩, by decide, by decide⟩)
            have y2 := y1.grown (grown_set _ w.heap.size 0 b) y1.size (fun k e => by cases e; omega)
            have x3 := x2.away (grown_set _ w.heap.size 1 c) (fun k e => by cases e; exact ⟨_, ⟨_, _, t2⟩, by decide, by decide⟩)
            have y3 := y2.grown (grown_set _ w.heap.size 1 c) y2.size (fun k e => by cases e; omega)
            exact ⟨x3.away (grown_set _ w.heap.size 2 d) (fun k e => by cases e; exact ⟨_, ⟨_, _, t3⟩, by decide, by decide⟩), y3.grown (grown_set _ w.heap.size 2 d) y3.size (fun k e => by cases e; omega), t4⟩
          clear HL1 HM1 hO1
          go_wp2
          refine bodyPost_ret (v := .agg #[.slice pF ls.length cF, .slice pF (ls.length + 70) cF, .slice pE ls.length cE]) (results_cell_row (p := 2) (ty := 69) rfl _ _ w.heap.size 69 #[.slice pF ls.length cF, .slice pF (ls.length + 70) cF, .slice pE ls.length cE] (0, 0) _ rfl (FIN.out _ _ _ _).2.2 Tryd.underlying69 rfl size_lists) rfl ?_
          exact ⟨_, _, _, _, _, rfl, (FIN.out _ _ _ _).1, (FIN.out _ _ _ _).2.1⟩
theorem own_cells {w : World} {B n : Nat} {v : Value} {xs : List Value} {e : TypeId} (h : w.ownsRow B e 1 v n xs) (h0 : 0 < n) : ∃ g c, v = .slice (some ⟨g, 0, none⟩) n c ∧ B ≤ g ∧ n ≤ c ∧ c ≤ maxLen ∧ ∀ j, j < n → w.cell? ⟨g, j, none⟩ = some (xs.getD j undef) := by
  have hl := h.1
  rcases h.2 with ⟨_, e0⟩ | ⟨g, cap, cur, rfl, hbg, hg, hnc, hcm, hcs, htake⟩
  · omega
  · refine ⟨g, cap, rfl, hbg, hnc, hcm, fun j hj => ?_⟩
    have hjx : j < xs.length := by omega
    have := h.cells (g := g) rfl j (xs.getD j undef) (by rw [List.getElem?_eq_getElem hjx]; simp [List.getD, List.getElem?_eq_getElem hjx])
    rw [Addr.add_mid, Nat.zero_add] at this
    exact this
theorem getD_map_lent (ls : List (List Int)) (j : Nat) (hj : j < ls.length) : (ls.map lent).getD j [] = lent (ls.getD j []) := by
  simp [List.getD, List.getElem?_map, List.getElem?_eq_getElem hj]
theorem XL.elem {B : Nat} {w : World} {vL vF vE : Value} {fU eU : List Value} {ls : List (List Int)} (h : XL B w vL vF vE fU eU ls) (hb : ∀ j, ∀ x ∈ ls.getD j [], 0 ≤ x ∧ x < 256) (j : Nat) (hj : j < ls.length) : HB w (eU.getD j undef) (lent (ls.getD j [])) ∧ HB w (fU.getD j undef) (ls.getD j []) := by
  obtain ⟨h1, h2, h3, h4, h5, h6, h7⟩ := h
  have hl : eU.length = ls.length := by have := h4.1; simpa using this
  have ho := h4.2.1 j (by omega)
  rw [getD_map_lent ls j hj] at ho
  have hf := HB.of_own ho (lent_byt (hb j))
  refine ⟨hf, ?_⟩
  obtain ⟨p, c, e1, e2⟩ := h5 j hj
  rw [e1] at hf
  rw [e2]
  refine lent_pre hf ?_
  obtain ⟨p', c', e, h8, _⟩ := hf.open
  rw [lent_length] at e h8
  cases e
  omega
theorem XL.hl {B : Nat} {w : World} {vL vF vE : Value} {fU eU : List Value} {ls : List (List Int)} (h : XL B w vL vF vE fU eU ls) (hb : ∀ j, ∀ x ∈ ls.getD j [], 0 ≤ x ∧ x < 256) : HL w vL ls := by
  have he := h.elem hb
  obtain ⟨h1, h2, h3, h4, h5, h6, p, c, e1, e2⟩ := h
  obtain ⟨g, c', e, hbg, hnc, hcm, hcell⟩ := own_cells h1 (by omega)
  rw [e1] at e
  simp only [Value.slice.injEq, true_and] at e
  obtain ⟨rfl, rfl⟩ := e
  refine ⟨_, c, e2, by omega, hcm, (fun e => by cases e), fun hne => ⟨g, 0, rfl, fun j hj => ⟨_, by rw [Nat.zero_add]; exact hcell j (by omega), (he j hj).2⟩⟩⟩
set_option maxRecDepth 100000 in
set_option maxHeartbeats 2000000 in
theorem keptLists_any (B : Nat) (w : World) (vL vF vE v : Value) (fU eU : List Value) (ls : List (List Int)) (x : XL B w vL vF vE fU eU ls) (h : HL w v ls) (hn : ls.length ≤ 1048576) (hb : ∀ j, (ls.getD j []).length ≤ 1048576 ∧ ∀ x ∈ ls.getD j [], 0 ≤ x ∧ x < 256) :
    Calls Tryd.prog 37 #[.agg #[vL, vF, vE], v] w fun e w' => e = .returned (.bool true) ∧ Below w.heap.size w w' := by
  have HXL := hid x
  have HHL := hid h
  obtain ⟨p, c, rfl, hlc, hm, hpc, hcl⟩ := h
  unfold maxLen at hm
  have HBd := hid hb
  obtain ⟨g, cF, eF, _, hcF, hmF, hFc⟩ := own_cells x.1 (by omega)
  obtain ⟨pE, cE, eE⟩ := own_slice x.2.1
  obtain ⟨pL, cL, eL1, eL2⟩ := x.2.2.2.2.2.2
  rw [eF] at eL1
  simp only [Value.slice.injEq, true_and] at eL1
  obtain ⟨rfl, rfl⟩ := eL1
  subst eF eE eL2
  unfold maxLen at hmF
  have sz2 := size_bytes
  clear hcl hb x
  go_enter Tryd.func37, Tryd.ntmps37
  go_wp2_with fail
  obtain ⟨W0, hW0⟩ : ∃ W0, Hid (w.alloc (.cells #[.slice (some ⟨g, 0, none⟩) ls.length cF, .slice (some ⟨g, 0, none⟩) (ls.length + 70) cF, .slice pE ls.length cE] 69) = W0) := ⟨_, rfl⟩
  have B0 : Hid (Below w.heap.size w W0) := by rw [← hW0.out]; exact (Below.refl _ w).alloc (Nat.le_refl _) _
  have X0 : Hid (W0.heap[w.heap.size]? = some (.cells #[.slice (some ⟨g, 0, none⟩) ls.length cF, .slice (some ⟨g, 0, none⟩) (ls.length + 70) cF, .slice pE ls.length cE] 69 (0, 0))) := by rw [← hW0.out]; exact heap_alloc_new w _
  rw [hW0.out]
  clear hW0
  have HX0 := hid (HXL.out.away (grown_below (r := none) B0.out) (fun k e => by cases e))
  have HL0 := hid (HHL.out.below B0.out)
  refine (sameLists_any W0 _ _ ls ls (HX0.out.hl (fun j => (HBd.out j).2)) HL0.out).mono ?_
  rintro e w1 ⟨rfl, hd⟩
  rw [decide_eq_true rfl]
  have B1 := hid (B0.out.trans ((hd.below _).mono B0.out.size))
  have X1 : Hid (w1.heap[w.heap.size]? = _) := (congrArg (·[w.heap.size]?) hd.heap).trans X0.out
  have HX1 := hid (HX0.out.away hd.grownBy (fun k e => by cases e))
  have HL1 := hid (HL0.out.dr hd)
  clear hd HX0 HL0 X0 B0
  go_wp2_with fail
  go_loopw [5] (fun i wr => ∃ I : Nat, I ≤ ls.length ∧ i = .int .i64 I ∧ Hid (Below w1.heap.size w1 wr)) (fun i _ => ls.length - (intOf i).toNat)
  case atStart => exact ⟨0, Nat.zero_le _, rfl, Below.refl _ _⟩
  case round =>
    obtain ⟨I, hI, rfl, HBr⟩ := hrel
    have hXr : wr.heap[w.heap.size]? = _ := (HBr.out.block _ (Array.getElem?_eq_some_iff.1 X1.out).1).trans X1.out
    obtain ⟨_, y1, y2, _, _, _⟩ := three_cells hXr
    have HXr := hid (HX1.out.away (grown_below (r := none) HBr.out) (fun k e => by cases e))
    have HLr := hid (HL1.out.below HBr.out)
    by_cases hlt : I < ls.length
    · obtain ⟨gE, cE', eE, _, _, hmE, hcE⟩ := own_cells HXr.out.2.1 (by omega)
      simp only [Value.slice.injEq, true_and] at eE
      obtain ⟨rfl, rfl⟩ := eE
      obtain ⟨b, off, c', e2, _, _, hcl⟩ := HLr.out.ne (by omega)
      simp only [Value.slice.injEq, true_and] at e2
      obtain ⟨rfl, rfl⟩ := e2
      obtain ⟨u, hcu, hu⟩ := hcl I hlt
      have hE := hcE I hlt
      obtain ⟨hEe, _⟩ := HXr.out.elem (fun j => (HBd.out j).2) I hlt
      obtain ⟨t, HT⟩ : ∃ t, Hid (eU.getD I undef = t) := ⟨_, rfl⟩
      obtain ⟨y, HY⟩ : ∃ y, Hid (ls.getD I [] = y) := ⟨_, rfl⟩
      rw [HT.out] at hE hEe
      rw [HY.out] at hEe hu
      have hyl : y.length ≤ 140737488351232 := by rw [← HY.out]; have := (HBd.out I).1; omega
      have HE := hid hEe
      have HU := hid hu
      obtain ⟨pt, ct, et, _, _⟩ := hEe.open
      obtain ⟨pu, cu, eu, _, _⟩ := hu.open
      subst et eu
      have z0 : (0 : Int) ≤ (I : Int) := Int.natCast_nonneg _
      have z1 : (I : Int) < (ls.length : Int) := by omega
      have KC : Hid (∀ q, Calls Tryd.prog 19 #[.slice pt (lent y).length ct, .slice pu y.length cu] (wr.drewN q) fun e w' => e = .returned (.bool true) ∧ Hid (Below wr.heap.size wr w')) := by
        intro q
        refine (kept_any (wr.drewN q) _ _ (lent y) y (HE.out.dr ⟨q, rfl⟩) (HU.out.dr ⟨q, rfl⟩) hyl).mono ?_
        rintro e w' ⟨rfl, hb⟩
        rw [decide_eq_true rfl]
        exact ⟨rfl, ((Dr.below ⟨q, rfl⟩ _).trans hb)⟩
      have lX := World.block_lt_of_cell? wr _ y2
      have lE := World.block_lt_of_cell? wr _ hE
      have lu := World.block_lt_of_cell? wr _ hcu
      clear hcl hcE hEe hu y1 hFc
      go_wp2_with fail
      go_region_held3 (fun w' => w'.cell? ⟨w.heap.size, 2, none⟩ = some (.slice (some ⟨gE, 0, none⟩) ls.length cE) ∧ w'.cell? ⟨gE, I, none⟩ = some (.slice pt (lent y).length ct) ∧ w'.cell? ⟨b, off + I, none⟩ = some (.slice pu y.length cu))
        (first
          | go_keep
          | (refine ⟨(hBk.out.cell (p := ⟨w.heap.size, 2, none⟩) lX).trans y2, (hBk.out.cell (p := ⟨gE, I, none⟩) lE).trans hE, (hBk.out.cell (p := ⟨b, off + I, none⟩) lu).trans hcu⟩))
        ((go_at_call 19; refine (KC.out 1).mono ?_; rintro e wz ⟨rfl, hBk⟩))
      have HBr2 := hid (HBr.out.trans (hBk.out.mono HBr.out.size))
      go_wp2
      exact ⟨⟨I + 1, by omega, by go_num, HBr2⟩, by simp [intOf]; omega⟩
    · go_wp2_with fail
      go_loopw [6] (fun i wq => ∃ J : Nat, J ≤ 70 ∧ i = .int .i64 J ∧ Hid (Below w1.heap.size w1 wq)) (fun i _ => 70 - (intOf i).toNat)
      case atStart => exact ⟨0, Nat.zero_le _, rfl, HBr⟩
      case round =>
        clear HBr hXr y1 y2 HXr HLr
        obtain ⟨J, hJ, rfl, HBr⟩ := hrel
        by_cases hlt : J < 70
        · have hXr : wr.heap[w.heap.size]? = _ := (HBr.out.block _ (Array.getElem?_eq_some_iff.1 X1.out).1).trans X1.out
          obtain ⟨_, y1, y2, _, _, _⟩ := three_cells hXr
          have HXr := hid (HX1.out.away (grown_below (r := none) HBr.out) (fun k e => by cases e))
          obtain ⟨gF, cF', eF, _, _, _, hcF3⟩ := own_cells HXr.out.1 (by omega)
          simp only [Value.slice.injEq, true_and] at eF
          obtain ⟨eF, rfl⟩ := eF
          simp only [Option.some.injEq, Addr.mk.injEq, and_true] at eF
          subst eF
          have hm1 := hcF3 (ls.length + J) (by omega)
          have hm2 := HXr.out.2.2.2.2.2.1 J hlt
          obtain ⟨gm, cm, em, _, _, hmm, hcm⟩ := own_cells hm2 (by omega)
          rw [em] at hm1
          have c0 := hcm 0 (by omega)
          have c1 := hcm 1 (by omega)
          simp only [List.getD, List.getElem?_cons_zero, List.getElem?_cons_succ, Option.getD_some] at c0 c1
          have hJw : IntKind.u8.wrap (J : Int) = J := by
            have e1 : IntKind.u8.bits = 8 := rfl
            have e2 : IntKind.u8.signed = false := rfl
            simp [IntKind.wrap, e1, e2]
            omega
          have hww : IntKind.i64.wrap ((ls.length : Int) + (J : Int)) = ((ls.length + J : Nat) : Int) := by
            rw [IntKind.wrap_i64]; omega
          clear hcF3 hm2 hcm hFc
          go_wp2
          exact ⟨⟨J + 1, by omega, by go_num, HBr⟩, by simp [intOf]; omega⟩
        · go_wp2
          go_ret
          exact ⟨rfl, B1.out.trans (HBr.out.mono B1.out.size)⟩
def rot (x n : Nat) : Nat := x * 2 ^ (32 - n) % 4294967296 ||| x / 2 ^ n
theorem rot_lt {x n : Nat} (hx : x < 4294967296) : rot x n < 4294967296 := by
  unfold rot
  have h1 : x * 2 ^ (32 - n) % 4294967296 < 2 ^ 32 := Nat.mod_lt _ (by decide)
  have h2 : x / 2 ^ n < 2 ^ 32 := Nat.lt_of_le_of_lt (Nat.div_le_self _ _) hx
  exact Nat.or_lt_two_pow h1 h2
theorem rot_bits (x n : Nat) (hx : x < 4294967296) : bits .or .u32 (IntKind.u32.wrap ((x : Int) * 2 ^ (32 - n))) ((x : Int) / 2 ^ n) = ((rot x n : Nat) : Int) := by
  have e1 : IntKind.u32.wrap ((x : Int) * 2 ^ (32 - n)) = ((x * 2 ^ (32 - n) % 4294967296 : Nat) : Int) := by
    rw [IntKind.wrap_u32, Int.natCast_emod, Int.natCast_mul, Int.natCast_pow]
    rfl
  have e2 : (x : Int) / 2 ^ n = ((x / 2 ^ n : Nat) : Int) := by rw [Int.natCast_ediv, Int.natCast_pow]; rfl
  rw [e1, e2, u32_or_nat _ _ (Nat.mod_lt _ (by decide)) (Nat.lt_of_le_of_lt (Nat.div_le_self _ _) hx)]
  rfl
set_option maxRecDepth 100000 in
set_option maxHeartbeats 1000000 in
theorem turn_6 (w : World) (x : Nat) (hx : x < 4294967296) : Calls Tryd.prog 29 #[.int .u32 (x : Int), .int .i64 6] w fun e w' => e = .returned (.int .u32 ((rot x 6 : Nat) : Int)) ∧ w' = w := by
  have h1 : bits .and .u64 (IntKind.u64.wrap (-6)) 31 = 26 := by decide
  have HR := hid (rot_bits x 6 hx)
  go_enter Tryd.func29, Tryd.ntmps29
  go_wp2
  go_ret
  refine ⟨?_, rfl⟩
  rw [← HR.out]
  rfl
set_option maxRecDepth 100000 in
set_option maxHeartbeats 1000000 in
theorem turn_11 (w : World) (x : Nat) (hx : x < 4294967296) : Calls Tryd.prog 29 #[.int .u32 (x : Int), .int .i64 11] w fun e w' => e = .returned (.int .u32 ((rot x 11 : Nat) : Int)) ∧ w' = w := by
  have h1 : bits .and .u64 (IntKind.u64.wrap (-11)) 31 = 21 := by decide
  have HR := hid (rot_bits x 11 hx)
  go_enter Tryd.func29, Tryd.ntmps29
  go_wp2
  go_ret
  refine ⟨?_, rfl⟩
  rw [← HR.out]
  rfl
set_option maxRecDepth 100000 in
set_option maxHeartbeats 1000000 in
theorem turn_25 (w : World) (x : Nat) (hx : x < 4294967296) : Calls Tryd.prog 29 #[.int .u32 (x : Int), .int .i64 25] w fun e w' => e = .returned (.int .u32 ((rot x 25 : Nat) : Int)) ∧ w' = w := by
  have h1 : bits .and .u64 (IntKind.u64.wrap (-25)) 31 = 7 := by decide
  have HR := hid (rot_bits x 25 hx)
  go_enter Tryd.func29, Tryd.ntmps29
  go_wp2
  go_ret
  refine ⟨?_, rfl⟩
  rw [← HR.out]
  rfl
set_option maxRecDepth 100000 in
set_option maxHeartbeats 1000000 in
theorem turn_2 (w : World) (x : Nat) (hx : x < 4294967296) : Calls Tryd.prog 29 #[.int .u32 (x : Int), .int .i64 2] w fun e w' => e = .returned (.int .u32 ((rot x 2 : Nat) : Int)) ∧ w' = w := by
  have h1 : bits .and .u64 (IntKind.u64.wrap (-2)) 31 = 30 := by decide
  have HR := hid (rot_bits x 2 hx)
  go_enter Tryd.func29, Tryd.ntmps29
  go_wp2
  go_ret
  refine ⟨?_, rfl⟩
  rw [← HR.out]
  rfl
set_option maxRecDepth 100000 in
set_option maxHeartbeats 1000000 in
theorem turn_13 (w : World) (x : Nat) (hx : x < 4294967296) : Calls Tryd.prog 29 #[.int .u32 (x : Int), .int .i64 13] w fun e w' => e = .returned (.int .u32 ((rot x 13 : Nat) : Int)) ∧ w' = w := by
  have h1 : bits .and .u64 (IntKind.u64.wrap (-13)) 31 = 19 := by decide
  have HR := hid (rot_bits x 13 hx)
  go_enter Tryd.func29, Tryd.ntmps29
  go_wp2
  go_ret
  refine ⟨?_, rfl⟩
  rw [← HR.out]
  rfl
set_option maxRecDepth 100000 in
set_option maxHeartbeats 1000000 in
theorem turn_22 (w : World) (x : Nat) (hx : x < 4294967296) : Calls Tryd.prog 29 #[.int .u32 (x : Int), .int .i64 22] w fun e w' => e = .returned (.int .u32 ((rot x 22 : Nat) : Int)) ∧ w' = w := by
  have h1 : bits .and .u64 (IntKind.u64.wrap (-22)) 31 = 10 := by decide
  have HR := hid (rot_bits x 22 hx)
  go_enter Tryd.func29, Tryd.ntmps29
  go_wp2
  go_ret
  refine ⟨?_, rfl⟩
  rw [← HR.out]
  rfl
set_option maxRecDepth 100000 in
set_option maxHeartbeats 1000000 in
theorem turn_7 (w : World) (x : Nat) (hx : x < 4294967296) : Calls Tryd.prog 29 #[.int .u32 (x : Int), .int .i64 7] w fun e w' => e = .returned (.int .u32 ((rot x 7 : Nat) : Int)) ∧ w' = w := by
  have h1 : bits .and .u64 (IntKind.u64.wrap (-7)) 31 = 25 := by decide
  have HR := hid (rot_bits x 7 hx)
  go_enter Tryd.func29, Tryd.ntmps29
  go_wp2
  go_ret
  refine ⟨?_, rfl⟩
  rw [← HR.out]
  rfl
set_option maxRecDepth 100000 in
set_option maxHeartbeats 1000000 in
theorem turn_18 (w : World) (x : Nat) (hx : x < 4294967296) : Calls Tryd.prog 29 #[.int .u32 (x : Int), .int .i64 18] w fun e w' => e = .returned (.int .u32 ((rot x 18 : Nat) : Int)) ∧ w' = w := by
  have h1 : bits .and .u64 (IntKind.u64.wrap (-18)) 31 = 14 := by decide
  have HR := hid (rot_bits x 18 hx)
  go_enter Tryd.func29, Tryd.ntmps29
  go_wp2
  go_ret
  refine ⟨?_, rfl⟩
  rw [← HR.out]
  rfl
set_option maxRecDepth 100000 in
set_option maxHeartbeats 1000000 in
theorem turn_17 (w : World) (x : Nat) (hx : x < 4294967296) : Calls Tryd.prog 29 #[.int .u32 (x : Int), .int .i64 17] w fun e w' => e = .returned (.int .u32 ((rot x 17 : Nat) : Int)) ∧ w' = w := by
  have h1 : bits .and .u64 (IntKind.u64.wrap (-17)) 31 = 15 := by decide
  have HR := hid (rot_bits x 17 hx)
  go_enter Tryd.func29, Tryd.ntmps29
  go_wp2
  go_ret
  refine ⟨?_, rfl⟩
  rw [← HR.out]
  rfl
set_option maxRecDepth 100000 in
set_option maxHeartbeats 1000000 in
theorem turn_19 (w : World) (x : Nat) (hx : x < 4294967296) : Calls Tryd.prog 29 #[.int .u32 (x : Int), .int .i64 19] w fun e w' => e = .returned (.int .u32 ((rot x 19 : Nat) : Int)) ∧ w' = w := by
  have h1 : bits .and .u64 (IntKind.u64.wrap (-19)) 31 = 13 := by decide
  have HR := hid (rot_bits x 19 hx)
  go_enter Tryd.func29, Tryd.ntmps29
  go_wp2
  go_ret
  refine ⟨?_, rfl⟩
  rw [← HR.out]
  rfl
def cellsB (l : List Int) : Array Value := (l.map (Value.int .u8)).toArray
theorem cellsB_size (l : List Int) : (cellsB l).size = l.length := by simp [cellsB]
theorem cellsB_one (l : List Int) : (cellsB l).all (·.oneCell') = true := all_oneCell_toArray (fun v hv => by obtain ⟨x, _, rfl⟩ := List.mem_map.1 hv; rfl)
def zeros32 : List Int := List.replicate 32 0
theorem isAgg_u8 (w : World) : (isAgg 5).run Tryd.prog w = .ok false w := by
  unfold isAgg
  rw [Sem.run_bind, run_underlying Tryd.underlying5 w]
  rfl
theorem part_u8 (w : World) (l : List Int) (i : Nat) (hi : i < l.length) : (part 5 (cellsB l) i).run Tryd.prog w = .ok (.int .u8 (l.getD i 0)) w := by
  have e : (cellsB l)[i]? = some (.int .u8 (l.getD i 0)) := by simp [cellsB, List.getD, List.getElem?_eq_getElem hi]
  simp [part, e]
def eqRound (d : Nat) (xs ys : List Int) (i : Nat) (_ : Option Bool × Unit) : Sem (ForInStep (Option Bool × Unit)) := do
  let a ← part 5 (cellsB xs) (i * 1)
  let b ← part 5 (cellsB ys) (i * 1)
  let c ← Op.equalIn (d + 1) 5 a b
  if (!c) = true then pure (ForInStep.done (some false, ())) else pure (ForInStep.yield (none, ()))
theorem run_eqRound (w : World) (d : Nat) (xs ys : List Int) (i : Nat) (s : Option Bool × Unit) (hx : i < xs.length) (hy : i < ys.length) :
    (eqRound d xs ys i s).run Tryd.prog w = .ok (if xs.getD i 0 = ys.getD i 0 then .yield (none, ()) else .done (some false, ())) w := by
  unfold eqRound
  simp only [Sem.run_bind, Nat.mul_one, part_u8 w xs i hx, part_u8 w ys i hy, Result.andThen_ok, run_equalIn_int w d 5 .u8 .u8 _ _ Tryd.underlying5]
  by_cases h : xs.getD i 0 = ys.getD i 0
  · have e : (xs.getD i 0 == ys.getD i 0) = true := by simpa using h
    rw [e, if_pos h]; rfl
  · have e : (xs.getD i 0 == ys.getD i 0) = false := by simpa using h
    rw [e, if_neg h]; rfl
theorem run_eqRounds (w : World) (d n : Nat) (xs ys : List Int) (hx : xs.length = n) (hy : ys.length = n) : ∀ (m k : Nat), k + m = n → xs.take k = ys.take k →
    (forIn (List.range' k m 1) ((none : Option Bool), ()) (eqRound d xs ys)).run Tryd.prog w = .ok (if xs = ys then (none, ()) else (some false, ())) w
  | 0, k, hk, ht => by
    have e : xs = ys := by rw [← List.take_of_length_le (show xs.length ≤ k by omega), ← List.take_of_length_le (show ys.length ≤ k by omega), ht]
    simp [e]
  | m + 1, k, hk, ht => by
    rw [List.range'_succ, List.forIn_cons, Sem.run_bind, run_eqRound w d xs ys k _ (by omega) (by omega), Result.andThen_ok]
    by_cases h : xs.getD k 0 = ys.getD k 0
    · rw [if_pos h]
      have h2 : xs.take (k + 1) = ys.take (k + 1) := by
        rw [List.take_succ_eq_append_getElem (by omega), List.take_succ_eq_append_getElem (by omega), ht]
        rw [getD_of_lt (by omega), getD_of_lt (by omega)] at h
        rw [h]
      exact run_eqRounds w d n xs ys hx hy m (k + 1) (by omega) h2
    · rw [if_neg h, if_neg (fun e => h (by rw [e]))]
      rfl
theorem run_equalIn_bytes (w : World) (d n : Nat) (t : TypeId) (ht : Tryd.prog.underlying t = some (.array n 5)) (xs ys : List Int) (hx : xs.length = n) (hy : ys.length = n) :
    (Op.equalIn (d + 2) t (.agg (cellsB xs)) (.agg (cellsB ys))).run Tryd.prog w = .ok (decide (xs = ys)) w := by
  rw [Op.equalIn]
  simp only [Sem.run_bind, run_underlying ht, Result.andThen_ok, size_u8]
  have hr := run_eqRounds w d n xs ys hx hy n 0 (by omega) rfl
  have e : (forIn (m := Sem) [:n] ((none : Option Bool), ()) (eqRound d xs ys)) = forIn (List.range' 0 n 1) ((none : Option Bool), ()) (eqRound d xs ys) := by
    rw [Std.Legacy.Range.forIn_eq_forIn_range']
    simp [Std.Legacy.Range.size]
  rw [← e] at hr
  refine (congrArg (fun r => Result.andThen r _) hr).trans ?_
  by_cases h : xs = ys
  · simp [h]
  · simp [h]
theorem run_neq_bytes (w : World) (n : Nat) (t : TypeId) (ht : Tryd.prog.underlying t = some (.array n 5)) (xs ys : List Int) (hx : xs.length = n) (hy : ys.length = n) :
    (binOp .neq t (.agg (cellsB xs)) (.agg (cellsB ys))).run Tryd.prog w = .ok (.bool (!decide (xs = ys))) w := by
  rw [run_neq_struct, run_equalIn_bytes w 9998 n t ht xs ys hx hy]
  rfl
theorem run_eql_bytes (w : World) (n : Nat) (t : TypeId) (ht : Tryd.prog.underlying t = some (.array n 5)) (xs ys : List Int) (hx : xs.length = n) (hy : ys.length = n) :
    (binOp .eql t (.agg (cellsB xs)) (.agg (cellsB ys))).run Tryd.prog w = .ok (.bool (decide (xs = ys))) w := by
  rw [run_eql_struct, run_equalIn_bytes w 9998 n t ht xs ys hx hy]
  rfl
theorem info_digest : (Tryd.prog.info? 52).map (fun i => (i.zero, i.size, i.bytes)) = some (some (.agg (cellsB zeros32)), 32, 32) := by kernel_rfl
theorem size_digest : (Tryd.prog.info? 52).map (·.size) = some 32 := by kernel_rfl
theorem zeros32_length : zeros32.length = 32 := by simp [zeros32]
theorem run_alloc_digest (w : World) : (Instr.alloc 52 true (.tuple #[])).run Tryd.prog w = .ok (.pointer (some ⟨w.heap.size, 0, none⟩)) (w.alloc (.cells (cellsB zeros32) 52)) := by
  obtain ⟨i0, hi, hz0, hz1, hz2⟩ := info_parts info_digest
  simp [Instr.alloc, zeroValue, typeInfo, hi, hz0, newVar, newRow, Value.cells]
theorem wpList_alloc_digest {ops : Array Oper} {rest : List Oper} {o : Oper} {a : Act} {w : World} {Q : Exit → Act → World → Prop} (hgd : o.guard = none) (ho : o.op = .alloc 52)
    (h : wpList Tryd.prog ops Q rest (a.put o.dst (.pointer (some ⟨w.heap.size, 0, none⟩))) (w.alloc (.cells (cellsB zeros32) 52))) : wpList Tryd.prog ops Q (o :: rest) a w :=
  wpList_plain hgd fun _ hK => by
    have hr := run_alloc_digest w
    unfold Oper.wp
    simp only [execOp, ho, Sem.run_bind, hr, Result.andThen_ok]
    exact hK _ _ h
theorem built_digest : Tryd.prog.built 52 [] = some (cellsB zeros32) := by kernel_rfl
theorem wpList_build_digest {ops : Array Oper} {rest : List Oper} {o : Oper} {a : Act} {w : World} {Q : Exit → Act → World → Prop} (hgd : o.guard = none) (ho : o.op = .build 52 #[])
    (h : wpList Tryd.prog ops Q rest (a.put o.dst (.agg (cellsB zeros32))) w) : wpList Tryd.prog ops Q (o :: rest) a w := by
  have e : ((#[] : Array (Nat × Operand)).map fun (i, x) => (i, a.eval x)).toList = [] := by simp
  refine wpList_build hgd 52 #[] ho (by rw [e, built_digest]; rfl) ?_
  rw [e, built_digest]
  exact h
theorem wpList_build_digest_on {ops : Array Oper} {rest : List Oper} {o : Oper} {a : Act} {w : World} {Q : Exit → Act → World → Prop} (ho : o.op = .build 52 #[]) (hw : Region.wanted o (yielded ops a.tmps) = true)
    (h : wpList Tryd.prog ops Q rest (a.put o.dst (.agg (cellsB zeros32))) w) : wpList Tryd.prog ops Q (o :: rest) a w := by
  have e : ((#[] : Array (Nat × Operand)).map fun (i, x) => (i, a.eval x)).toList = [] := by simp
  refine wpList_step fun K hK => ?_
  simp only [hw, if_true]
  refine wp_build 52 #[] ho (by rw [e, built_digest]; rfl) ?_
  rw [e, built_digest]
  exact hK _ _ h
theorem below_setRow {B : Nat} {a w : World} (h : Below B a w) {g : Nat} (hg : B ≤ g) (cs : Array Value) : Below B a (w.setRow g cs) :=
  h.trans ⟨rfl, rfl, rfl, by simp [World.setRow], fun k hk => setRow_other w g k _ (by omega)⟩
def cellsW (l : List Nat) : Array Value := (l.map (fun x : Nat => Value.int .u32 (x : Int))).toArray
theorem cellsW_size (l : List Nat) : (cellsW l).size = l.length := by simp [cellsW]
theorem cellsW_one (l : List Nat) : (cellsW l).all (·.oneCell') = true := all_oneCell_toArray (fun v hv => by obtain ⟨x, _, rfl⟩ := List.mem_map.1 hv; rfl)
theorem cellsW_get {l : List Nat} {i : Nat} (h : i < l.length) : (cellsW l)[i]? = some (.int .u32 ((l.getD i 0 : Nat) : Int)) := by
  simp [cellsW, List.getD, List.getElem?_eq_getElem h]
theorem cellsW_set (l : List Nat) (i x : Nat) : (cellsW l).setIfInBounds i (.int .u32 (x : Int)) = cellsW (l.set i x) := by
  unfold cellsW
  rw [List.map_set]
  simp
def zerosW (n : Nat) : List Nat := List.replicate n 0
theorem zerosW_length (n : Nat) : (zerosW n).length = n := by simp [zerosW]
theorem wpList_alloc_agg {T : TypeId} {cs : Array Value} (hz : (Tryd.prog.info? T).map (·.zero) = some (some (.agg cs))) {ops : Array Oper} {rest : List Oper} {o : Oper} {a : Act} {w : World} {Q : Exit → Act → World → Prop} (hgd : o.guard = none) (ho : o.op = .alloc T)
    (h : wpList Tryd.prog ops Q rest (a.put o.dst (.pointer (some ⟨w.heap.size, 0, none⟩))) (w.alloc (.cells cs T))) : wpList Tryd.prog ops Q (o :: rest) a w :=
  wpList_plain hgd fun _ hK => by
    have hr : (Instr.alloc T true (.tuple #[])).run Tryd.prog w = .ok (.pointer (some ⟨w.heap.size, 0, none⟩)) (w.alloc (.cells cs T)) := by
      cases hi : Tryd.prog.info? T with
      | none => simp [hi] at hz
      | some i0 =>
        simp [hi] at hz
        simp [Instr.alloc, zeroValue, typeInfo, hi, hz, newVar, newRow, Value.cells]
    unfold Oper.wp
    simp only [execOp, ho, Sem.run_bind, hr, Result.andThen_ok]
    exact hK _ _ h
theorem zero_w64 : (Tryd.prog.info? 59).map (·.zero) = some (some (.agg (cellsW (zerosW 64)))) := by kernel_rfl
theorem zero_w8 : (Tryd.prog.info? 25).map (·.zero) = some (some (.agg (cellsW (zerosW 8)))) := by kernel_rfl
theorem size_w64 : (Tryd.prog.info? 59).map (·.size) = some 64 := by kernel_rfl
theorem size_w8 : (Tryd.prog.info? 25).map (·.size) = some 8 := by kernel_rfl
theorem size_b64 : (Tryd.prog.info? 28).map (·.size) = some 64 := by kernel_rfl
def beW (l : List Int) (t : Nat) : Nat := (l.getD (4 * t) 0).toNat * 16777216 + (l.getD (4 * t + 1) 0).toNat * 65536 + (l.getD (4 * t + 2) 0).toNat * 256 + (l.getD (4 * t + 3) 0).toNat
def add32 (x y : Nat) : Nat := (x + y) % 4294967296
def sig0 (x : Nat) : Nat := rot x 7 ^^^ rot x 18 ^^^ x / 8
def sig1 (x : Nat) : Nat := rot x 17 ^^^ rot x 19 ^^^ x / 1024
def nextW (l : List Int) (ws : List Nat) (t : Nat) : Nat :=
  if t < 16 then beW l t else add32 (add32 (add32 (sig1 (ws.getD (t - 2) 0)) (ws.getD (t - 7) 0)) (sig0 (ws.getD (t - 15) 0))) (ws.getD (t - 16) 0)
def wordsTo (l : List Int) : Nat → List Nat
  | 0 => []
  | t + 1 => wordsTo l t ++ [nextW l (wordsTo l t) t]
theorem wordsTo_length (l : List Int) : ∀ t, (wordsTo l t).length = t
  | 0 => rfl
  | t + 1 => by simp [wordsTo, wordsTo_length l t]
def curWs (l : List Int) (t : Nat) : List Nat := wordsTo l t ++ List.replicate (64 - t) 0
theorem curWs_length (l : List Int) (t : Nat) (h : t ≤ 64) : (curWs l t).length = 64 := by simp [curWs, wordsTo_length]; omega
theorem curWs_step (l : List Int) (t : Nat) (h : t < 64) : (curWs l t).set t (nextW l (wordsTo l t) t) = curWs l (t + 1) := by
  unfold curWs
  rw [List.set_append_right _ _ (by rw [wordsTo_length]; exact Nat.le_refl _), wordsTo_length, Nat.sub_self, show 64 - t = (64 - (t + 1)) + 1 by omega, List.replicate_succ, List.set_cons_zero]
  simp [wordsTo]
theorem curWs_get (l : List Int) (t i : Nat) (h : i < t) : (curWs l t).getD i 0 = (wordsTo l t).getD i 0 := by
  unfold curWs
  simp [List.getD, List.getElem?_append, wordsTo_length, h]
theorem byte_nat {l : List Int} (h : ∀ x ∈ l, 0 ≤ x ∧ x < 256) (i : Nat) : (l.getD i 0).toNat < 256 := by
  by_cases hj : i < l.length
  · rw [getD_of_lt hj]
    have := h _ (List.getElem_mem hj)
    omega
  · have e : l.getD i 0 = 0 := by simp [List.getD, List.getElem?_eq_none (by omega : l.length ≤ i)]
    rw [e]; decide
theorem beW_lt {l : List Int} (h : ∀ x ∈ l, 0 ≤ x ∧ x < 256) (t : Nat) : beW l t < 4294967296 := by
  unfold beW
  have h0 := byte_nat h (4 * t)
  have h1 := byte_nat h (4 * t + 1)
  have h2 := byte_nat h (4 * t + 2)
  have h3 := byte_nat h (4 * t + 3)
  omega
theorem nextW_lt {l : List Int} (h : ∀ x ∈ l, 0 ≤ x ∧ x < 256) (ws : List Nat) (t : Nat) : nextW l ws t < 4294967296 := by
  unfold nextW
  split
  · exact beW_lt h t
  · exact Nat.mod_lt _ (by decide)
theorem wordsTo_lt {l : List Int} (h : ∀ x ∈ l, 0 ≤ x ∧ x < 256) : ∀ t, ∀ x ∈ wordsTo l t, x < 4294967296
  | 0 => by simp [wordsTo]
  | t + 1 => by
    intro x hx
    rcases List.mem_append.1 hx with h1 | h1
    · exact wordsTo_lt h t x h1
    · have : x = nextW l (wordsTo l t) t := by simpa using h1
      rw [this]
      exact nextW_lt h _ _
theorem getW_lt {ws : List Nat} (h : ∀ x ∈ ws, x < 4294967296) (i : Nat) : ws.getD i 0 < 4294967296 := by
  by_cases hj : i < ws.length
  · rw [show ws.getD i 0 = ws[i] by simp [List.getD, List.getElem?_eq_getElem hj]]
    exact h _ (List.getElem_mem hj)
  · rw [show ws.getD i 0 = 0 by simp [List.getD, List.getElem?_eq_none (by omega : ws.length ≤ i)]]
    decide
theorem or_four (a b c d : Nat) (ha : a < 256) (hb : b < 256) (hc : c < 256) (hd : d < 256) :
    bits .or .u32 (bits .or .u32 (bits .or .u32 ((a : Int) * 16777216) ((b : Int) * 65536)) ((c : Int) * 256)) (d : Int) = ((a * 16777216 + b * 65536 + c * 256 + d : Nat) : Int) := by
  have e1 : bits .or .u32 ((a : Int) * 16777216) ((b : Int) * 65536) = ((a * 16777216 + b * 65536 : Nat) : Int) := by
    have := u32_or_nat (a * 16777216) (b * 65536) (by omega) (by omega)
    rw [Int.natCast_mul, Int.natCast_mul] at this
    rw [show ((a : Int) * 16777216) = (a : Int) * ((16777216 : Nat) : Int) from rfl, show ((b : Int) * 65536) = (b : Int) * ((65536 : Nat) : Int) from rfl, this]
    congr 1
    have := Nat.two_pow_add_eq_or_of_lt (i := 24) (b := b * 65536) (by omega) a
    rw [show 2 ^ 24 * a = a * 16777216 by omega] at this
    omega
  have e2 : bits .or .u32 ((a * 16777216 + b * 65536 : Nat) : Int) ((c : Int) * 256) = ((a * 16777216 + b * 65536 + c * 256 : Nat) : Int) := by
    have := u32_or_nat (a * 16777216 + b * 65536) (c * 256) (by omega) (by omega)
    rw [show ((c : Int) * 256) = ((c * 256 : Nat) : Int) by rw [Int.natCast_mul]; rfl, this]
    congr 1
    have := Nat.two_pow_add_eq_or_of_lt (i := 16) (b := c * 256) (by omega) (a * 256 + b)
    rw [show 2 ^ 16 * (a * 256 + b) = a * 16777216 + b * 65536 by omega] at this
    omega
  rw [e1, e2, u32_or_nat _ _ (by omega) (by omega)]
  congr 1
  have := Nat.two_pow_add_eq_or_of_lt (i := 8) (b := d) (by omega) (a * 65536 + b * 256 + c)
  rw [show 2 ^ 8 * (a * 65536 + b * 256 + c) = a * 16777216 + b * 65536 + c * 256 by omega] at this
  omega
theorem grown_setd (w : World) (g o : Nat) (u : Value) : w.grownBy (w.setCell ⟨g, o, none⟩ u).drew (some g) :=
  ⟨rfl, rfl, rfl, by show w.heap.size ≤ (w.setCell ⟨g, o, none⟩ u).heap.size; simp, fun k _ hk => heap_setCell_other w ⟨g, o, none⟩ k u (fun e => hk (by simp [e]))⟩
theorem grown_sets (w : World) (g o : Nat) (u : Value) : w.grownBy (w.setCell ⟨g, o, none⟩ u) (some g) :=
  ⟨rfl, rfl, rfl, by simp, fun k _ hk => heap_setCell_other w ⟨g, o, none⟩ k u (fun e => hk (by simp [e]))⟩
theorem grown_tr {a b c : World} {r : Option Nat} (h : a.grownBy b r) (k : b.grownBy c r) : a.grownBy c r :=
  ⟨k.os.trans h.os, k.tape.trans h.tape, k.output.trans h.output, Nat.le_trans h.size k.size, fun i hi hr => (k.block i (Nat.lt_of_lt_of_le hi h.size) hr).trans (h.block i hi hr)⟩
theorem sig0_bits (x : Nat) (hx : x < 4294967296) : bits .xor .u32 (bits .xor .u32 ((rot x 7 : Nat) : Int) ((rot x 18 : Nat) : Int)) ((x : Int) / 8) = ((sig0 x : Nat) : Int) := by
  have h1 : rot x 7 ^^^ rot x 18 < 2 ^ 32 := Nat.xor_lt_two_pow (rot_lt hx) (rot_lt hx)
  rw [u32_xor_nat _ _ (rot_lt hx) (rot_lt hx), show (x : Int) / 8 = ((x / 8 : Nat) : Int) by omega, u32_xor_nat _ _ h1 (by omega)]
  rfl
theorem sig1_bits (x : Nat) (hx : x < 4294967296) : bits .xor .u32 (bits .xor .u32 ((rot x 17 : Nat) : Int) ((rot x 19 : Nat) : Int)) ((x : Int) / 1024) = ((sig1 x : Nat) : Int) := by
  have h1 : rot x 17 ^^^ rot x 19 < 2 ^ 32 := Nat.xor_lt_two_pow (rot_lt hx) (rot_lt hx)
  rw [u32_xor_nat _ _ (rot_lt hx) (rot_lt hx), show (x : Int) / 1024 = ((x / 1024 : Nat) : Int) by omega, u32_xor_nat _ _ h1 (by omega)]
  rfl
theorem wrap_add32 (x y : Nat) : IntKind.u32.wrap ((x : Int) + (y : Int)) = ((add32 x y : Nat) : Int) := by
  rw [IntKind.wrap_u32]
  unfold add32
  omega
theorem add32_lt (x y : Nat) : add32 x y < 4294967296 := Nat.mod_lt _ (by decide)
theorem sig0_lt {x : Nat} (hx : x < 4294967296) : sig0 x < 4294967296 := by
  unfold sig0
  exact Nat.xor_lt_two_pow (n := 32) (Nat.xor_lt_two_pow (rot_lt hx) (rot_lt hx)) (by omega)
theorem sig1_lt {x : Nat} (hx : x < 4294967296) : sig1 x < 4294967296 := by
  unfold sig1
  exact Nat.xor_lt_two_pow (n := 32) (Nat.xor_lt_two_pow (rot_lt hx) (rot_lt hx)) (by omega)
set_option maxRecDepth 100000 in
set_option maxHeartbeats 4000000 in
theorem sched_any (w : World) (l : List Int) (hl : l.length = 64) (hby : ∀ x ∈ l, 0 ≤ x ∧ x < 256) :
    Calls Tryd.prog 28 #[.agg (cellsB l)] w fun e w' => e = .returned (.agg (cellsW (wordsTo l 64))) ∧ Below w.heap.size w w' := by
  obtain ⟨z, HZ⟩ : ∃ z, Hid (cellsW (zerosW 64) = z) := ⟨_, rfl⟩
  have hz := zero_w64
  rw [HZ.out] at hz
  have HZ0 := hid hz
  obtain ⟨bl, HBL⟩ : ∃ bl, Hid (cellsB l = bl) := ⟨_, rfl⟩
  rw [HBL.out]
  clear hz
  go_enter Tryd.func28, Tryd.ntmps28
  go_wp2_with (refine wpList_alloc_agg HZ0.out rfl rfl ?_)
  obtain ⟨W0, hW0⟩ : ∃ W0, Hid (((w.alloc (.cells bl 28)).alloc (.cells z 59)).alloc (.cells z 59) = W0) := ⟨_, rfl⟩
  rw [hW0.out]
  have HB0 : Hid (Below w.heap.size w W0) := by rw [← hW0.out]; exact (((Below.refl _ w).alloc (Nat.le_refl _) _).alloc (by simp) _).alloc (by simp; omega) _
  have HS0 : Hid (W0.heap.size = w.heap.size + 3) := by rw [← hW0.out]; show _ = _; simp
  have H0 : Hid (W0.heap[w.heap.size]? = some (.cells bl 28 (0, 0))) := by
    rw [← hW0.out]
    exact (Below.heap_alloc _ _ _ (by simp; omega)).trans ((Below.heap_alloc _ _ _ (by simp)).trans (heap_alloc_new w _))
  have H1 : Hid (W0.heap[w.heap.size + 1]? = some (.cells z 59 (0, 0))) := by
    rw [← hW0.out]
    refine (Below.heap_alloc _ _ _ (by simp)).trans ?_
    have := heap_alloc_new (w.alloc (.cells bl 28)) (.cells z 59)
    rwa [World.size_alloc] at this
  have H2 : Hid (W0.heap[w.heap.size + 2]? = some (.cells (cellsW (curWs l 0)) 59 (0, 0))) := by
    have := heap_alloc_new ((w.alloc (.cells bl 28)).alloc (.cells z 59)) (.cells z 59)
    rw [World.size_alloc, World.size_alloc, hW0.out, ← HZ.out] at this
    exact this
  clear hW0
  go_loopw [11] (fun i wr => ∃ I : Nat, I ≤ 16 ∧ i = .int .i64 I ∧ Hid (wr.heap[w.heap.size + 2]? = some (.cells (cellsW (curWs l I)) 59 (0, 0))) ∧ Hid (W0.grownBy wr (some (w.heap.size + 2)))) (fun i _ => 16 - (intOf i).toNat)
  case atStart => exact ⟨0, Nat.zero_le _, rfl, H2, ⟨rfl, rfl, rfl, Nat.le_refl _, fun _ _ _ => rfl⟩⟩
  case round =>
    obtain ⟨I, hI, rfl, HF, HG⟩ := hrel
    by_cases hlt : I < 16
    · have hb := (HG.out.block w.heap.size (by rw [HS0.out]; omega) (by simp)).trans H0.out
      have byt : ∀ j, j < 64 → ∃ a : Nat, a < 256 ∧ wr.cell? ⟨w.heap.size, j, none⟩ = some (.int .u8 (a : Int)) ∧ (l.getD j 0).toNat = a := fun j hj => by
        have hlj : j < l.length := by omega
        refine ⟨(l.getD j 0).toNat, byte_nat hby j, ?_, rfl⟩
        rw [cell_of_row wr w.heap.size j _ _ _ hb, ← HBL.out]
        have := hby _ (List.getElem_mem hlj)
        simp only [cellsB, List.getElem?_toArray, List.getElem?_map, List.getElem?_eq_getElem hlj, Option.map_some, getD_of_lt hlj]
        congr 2
        omega
      obtain ⟨a0, ha0, c0, e0⟩ := byt (4 * I) (by omega)
      obtain ⟨a1, ha1, c1, e1⟩ := byt (4 * I + 1) (by omega)
      obtain ⟨a2, ha2, c2, e2⟩ := byt (4 * I + 2) (by omega)
      obtain ⟨a3, ha3, c3, e3⟩ := byt (4 * I + 3) (by omega)
      have HV : Hid (nextW l (wordsTo l I) I = a0 * 16777216 + a1 * 65536 + a2 * 256 + a3) := by
        show _ = _
        unfold nextW beW
        rw [if_pos hlt, e0, e1, e2, e3]
      have HE := hid (And.intro e0 (And.intro e1 (And.intro e2 e3)))
      have HOR := hid (or_four a0 a1 a2 a3 ha0 ha1 ha2 ha3)
      have hci : wr.cell? ⟨w.heap.size + 2, I, none⟩ = some (.int .u32 (((curWs l I).getD I 0 : Nat) : Int)) := by
        rw [cell_of_row wr (w.heap.size + 2) I _ _ _ HF.out]
        exact cellsW_get (by rw [curWs_length l I (by omega)]; omega)
      obtain ⟨old, HOLD⟩ : ∃ old, Hid ((curWs l I).getD I 0 = old) := ⟨_, rfl⟩
      rw [HOLD.out] at hci
      have hfz : wr.frozen? ⟨w.heap.size + 2, I, none⟩ = false := by simp [World.frozen?, HF.out]
      clear byt hb e0 e1 e2 e3
      go_wp2
      go_region
      all_goals go_wp2
      refine ⟨⟨I + 1, by omega, by go_num, ?_, grown_tr HG.out (grown_setd _ _ _ _)⟩, by simp [intOf]; omega⟩
      show _ = _
      rw [← curWs_step l I (by omega), HV.out, ← cellsW_set, HOR.out]
      exact heap_setCell_same wr (w.heap.size + 2) I _ _ _ HF.out
    · have hI16 : I = 16 := by omega
      rw [hI16] at HF
      clear hI16
      go_wp2
      clear hlt
      go_loopw [6] (fun i wq => ∃ I : Nat, 16 ≤ I ∧ I ≤ 64 ∧ i = .int .i64 I ∧ Hid (wq.heap[w.heap.size + 2]? = some (.cells (cellsW (curWs l I)) 59 (0, 0))) ∧ Hid (W0.grownBy wq (some (w.heap.size + 2)))) (fun i _ => 64 - (intOf i).toNat)
      case atStart => exact ⟨16, Nat.le_refl _, by decide, rfl, HF, HG⟩
      case round =>
        clear HF HG hI
        obtain ⟨I, hI16, hI, rfl, HF, HG⟩ := hrel
        by_cases hlt : I < 64
        · have cell : ∀ j, j < I → ∃ a : Nat, a < 4294967296 ∧ wr.cell? ⟨w.heap.size + 2, j, none⟩ = some (.int .u32 (a : Int)) ∧ (wordsTo l I).getD j 0 = a := fun j hj => by
            refine ⟨_, getW_lt (wordsTo_lt hby I) j, ?_, rfl⟩
            rw [cell_of_row wr (w.heap.size + 2) j _ _ _ HF.out, cellsW_get (by rw [curWs_length l I hI]; omega), curWs_get l I j hj]
          obtain ⟨a2, ha2, c2, e2⟩ := cell (I - 2) (by omega)
          obtain ⟨a7, ha7, c7, e7⟩ := cell (I - 7) (by omega)
          obtain ⟨a15, ha15, c15, e15⟩ := cell (I - 15) (by omega)
          obtain ⟨a16, ha16, c16, e16⟩ := cell (I - 16) (by omega)
          have HV : Hid (nextW l (wordsTo l I) I = add32 (add32 (add32 (sig1 a2) a7) (sig0 a15)) a16) := by
            show _ = _
            unfold nextW
            rw [if_neg (by omega), e2, e7, e15, e16]
          have hci : wr.cell? ⟨w.heap.size + 2, I, none⟩ = some (.int .u32 (((curWs l I).getD I 0 : Nat) : Int)) := by
            rw [cell_of_row wr (w.heap.size + 2) I _ _ _ HF.out]
            exact cellsW_get (by rw [curWs_length l I (by omega)]; omega)
          obtain ⟨old, HOLD⟩ : ∃ old, Hid ((curWs l I).getD I 0 = old) := ⟨_, rfl⟩
          rw [HOLD.out] at hci
          have hfz : wr.frozen? ⟨w.heap.size + 2, I, none⟩ = false := by simp [World.frozen?, HF.out]
          have n2 : ((I : Int) - 2) = ((I - 2 : Nat) : Int) := by omega
          have n7 : ((I : Int) - 7) = ((I - 7 : Nat) : Int) := by omega
          have n15 : ((I : Int) - 15) = ((I - 15 : Nat) : Int) := by omega
          have n16 : ((I : Int) - 16) = ((I - 16 : Nat) : Int) := by omega
          clear cell e2 e7 e15 e16
          have HS0 := hid (sig0_bits a15 ha15)
          have HS1 := hid (sig1_bits a2 ha2)
          have dc7 : wr.drew.cell? ⟨w.heap.size + 2, I - 7, none⟩ = some (.int .u32 (a7 : Int)) := c7
          have dc16 : wr.drew.cell? ⟨w.heap.size + 2, I - 16, none⟩ = some (.int .u32 (a16 : Int)) := c16
          have dci : wr.drew.cell? ⟨w.heap.size + 2, I, none⟩ = some (.int .u32 (old : Int)) := hci
          have dfz : wr.drew.frozen? ⟨w.heap.size + 2, I, none⟩ = false := hfz
          go_wp2
          go_region
          go_wp2_with fail
          refine (turn_7 _ a15 ha15).mono ?_
          rintro e w' ⟨rfl, hw⟩
          subst hw
          go_wp2_with fail
          refine (turn_18 _ a15 ha15).mono ?_
          rintro e w' ⟨rfl, hw⟩
          subst hw
          go_wp2_with fail
          rw [HS0.out]
          refine (turn_17 _ a2 ha2).mono ?_
          rintro e w' ⟨rfl, hw⟩
          subst hw
          go_wp2_with fail
          refine (turn_19 _ a2 ha2).mono ?_
          rintro e w' ⟨rfl, hw⟩
          subst hw
          go_wp2_with fail
          rw [HS1.out]
          go_region
          all_goals go_wp2
          have HADD : Hid ((((sig1 a2 : Nat) : Int) + (a7 : Int) + ((sig0 a15 : Nat) : Int) + (a16 : Int)) % 4294967296 = ((add32 (add32 (add32 (sig1 a2) a7) (sig0 a15)) a16 : Nat) : Int)) := by
            show _ = _
            unfold add32
            omega
          refine ⟨⟨I + 1, by omega, by omega, by go_num, ?_, grown_tr HG.out (grown_tr (b := wr.drew) ⟨rfl, rfl, rfl, Nat.le_refl _, fun _ _ _ => rfl⟩ (grown_setd _ _ _ _))⟩, by simp [intOf]; omega⟩
          show _ = _
          rw [← curWs_step l I (by omega), HV.out, ← cellsW_set, HADD.out]
          exact heap_setCell_same wr (w.heap.size + 2) I _ _ _ HF.out
        · have hI64 : I = 64 := by omega
          subst hI64
          have HWW : Hid (curWs l 64 = wordsTo l 64) := by show _ = _; simp [curWs]
          rw [HWW.out] at HF
          obtain ⟨y, HY⟩ : ∃ y, Hid (cellsW (wordsTo l 64) = y) := ⟨_, rfl⟩
          rw [HY.out] at HF
          have hys : y.size = 64 := by rw [← HY.out, cellsW_size, wordsTo_length]
          have HIy : Hid ((Tryd.prog.info? 59).map (·.size) = some y.size) := by rw [hys]; exact size_w64
          have H1y : Hid (y.all (·.oneCell') = true) := by rw [← HY.out]; exact cellsW_one _
          have HF1c : Hid (wr.heap[w.heap.size + 1]? = some (.cells z 59 (0, 0))) := by
            rw [HG.out.block (w.heap.size + 1) (by rw [HS0.out]; omega) (by simp)]
            exact H1
          have HZY : Hid (z.size = y.size) := by rw [hys, ← HZ.out, cellsW_size, zerosW_length]; exact rfl
          have HB1 := hid (below_setRow (HB0.out.grown HG.out (by rw [HS0.out]; omega) (fun k e => by cases e; omega)) (g := w.heap.size + 1) (by omega) y)
          clear hys hlt
          go_wp2_with (first | (refine wpList_load_row rfl 59 _ rfl (w.heap.size + 2) rfl 59 y (0, 0) _ HF.out Tryd.underlying59 rfl HIy.out ?_) | (refine wpList_store_row rfl 59 _ _ rfl (w.heap.size + 1) y rfl rfl 59 _ HF1c.out HIy.out HZY.out H1y.out ?_))
          refine bodyPost_ret (v := .agg y) (results_cell_row (p := 2) (ty := 59) rfl _ _ (w.heap.size + 1) 59 y (0, 0) _ rfl (setRow_heap _ _ _ _ _ _ HF1c.out) Tryd.underlying59 rfl HIy.out) rfl ?_
          rw [HY.out]
          exact ⟨rfl, HB1.out⟩
def kW : List Nat := [1116352408, 1899447441, 3049323471, 3921009573, 961987163, 1508970993, 2453635748, 2870763221, 3624381080, 310598401, 607225278, 1426881987, 1925078388, 2162078206, 2614888103, 3248222580, 3835390401, 4022224774, 264347078, 604807628, 770255983, 1249150122, 1555081692, 1996064986, 2554220882, 2821834349, 2952996808, 3210313671, 3336571891, 3584528711, 113926993, 338241895, 666307205, 773529912, 1294757372, 1396182291, 1695183700, 1986661051, 2177026350, 2456956037, 2730485921, 2820302411, 3259730800, 3345764771, 3516065817, 3600352804, 4094571909, 275423344, 430227734, 506948616, 659060556, 883997877, 958139571, 1322822218, 1537002063, 1747873779, 1955562222, 2024104815, 2227730452, 2361852424, 2428436474, 2756734187, 3204031479, 3329325298]
theorem kW_length : kW.length = 64 := by rfl
theorem kW_lt : ∀ x ∈ kW, x < 4294967296 := by decide
def KC (w : World) : Prop := ∀ t, t < 64 → w.cell? ⟨0, t, none⟩ = some (.int .u32 ((kW.getD t 0 : Nat) : Int))
theorem KC.below {w w' : World} (h : KC w) (hb : Below w.heap.size w w') : KC w' := fun t ht => (hb.cell (World.block_lt_of_cell? w _ (h t ht))).trans (h t ht)
def bs1 (e : Nat) : Nat := rot e 6 ^^^ rot e 11 ^^^ rot e 25
def bs0 (a : Nat) : Nat := rot a 2 ^^^ rot a 13 ^^^ rot a 22
def chW (e f g : Nat) : Nat := (e &&& f) ^^^ ((4294967295 ^^^ e) &&& g)
def majW (a b c : Nat) : Nat := (a &&& b) ^^^ (a &&& c) ^^^ (b &&& c)
def rnd (k x : Nat) : List Nat → List Nat
  | [a, b, c, d, e, f, g, h] =>
    let u := (h + bs1 e + chW e f g + k + x) % 4294967296
    let v := (bs0 a + majW a b c) % 4294967296
    [(u + v) % 4294967296, a, b, c, (d + u) % 4294967296, e, f, g]
  | _ => []
def rnds (hs ws : List Nat) : Nat → List Nat
  | 0 => hs
  | t + 1 => rnd (kW.getD t 0) (ws.getD t 0) (rnds hs ws t)
def mixL (hs : List Nat) (l : List Int) : List Nat := List.zipWith add32 hs (rnds hs (wordsTo l 64) 64)
theorem xor32 {x y : Nat} (hx : x < 4294967296) (hy : y < 4294967296) : x ^^^ y < 4294967296 := Nat.xor_lt_two_pow (n := 32) hx hy
theorem and32 {x y : Nat} (hx : x < 4294967296) : x &&& y < 4294967296 := Nat.lt_of_le_of_lt Nat.and_le_left hx
theorem bs1_bits (x : Nat) (hx : x < 4294967296) : bits .xor .u32 (bits .xor .u32 ((rot x 6 : Nat) : Int) ((rot x 11 : Nat) : Int)) ((rot x 25 : Nat) : Int) = ((bs1 x : Nat) : Int) := by
  rw [u32_xor_nat _ _ (rot_lt hx) (rot_lt hx), u32_xor_nat _ _ (xor32 (rot_lt hx) (rot_lt hx)) (rot_lt hx)]
  rfl
theorem bs0_bits (x : Nat) (hx : x < 4294967296) : bits .xor .u32 (bits .xor .u32 ((rot x 2 : Nat) : Int) ((rot x 13 : Nat) : Int)) ((rot x 22 : Nat) : Int) = ((bs0 x : Nat) : Int) := by
  rw [u32_xor_nat _ _ (rot_lt hx) (rot_lt hx), u32_xor_nat _ _ (xor32 (rot_lt hx) (rot_lt hx)) (rot_lt hx)]
  rfl
theorem ch_bits (e f g : Nat) (he : e < 4294967296) (hf : f < 4294967296) (hg : g < 4294967296) :
    bits .xor .u32 (bits .and .u32 (e : Int) (f : Int)) (bits .and .u32 (bits .xor .u32 4294967295 (e : Int)) (g : Int)) = ((chW e f g : Nat) : Int) := by
  have h1 : bits .xor .u32 4294967295 (e : Int) = ((4294967295 ^^^ e : Nat) : Int) := u32_xor_nat 4294967295 e (by decide) he
  rw [h1, u32_and_nat _ _ he hf, u32_and_nat _ _ (xor32 (by decide) he) hg, u32_xor_nat _ _ (and32 he) (and32 (xor32 (by decide) he))]
  rfl
theorem maj_bits (a b c : Nat) (ha : a < 4294967296) (hb : b < 4294967296) (hc : c < 4294967296) :
    bits .xor .u32 (bits .xor .u32 (bits .and .u32 (a : Int) (b : Int)) (bits .and .u32 (a : Int) (c : Int))) (bits .and .u32 (b : Int) (c : Int)) = ((majW a b c : Nat) : Int) := by
  rw [u32_and_nat _ _ ha hb, u32_and_nat _ _ ha hc, u32_and_nat _ _ hb hc, u32_xor_nat _ _ (and32 ha) (and32 ha), u32_xor_nat _ _ (xor32 (and32 ha) (and32 ha)) (and32 hb)]
  rfl
theorem turn_i (w : World) (x : Nat) (i : Int) (hx : x < 4294967296) (hi : i = 6 ∨ i = 11 ∨ i = 25 ∨ i = 2 ∨ i = 13 ∨ i = 22) : Calls Tryd.prog 29 #[.int .u32 (x : Int), .int .i64 i] w fun e w' => e = .returned (.int .u32 ((rot x i.toNat : Nat) : Int)) ∧ w' = w := by
  rcases hi with rfl | rfl | rfl | rfl | rfl | rfl
  · exact turn_6 w x hx
  · exact turn_11 w x hx
  · exact turn_25 w x hx
  · exact turn_2 w x hx
  · exact turn_13 w x hx
  · exact turn_22 w x hx
def W8 (s : List Nat) : Prop := s.length = 8 ∧ ∀ x ∈ s, x < 4294967296
theorem W8.open {s : List Nat} (hs : W8 s) : ∃ a b c d e f g h, s = [a, b, c, d, e, f, g, h] ∧ a < 4294967296 ∧ b < 4294967296 ∧ c < 4294967296 ∧ d < 4294967296 ∧ e < 4294967296 ∧ f < 4294967296 ∧ g < 4294967296 ∧ h < 4294967296 := by
  obtain ⟨hl, hx⟩ := hs
  match s, hl with
  | [a, b, c, d, e, f, g, h], _ =>
    exact ⟨a, b, c, d, e, f, g, h, rfl, hx a (by simp), hx b (by simp), hx c (by simp), hx d (by simp), hx e (by simp), hx f (by simp), hx g (by simp), hx h (by simp)⟩
theorem W8.rnd {k x : Nat} {s : List Nat} (hs : W8 s) : W8 (rnd k x s) := by
  obtain ⟨a, b, c, d, e, f, g, h, rfl, ha, hb, hc, hd, he, hf, hg, hh⟩ := hs.open
  refine ⟨rfl, fun y hy => ?_⟩
  simp only [YtinahldjpobigaaDoor.rnd, List.mem_cons, List.not_mem_nil, or_false] at hy
  rcases hy with rfl | rfl | rfl | rfl | rfl | rfl | rfl | rfl <;> first | assumption | exact Nat.mod_lt _ (by decide)
theorem W8.rnds {hs ws : List Nat} (h : W8 hs) : ∀ t, W8 (rnds hs ws t)
  | 0 => h
  | t + 1 => (W8.rnds h t).rnd
theorem W8.mix {hs : List Nat} {l : List Int} (h : W8 hs) : W8 (mixL hs l) := by
  have h2 := W8.rnds (ws := wordsTo l 64) h 64
  refine ⟨by simp [mixL, h.1, h2.1], fun x hx => ?_⟩
  obtain ⟨i, hi, rfl⟩ := List.getElem_of_mem hx
  simp only [mixL, List.getElem_zipWith]
  exact add32_lt _ _
theorem info_u32 : (Tryd.prog.info? 24).map (fun i => (i.zero, i.size, i.bytes)) = some (some (.int .u32 0), 1, 4) := by kernel_rfl
theorem size_u32 : ∀ w, Sem.run Tryd.prog (Go.sizeOf 24) w = .ok 1 w := fun w => by
  obtain ⟨i0, hi, hz0, hz1, hz2⟩ := info_parts info_u32
  simp [Go.sizeOf, typeInfo, hi, hz1]
theorem part_u32 (w : World) (l : List Nat) (i : Nat) (hi : i < l.length) : (part 24 (cellsW l) i).run Tryd.prog w = .ok (.int .u32 ((l.getD i 0 : Nat) : Int)) w := by
  simp [part, cellsW_get hi]
theorem run_index_w8 (w : World) (l : List Nat) (hl : l.length = 8) (i : Nat) (hi : i < 8) : (Instr.index 25 (.agg (cellsW l)) (.int .i64 (i : Int))).run Tryd.prog w = .ok (.int .u32 ((l.getD i 0 : Nat) : Int)) w := by
  have h1 := part_u32 w l i (by omega)
  simp [Instr.index, run_underlying Tryd.underlying25, asIntOf, h1, hi]
def curM (hs st : List Nat) (i : Nat) : List Nat := (List.zipWith add32 hs st).take i ++ hs.drop i
theorem curM_length {hs st : List Nat} (h1 : hs.length = 8) (h2 : st.length = 8) (i : Nat) : (curM hs st i).length = 8 := by simp [curM, h1, h2]; omega
theorem curM_get {hs st : List Nat} (h1 : hs.length = 8) (h2 : st.length = 8) {i : Nat} (hi : i < 8) : (curM hs st i).getD i 0 = hs.getD i 0 := by
  have hl : (List.zipWith add32 hs st).length = 8 := by simp [h1, h2]
  simp only [curM, List.getD, List.getElem?_append, List.length_take, hl, List.getElem?_drop]
  rw [if_neg (by omega), show i + (i - min i 8) = i by omega]
theorem curM_step {hs st : List Nat} (h1 : hs.length = 8) (h2 : st.length = 8) {i : Nat} (hi : i < 8) : (curM hs st i).set i (add32 (hs.getD i 0) (st.getD i 0)) = curM hs st (i + 1) := by
  have hl : (List.zipWith add32 hs st).length = 8 := by simp [h1, h2]
  have ht : ((List.zipWith add32 hs st).take i).length = i := by rw [List.length_take]; omega
  unfold curM
  rw [List.set_append_right _ _ (by omega), ht, Nat.sub_self, List.drop_eq_getElem_cons (show i < hs.length by omega), List.set_cons_zero, List.take_succ_eq_append_getElem (by omega), List.append_assoc]
  simp [List.getD, List.getElem?_eq_getElem (show i < hs.length by omega), List.getElem?_eq_getElem (show i < st.length by omega)]
set_option maxRecDepth 100000 in
set_option maxHeartbeats 4000000 in
theorem mix_core (w : World) (hs ws : List Nat) (l : List Int) (h8 : W8 hs) (hl : l.length = 64) (hwl : ws.length = 64) (hwb : ∀ x ∈ ws, x < 4294967296) (hk : KC w)
    (hS : ∀ W, Calls Tryd.prog 28 #[.agg (cellsB l)] W fun e w' => e = .returned (.agg (cellsW ws)) ∧ Below W.heap.size W w') :
    Calls Tryd.prog 8 #[.agg (cellsW hs), .agg (cellsB l)] w fun e w' => e = .returned (.agg (cellsW (List.zipWith add32 hs (rnds hs ws 64)))) ∧ Below w.heap.size w w' := by
  obtain ⟨z, HZ⟩ : ∃ z, Hid (cellsW (zerosW 64) = z) := ⟨_, rfl⟩
  obtain ⟨z8, HZ8⟩ : ∃ z8, Hid (cellsW (zerosW 8) = z8) := ⟨_, rfl⟩
  have hz := zero_w64
  rw [HZ.out] at hz
  have HZ0 := hid hz
  have hz8 := zero_w8
  rw [HZ8.out] at hz8
  have HZ1 := hid hz8
  obtain ⟨bl, HBL⟩ : ∃ bl, Hid (cellsB l = bl) := ⟨_, rfl⟩
  obtain ⟨hw, HHW⟩ : ∃ hw, Hid (cellsW hs = hw) := ⟨_, rfl⟩
  rw [HBL.out, HHW.out]
  have HKC := hid hk
  have HWB := hid hwb
  clear hz hz8 hk hwb
  obtain ⟨W0, hW0⟩ : ∃ W0, Hid (((w.alloc (.cells hw 25)).alloc (.cells bl 28)).alloc (.cells z8 25) = W0) := ⟨_, rfl⟩
  have HB0 : Hid (Below w.heap.size w W0) := by rw [← hW0.out]; exact (((Below.refl _ w).alloc (Nat.le_refl _) _).alloc (by simp) _).alloc (by simp; omega) _
  have hS0 : W0.heap.size = w.heap.size + 3 := by rw [← hW0.out]; simp
  have H0 : Hid (W0.heap[w.heap.size]? = some (.cells hw 25 (0, 0))) := by
    rw [← hW0.out]
    exact (Below.heap_alloc _ _ _ (by simp; omega)).trans ((Below.heap_alloc _ _ _ (by simp)).trans (heap_alloc_new w _))
  have H1 : Hid (W0.heap[w.heap.size + 1]? = some (.cells bl 28 (0, 0))) := by
    rw [← hW0.out]
    refine (Below.heap_alloc _ _ _ (by simp)).trans ?_
    have := heap_alloc_new (w.alloc (.cells hw 25)) (.cells bl 28)
    rwa [World.size_alloc] at this
  have H2 : Hid (W0.heap[w.heap.size + 2]? = some (.cells z8 25 (0, 0))) := by
    have := heap_alloc_new ((w.alloc (.cells hw 25)).alloc (.cells bl 28)) (.cells z8 25)
    rw [World.size_alloc, World.size_alloc, hW0.out] at this
    exact this
  have hbs : bl.size = 64 := by rw [← HBL.out, cellsB_size, hl]
  have HIb : Hid ((Tryd.prog.info? 28).map (·.size) = some bl.size) := by rw [hbs]; exact size_b64
  have CS := hS W0
  clear hS
  rw [HBL.out] at CS
  obtain ⟨y, HY⟩ : ∃ y, Hid (cellsW ws = y) := ⟨_, rfl⟩
  rw [HY.out] at CS
  have C1 := hid CS
  have hys : y.size = 64 := by rw [← HY.out, cellsW_size, hwl]
  have HIy : Hid ((Tryd.prog.info? 59).map (·.size) = some y.size) := by rw [hys]; exact size_w64
  have H1y : Hid (y.all (·.oneCell') = true) := by rw [← HY.out]; exact cellsW_one _
  have HZY : Hid (z.size = y.size) := by rw [hys, ← HZ.out, cellsW_size, zerosW_length]; exact rfl
  clear CS hbs hys
  go_enter Tryd.func8, Tryd.ntmps8
  go_wp2_with (first | (refine wpList_alloc_agg HZ1.out rfl rfl ?_; rw [hW0.out]) | refine wpList_load_row rfl 28 _ rfl (w.heap.size + 1) rfl 28 bl (0, 0) _ H1.out Tryd.underlying28 rfl HIb.out ?_)
  refine C1.out.mono ?_
  rintro e w1 ⟨rfl, hB1⟩
  have HF1 : Hid ((w1.alloc (.cells z 59)).heap[w1.heap.size]? = some (.cells z 59 (0, 0))) := heap_alloc_new w1 _
  have HB1 := hid hB1
  have hs1 := hB1.size
  clear hB1 C1
  go_wp2_with (first | (refine wpList_alloc_agg HZ0.out rfl rfl ?_) | (refine wpList_store_row rfl 59 _ _ rfl w1.heap.size y rfl rfl 59 _ HF1.out HIy.out HZY.out H1y.out ?_))
  obtain ⟨W2, hW2⟩ : ∃ W2, Hid ((w1.alloc (.cells z 59)).setRow w1.heap.size y = W2) := ⟨_, rfl⟩
  rw [hW2.out]
  have HB2 : Hid (Below w.heap.size w W2) := by
    rw [← hW2.out]
    exact below_setRow ((HB0.out.trans (HB1.out.mono (by omega))).alloc (by omega) _) (by omega) y
  have HB2' : Hid (Below W0.heap.size W0 W2) := by
    rw [← hW2.out]
    exact below_setRow (HB1.out.alloc hs1 _) hs1 y
  have HY2 : Hid (W2.heap[w1.heap.size]? = some (.cells y 59 (0, 0))) := by
    rw [← hW2.out]
    exact setRow_heap _ _ _ _ _ _ HF1.out
  have hS2 : W2.heap.size = w1.heap.size + 1 := by rw [← hW2.out]; simp [World.setRow]
  have HH2 : Hid (W2.heap[w.heap.size]? = some (.cells hw 25 (0, 0))) := (HB2'.out.block w.heap.size (by omega)).trans H0.out
  have HR2 : Hid (W2.heap[w.heap.size + 2]? = some (.cells z8 25 (0, 0))) := (HB2'.out.block (w.heap.size + 2) (by omega)).trans H2.out
  have HK2 := hid (HKC.out.below HB2.out)
  clear hW2 hW0 HF1 H0 H1 H2 HIb
  obtain ⟨a, b, c, d, e, f, g, h, ehs, ha, hb, hc, hd, he, hf, hg, hh⟩ := h8.open
  have hcl : ∀ j, j < 8 → W2.cell? ⟨w.heap.size, j, none⟩ = some (.int .u32 ((hs.getD j 0 : Nat) : Int)) := fun j hj => by
    rw [cell_of_row W2 w.heap.size j _ _ _ HH2.out, ← HHW.out]
    exact cellsW_get (by rw [h8.1]; exact hj)
  have c0 := hcl 0 (by decide)
  have c1 := hcl 1 (by decide)
  have c2 := hcl 2 (by decide)
  have c3 := hcl 3 (by decide)
  have c4 := hcl 4 (by decide)
  have c5 := hcl 5 (by decide)
  have c6 := hcl 6 (by decide)
  have c7 := hcl 7 (by decide)
  rw [ehs] at c0 c1 c2 c3 c4 c5 c6 c7
  simp only [List.getD_cons_zero, List.getD_cons_succ] at c0 c1 c2 c3 c4 c5 c6 c7
  have HHS := hid ehs
  have H8 := hid h8
  clear ehs hcl h8
  go_quiet (fail)
  go_wp2
  go_loopw [6, 7, 8, 9, 10, 11, 12, 13, 37] (fun va vb vc vd ve vf vg vh i wr => ∃ t : Nat, t ≤ 64 ∧ i = .int .i64 t ∧ ∃ a b c d e f g h : Nat, Hid (rnds hs ws t = [a, b, c, d, e, f, g, h]) ∧ va = .int .u32 a ∧ vb = .int .u32 b ∧ vc = .int .u32 c ∧ vd = .int .u32 d ∧ ve = .int .u32 e ∧ vf = .int .u32 f ∧ vg = .int .u32 g ∧ vh = .int .u32 h ∧ Hid (Dr W2 wr)) (fun _ _ _ _ _ _ _ _ i _ => 64 - (intOf i).toNat)
  case atStart => exact ⟨0, by decide, rfl, a, b, c, d, e, f, g, h, HHS.out, rfl, rfl, rfl, rfl, rfl, rfl, rfl, rfl, Dr.one _ _⟩
  case round =>
    clear c0 c1 c2 c3 c4 c5 c6 c7 ha hb hc hd he hf hg hh HHS
    obtain ⟨t, ht, rfl, a, b, c, d, e, f, g, h, HR, rfl, rfl, rfl, rfl, rfl, rfl, rfl, rfl, HDr⟩ := hrel
    have hb8 := W8.rnds (ws := ws) H8.out t
    rw [HR.out] at hb8
    have hbd : a < 4294967296 ∧ b < 4294967296 ∧ c < 4294967296 ∧ d < 4294967296 ∧ e < 4294967296 ∧ f < 4294967296 ∧ g < 4294967296 ∧ h < 4294967296 := ⟨hb8.2 a (by simp), hb8.2 b (by simp), hb8.2 c (by simp), hb8.2 d (by simp), hb8.2 e (by simp), hb8.2 f (by simp), hb8.2 g (by simp), hb8.2 h (by simp)⟩
    obtain ⟨ha, hb, hc, hd, he, hf, hg, hh⟩ := hbd
    clear hb8
    by_cases hlt : t < 64
    · obtain ⟨k, HK⟩ : ∃ k, Hid (kW.getD t 0 = k) := ⟨_, rfl⟩
      obtain ⟨x, HX⟩ : ∃ x, Hid (ws.getD t 0 = x) := ⟨_, rfl⟩
      have ck := (HDr.out.cell _).trans (HK2.out t hlt)
      rw [HK.out] at ck
      have cx : wr.cell? ⟨w1.heap.size, t, none⟩ = some (.int .u32 (x : Int)) := by
        rw [HDr.out.cell, cell_of_row W2 w1.heap.size t _ _ _ HY2.out, ← HY.out, cellsW_get (by rw [hwl]; exact hlt), HX.out]
      have hkl : k < 4294967296 := by rw [← HK.out]; exact getW_lt kW_lt t
      have hxl : x < 4294967296 := by rw [← HX.out]; exact getW_lt HWB.out t
      have hmx : (if IntKind.u32.signed = true then (-1 : Int) else IntKind.u32.max) = 4294967295 := by decide
      have B1 := hid (bs1_bits e he)
      have B0 := hid (bs0_bits a ha)
      have BC := hid (ch_bits e f g he hf hg)
      have BM := hid (maj_bits a b c ha hb hc)
      go_wp2
      go_quiet ((go_at_call 29; exact Calls.quiet_of_same (turn_i _ _ _ (by assumption) (by decide))))
      rw [B1.out, BC.out]
      clear hmx
      obtain ⟨u, HU⟩ : ∃ u : Nat, Hid ((((h : Int) + ((bs1 e : Nat) : Int) + ((chW e f g : Nat) : Int) + (k : Int)) % 4294967296 + (x : Int)) % 4294967296 = (u : Int)) := ⟨((h + bs1 e + chW e f g + k) % 4294967296 + x) % 4294967296, by show _ = _; omega⟩
      rw [HU.out]
      have hu : u < 4294967296 := by have := HU.out; omega
      go_wp2_with fail
      refine (turn_2 _ a ha).mono ?_
      rintro e' w' ⟨rfl, hw'⟩
      subst hw'
      go_wp2_with fail
      refine (turn_13 _ a ha).mono ?_
      rintro e' w' ⟨rfl, hw'⟩
      subst hw'
      go_wp2_with fail
      refine (turn_22 _ a ha).mono ?_
      rintro e' w' ⟨rfl, hw'⟩
      subst hw'
      go_wp2_with fail
      rw [B0.out, BM.out]
      have HUN : Hid (u = (h + bs1 e + chW e f g + k + x) % 4294967296) := by
        show _ = _
        have := HU.out
        omega
      refine ⟨⟨t + 1, by omega, by go_num, (u + (bs0 a + majW a b c) % 4294967296) % 4294967296, a, b, c, (d + u) % 4294967296, e, f, g, ?_, ?_, rfl, rfl, rfl, ?_, rfl, rfl, rfl, HDr.out.drewN nq⟩, by simp [intOf]; omega⟩
      · show rnd (kW.getD t 0) (ws.getD t 0) (rnds hs ws t) = _
        rw [HR.out, HK.out, HX.out, HUN.out]
        rfl
      · congr 1
      · congr 1
    · have H64 : Hid (t = 64) := by show _ = _; omega
      rw [H64.out] at HR
      have hnlt : ¬ ((t : Int) < 64) := by omega
      have HM0 : Hid (wr.heap[w.heap.size]? = some (.cells (cellsW (curM hs [a, b, c, d, e, f, g, h] 0)) 25 (0, 0))) := by
        rw [show curM hs [a, b, c, d, e, f, g, h] 0 = hs from by simp [curM], HDr.out.heap, HHW.out]
        exact HH2
      have HR3 : Hid (wr.heap[w.heap.size + 2]? = some (.cells z8 25 (0, 0))) := by
        rw [HDr.out.heap]
        exact HR2
      have HB3 := hid (HB2.out.trans ((HDr.out.below W2.heap.size).mono HB2.out.size))
      clear hlt ht
      go_wp2
      clear hnlt
      go_loopw [109] (fun i wq => ∃ I : Nat, I ≤ 8 ∧ i = .int .i64 I ∧ Hid (wq.heap[w.heap.size]? = some (.cells (cellsW (curM hs [a, b, c, d, e, f, g, h] I)) 25 (0, 0))) ∧ Hid (wr.grownBy wq (some w.heap.size))) (fun i _ => 8 - (intOf i).toNat)
      case atStart => exact ⟨0, by decide, rfl, HM0, ⟨rfl, rfl, rfl, Nat.le_refl _, fun _ _ _ => rfl⟩⟩
      case round =>
        obtain ⟨I, hI, rfl, HF, HG⟩ := hrel
        by_cases hlt : I < 8
        · have hci := cell_of_row wr w.heap.size I _ _ _ HF.out
          rw [cellsW_get (by rw [curM_length H8.out.1 rfl]; exact hlt), curM_get H8.out.1 rfl hlt] at hci
          obtain ⟨p, HP⟩ : ∃ p, Hid (hs.getD I 0 = p) := ⟨_, rfl⟩
          rw [HP.out] at hci
          have hfz : wr.frozen? ⟨w.heap.size, I, none⟩ = false := by simp [World.frozen?, HF.out]
          have FIN : Hid (∀ q : Nat, q = ([a, b, c, d, e, f, g, h] : List Nat).getD I 0 → ∀ v : Int, v = ((p : Int) + (q : Int)) % 4294967296 → (wr.setCell ⟨w.heap.size, I, none⟩ (.int .u32 v)).heap[w.heap.size]? = some (.cells (cellsW (curM hs [a, b, c, d, e, f, g, h] (I + 1))) 25 (0, 0))) := fun q hq v hv => by
            rw [← curM_step H8.out.1 rfl hlt, HP.out, ← hq, ← cellsW_set, show v = ((add32 p q : Nat) : Int) by rw [hv]; unfold add32; omega]
            exact heap_setCell_same wr w.heap.size I _ _ _ HF.out
          obtain ⟨q, HQ⟩ : ∃ q, Hid (([a, b, c, d, e, f, g, h] : List Nat).getD I 0 = q) := ⟨_, rfl⟩
          have hix : ∀ W, (Instr.index 25 (.agg #[.int .u32 (a : Int), .int .u32 (b : Int), .int .u32 (c : Int), .int .u32 (d : Int), .int .u32 (e : Int), .int .u32 (f : Int), .int .u32 (g : Int), .int .u32 (h : Int)]) (.int .i64 (I : Int))).run Tryd.prog W = .ok (.int .u32 (q : Int)) W := fun W => by
            rw [← HQ.out]
            exact run_index_w8 W [a, b, c, d, e, f, g, h] rfl I hlt
          go_wp2
          refine ⟨⟨I + 1, by omega, by go_num, FIN.out q HQ.out.symm _ ?_, grown_tr HG.out (grown_sets _ _ _ _)⟩, by simp [intOf]; omega⟩
          rfl
        · have hI8 : I = 8 := by omega
          have HCM : Hid (curM hs [a, b, c, d, e, f, g, h] I = List.zipWith add32 hs (rnds hs ws 64)) := by
            show _ = _
            rw [hI8, HR.out]
            unfold curM
            rw [List.take_of_length_le (by simp; omega), List.drop_eq_nil_of_le (by rw [H8.out.1]; exact Nat.le_refl _), List.append_nil]
          rw [HCM.out] at HF
          obtain ⟨m, HMM⟩ : ∃ m, Hid (cellsW (List.zipWith add32 hs (rnds hs ws 64)) = m) := ⟨_, rfl⟩
          rw [HMM.out] at HF
          have hms : m.size = 8 := by
            rw [← HMM.out, cellsW_size, ← HCM.out, curM_length H8.out.1 rfl]
          have HIm : Hid ((Tryd.prog.info? 25).map (·.size) = some m.size) := by rw [hms]; exact size_w8
          have H1m : Hid (m.all (·.oneCell') = true) := by rw [← HMM.out]; exact cellsW_one _
          have HR4 : Hid (wr.heap[w.heap.size + 2]? = some (.cells z8 25 (0, 0))) := by
            rw [HG.out.block (w.heap.size + 2) (Array.getElem?_eq_some_iff.1 HR3.out).1 (by simp)]
            exact HR3
          have HZM : Hid (z8.size = m.size) := by rw [hms, ← HZ8.out, cellsW_size, zerosW_length]; exact rfl
          have HBF := hid (below_setRow (HB3.out.grown HG.out HB3.out.size (fun k e => by cases e; exact Nat.le_refl _)) (g := w.heap.size + 2) (by omega) m)
          have hnl : ¬ ((I : Int) < 8) := by omega
          clear hms hlt hI8
          go_wp2_with (first | (refine wpList_load_row rfl 25 _ rfl w.heap.size rfl 25 m (0, 0) _ HF.out Tryd.underlying25 rfl HIm.out ?_) | (refine wpList_store_row rfl 25 _ _ rfl (w.heap.size + 2) m rfl rfl 25 _ HR4.out HIm.out HZM.out H1m.out ?_))
          refine bodyPost_ret (v := .agg m) (results_cell_row (p := 4) (ty := 25) rfl _ _ (w.heap.size + 2) 25 m (0, 0) _ rfl (setRow_heap _ _ _ _ _ _ HR4.out) Tryd.underlying25 rfl HIm.out) rfl ?_
          rw [HMM.out]
          exact ⟨rfl, HBF.out⟩
theorem mix_any (w : World) (hs : List Nat) (l : List Int) (h8 : W8 hs) (hl : l.length = 64) (hby : ∀ x ∈ l, 0 ≤ x ∧ x < 256) (hk : KC w) :
    Calls Tryd.prog 8 #[.agg (cellsW hs), .agg (cellsB l)] w fun e w' => e = .returned (.agg (cellsW (mixL hs l))) ∧ Below w.heap.size w w' :=
  mix_core w hs (wordsTo l 64) l h8 hl (wordsTo_length l 64) (wordsTo_lt hby 64) hk (fun W => sched_any W l hl hby)
def iv : List Nat := [1779033703, 3144134277, 1013904242, 2773480762, 1359893119, 2600822924, 528734635, 1541459225]
theorem iv_W8 : W8 iv := ⟨rfl, by decide⟩
theorem built_iv : Tryd.prog.built 25 [(0, .int .u32 1779033703), (1, .int .u32 3144134277), (2, .int .u32 1013904242), (3, .int .u32 2773480762), (4, .int .u32 1359893119), (5, .int .u32 2600822924), (6, .int .u32 528734635), (7, .int .u32 1541459225)] = some (cellsW iv) := by kernel_rfl
set_option maxRecDepth 100000 in
set_option maxHeartbeats 1000000 in
theorem initial_any (w : World) : Calls Tryd.prog 6 #[] w fun e w' => e = .returned (.agg (cellsW iv)) ∧ Below w.heap.size w w' := by
  obtain ⟨z8, HZ8⟩ : ∃ z8, Hid (cellsW (zerosW 8) = z8) := ⟨_, rfl⟩
  have hz8 := zero_w8
  rw [HZ8.out] at hz8
  have HZ1 := hid hz8
  have HIm : Hid ((Tryd.prog.info? 25).map (·.size) = some (cellsW iv).size) := size_w8
  have H1m : Hid ((cellsW iv).all (·.oneCell') = true) := cellsW_one _
  have HZM : Hid (z8.size = (cellsW iv).size) := by rw [← HZ8.out, cellsW_size, zerosW_length]; exact rfl
  have HR : Hid ((w.alloc (.cells z8 25)).heap[w.heap.size]? = some (.cells z8 25 (0, 0))) := heap_alloc_new w _
  have HB := hid (below_setRow ((Below.refl _ w).alloc (Nat.le_refl _) (.cells z8 25)) (g := w.heap.size) (Nat.le_refl _) (cellsW iv))
  clear hz8
  go_enter Tryd.func6, Tryd.ntmps6
  go_wp2_with (first | (refine wpList_alloc_agg HZ1.out rfl rfl ?_) | (refine wpList_store_row rfl 25 _ _ rfl w.heap.size (cellsW iv) rfl rfl 25 _ HR.out HIm.out HZM.out H1m.out ?_))
  refine bodyPost_ret (v := .agg (cellsW iv)) (results_cell_row (p := 0) (ty := 25) rfl _ _ w.heap.size 25 (cellsW iv) (0, 0) _ rfl (setRow_heap _ _ _ _ _ _ HR.out) Tryd.underlying25 rfl HIm.out) rfl ?_
  exact ⟨rfl, HB.out⟩
def hashC (bw ww : List Nat) (rest : List Int) (n : Int) : List Value := bw.map (fun x : Nat => Value.int .u32 (x : Int)) ++ (ww.map (fun x : Nat => Value.int .u32 (x : Int)) ++ (rest.map (Value.int .u8) ++ [.int .i64 n]))
theorem built_hash : Tryd.prog.built 75 [(0, .agg (cellsW iv)), (1, .agg (cellsW iv))] = some (hashC iv iv (List.replicate 64 0) 0).toArray := by kernel_rfl
set_option maxRecDepth 100000 in
set_option maxHeartbeats 1000000 in
theorem new_any (w : World) : Calls Tryd.prog 15 #[] w fun e w' => ∃ g, e = .returned (.pointer (some ⟨g, 0, none⟩)) ∧ w.heap.size ≤ g ∧ w'.heap[g]? = some (.cells (hashC iv iv (List.replicate 64 0) 0).toArray 75 (0, 0)) ∧ Below w.heap.size w w' := by
  obtain ⟨m, HM⟩ : ∃ m, Hid (cellsW iv = m) := ⟨_, rfl⟩
  obtain ⟨hc, HC⟩ : ∃ hc, Hid ((hashC iv iv (List.replicate 64 0) 0).toArray = hc) := ⟨_, rfl⟩
  have hb := built_hash
  rw [HM.out, HC.out] at hb
  have HBT := hid hb
  have CI : Hid (∀ W, Calls Tryd.prog 6 #[] W fun e w' => e = .returned (.agg m) ∧ Below W.heap.size W w') := fun W => by rw [← HM.out]; exact initial_any W
  rw [HC.out]
  clear hb
  go_enter Tryd.func15, Tryd.ntmps15
  go_wp2_with fail
  refine (CI.out w).mono ?_
  rintro e w1 ⟨rfl, hB1⟩
  have B1 := hid hB1
  clear hB1
  go_wp2_with fail
  refine (CI.out w1).mono ?_
  rintro e w2 ⟨rfl, hB2⟩
  have B2 := hid (B1.out.trans (hB2.mono B1.out.size))
  clear hB2
  go_wp2_with (refine wpList_build rfl 75 _ rfl (by simp [Act.eval, HBT.out]) ?_)
  rw [show (Tryd.prog.built 75 [(0, .agg m), (1, .agg m)]).getD #[] = hc by rw [HBT.out]; rfl]
  go_ret
  exact ⟨w2.heap.size, rfl, B2.out.size, heap_alloc_new w2 _, B2.out.alloc B2.out.size _⟩
def eqRoundW (d : Nat) (xs ys : List Nat) (i : Nat) (_ : Option Bool × Unit) : Sem (ForInStep (Option Bool × Unit)) := do
  let a ← part 24 (cellsW xs) (i * 1)
  let b ← part 24 (cellsW ys) (i * 1)
  let c ← Op.equalIn (d + 1) 24 a b
  if (!c) = true then pure (ForInStep.done (some false, ())) else pure (ForInStep.yield (none, ()))
theorem run_eqRoundW (w : World) (d : Nat) (xs ys : List Nat) (i : Nat) (s : Option Bool × Unit) (hx : i < xs.length) (hy : i < ys.length) :
    (eqRoundW d xs ys i s).run Tryd.prog w = .ok (if xs.getD i 0 = ys.getD i 0 then .yield (none, ()) else .done (some false, ())) w := by
  unfold eqRoundW
  simp only [Sem.run_bind, Nat.mul_one, part_u32 w xs i hx, part_u32 w ys i hy, Result.andThen_ok, run_equalIn_int w d 24 .u32 .u32 _ _ Tryd.underlying24]
  by_cases h : xs.getD i 0 = ys.getD i 0
  · have e : (((xs.getD i 0 : Nat) : Int) == ((ys.getD i 0 : Nat) : Int)) = true := by rw [h]; simp
    rw [e, if_pos h]; rfl
  · have e : (((xs.getD i 0 : Nat) : Int) == ((ys.getD i 0 : Nat) : Int)) = false := by
      rw [beq_eq_false_iff_ne]
      intro h2
      exact h (by omega)
    rw [e, if_neg h]; rfl
theorem run_eqRoundsW (w : World) (d n : Nat) (xs ys : List Nat) (hx : xs.length = n) (hy : ys.length = n) : ∀ (m k : Nat), k + m = n → xs.take k = ys.take k →
    (forIn (List.range' k m 1) ((none : Option Bool), ()) (eqRoundW d xs ys)).run Tryd.prog w = .ok (if xs = ys then (none, ()) else (some false, ())) w
  | 0, k, hk, ht => by
    have e : xs = ys := by rw [← List.take_of_length_le (show xs.length ≤ k by omega), ← List.take_of_length_le (show ys.length ≤ k by omega), ht]
    simp [e]
  | m + 1, k, hk, ht => by
    rw [List.range'_succ, List.forIn_cons, Sem.run_bind, run_eqRoundW w d xs ys k _ (by omega) (by omega), Result.andThen_ok]
    by_cases h : xs.getD k 0 = ys.getD k 0
    · rw [if_pos h]
      have h2 : xs.take (k + 1) = ys.take (k + 1) := by
        rw [List.take_succ_eq_append_getElem (by omega), List.take_succ_eq_append_getElem (by omega), ht]
        simp only [List.getD, List.getElem?_eq_getElem (show k < xs.length by omega), List.getElem?_eq_getElem (show k < ys.length by omega), Option.getD_some] at h
        rw [h]
      exact run_eqRoundsW w d n xs ys hx hy m (k + 1) (by omega) h2
    · rw [if_neg h, if_neg (fun e => h (by rw [e]))]
      rfl
theorem run_eql_words (w : World) (n : Nat) (t : TypeId) (ht : Tryd.prog.underlying t = some (.array n 24)) (xs ys : List Nat) (hx : xs.length = n) (hy : ys.length = n) :
    (binOp .eql t (.agg (cellsW xs)) (.agg (cellsW ys))).run Tryd.prog w = .ok (.bool (decide (xs = ys))) w := by
  have hq : (Op.equalIn (9998 + 2) t (.agg (cellsW xs)) (.agg (cellsW ys))).run Tryd.prog w = .ok (decide (xs = ys)) w := by
    rw [Op.equalIn]
    simp only [Sem.run_bind, run_underlying ht, Result.andThen_ok, size_u32]
    have hr := run_eqRoundsW w 9998 n xs ys hx hy n 0 (by omega) rfl
    have e : (forIn (m := Sem) [:n] ((none : Option Bool), ()) (eqRoundW 9998 xs ys)) = forIn (List.range' 0 n 1) ((none : Option Bool), ()) (eqRoundW 9998 xs ys) := by
      rw [Std.Legacy.Range.forIn_eq_forIn_range']
      simp [Std.Legacy.Range.size]
    rw [← e] at hr
    refine (congrArg (fun r => Result.andThen r _) hr).trans ?_
    by_cases h : xs = ys
    · simp [h]
    · simp [h]
  rw [run_eql_struct, hq]
  rfl
end Go.Proofs.YtinahldjpobigaaDoor
