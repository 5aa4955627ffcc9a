/- Of the road to shareOneCard_holds: ShaMsg, Slices, ShaSlice, ShaTake, ShaMade, ShaWrite. -/
import Derived.Test.YtdgollnapbonjaaGreatDoorG02
import Derived.Deep.MidRow
import Derived.Test.YtdgollnapbonjaaGreatDoorG00
import Derived.Lib.SlBuf
import Derived.Deep.RegionHeld3
import Derived.Deep.QuietTactic
import Derived.BigQuiet
set_option linter.unusedVariables false
set_option linter.unusedSimpArgs false
set_option maxRecDepth 100000
set_option maxHeartbeats 16000000
namespace Go.Proofs.YtdgollnapbonjaaGreatDoor
open Go.RowKit
def blkOf (m : List Int) (k : Nat) : List Int := (m.drop (64 * k)).take 64
def wAt (m : List Int) : Nat -> List Nat
 | 0 => iv
 | k + 1 => mixL (wAt m k) (blkOf m k)
theorem wAt_W8 (m : List Int) : ∀ k, W8 (wAt m k)
 | 0 => iv_W8
 | k + 1 => (wAt_W8 m k).mix
theorem blkOf_app {m b : List Int} {k : Nat} (h : 64 * (k + 1) <= m.length) : blkOf (m ++ b) k = blkOf m k := by
 unfold blkOf
 rw [List.drop_append_of_le_length (by omega), List.take_append_of_le_length (by simp; omega)]
theorem wAt_app {m b : List Int} : ∀ {k : Nat}, 64 * k <= m.length -> wAt (m ++ b) k = wAt m k
 | 0, _ => rfl
 | k + 1, h => by
  show mixL _ _ = mixL _ _
  rw [wAt_app (k := k) (by omega), blkOf_app h]
theorem blkOf_length {m : List Int} {k : Nat} (h : 64 * (k + 1) <= m.length) : (blkOf m k).length = 64 := by
 unfold blkOf
 simp
 omega
theorem blkOf_byt {m : List Int} (h : ∀ x ∈ m, 0 <= x /\ x < 256) (k : Nat) : ∀ x ∈ blkOf m k, 0 <= x /\ x < 256 := fun x hx => h x (List.mem_of_mem_drop (List.mem_of_mem_take hx))
def wcells (l : List Nat) : List Value := l.map (fun x : Nat => Value.int .u32 (x : Int))
theorem wcells_length (l : List Nat) : (wcells l).length = l.length := by simp [wcells]
def bcells (l : List Int) : List Value := l.map (Value.int .u8)
theorem bcells_length (l : List Int) : (bcells l).length = l.length := by simp [bcells]
structure HSt (w : World) (g : Nat) (ww : List Nat) (rest : List Int) (n : Nat) : Prop where
 bw : w.rangeAt g 0 (wcells iv)
 wv : w.rangeAt g 8 (wcells ww)
 rv : w.rangeAt g 16 (bcells rest)
 sz : w.cell? ⟨g, 80, none⟩ = some (.int .i64 (n : Int))
 th : w.there g 0 81
 w8 : W8 ww
 rl : rest.length = 64
 rb : ∀ x ∈ rest, 0 <= x /\ x < 256
theorem range_block {A C : World} {g o : Nat} {cs : List Value} (h : A.rangeAt g o cs) (hb : C.heap[g]? = A.heap[g]?) : C.rangeAt g o cs := fun j v hv => by
 have := h j v hv
 rw [<- this]
 simp [World.cell?, hb]
theorem there_block {A C : World} {g o n : Nat} (h : A.there g o n) (hb : C.heap[g]? = A.heap[g]?) : C.there g o n := fun j hj => by
 have := h j hj
 constructor
 ·rw [<- this.1]; simp [World.cell?, hb]
 ·rw [<- this.2]; simp [World.frozen?, hb]
theorem HSt.block {A C : World} {g n : Nat} {ww : List Nat} {rest : List Int} (h : HSt A g ww rest n) (hb : C.heap[g]? = A.heap[g]?) : HSt C g ww rest n :=
 ⟨range_block h.bw hb, range_block h.wv hb, range_block h.rv hb, by rw [<- h.sz]; simp [World.cell?, hb], there_block h.th hb, h.w8, h.rl, h.rb⟩
theorem HSt.lt {w : World} {g n : Nat} {ww : List Nat} {rest : List Int} (h : HSt w g ww rest n) : g < w.heap.size := World.block_lt_of_cell? w _ h.sz
theorem HSt.below {A C : World} {g n : Nat} {ww : List Nat} {rest : List Int} (h : HSt A g ww rest n) (hb : Below A.heap.size A C) : HSt C g ww rest n := h.block (hb.block g h.lt)
theorem there_sub {w : World} {g : Nat} (h : w.there g 0 81) (o n : Nat) (hn : o + n <= 81) : w.there g o n := fun j hj => by
 have := h (o + j) (by omega)
 rwa [Nat.zero_add] at this
theorem cell_range {w : World} {g o : Nat} {v : Value} (h : w.rangeAt g o [v]) : w.cell? ⟨g, o, none⟩ = some v := h 0 v rfl
theorem range_cell {w : World} {g o : Nat} {v : Value} (h : w.cell? ⟨g, o, none⟩ = some v) : w.rangeAt g o [v] := fun j u hu => by
 match j with
 | 0 => simp at hu; subst hu; exact h
 | j + 1 => simp at hu
theorem HSt.size {w : World} {g n : Nat} {ww : List Nat} {rest : List Int} (h : HSt w g ww rest n) (m : Nat) : HSt (w.setCell ⟨g, 80, none⟩ (.int .i64 (m : Int))) g ww rest m := by
 have e : w.setCell ⟨g, 80, none⟩ (.int .i64 (m : Int)) = w.setCells g 80 [.int .i64 (m : Int)] := rfl
 rw [e]
 refine ⟨World.rangeAt_setCells_apart h.bw _ _ _ (.inr (.inl (by rw [wcells_length]; decide))), World.rangeAt_setCells_apart h.wv _ _ _ (.inr (.inl (by rw [wcells_length, h.w8.1]; decide))), World.rangeAt_setCells_apart h.rv _ _ _ (.inr (.inl (by rw [bcells_length, h.rl]; decide))),
  cell_range (World.rangeAt_setCells_same _ _ _ _ (there_sub h.th 80 1 (by decide))), World.there_setCells h.th _ _ _, h.w8, h.rl, h.rb⟩
theorem HSt.words {w : World} {g n : Nat} {ww : List Nat} {rest : List Int} (h : HSt w g ww rest n) (vv : List Nat) (hv : W8 vv) : HSt (w.setCells g 8 (wcells vv)) g vv rest n := by
 have hl : (wcells vv).length = 8 := by rw [wcells_length, hv.1]
 refine ⟨World.rangeAt_setCells_apart h.bw _ _ _ (.inr (.inl (by rw [wcells_length]; decide))), World.rangeAt_setCells_same _ _ _ _ (there_sub h.th 8 _ (by omega)), World.rangeAt_setCells_apart h.rv _ _ _ (.inr (.inr (by omega))),
  cell_range (World.rangeAt_setCells_apart (range_cell h.sz) _ _ _ (.inr (.inr (by omega)))), World.there_setCells h.th _ _ _, hv, h.rl, h.rb⟩
def putAt (rest : List Int) (o : Nat) (b : List Int) : List Int := rest.take o ++ (b ++ rest.drop (o + b.length))
theorem putAt_length {rest : List Int} {o : Nat} {b : List Int} (h : o + b.length <= rest.length) : (putAt rest o b).length = rest.length := by simp [putAt]; omega
theorem range_app {w : World} {g o : Nat} {xs ys : List Value} (hx : w.rangeAt g o xs) (hy : w.rangeAt g (o + xs.length) ys) : w.rangeAt g o (xs ++ ys) := fun j v hv => by
 rw [List.getElem?_append] at hv
 split at hv
 ·exact hx j v hv
 ·have := hy (j - xs.length) v hv
  rwa [show o + xs.length + (j - xs.length) = o + j by omega] at this
theorem range_take {w : World} {g o : Nat} {xs : List Value} (h : w.rangeAt g o xs) (n : Nat) : w.rangeAt g o (xs.take n) := fun j v hv => h j v (by
 rw [List.getElem?_take] at hv
 split at hv
 ·exact hv
 ·cases hv)
theorem range_drop {w : World} {g o : Nat} {xs : List Value} (h : w.rangeAt g o xs) (n : Nat) : w.rangeAt g (o + n) (xs.drop n) := fun j v hv => by
 rw [List.getElem?_drop] at hv
 have := h (n + j) v hv
 rwa [show o + (n + j) = o + n + j by omega] at this
theorem HSt.put {w : World} {g n : Nat} {ww : List Nat} {rest : List Int} (h : HSt w g ww rest n) (o : Nat) (b : List Int) (ho : o + b.length <= 64) (hb : ∀ x ∈ b, 0 <= x /\ x < 256) : HSt (w.setCells g (16 + o) (bcells b)) g ww (putAt rest o b) n := by
 have hl : (bcells b).length = b.length := bcells_length b
 have hrl := h.rl
 refine ⟨World.rangeAt_setCells_apart h.bw _ _ _ (.inr (.inl (by rw [wcells_length, iv_W8.1]; omega))), World.rangeAt_setCells_apart h.wv _ _ _ (.inr (.inl (by rw [wcells_length, h.w8.1]; omega))), ?_,
  cell_range (World.rangeAt_setCells_apart (range_cell h.sz) _ _ _ (.inr (.inr (by omega)))), World.there_setCells h.th _ _ _, h.w8, by rw [putAt_length (by omega)]; exact h.rl, ?_⟩
 ·have e : bcells (putAt rest o b) = (bcells rest).take o ++ (bcells b ++ (bcells rest).drop (o + b.length)) := by
   unfold putAt bcells
   rw [List.map_append, List.map_append, List.map_take, List.map_drop]
  have hto : ((bcells rest).take o).length = o := by rw [List.length_take, bcells_length]; omega
  rw [e]
  refine range_app (World.rangeAt_setCells_apart (range_take h.rv o) _ _ _ (.inr (.inl (by omega)))) ?_
  rw [hto]
  refine range_app (World.rangeAt_setCells_same _ _ _ _ (there_sub h.th _ _ (by omega))) ?_
  have := World.rangeAt_setCells_apart (range_drop h.rv (o + b.length)) g (16 + o) (bcells b) (.inr (.inr (by omega)))
  rw [hl]
  rwa [show 16 + (o + b.length) = 16 + o + b.length by omega] at this
 ·intro x hx
  unfold putAt at hx
  rcases List.mem_append.1 hx with h1 | h1
  ·exact h.rb x (List.mem_of_mem_take h1)
  ·rcases List.mem_append.1 h1 with h2 | h2
   ·exact hb x h2
   ·exact h.rb x (List.mem_of_mem_drop h2)
def HM (w : World) (g : Nat) (m : List Int) : Prop :=
 ∃ rest, HSt w g (wAt m (m.length / 64)) rest m.length /\ rest.take (m.length % 64) = m.drop (64 * (m.length / 64)) /\ ∀ x ∈ m, 0 <= x /\ x < 256
theorem grown_below {a b : World} {r : Option Nat} (h : Below a.heap.size a b) : a.grownBy b r :=
 ⟨h.os, h.tape, h.output, h.size, fun i hi _ => h.block i hi⟩
theorem HB.sliced {w : World} {p : Option Addr} {c : Nat} {l : List Int} (h : HB w (.slice p l.length c) l) (lo hi m : Nat) (h1 : lo <= hi) (h2 : hi <= l.length) (h3 : hi <= m) (h4 : m <= c) : HB w (.slice (if m = lo then p else p.map (·.add lo)) (hi - lo) (m - lo)) ((l.take hi).drop lo) := by
 obtain ⟨⟨p', c', e, hc, hm, hpc, hcell⟩, hby⟩ := h
 simp only [Value.slice.injEq, true_and] at e
 obtain ⟨rfl, rfl⟩ := e
 have hlen : ((l.take hi).drop lo).length = hi - lo := by simp; omega
 refine ⟨⟨_, m - lo, by rw [hlen], by omega, by omega, fun e => ?_, fun hne => ?_⟩, fun x hx => hby x (List.mem_of_mem_take (List.mem_of_mem_drop hx))⟩
 ·have : p = none := by
   split at e
   ·exact e
   ·cases p <;> simp_all
  have := hpc this
  omega
 have hlt : lo < hi := by
  apply Classical.byContradiction
  intro hn
  exact hne (List.length_eq_zero_iff.1 (by omega))
 obtain ⟨b, off, rfl, hk⟩ := hcell (by intro e; subst e; simp at h2; omega)
 rw [if_neg (by omega)]
 refine ⟨b, off + lo, by simp [Go.WideShapes.add_plain], fun j hj => ?_⟩
 rw [hlen] at hj
 have := hk (lo + j) (by omega)
 rw [show off + lo + j = off + (lo + j) by omega, this]
 have e1 : ((l.take hi).drop lo).getD j 0 = l.getD (lo + j) 0 := by
  simp only [List.getD, List.getElem?_drop, List.getElem?_take]
  rw [if_pos (by omega)]
 rw [e1]
theorem HB.suf {w : World} {p : Option Addr} {c : Nat} {l : List Int} (h : HB w (.slice p l.length c) l) (n : Nat) (hn : n <= l.length) : HB w (.slice (if c = n then p else p.map (·.add n)) (l.length - n) (c - n)) (l.drop n) := by
 obtain ⟨p', c', e, hc, _⟩ := h.open
 simp only [Value.slice.injEq, true_and] at e
 obtain ⟨rfl, rfl⟩ := e
 have := h.sliced n l.length c hn (Nat.le_refl _) hc (Nat.le_refl _)
 rwa [List.take_of_length_le (Nat.le_refl _)] at this
theorem size_u8' : (Tryz.prog.info? 5).map (·.size) = some 1 := by kernel_rfl
theorem alen64 : Tryz.prog.arrayLen 78 = 64 := by kernel_rfl
theorem aelem64 : Tryz.prog.elem 78 = 5 := by kernel_rfl
theorem run_slice_rest (g i : Nat) (hi : i < 64) (w : World) : (Instr.sliceAt 78 (.pointer (some ⟨g, 16, none⟩)) (some (.int .i64 (i : Int))) none none).run Tryz.prog w = .ok (.slice (some ⟨g, 16 + i, none⟩) (64 - i) (64 - i)) w := by
 have h := run_sliceAt_array_l (P := Tryz.prog) w 78 ⟨g, 16, none⟩ (by rw [alen64, aelem64]; exact Tryz.underlying78) .i64 (i : Int) (by omega) (by rw [alen64]; omega)
 rw [h, alen64, aelem64, size_u8, Result.andThen_ok, Int.toNat_natCast]
 unfold slicedAt
 rw [if_neg (by omega), Nat.mul_one, Addr.add_mid]
theorem run_slice_all (g : Nat) (w : World) : (Instr.sliceAt 78 (.pointer (some ⟨g, 16, none⟩)) none none none).run Tryz.prog w = .ok (.slice (some ⟨g, 16, none⟩) 64 64) w := by
 have h := run_sliceAt_array_all (P := Tryz.prog) w 78 ⟨g, 16, none⟩ (by rw [alen64, aelem64]; exact Tryz.underlying78)
 rw [h, alen64, aelem64, size_u8, Result.andThen_ok]
 rfl
theorem run_copy_rest (w : World) (g i : Nat) (ww : List Nat) (rest : List Int) (n : Nat) (hs : HSt w g ww rest n) (hi : i <= 64) (ty : TypeId) (u : Value) (b : List Int) (hb : HB w u b) (k : Nat) (hk : k = min (64 - i) b.length) :
  (Builtin.copy_ #[34, 34] ty #[.slice (some ⟨g, 16 + i, none⟩) (64 - i) (64 - i), u]).run Tryz.prog w = .ok (.int .i64 (k : Int)) (w.setCells g (16 + i) (bcells (b.take k))) := by
 obtain ⟨⟨p, c, rfl, hlc, hm, hpc, hcell⟩, hby⟩ := hb
 by_cases hk0 : k = 0
 ·have hr := run_copy_none (P := Tryz.prog) w 34 34 ty 5 (some ⟨g, 16 + i, none⟩) p (64 - i) (64 - i) b.length c Tryz.underlying34 size_u8' (by show min b.length (64 - i) = 0; omega)
  rw [hr, hk0]
  rfl
 ·obtain ⟨bb, off, rfl, hh⟩ := hcell (by intro e; subst e; simp at hk; omega)
  have hl : (bcells (b.take k)).length = k := by rw [bcells_length, List.length_take]; omega
  have hr := run_copy_cells (P := Tryz.prog) w 34 34 ty 5 g (16 + i) (64 - i) (64 - i) ⟨bb, off, none⟩ b.length c (bcells (b.take k)) Tryz.underlying34 size_u8' (by rw [hl, hk]; exact Nat.min_comm _ _) (fun j v hv => ?_) (fun j hj => (there_sub hs.th (16 + i) k (by omega) j (by omega)).1) (fun j hj => (there_sub hs.th (16 + i) k (by omega) j (by omega)).2) (fun v hv => by obtain ⟨x, _, rfl⟩ := List.mem_map.1 hv; rfl)
  ·rw [hr, hl]
   rfl
  ·have hj : j < k := by have := (List.getElem?_eq_some_iff.1 hv).1; omega
   rw [Addr.add_mid, hh j (by omega)]
   simp only [bcells, List.getElem?_map, List.getElem?_take, if_pos hj, List.getElem?_eq_getElem (show j < b.length by omega), Option.map_some] at hv
   rw [getD_of_lt (by omega)]
   exact hv
theorem grown_setCells (g : Nat) : ∀ (vs : List Value) (o : Nat) (w : World), w.grownBy (w.setCells g o vs) (some g)
 | [], _, _ => ⟨rfl, rfl, rfl, Nat.le_refl _, fun _ _ _ => rfl⟩
 | v :: vs, o, w => grown_tr (grown_sets w g o v) (grown_setCells g vs (o + 1) _)
theorem belem : Tryz.prog.elem 34 = 5 := by kernel_rfl
theorem run_slice_suf (p : Option Addr) (l c k : Nat) (hk : k <= l) (w : World) : (Instr.slice 34 (.slice p l c) (some (.int .i64 (k : Int))) none none).run Tryz.prog w = .ok (.slice (if c = k then p else p.map (·.add k)) (l - k) (c - k)) w := by
 have h := run_slice_l (P := Tryz.prog) w 34 p l c (by rw [belem]; exact Tryz.underlying34) .i64 (k : Int) (by omega) (by omega)
 rw [h, belem, size_u8, Result.andThen_ok, Int.toNat_natCast]
 unfold sliced
 rw [Nat.mul_one]
theorem suf_own (p : Option Addr) (c k l n g : Nat) (h : Value.ownBlock (.slice p l n) ≠ some g) : Value.ownBlock (.slice (if c = k then p else p.map (·.add k)) (l - k) (c - k)) ≠ some g := by
 split
 ·cases p with
  | none => simp [Value.ownBlock]
  | some a => simpa [Value.ownBlock] using h
 ·cases p with
  | none => simp [Value.ownBlock]
  | some a =>
   have : (a.add k).block = a.block := by unfold Addr.add; split <;> rfl
   simp only [Option.map_some, Value.ownBlock, this]
   simpa [Value.ownBlock] using h
theorem HM.fill {w : World} {g : Nat} {m b rest : List Int} (hs : HSt w g (wAt m (m.length / 64)) (putAt rest (m.length % 64) b) (m.length + b.length)) (hrt : rest.take (m.length % 64) = m.drop (64 * (m.length / 64))) (hrl : rest.length = 64)
  (hm : ∀ x ∈ m, 0 <= x /\ x < 256) (hb : ∀ x ∈ b, 0 <= x /\ x < 256) (hlt : m.length % 64 + b.length < 64) : HM w g (m ++ b) := by
 have e1 : (m ++ b).length = m.length + b.length := by simp
 have e2 : (m.length + b.length) / 64 = m.length / 64 := by omega
 have e3 : (m.length + b.length) % 64 = m.length % 64 + b.length := by omega
 have e4 : (rest.take (m.length % 64)).length = m.length % 64 := by rw [List.length_take]; omega
 refine ⟨putAt rest (m.length % 64) b, ?_, ?_, ?_⟩
 ·rw [e1, e2, wAt_app (by omega)]
  exact hs
 ·rw [e1, e2, e3]
  unfold putAt
  rw [List.take_append, e4, List.take_of_length_le (by omega), show m.length % 64 + b.length - m.length % 64 = b.length by omega, List.take_append_of_le_length (Nat.le_refl _), List.take_of_length_le (Nat.le_refl _), hrt, List.drop_append_of_le_length (by omega)]
 ·intro x hx
  rcases List.mem_append.1 hx with h | h
  ·exact hm x h
  ·exact hb x h
theorem blk_fill {m b rest : List Int} (hrt : rest.take (m.length % 64) = m.drop (64 * (m.length / 64))) (hrl : rest.length = 64) {k : Nat} (hk : m.length % 64 + k = 64) (hkb : k <= b.length) : putAt rest (m.length % 64) (b.take k) = blkOf (m ++ b) (m.length / 64) := by
 have e4 : (m.drop (64 * (m.length / 64))).length = m.length % 64 := by rw [List.length_drop]; omega
 unfold putAt blkOf
 rw [List.length_take, Nat.min_eq_left hkb, hk, List.drop_eq_nil_of_le (by omega), List.append_nil, hrt, List.drop_append_of_le_length (by omega), List.take_append, e4, List.take_of_length_le (l := m.drop (64 * (m.length / 64))) (by omega), show 64 - m.length % 64 = k by omega]
theorem HM.last {w : World} {g : Nat} {M rest : List Int} {c : Nat} (hs : HSt w g (wAt M c) (putAt rest 0 (M.drop (64 * c))) M.length) (hc : 64 * c <= M.length) (hlt : M.length < 64 * (c + 1)) (hm : ∀ x ∈ M, 0 <= x /\ x < 256) : HM w g M := by
 have e1 : M.length / 64 = c := by omega
 have e2 : M.length % 64 = (M.drop (64 * c)).length := by rw [List.length_drop]; omega
 refine ⟨_, by rw [e1]; exact hs, ?_, hm⟩
 rw [e1, e2]
 unfold putAt
 rw [List.take_zero, List.nil_append, List.take_append_of_le_length (Nat.le_refl _), List.take_of_length_le (Nat.le_refl _)]
theorem wpOp_of_wp {P : Program} {ops : Array Oper} {Q : Exit -> Act -> World -> Prop} {i : Nat} {o : Oper} {K : Act -> World -> Prop} {a : Act} {w : World} (hi : ops[i]? = some o) (hw : Region.wanted o (yielded ops a.tmps) = true) (h : o.wp P a w K Q) : wpOp P ops Q i K a w := by
 unfold wpOp
 rw [hi]
 simp only [hw, if_true]
 exact .inl h
theorem run_arrayAt_b64 (b off L c : Nat) (hL : 64 <= L) (W : World) : (Instr.arrayAt 78 (.slice (some ⟨b, off, none⟩) L c)).run Tryz.prog W = .ok (.pointer (some ⟨b, off, none⟩)) W := by
 unfold Instr.arrayAt
 simp only [Sem.run_bind, run_underlying Tryz.underlying78, Result.andThen_ok]
 simp [show ¬ L < 64 by omega]
def lenV : Value -> Nat
 | .slice _ n _ => n
 | _ => 0
def Off (v : Value) (g : Nat) : Prop := ∀ p l c, v = .slice p l c -> 0 < l -> v.ownBlock ≠ some g
theorem off_suf (p : Option Addr) (c k l n g : Nat) (h : Off (.slice p l n) g) : Off (.slice (if c = k then p else p.map (·.add k)) (l - k) (c - k)) g := by
 intro p' l' c' e hl
 simp only [Value.slice.injEq] at e
 exact suf_own p c k l n g (h _ _ _ rfl (by omega))
theorem HB.aw {w w' : World} {u : Value} {l : List Int} {g : Nat} (h : HB w u l) (hg : w.grownBy w' (some g)) (hu : Off u g) : HB w' u l := by
 obtain ⟨⟨p, c, rfl, h2, h3, h6, h4⟩, h5⟩ := h
 refine ⟨⟨p, c, rfl, h2, h3, h6, fun hl => ?_⟩, h5⟩
 obtain ⟨b, off, rfl, hh⟩ := h4 hl
 exact ⟨b, off, rfl, fun j hj => hg.cell (hh j hj) (by
  intro e
  exact hu _ _ _ rfl (by omega) (by simpa [Value.ownBlock] using e))⟩
theorem take_hash (w : World) (g : Nat) (m : List Int) (v : Value) (b : List Int) (h : HM w g m) (hb : HB w v b) (hv : Off v g) (hk : KC w) (hg0 : g ≠ 0) (hlen : m.length + b.length <= 1152921504606846976) :
  Calls Tryz.prog 102 #[.pointer (some ⟨g, 0, none⟩), v] w fun e w' => e = .returned (.tuple #[]) /\ HM w' g (m ++ b) /\ w.grownBy w' (some g) := by
 obtain ⟨rest, hs, hrt, hmb⟩ := h
 obtain ⟨p, c, ev, hlc, hcm⟩ := hb.open
 unfold maxLen at hcm
 have HS := hid hs
 have HRT := hid hrt
 have HMB := hid hmb
 have HBv := hid hb
 have HKC := hid hk
 have c80 := hs.sz
 have hfz : w.frozen? ⟨g, 80, none⟩ = false := by have := (hs.th 80 (by decide)).2; simpa using this
 subst ev
 have HV := hid hv
 obtain ⟨n, HN⟩ : ∃ n, Hid (m.length = n) := ⟨_, rfl⟩
 rw [HN.out] at c80 hlen
 clear hs hrt hmb hb hk hv
 obtain ⟨N, HNN⟩ : ∃ N, Hid (n + b.length = N) := ⟨_, rfl⟩
 have hNc : ((n : Int) + (b.length : Int)) = (N : Int) := by rw [<- HNN.out]; omega
 obtain ⟨W1, hW1⟩ : ∃ W1, Hid (w.setCell ⟨g, 80, none⟩ (.int .i64 (N : Int)) = W1) := ⟨_, rfl⟩
 have HS1 : Hid (HSt W1 g (wAt m (n / 64)) rest N) := by
  rw [<- hW1.out, <- HN.out]
  exact HS.out.size N
 have G1 : Hid (w.grownBy W1 (some g)) := by rw [<- hW1.out]; exact grown_sets _ _ _ _
 have HB1 := hid (HBv.out.aw G1.out HV.out)
 have HK1 : Hid (KC W1) := fun t ht => G1.out.cell (HKC.out t ht) (by simpa using hg0.symm)
 obtain ⟨held, HH⟩ : ∃ held, Hid (n % 64 = held) := ⟨_, rfl⟩
 have hhc : ((n : Int) % 64) = (held : Int) := by rw [<- HH.out]; omega
 have hh64 : held < 64 := by rw [<- HH.out]; omega
 obtain ⟨M, HM2⟩ : ∃ M, Hid (m ++ b = M) := ⟨_, rfl⟩
 have HML : Hid (M.length = N) := by
  show _ = _
  rw [<- HM2.out, List.length_append, HN.out]
  exact HNN.out
 have HMB2 : Hid (∀ x ∈ M, 0 <= x /\ x < 256) := by
  rw [<- HM2.out]
  intro x hx
  rcases List.mem_append.1 hx with h1 | h1
  ·exact HMB.out x h1
  ·exact HBv.out.2 x h1
 rw [HM2.out]
 go_enter Tryz.func102, Tryz.ntmps102
 by_cases hheld : 0 < held
 ·have hsl := run_slice_rest g held hh64
  obtain ⟨k, HKK⟩ : ∃ k, Hid (k = min (64 - held) b.length) := ⟨_, rfl⟩
  have hcp := run_copy_rest W1 g held _ rest N HS1.out (by omega) 3 _ b HB1.out k HKK.out
  have hW1' := hW1.out
  have hkb : k <= b.length := by rw [HKK.out]; omega
  have hk64 : held + k <= 64 := by rw [HKK.out]; omega
  obtain ⟨p2, HP2⟩ : ∃ p2, Hid ((if c = k then p else p.map (·.add k)) = p2) := ⟨_, rfl⟩
  have hss := run_slice_suf p b.length c k hkb
  rw [HP2.out] at hss
  have HBS : Hid (HB W1 (.slice p2 (b.length - k) (c - k)) (b.drop k)) := by
   rw [<- HP2.out]
   exact HB1.out.suf k hkb
  have HOS : Hid (Off (.slice p2 (b.length - k) (c - k)) g) := by
   rw [<- HP2.out]
   exact off_suf p c k b.length c g HV.out
  obtain ⟨W2, hW2⟩ : ∃ W2, Hid (W1.setCells g (16 + held) (bcells (b.take k)) = W2) := ⟨_, rfl⟩
  rw [hW2.out] at hcp
  have HS2 : Hid (HSt W2 g (wAt m (n / 64)) (putAt rest held (b.take k)) N) := by
   rw [<- hW2.out]
   exact HS1.out.put held (b.take k) (by rw [List.length_take]; omega) (fun x hx => HB1.out.2 x (List.mem_of_mem_take hx))
  have G12 : Hid (W1.grownBy W2 (some g)) := by rw [<- hW2.out]; exact grown_setCells g _ _ _
  have G2 := hid (grown_tr G1.out G12.out)
  have HK2 : Hid (KC W2) := fun t ht => G2.out.cell (HKC.out t ht) (by simpa using hg0.symm)
  have HB2 := hid (HBS.out.aw G12.out HOS.out)
  clear hW2
  by_cases hret : held + k < 64
  -- all goes into the rest
  ·have hkk : k = b.length := by have := HKK.out; omega
   have HFN : Hid (HM W2 g M) := by
    rw [<- HM2.out]
    have hs2 := HS2.out
    rw [hkk, List.take_of_length_le (Nat.le_refl _), <- HNN.out, <- HH.out, <- HN.out] at hs2
    exact HM.fill hs2 HRT.out HS.out.rl HMB.out HBv.out.2 (by rw [HN.out, HH.out]; omega)
   clear hkk
   go_wp2_with (at_builtin; refine Lib.wpList_copy_run _ rfl _ _ 34 34 rfl _ _ rfl rfl hcp ?_)
   refine bodyPost_ret (results_none rfl _ _ _) rfl ?_
   exact ⟨rfl, HFN.out, G2.out⟩
  go_wp2_with (at_builtin; refine Lib.wpList_copy_run _ rfl _ _ 34 34 rfl _ _ rfl rfl hcp ?_)
  obtain ⟨ww, HWW⟩ : ∃ ww, Hid (wAt m (n / 64) = ww) := ⟨_, rfl⟩
  obtain ⟨bk, HBK⟩ : ∃ bk, Hid (putAt rest held (b.take k) = bk) := ⟨_, rfl⟩
  rw [HWW.out, HBK.out] at HS2
  obtain ⟨vv, HVE⟩ : ∃ vv, Hid (mixL ww bk = vv) := ⟨_, rfl⟩
  have HVV : Hid (W8 vv) := by rw [<- HVE.out]; exact HS2.out.w8.mix
  have CM := mix_any W2.drew ww bk HS2.out.w8 HS2.out.rl HS2.out.rb HK2.out
  rw [HVE.out] at CM
  have CM2 := hid CM
  have RW : Hid (W2.drew.rangeAt g 8 (wcells ww)) := HS2.out.wv
  have RB : Hid (W2.drew.rangeAt g 16 (bcells bk)) := HS2.out.rv
  have SW : Hid ((Tryz.prog.info? 76).map (·.size) = some (wcells ww).length) := by rw [wcells_length, HS2.out.w8.1]; exact size_w8
  have SB : Hid ((Tryz.prog.info? 78).map (·.size) = some (bcells bk).length) := by rw [bcells_length, HS2.out.rl]; exact size_b64
  have SV : Hid ((Tryz.prog.info? 76).map (·.size) = some (cellsW vv).size) := by rw [cellsW_size, HVV.out.1]; exact size_w8
  have SO : Hid ((cellsW vv).all (·.oneCell') = true) := cellsW_one _
  have HWS : Hid (wAt M (n / 64 + 1) = vv) := by
   show mixL (wAt M (n / 64)) (blkOf M (n / 64)) = vv
   have hk' := HKK.out
   have hb' : blkOf M (n / 64) = bk := by
    rw [<- HBK.out, <- HM2.out, <- HH.out, <- HN.out]
    exact (blk_fill HRT.out HS.out.rl (by rw [HN.out, HH.out]; omega) hkb).symm
   rw [hb', <- HM2.out, wAt_app (by rw [HN.out]; omega), HWW.out, HVE.out]
  have HMD : Hid (M.drop (64 * (n / 64 + 1)) = b.drop k) := by
   show _ = _
   have h2 := HH.out
   have hk' := HKK.out
   rw [<- HM2.out, List.drop_append, List.drop_eq_nil_of_le (by rw [HN.out]; omega), List.nil_append, HN.out, show 64 * (n / 64 + 1) - n = k by omega]
  clear CM
  refine wp_region_any (by kernel_rfl) ?_
  change wpAny _ _ _ _ _ _ _ (World.drew _)
  refine wpAny_take (i := 0) (oi := { dst := some 36, op := Op.move (Operand.tmp 0), type := 135, pos := "hash.go:41", after := #[], guard := none }) (v := .pointer (some ⟨g, 0, none⟩)) rfl (by kernel_rfl) (by kernel_rfl) (by kernel_rfl) (fun _ _ _ h => h) (Or.inl ⟨by rfl, ?q0⟩) ?_
  case q0 => intro w; first | (go_simp; done) | (go_simp; rfl)
  simp only [Act.put, lay6]
  refine wpAny_take (i := 1) (oi := { dst := some 37, op := Op.move (Operand.tmp 0), type := 135, pos := "hash.go:41", after := #[], guard := none }) (v := .pointer (some ⟨g, 0, none⟩)) rfl (by kernel_rfl) (by kernel_rfl) (by kernel_rfl) (fun _ _ _ h => h) (Or.inl ⟨by rfl, ?q1⟩) ?_
  case q1 => intro w; first | (go_simp; done) | (go_simp; rfl)
  simp only [Act.put, lay6]
  refine wpAny_take (i := 2) (oi := { dst := some 38, op := Op.nilCheck (Operand.tmp 37), type := 0, pos := "hash.go:41", after := #[{ on := 1, ground := Ground.data }], guard := none }) (v := .pointer (some ⟨g, 0, none⟩)) rfl (by kernel_rfl) (by kernel_rfl) (by kernel_rfl) (fun _ _ _ h => h) (Or.inl ⟨by rfl, ?q2⟩) ?_
  case q2 => intro w; first | (go_simp; done) | (go_simp; rfl)
  simp only [Act.put, lay6]
  refine wpAny_take (i := 3) (oi := { dst := some 39, op := Op.fieldAddr 146 (Operand.tmp 38) 1, type := 0, pos := "hash.go:41", after := #[{ on := 2, ground := Ground.data }], guard := none }) (v := .pointer (some ⟨g, 8, none⟩)) rfl (by kernel_rfl) (by kernel_rfl) (by kernel_rfl) (fun _ _ _ h => h) (Or.inl ⟨by rfl, ?q3⟩) ?_
  case q3 => intro w; first | (go_simp; done) | (go_simp; rfl)
  simp only [Act.put, lay6]
  refine wpAny_take (i := 5) (oi := { dst := some 41, op := Op.move (Operand.tmp 0), type := 135, pos := "hash.go:41", after := #[], guard := none }) (v := .pointer (some ⟨g, 0, none⟩)) rfl (by kernel_rfl) (by kernel_rfl) (by kernel_rfl) (fun _ _ _ h => h) (Or.inl ⟨by rfl, ?q5⟩) ?_
  case q5 => intro w; first | (go_simp; done) | (go_simp; rfl)
  simp only [Act.put, lay6]
  refine wpAny_take (i := 6) (oi := { dst := some 42, op := Op.nilCheck (Operand.tmp 41), type := 0, pos := "hash.go:41", after := #[{ on := 5, ground := Ground.data }], guard := none }) (v := .pointer (some ⟨g, 0, none⟩)) rfl (by kernel_rfl) (by kernel_rfl) (by kernel_rfl) (fun _ _ _ h => h) (Or.inl ⟨by rfl, ?q6⟩) ?_
  case q6 => intro w; first | (go_simp; done) | (go_simp; rfl)
  simp only [Act.put, lay6]
  refine wpAny_take (i := 7) (oi := { dst := some 43, op := Op.fieldAddr 146 (Operand.tmp 42) 2, type := 0, pos := "hash.go:41", after := #[{ on := 6, ground := Ground.data }], guard := none }) (v := .pointer (some ⟨g, 16, none⟩)) rfl (by kernel_rfl) (by kernel_rfl) (by kernel_rfl) (fun _ _ _ h => h) (Or.inl ⟨by rfl, ?q7⟩) ?_
  case q7 => intro w; first | (go_simp; done) | (go_simp; rfl)
  simp only [Act.put, lay6]
  refine wpAny_all (rs := [4, 8]) (by kernel_rfl) (by simp) (fun j hj => ?_)
  have hj2 : j = 4 \/ j = 8 := by simpa using hj
  clear hj
  rcases hj2 with rfl | rfl
  ·refine wpOp_of_wp (o := { dst := some 40, op := Op.load 76 (Operand.tmp 39), type := 76, pos := "hash.go:41", after := #[{ on := 3, ground := Ground.data }], guard := none }) rfl rfl ?_
   refine wp_load_mid 76 _ rfl g 8 rfl (wcells ww) _ RW.out Tryz.underlying76 rfl SW.out ?_
   simp only [Act.put, lay6]
   refine wpAny_all (rs := [8]) (by kernel_rfl) (by simp) (fun j hj => ?_)
   obtain rfl : j = 8 := by simpa using hj
   clear hj
   refine wpOp_of_wp (o := { dst := some 44, op := Op.load 78 (Operand.tmp 43), type := 78, pos := "hash.go:41", after := #[{ on := 7, ground := Ground.data }], guard := none }) rfl rfl ?_
   refine wp_load_mid 78 _ rfl g 16 rfl (bcells bk) _ RB.out Tryz.underlying78 rfl SB.out ?_
   simp only [Act.put, lay6]
   refine wpAny_all (rs := [9]) (by kernel_rfl) (by simp) (fun j hj => ?_)
   obtain rfl : j = 9 := by simpa using hj
   clear hj
   refine wpOp_of_wp (o := { dst := some 45, op := Op.call { callee := Callee.value (Operand.func 110), args := #[Operand.tmp 40, Operand.tmp 44], argTypes := #[76, 78] }, type := 76, pos := "hash.go:41", after := #[{ on := 4, ground := Ground.data }, { on := 8, ground := Ground.data }], guard := none }) rfl rfl ?_
   generalize hKK : wpAny _ _ _ _ _ _ = K
   go_simp
   refine (CM2.out).mono ?_
   rintro e wm ⟨rfl, hBm⟩
   rw [<- hKK]
   clear hKK K
   refine wpAny_take (i := 10) (oi := { dst := some 46, op := Op.nilCheck (Operand.tmp 36), type := 0, pos := "hash.go:41", after := #[{ on := 0, ground := Ground.data }, { on := 0, ground := Ground.phase }, { on := 1, ground := Ground.phase }, { on := 2, ground := Ground.phase }, { on := 3, ground := Ground.phase }, { on := 4, ground := Ground.phase }, { on := 5, ground := Ground.phase }, { on := 6, ground := Ground.phase }, { on := 7, ground := Ground.phase }, { on := 8, ground := Ground.phase }, { on := 9, ground := Ground.phase }], guard := none }) (v := .pointer (some ⟨g, 0, none⟩)) rfl (by kernel_rfl) (by kernel_rfl) (by kernel_rfl) (fun _ _ _ h => h) (Or.inl ⟨by rfl, ?q10⟩) ?_
   case q10 => intro w; first | (go_simp; done) | (go_simp; rfl)
   simp only [Act.put, lay6]
   refine wpAny_take (i := 11) (oi := { dst := some 47, op := Op.fieldAddr 146 (Operand.tmp 46) 1, type := 0, pos := "hash.go:41", after := #[{ on := 10, ground := Ground.data }, { on := 0, ground := Ground.phase }, { on := 1, ground := Ground.phase }, { on := 2, ground := Ground.phase }, { on := 3, ground := Ground.phase }, { on := 4, ground := Ground.phase }, { on := 5, ground := Ground.phase }, { on := 6, ground := Ground.phase }, { on := 7, ground := Ground.phase }, { on := 8, ground := Ground.phase }, { on := 9, ground := Ground.phase }], guard := none }) (v := .pointer (some ⟨g, 8, none⟩)) rfl (by kernel_rfl) (by kernel_rfl) (by kernel_rfl) (fun _ _ _ h => h) (Or.inl ⟨by rfl, ?q11⟩) ?_
   case q11 => intro w; first | (go_simp; done) | (go_simp; rfl)
   simp only [Act.put, lay6]
   have HSm := hid ((HS2.out.block (C := W2.drew) rfl).below hBm)
   have TH : Hid (wm.there g 8 (cellsW vv).size) := by
    rw [cellsW_size, HVV.out.1]
    exact there_sub HSm.out.th 8 8 (by decide)
   refine wpAny_all (rs := [12]) (by kernel_rfl) (by simp) (fun j hj => ?_)
   obtain rfl : j = 12 := by simpa using hj
   clear hj
   refine wpOp_of_wp (o := { dst := none, op := Op.store 76 (Operand.tmp 47) (Operand.tmp 45), type := 0, pos := "hash.go:41", after := #[{ on := 11, ground := Ground.data }, { on := 9, ground := Ground.data }, { on := 9, ground := Ground.chain }, { on := 0, ground := Ground.phase }, { on := 1, ground := Ground.phase }, { on := 2, ground := Ground.phase }, { on := 3, ground := Ground.phase }, { on := 4, ground := Ground.phase }, { on := 5, ground := Ground.phase }, { on := 6, ground := Ground.phase }, { on := 7, ground := Ground.phase }, { on := 8, ground := Ground.phase }, { on := 9, ground := Ground.phase }], guard := none }) rfl rfl ?_
   refine wp_store_mid 76 _ _ rfl g 8 (cellsW vv) rfl rfl TH.out SV.out SO.out ?_
   simp only [Act.put]
   refine wpAny_done (by kernel_rfl) ?_ _
   obtain ⟨W3, hW3⟩ : ∃ W3, Hid (wm.setCells g 8 (cellsW vv).toList = W3) := ⟨_, rfl⟩
   rw [hW3.out]
   have G23 : Hid (W2.grownBy W3 (some g)) := by
    rw [<- hW3.out]
    exact grown_tr (grown_tr (b := W2.drew) ⟨rfl, rfl, rfl, Nat.le_refl _, fun _ _ _ => rfl⟩ (grown_below hBm)) (grown_setCells g _ _ _)
   have HS3 : Hid (HSt W3 g (wAt M (n / 64 + 1)) bk N) := by
    rw [<- hW3.out, HWS.out]
    exact HSm.out.words vv HVV.out
   have HB3 : Hid (HB W3 (.slice p2 (b.length - k) (c - k)) (M.drop (64 * (n / 64 + 1)))) := by
    rw [HMD.out]
    exact HB2.out.aw G23.out HOS.out
   have HO3 := HOS
   have G3 := hid (grown_tr G2.out G23.out)
   have HL3 : Hid (64 * (n / 64 + 1) + (b.length - k) = N) := by
    show _ = _
    have h1 := HNN.out
    have h2 := HH.out
    omega
   have hl3 : b.length - k <= c - k := by omega
   have hc3 : c - k <= 9223372036854775807 := by omega
   clear hW3 hBm
   go_wp2
   clear hheld hhc
   go_loopw [1] (fun v wr => ∃ (cc : Nat) (pp : Option Addr) (L cp : Nat) (rr : List Int), v = .slice pp L cp /\ L <= cp /\ cp <= 9223372036854775807 /\ Hid (64 * cc + L = N) /\ Hid (HSt wr g (wAt M cc) rr N) /\ Hid (HB wr (.slice pp L cp) (M.drop (64 * cc))) /\ Hid (Off (.slice pp L cp) g) /\ Hid (w.grownBy wr (some g))) (fun v _ => lenV v)
   case atStart => exact ⟨_, _, _, _, _, rfl, hl3, hc3, HL3, HS3, HB3, HO3, G3⟩
   case round =>
    clear HL3 HS3 HB3 HO3 G3 hl3 hc3
    obtain ⟨cc, pp, L, cp, rr, rfl, hLc, hcp9, HLN, HS2, HB2, HO2, G2⟩ := hrel
    have HLL : Hid ((M.drop (64 * cc)).length = L) := by
     show _ = _
     rw [List.length_drop, HML.out]
     have := HLN.out
     omega
    by_cases hL : 64 <= L
    ·obtain ⟨W2, hW2⟩ : ∃ W2, Hid (W2 = wr) := ⟨_, rfl⟩
     rw [<- hW2.out] at HS2 HB2 G2 ⊢
     obtain ⟨bb, off, cp', ep, _, _, hcl⟩ := HB2.out.ne (by rw [HLL.out]; omega)
     simp only [Value.slice.injEq] at ep
     obtain ⟨rfl, -, rfl⟩ := ep
     obtain ⟨ww, HWW⟩ : ∃ ww, Hid (wAt M cc = ww) := ⟨_, rfl⟩
     obtain ⟨bk, HBK⟩ : ∃ bk, Hid (blkOf M cc = bk) := ⟨_, rfl⟩
     rw [HWW.out] at HS2
     have hbkl : bk.length = 64 := by
      rw [<- HBK.out]
      exact blkOf_length (by rw [HML.out, <- HLN.out]; omega)
     have hbkb : ∀ x ∈ bk, 0 <= x /\ x < 256 := by rw [<- HBK.out]; exact blkOf_byt HMB2.out cc
     obtain ⟨vv, HVE⟩ : ∃ vv, Hid (mixL ww bk = vv) := ⟨_, rfl⟩
     have HVV : Hid (W8 vv) := by rw [<- HVE.out]; exact HS2.out.w8.mix
     have HK2 : Hid (KC W2) := fun t ht => G2.out.cell (HKC.out t ht) (by simpa using hg0.symm)
     have CM := mix_any W2.drew ww bk HS2.out.w8 hbkl hbkb HK2.out
     rw [HVE.out] at CM
     have CM2 := hid CM
     have RW : Hid (W2.drew.rangeAt g 8 (wcells ww)) := HS2.out.wv
     have RB : Hid (W2.drew.rangeAt bb off (bcells bk)) := fun j u hu => by
      have hj : j < 64 := by have := (List.getElem?_eq_some_iff.1 hu).1; rw [bcells_length, hbkl] at this; exact this
      have h1 := hcl j (by rw [HLL.out]; omega)
      rw [show W2.drew.cell? ⟨bb, off + j, none⟩ = W2.cell? ⟨bb, off + j, none⟩ from rfl, h1]
      rw [<- HBK.out] at hu
      unfold blkOf at hu
      simp only [bcells, List.getElem?_map, List.getElem?_take, if_pos hj] at hu
      rw [List.getElem?_eq_getElem (show j < (M.drop (64 * cc)).length by rw [HLL.out]; omega), Option.map_some, <- getD_of_lt] at hu
      exact hu
     have SW : Hid ((Tryz.prog.info? 76).map (·.size) = some (wcells ww).length) := by rw [wcells_length, HS2.out.w8.1]; exact size_w8
     have SB : Hid ((Tryz.prog.info? 78).map (·.size) = some (bcells bk).length) := by rw [bcells_length, hbkl]; exact size_b64
     have SV : Hid ((Tryz.prog.info? 76).map (·.size) = some (cellsW vv).size) := by rw [cellsW_size, HVV.out.1]; exact size_w8
     have SO : Hid ((cellsW vv).all (·.oneCell') = true) := cellsW_one _
     have harr := run_arrayAt_b64 bb off L cp hL
     obtain ⟨p4, HP4⟩ : ∃ p4, Hid ((if cp = 64 then (some (⟨bb, off, none⟩ : Addr)) else (some (⟨bb, off, none⟩ : Addr)).map (·.add 64)) = p4) := ⟨_, rfl⟩
     have hss : ∀ W, (Instr.slice 34 (.slice (some ⟨bb, off, none⟩) L cp) (some (.int .i64 64)) none none).run Tryz.prog W = .ok (.slice p4 (L - 64) (cp - 64)) W := fun W => by
      rw [<- HP4.out]
      exact run_slice_suf (some ⟨bb, off, none⟩) L cp 64 hL W
     have HB4 : Hid (HB W2 (.slice p4 (L - 64) (cp - 64)) (M.drop (64 * (cc + 1)))) := by
      rw [<- HP4.out]
      have h1 : HB W2 (.slice (some ⟨bb, off, none⟩) (M.drop (64 * cc)).length cp) (M.drop (64 * cc)) := by rw [HLL.out]; exact HB2.out
      have h2 := h1.suf 64 (by rw [HLL.out]; exact hL)
      rw [HLL.out, List.drop_drop] at h2
      rwa [show 64 * cc + 64 = 64 * (cc + 1) by omega] at h2
     have HO4 : Hid (Off (.slice p4 (L - 64) (cp - 64)) g) := by
      rw [<- HP4.out]
      exact off_suf _ cp 64 L cp g HO2.out
     have HWS : Hid (wAt M (cc + 1) = vv) := by
      show mixL (wAt M cc) (blkOf M cc) = vv
      rw [HWW.out, HBK.out, HVE.out]
     clear CM hcl hbkl hbkb
     go_wp2
     refine wp_region_any (by kernel_rfl) ?_
     change wpAny _ _ _ _ _ _ _ (World.drew _)
     refine wpAny_take (i := 0) (oi := { dst := some 51, op := Op.move (Operand.tmp 0), type := 135, pos := "hash.go:44", after := #[], guard := none }) (v := .pointer (some ⟨g, 0, none⟩)) rfl (by kernel_rfl) (by kernel_rfl) (by kernel_rfl) (fun _ _ _ h => h) (Or.inl ⟨by rfl, ?q0⟩) ?_
     case q0 => intro w; first | (go_simp; done) | (go_simp; rfl)
     simp only [Act.put, lay6]
     refine wpAny_take (i := 1) (oi := { dst := some 52, op := Op.move (Operand.tmp 0), type := 135, pos := "hash.go:44", after := #[], guard := none }) (v := .pointer (some ⟨g, 0, none⟩)) rfl (by kernel_rfl) (by kernel_rfl) (by kernel_rfl) (fun _ _ _ h => h) (Or.inl ⟨by rfl, ?q1⟩) ?_
     case q1 => intro w; first | (go_simp; done) | (go_simp; rfl)
     simp only [Act.put, lay6]
     refine wpAny_take (i := 2) (oi := { dst := some 53, op := Op.nilCheck (Operand.tmp 52), type := 0, pos := "hash.go:44", after := #[{ on := 1, ground := Ground.data }], guard := none }) (v := .pointer (some ⟨g, 0, none⟩)) rfl (by kernel_rfl) (by kernel_rfl) (by kernel_rfl) (fun _ _ _ h => h) (Or.inl ⟨by rfl, ?q2⟩) ?_
     case q2 => intro w; first | (go_simp; done) | (go_simp; rfl)
     simp only [Act.put, lay6]
     refine wpAny_take (i := 3) (oi := { dst := some 54, op := Op.fieldAddr 146 (Operand.tmp 53) 1, type := 0, pos := "hash.go:44", after := #[{ on := 2, ground := Ground.data }], guard := none }) (v := .pointer (some ⟨g, 8, none⟩)) rfl (by kernel_rfl) (by kernel_rfl) (by kernel_rfl) (fun _ _ _ h => h) (Or.inl ⟨by rfl, ?q3⟩) ?_
     case q3 => intro w; first | (go_simp; done) | (go_simp; rfl)
     simp only [Act.put, lay6]
     refine wpAny_take (i := 5) (oi := { dst := some 56, op := Op.move (Operand.tmp 1), type := 34, pos := "hash.go:44", after := #[], guard := none }) (v := .slice (some ⟨bb, off, none⟩) L cp) rfl (by kernel_rfl) (by kernel_rfl) (by kernel_rfl) (fun _ _ _ h => h) (Or.inl ⟨by rfl, ?q5⟩) ?_
     case q5 => intro w; first | (go_simp; done) | (go_simp; rfl)
     simp only [Act.put, lay6]
     refine wpAny_take (i := 6) (oi := { dst := some 57, op := Op.sliceToArrayPointer 78 (Operand.tmp 56), type := 0, pos := "hash.go:44", after := #[{ on := 5, ground := Ground.data }], guard := none }) (v := .pointer (some ⟨bb, off, none⟩)) rfl (by kernel_rfl) (by kernel_rfl) (by kernel_rfl) (fun _ _ _ h => h) (Or.inl ⟨by rfl, ?q6⟩) ?_
     case q6 => intro w; first | (go_simp; done) | (go_simp; rfl)
     simp only [Act.put, lay6]
     refine wpAny_all (rs := [4, 7]) (by kernel_rfl) (by simp) (fun j hj => ?_)
     have hj2 : j = 4 \/ j = 7 := by simpa using hj
     clear hj
     rcases hj2 with rfl | rfl
     ·refine wpOp_of_wp (o := { dst := some 55, op := Op.load 76 (Operand.tmp 54), type := 76, pos := "hash.go:44", after := #[{ on := 3, ground := Ground.data }], guard := none }) rfl rfl ?_
      refine wp_load_mid 76 _ rfl g 8 rfl (wcells ww) _ RW.out Tryz.underlying76 rfl SW.out ?_
      simp only [Act.put, lay6]
      refine wpAny_all (rs := [7]) (by kernel_rfl) (by simp) (fun j hj => ?_)
      obtain rfl : j = 7 := by simpa using hj
      clear hj
      refine wpOp_of_wp (o := { dst := some 58, op := Op.load 78 (Operand.tmp 57), type := 78, pos := "hash.go:44", after := #[{ on := 6, ground := Ground.data }], guard := none }) rfl rfl ?_
      refine wp_load_mid 78 _ rfl bb off rfl (bcells bk) _ RB.out Tryz.underlying78 rfl SB.out ?_
      simp only [Act.put, lay6]
      refine wpAny_all (rs := [8]) (by kernel_rfl) (by simp) (fun j hj => ?_)
      obtain rfl : j = 8 := by simpa using hj
      clear hj
      refine wpOp_of_wp (o := { dst := some 59, op := Op.call { callee := Callee.value (Operand.func 110), args := #[Operand.tmp 55, Operand.tmp 58], argTypes := #[76, 78] }, type := 76, pos := "hash.go:44", after := #[{ on := 4, ground := Ground.data }, { on := 7, ground := Ground.data }], guard := none }) rfl rfl ?_
      generalize hKK : wpAny _ _ _ _ _ _ = K
      go_simp
      refine (CM2.out).mono ?_
      rintro e wm ⟨rfl, hBm⟩
      rw [<- hKK]
      clear hKK K
      refine wpAny_take (i := 9) (oi := { dst := some 60, op := Op.nilCheck (Operand.tmp 51), type := 0, pos := "hash.go:44", after := #[{ on := 0, ground := Ground.data }, { on := 0, ground := Ground.phase }, { on := 1, ground := Ground.phase }, { on := 2, ground := Ground.phase }, { on := 3, ground := Ground.phase }, { on := 4, ground := Ground.phase }, { on := 5, ground := Ground.phase }, { on := 6, ground := Ground.phase }, { on := 7, ground := Ground.phase }, { on := 8, ground := Ground.phase }], guard := none }) (v := .pointer (some ⟨g, 0, none⟩)) rfl (by kernel_rfl) (by kernel_rfl) (by kernel_rfl) (fun _ _ _ h => h) (Or.inl ⟨by rfl, ?q9⟩) ?_
      case q9 => intro w; first | (go_simp; done) | (go_simp; rfl)
      simp only [Act.put, lay6]
      refine wpAny_take (i := 10) (oi := { dst := some 61, op := Op.fieldAddr 146 (Operand.tmp 60) 1, type := 0, pos := "hash.go:44", after := #[{ on := 9, ground := Ground.data }, { on := 0, ground := Ground.phase }, { on := 1, ground := Ground.phase }, { on := 2, ground := Ground.phase }, { on := 3, ground := Ground.phase }, { on := 4, ground := Ground.phase }, { on := 5, ground := Ground.phase }, { on := 6, ground := Ground.phase }, { on := 7, ground := Ground.phase }, { on := 8, ground := Ground.phase }], guard := none }) (v := .pointer (some ⟨g, 8, none⟩)) rfl (by kernel_rfl) (by kernel_rfl) (by kernel_rfl) (fun _ _ _ h => h) (Or.inl ⟨by rfl, ?q10⟩) ?_
      case q10 => intro w; first | (go_simp; done) | (go_simp; rfl)
      simp only [Act.put, lay6]
      have HSm := hid ((HS2.out.block (C := W2.drew) rfl).below hBm)
      have TH : Hid (wm.there g 8 (cellsW vv).size) := by
       rw [cellsW_size, HVV.out.1]
       exact there_sub HSm.out.th 8 8 (by decide)
      refine wpAny_all (rs := [11]) (by kernel_rfl) (by simp) (fun j hj => ?_)
      obtain rfl : j = 11 := by simpa using hj
      clear hj
      refine wpOp_of_wp (o := { dst := none, op := Op.store 76 (Operand.tmp 61) (Operand.tmp 59), type := 0, pos := "hash.go:44", after := #[{ on := 10, ground := Ground.data }, { on := 8, ground := Ground.data }, { on := 8, ground := Ground.chain }, { on := 0, ground := Ground.phase }, { on := 1, ground := Ground.phase }, { on := 2, ground := Ground.phase }, { on := 3, ground := Ground.phase }, { on := 4, ground := Ground.phase }, { on := 5, ground := Ground.phase }, { on := 6, ground := Ground.phase }, { on := 7, ground := Ground.phase }, { on := 8, ground := Ground.phase }], guard := none }) rfl rfl ?_
      refine wp_store_mid 76 _ _ rfl g 8 (cellsW vv) rfl rfl TH.out SV.out SO.out ?_
      simp only [Act.put]
      refine wpAny_done (by kernel_rfl) ?_ _
      obtain ⟨W3, hW3⟩ : ∃ W3, Hid (wm.setCells g 8 (cellsW vv).toList = W3) := ⟨_, rfl⟩
      rw [hW3.out]
      have HS3 : Hid (HSt W3 g (wAt M (cc + 1)) rr N) := by
       rw [<- hW3.out, HWS.out]
       exact HSm.out.words vv HVV.out
      have G23 : Hid (W2.grownBy W3 (some g)) := by
       rw [<- hW3.out]
       exact grown_tr (grown_tr (b := W2.drew) ⟨rfl, rfl, rfl, Nat.le_refl _, fun _ _ _ => rfl⟩ (grown_below hBm)) (grown_setCells g _ _ _)
      have HB5 := hid (HB4.out.aw G23.out HO4.out)
      have G3 := hid (grown_tr G2.out G23.out)
      clear hW3 hBm
      go_wp2
      exact ⟨⟨cc + 1, p4, L - 64, cp - 64, rr, rfl, by omega, by omega, by have := HLN.out; show _ = _; omega, HS3, HB5, HO4, G3⟩, by simp [lenV]; omega⟩
     ·refine wpOp_of_wp (o := { dst := some 58, op := Op.load 78 (Operand.tmp 57), type := 78, pos := "hash.go:44", after := #[{ on := 6, ground := Ground.data }], guard := none }) rfl rfl ?_
      refine wp_load_mid 78 _ rfl bb off rfl (bcells bk) _ RB.out Tryz.underlying78 rfl SB.out ?_
      simp only [Act.put, lay6]
      refine wpAny_all (rs := [4]) (by kernel_rfl) (by simp) (fun j hj => ?_)
      obtain rfl : j = 4 := by simpa using hj
      clear hj
      refine wpOp_of_wp (o := { dst := some 55, op := Op.load 76 (Operand.tmp 54), type := 76, pos := "hash.go:44", after := #[{ on := 3, ground := Ground.data }], guard := none }) rfl rfl ?_
      refine wp_load_mid 76 _ rfl g 8 rfl (wcells ww) _ RW.out Tryz.underlying76 rfl SW.out ?_
      simp only [Act.put, lay6]
      refine wpAny_all (rs := [8]) (by kernel_rfl) (by simp) (fun j hj => ?_)
      obtain rfl : j = 8 := by simpa using hj
      clear hj
      refine wpOp_of_wp (o := { dst := some 59, op := Op.call { callee := Callee.value (Operand.func 110), args := #[Operand.tmp 55, Operand.tmp 58], argTypes := #[76, 78] }, type := 76, pos := "hash.go:44", after := #[{ on := 4, ground := Ground.data }, { on := 7, ground := Ground.data }], guard := none }) rfl rfl ?_
      generalize hKK : wpAny _ _ _ _ _ _ = K
      go_simp
      refine (CM2.out).mono ?_
      rintro e wm ⟨rfl, hBm⟩
      rw [<- hKK]
      clear hKK K
      refine wpAny_take (i := 9) (oi := { dst := some 60, op := Op.nilCheck (Operand.tmp 51), type := 0, pos := "hash.go:44", after := #[{ on := 0, ground := Ground.data }, { on := 0, ground := Ground.phase }, { on := 1, ground := Ground.phase }, { on := 2, ground := Ground.phase }, { on := 3, ground := Ground.phase }, { on := 4, ground := Ground.phase }, { on := 5, ground := Ground.phase }, { on := 6, ground := Ground.phase }, { on := 7, ground := Ground.phase }, { on := 8, ground := Ground.phase }], guard := none }) (v := .pointer (some ⟨g, 0, none⟩)) rfl (by kernel_rfl) (by kernel_rfl) (by kernel_rfl) (fun _ _ _ h => h) (Or.inl ⟨by rfl, ?q9⟩) ?_
      case q9 => intro w; first | (go_simp; done) | (go_simp; rfl)
      simp only [Act.put, lay6]
      refine wpAny_take (i := 10) (oi := { dst := some 61, op := Op.fieldAddr 146 (Operand.tmp 60) 1, type := 0, pos := "hash.go:44", after := #[{ on := 9, ground := Ground.data }, { on := 0, ground := Ground.phase }, { on := 1, ground := Ground.phase }, { on := 2, ground := Ground.phase }, { on := 3, ground := Ground.phase }, { on := 4, ground := Ground.phase }, { on := 5, ground := Ground.phase }, { on := 6, ground := Ground.phase }, { on := 7, ground := Ground.phase }, { on := 8, ground := Ground.phase }], guard := none }) (v := .pointer (some ⟨g, 8, none⟩)) rfl (by kernel_rfl) (by kernel_rfl) (by kernel_rfl) (fun _ _ _ h => h) (Or.inl ⟨by rfl, ?q10⟩) ?_
      case q10 => intro w; first | (go_simp; done) | (go_simp; rfl)
      simp only [Act.put, lay6]
      have HSm := hid ((HS2.out.block (C := W2.drew) rfl).below hBm)
      have TH : Hid (wm.there g 8 (cellsW vv).size) := by
       rw [cellsW_size, HVV.out.1]
       exact there_sub HSm.out.th 8 8 (by decide)
      refine wpAny_all (rs := [11]) (by kernel_rfl) (by simp) (fun j hj => ?_)
      obtain rfl : j = 11 := by simpa using hj
      clear hj
      refine wpOp_of_wp (o := { dst := none, op := Op.store 76 (Operand.tmp 61) (Operand.tmp 59), type := 0, pos := "hash.go:44", after := #[{ on := 10, ground := Ground.data }, { on := 8, ground := Ground.data }, { on := 8, ground := Ground.chain }, { on := 0, ground := Ground.phase }, { on := 1, ground := Ground.phase }, { on := 2, ground := Ground.phase }, { on := 3, ground := Ground.phase }, { on := 4, ground := Ground.phase }, { on := 5, ground := Ground.phase }, { on := 6, ground := Ground.phase }, { on := 7, ground := Ground.phase }, { on := 8, ground := Ground.phase }], guard := none }) rfl rfl ?_
      refine wp_store_mid 76 _ _ rfl g 8 (cellsW vv) rfl rfl TH.out SV.out SO.out ?_
      simp only [Act.put]
      refine wpAny_done (by kernel_rfl) ?_ _
      obtain ⟨W3, hW3⟩ : ∃ W3, Hid (wm.setCells g 8 (cellsW vv).toList = W3) := ⟨_, rfl⟩
      rw [hW3.out]
      have HS3 : Hid (HSt W3 g (wAt M (cc + 1)) rr N) := by
       rw [<- hW3.out, HWS.out]
       exact HSm.out.words vv HVV.out
      have G23 : Hid (W2.grownBy W3 (some g)) := by
       rw [<- hW3.out]
       exact grown_tr (grown_tr (b := W2.drew) ⟨rfl, rfl, rfl, Nat.le_refl _, fun _ _ _ => rfl⟩ (grown_below hBm)) (grown_setCells g _ _ _)
      have HB5 := hid (HB4.out.aw G23.out HO4.out)
      have G3 := hid (grown_tr G2.out G23.out)
      clear hW3 hBm
      go_wp2
      exact ⟨⟨cc + 1, p4, L - 64, cp - 64, rr, rfl, by omega, by omega, by have := HLN.out; show _ = _; omega, HS3, HB5, HO4, G3⟩, by simp [lenV]; omega⟩
    ·have hcp0 := run_copy_rest wr g 0 _ rr N HS2.out (by decide) 3 _ _ HB2.out L (by rw [HLL.out]; omega)
     rw [List.take_of_length_le (by rw [HLL.out]; exact Nat.le_refl _)] at hcp0
     have hsa := run_slice_all g
     have HFN : Hid (HM (wr.setCells g (16 + 0) (bcells (M.drop (64 * cc)))) g M) := by
      have h1 := HS2.out.put 0 (M.drop (64 * cc)) (by rw [HLL.out]; omega) (fun x hx => HMB2.out x (List.mem_of_mem_drop hx))
      rw [<- HML.out] at h1
      exact HM.last h1 (by rw [HML.out, <- HLN.out]; omega) (by rw [HML.out, <- HLN.out]; omega) HMB2.out
     have G3 := hid (grown_tr G2.out (grown_setCells g (bcells (M.drop (64 * cc))) (16 + 0) wr))
     obtain ⟨W3, hW3⟩ : ∃ W3, Hid (wr.setCells g (16 + 0) (bcells (M.drop (64 * cc))) = W3) := ⟨_, rfl⟩
     rw [hW3.out] at hcp0 HFN G3
     clear hW3
     go_wp2_with (at_builtin; refine Lib.wpList_copy_run _ rfl _ _ 34 34 rfl _ _ rfl rfl hcp0 ?_)
     go_end0
     exact ⟨rfl, HFN.out, G3.out⟩
  ·refine wpOp_of_wp (o := { dst := some 44, op := Op.load 78 (Operand.tmp 43), type := 78, pos := "hash.go:41", after := #[{ on := 7, ground := Ground.data }], guard := none }) rfl rfl ?_
   refine wp_load_mid 78 _ rfl g 16 rfl (bcells bk) _ RB.out Tryz.underlying78 rfl SB.out ?_
   simp only [Act.put, lay6]
   refine wpAny_all (rs := [4]) (by kernel_rfl) (by simp) (fun j hj => ?_)
   obtain rfl : j = 4 := by simpa using hj
   clear hj
   refine wpOp_of_wp (o := { dst := some 40, op := Op.load 76 (Operand.tmp 39), type := 76, pos := "hash.go:41", after := #[{ on := 3, ground := Ground.data }], guard := none }) rfl rfl ?_
   refine wp_load_mid 76 _ rfl g 8 rfl (wcells ww) _ RW.out Tryz.underlying76 rfl SW.out ?_
   simp only [Act.put, lay6]
   refine wpAny_all (rs := [9]) (by kernel_rfl) (by simp) (fun j hj => ?_)
   obtain rfl : j = 9 := by simpa using hj
   clear hj
   refine wpOp_of_wp (o := { dst := some 45, op := Op.call { callee := Callee.value (Operand.func 110), args := #[Operand.tmp 40, Operand.tmp 44], argTypes := #[76, 78] }, type := 76, pos := "hash.go:41", after := #[{ on := 4, ground := Ground.data }, { on := 8, ground := Ground.data }], guard := none }) rfl rfl ?_
   generalize hKK : wpAny _ _ _ _ _ _ = K
   go_simp
   refine (CM2.out).mono ?_
   rintro e wm ⟨rfl, hBm⟩
   rw [<- hKK]
   clear hKK K
   refine wpAny_take (i := 10) (oi := { dst := some 46, op := Op.nilCheck (Operand.tmp 36), type := 0, pos := "hash.go:41", after := #[{ on := 0, ground := Ground.data }, { on := 0, ground := Ground.phase }, { on := 1, ground := Ground.phase }, { on := 2, ground := Ground.phase }, { on := 3, ground := Ground.phase }, { on := 4, ground := Ground.phase }, { on := 5, ground := Ground.phase }, { on := 6, ground := Ground.phase }, { on := 7, ground := Ground.phase }, { on := 8, ground := Ground.phase }, { on := 9, ground := Ground.phase }], guard := none }) (v := .pointer (some ⟨g, 0, none⟩)) rfl (by kernel_rfl) (by kernel_rfl) (by kernel_rfl) (fun _ _ _ h => h) (Or.inl ⟨by rfl, ?q10⟩) ?_
   case q10 => intro w; first | (go_simp; done) | (go_simp; rfl)
   simp only [Act.put, lay6]
   refine wpAny_take (i := 11) (oi := { dst := some 47, op := Op.fieldAddr 146 (Operand.tmp 46) 1, type := 0, pos := "hash.go:41", after := #[{ on := 10, ground := Ground.data }, { on := 0, ground := Ground.phase }, { on := 1, ground := Ground.phase }, { on := 2, ground := Ground.phase }, { on := 3, ground := Ground.phase }, { on := 4, ground := Ground.phase }, { on := 5, ground := Ground.phase }, { on := 6, ground := Ground.phase }, { on := 7, ground := Ground.phase }, { on := 8, ground := Ground.phase }, { on := 9, ground := Ground.phase }], guard := none }) (v := .pointer (some ⟨g, 8, none⟩)) rfl (by kernel_rfl) (by kernel_rfl) (by kernel_rfl) (fun _ _ _ h => h) (Or.inl ⟨by rfl, ?q11⟩) ?_
   case q11 => intro w; first | (go_simp; done) | (go_simp; rfl)
   simp only [Act.put, lay6]
   have HSm := hid ((HS2.out.block (C := W2.drew) rfl).below hBm)
   have TH : Hid (wm.there g 8 (cellsW vv).size) := by
    rw [cellsW_size, HVV.out.1]
    exact there_sub HSm.out.th 8 8 (by decide)
   refine wpAny_all (rs := [12]) (by kernel_rfl) (by simp) (fun j hj => ?_)
   obtain rfl : j = 12 := by simpa using hj
   clear hj
   refine wpOp_of_wp (o := { dst := none, op := Op.store 76 (Operand.tmp 47) (Operand.tmp 45), type := 0, pos := "hash.go:41", after := #[{ on := 11, ground := Ground.data }, { on := 9, ground := Ground.data }, { on := 9, ground := Ground.chain }, { on := 0, ground := Ground.phase }, { on := 1, ground := Ground.phase }, { on := 2, ground := Ground.phase }, { on := 3, ground := Ground.phase }, { on := 4, ground := Ground.phase }, { on := 5, ground := Ground.phase }, { on := 6, ground := Ground.phase }, { on := 7, ground := Ground.phase }, { on := 8, ground := Ground.phase }, { on := 9, ground := Ground.phase }], guard := none }) rfl rfl ?_
   refine wp_store_mid 76 _ _ rfl g 8 (cellsW vv) rfl rfl TH.out SV.out SO.out ?_
   simp only [Act.put]
   refine wpAny_done (by kernel_rfl) ?_ _
   obtain ⟨W3, hW3⟩ : ∃ W3, Hid (wm.setCells g 8 (cellsW vv).toList = W3) := ⟨_, rfl⟩
   rw [hW3.out]
   have G23 : Hid (W2.grownBy W3 (some g)) := by
    rw [<- hW3.out]
    exact grown_tr (grown_tr (b := W2.drew) ⟨rfl, rfl, rfl, Nat.le_refl _, fun _ _ _ => rfl⟩ (grown_below hBm)) (grown_setCells g _ _ _)
   have HS3 : Hid (HSt W3 g (wAt M (n / 64 + 1)) bk N) := by
    rw [<- hW3.out, HWS.out]
    exact HSm.out.words vv HVV.out
   have HB3 : Hid (HB W3 (.slice p2 (b.length - k) (c - k)) (M.drop (64 * (n / 64 + 1)))) := by
    rw [HMD.out]
    exact HB2.out.aw G23.out HOS.out
   have HO3 := HOS
   have G3 := hid (grown_tr G2.out G23.out)
   have HL3 : Hid (64 * (n / 64 + 1) + (b.length - k) = N) := by
    show _ = _
    have h1 := HNN.out
    have h2 := HH.out
    omega
   have hl3 : b.length - k <= c - k := by omega
   have hc3 : c - k <= 9223372036854775807 := by omega
   clear hW3 hBm
   go_wp2
   clear hheld hhc
   go_loopw [1] (fun v wr => ∃ (cc : Nat) (pp : Option Addr) (L cp : Nat) (rr : List Int), v = .slice pp L cp /\ L <= cp /\ cp <= 9223372036854775807 /\ Hid (64 * cc + L = N) /\ Hid (HSt wr g (wAt M cc) rr N) /\ Hid (HB wr (.slice pp L cp) (M.drop (64 * cc))) /\ Hid (Off (.slice pp L cp) g) /\ Hid (w.grownBy wr (some g))) (fun v _ => lenV v)
   case atStart => exact ⟨_, _, _, _, _, rfl, hl3, hc3, HL3, HS3, HB3, HO3, G3⟩
   case round =>
    clear HL3 HS3 HB3 HO3 G3 hl3 hc3
    obtain ⟨cc, pp, L, cp, rr, rfl, hLc, hcp9, HLN, HS2, HB2, HO2, G2⟩ := hrel
    have HLL : Hid ((M.drop (64 * cc)).length = L) := by
     show _ = _
     rw [List.length_drop, HML.out]
     have := HLN.out
     omega
    by_cases hL : 64 <= L
    ·obtain ⟨W2, hW2⟩ : ∃ W2, Hid (W2 = wr) := ⟨_, rfl⟩
     rw [<- hW2.out] at HS2 HB2 G2 ⊢
     obtain ⟨bb, off, cp', ep, _, _, hcl⟩ := HB2.out.ne (by rw [HLL.out]; omega)
     simp only [Value.slice.injEq] at ep
     obtain ⟨rfl, -, rfl⟩ := ep
     obtain ⟨ww, HWW⟩ : ∃ ww, Hid (wAt M cc = ww) := ⟨_, rfl⟩
     obtain ⟨bk, HBK⟩ : ∃ bk, Hid (blkOf M cc = bk) := ⟨_, rfl⟩
     rw [HWW.out] at HS2
     have hbkl : bk.length = 64 := by
      rw [<- HBK.out]
      exact blkOf_length (by rw [HML.out, <- HLN.out]; omega)
     have hbkb : ∀ x ∈ bk, 0 <= x /\ x < 256 := by rw [<- HBK.out]; exact blkOf_byt HMB2.out cc
     obtain ⟨vv, HVE⟩ : ∃ vv, Hid (mixL ww bk = vv) := ⟨_, rfl⟩
     have HVV : Hid (W8 vv) := by rw [<- HVE.out]; exact HS2.out.w8.mix
     have HK2 : Hid (KC W2) := fun t ht => G2.out.cell (HKC.out t ht) (by simpa using hg0.symm)
     have CM := mix_any W2.drew ww bk HS2.out.w8 hbkl hbkb HK2.out
     rw [HVE.out] at CM
     have CM2 := hid CM
     have RW : Hid (W2.drew.rangeAt g 8 (wcells ww)) := HS2.out.wv
     have RB : Hid (W2.drew.rangeAt bb off (bcells bk)) := fun j u hu => by
      have hj : j < 64 := by have := (List.getElem?_eq_some_iff.1 hu).1; rw [bcells_length, hbkl] at this; exact this
      have h1 := hcl j (by rw [HLL.out]; omega)
      rw [show W2.drew.cell? ⟨bb, off + j, none⟩ = W2.cell? ⟨bb, off + j, none⟩ from rfl, h1]
      rw [<- HBK.out] at hu
      unfold blkOf at hu
      simp only [bcells, List.getElem?_map, List.getElem?_take, if_pos hj] at hu
      rw [List.getElem?_eq_getElem (show j < (M.drop (64 * cc)).length by rw [HLL.out]; omega), Option.map_some, <- getD_of_lt] at hu
      exact hu
     have SW : Hid ((Tryz.prog.info? 76).map (·.size) = some (wcells ww).length) := by rw [wcells_length, HS2.out.w8.1]; exact size_w8
     have SB : Hid ((Tryz.prog.info? 78).map (·.size) = some (bcells bk).length) := by rw [bcells_length, hbkl]; exact size_b64
     have SV : Hid ((Tryz.prog.info? 76).map (·.size) = some (cellsW vv).size) := by rw [cellsW_size, HVV.out.1]; exact size_w8
     have SO : Hid ((cellsW vv).all (·.oneCell') = true) := cellsW_one _
     have harr := run_arrayAt_b64 bb off L cp hL
     obtain ⟨p4, HP4⟩ : ∃ p4, Hid ((if cp = 64 then (some (⟨bb, off, none⟩ : Addr)) else (some (⟨bb, off, none⟩ : Addr)).map (·.add 64)) = p4) := ⟨_, rfl⟩
     have hss : ∀ W, (Instr.slice 34 (.slice (some ⟨bb, off, none⟩) L cp) (some (.int .i64 64)) none none).run Tryz.prog W = .ok (.slice p4 (L - 64) (cp - 64)) W := fun W => by
      rw [<- HP4.out]
      exact run_slice_suf (some ⟨bb, off, none⟩) L cp 64 hL W
     have HB4 : Hid (HB W2 (.slice p4 (L - 64) (cp - 64)) (M.drop (64 * (cc + 1)))) := by
      rw [<- HP4.out]
      have h1 : HB W2 (.slice (some ⟨bb, off, none⟩) (M.drop (64 * cc)).length cp) (M.drop (64 * cc)) := by rw [HLL.out]; exact HB2.out
      have h2 := h1.suf 64 (by rw [HLL.out]; exact hL)
      rw [HLL.out, List.drop_drop] at h2
      rwa [show 64 * cc + 64 = 64 * (cc + 1) by omega] at h2
     have HO4 : Hid (Off (.slice p4 (L - 64) (cp - 64)) g) := by
      rw [<- HP4.out]
      exact off_suf _ cp 64 L cp g HO2.out
     have HWS : Hid (wAt M (cc + 1) = vv) := by
      show mixL (wAt M cc) (blkOf M cc) = vv
      rw [HWW.out, HBK.out, HVE.out]
     clear CM hcl hbkl hbkb
     go_wp2
     refine wp_region_any (by kernel_rfl) ?_
     change wpAny _ _ _ _ _ _ _ (World.drew _)
     refine wpAny_take (i := 0) (oi := { dst := some 51, op := Op.move (Operand.tmp 0), type := 135, pos := "hash.go:44", after := #[], guard := none }) (v := .pointer (some ⟨g, 0, none⟩)) rfl (by kernel_rfl) (by kernel_rfl) (by kernel_rfl) (fun _ _ _ h => h) (Or.inl ⟨by rfl, ?q0⟩) ?_
     case q0 => intro w; first | (go_simp; done) | (go_simp; rfl)
     simp only [Act.put, lay6]
     refine wpAny_take (i := 1) (oi := { dst := some 52, op := Op.move (Operand.tmp 0), type := 135, pos := "hash.go:44", after := #[], guard := none }) (v := .pointer (some ⟨g, 0, none⟩)) rfl (by kernel_rfl) (by kernel_rfl) (by kernel_rfl) (fun _ _ _ h => h) (Or.inl ⟨by rfl, ?q1⟩) ?_
     case q1 => intro w; first | (go_simp; done) | (go_simp; rfl)
     simp only [Act.put, lay6]
     refine wpAny_take (i := 2) (oi := { dst := some 53, op := Op.nilCheck (Operand.tmp 52), type := 0, pos := "hash.go:44", after := #[{ on := 1, ground := Ground.data }], guard := none }) (v := .pointer (some ⟨g, 0, none⟩)) rfl (by kernel_rfl) (by kernel_rfl) (by kernel_rfl) (fun _ _ _ h => h) (Or.inl ⟨by rfl, ?q2⟩) ?_
     case q2 => intro w; first | (go_simp; done) | (go_simp; rfl)
     simp only [Act.put, lay6]
     refine wpAny_take (i := 3) (oi := { dst := some 54, op := Op.fieldAddr 146 (Operand.tmp 53) 1, type := 0, pos := "hash.go:44", after := #[{ on := 2, ground := Ground.data }], guard := none }) (v := .pointer (some ⟨g, 8, none⟩)) rfl (by kernel_rfl) (by kernel_rfl) (by kernel_rfl) (fun _ _ _ h => h) (Or.inl ⟨by rfl, ?q3⟩) ?_
     case q3 => intro w; first | (go_simp; done) | (go_simp; rfl)
     simp only [Act.put, lay6]
     refine wpAny_take (i := 5) (oi := { dst := some 56, op := Op.move (Operand.tmp 1), type := 34, pos := "hash.go:44", after := #[], guard := none }) (v := .slice (some ⟨bb, off, none⟩) L cp) rfl (by kernel_rfl) (by kernel_rfl) (by kernel_rfl) (fun _ _ _ h => h) (Or.inl ⟨by rfl, ?q5⟩) ?_
     case q5 => intro w; first | (go_simp; done) | (go_simp; rfl)
     simp only [Act.put, lay6]
     refine wpAny_take (i := 6) (oi := { dst := some 57, op := Op.sliceToArrayPointer 78 (Operand.tmp 56), type := 0, pos := "hash.go:44", after := #[{ on := 5, ground := Ground.data }], guard := none }) (v := .pointer (some ⟨bb, off, none⟩)) rfl (by kernel_rfl) (by kernel_rfl) (by kernel_rfl) (fun _ _ _ h => h) (Or.inl ⟨by rfl, ?q6⟩) ?_
     case q6 => intro w; first | (go_simp; done) | (go_simp; rfl)
     simp only [Act.put, lay6]
     refine wpAny_all (rs := [4, 7]) (by kernel_rfl) (by simp) (fun j hj => ?_)
     have hj2 : j = 4 \/ j = 7 := by simpa using hj
     clear hj
     rcases hj2 with rfl | rfl
     ·refine wpOp_of_wp (o := { dst := some 55, op := Op.load 76 (Operand.tmp 54), type := 76, pos := "hash.go:44", after := #[{ on := 3, ground := Ground.data }], guard := none }) rfl rfl ?_
      refine wp_load_mid 76 _ rfl g 8 rfl (wcells ww) _ RW.out Tryz.underlying76 rfl SW.out ?_
      simp only [Act.put, lay6]
      refine wpAny_all (rs := [7]) (by kernel_rfl) (by simp) (fun j hj => ?_)
      obtain rfl : j = 7 := by simpa using hj
      clear hj
      refine wpOp_of_wp (o := { dst := some 58, op := Op.load 78 (Operand.tmp 57), type := 78, pos := "hash.go:44", after := #[{ on := 6, ground := Ground.data }], guard := none }) rfl rfl ?_
      refine wp_load_mid 78 _ rfl bb off rfl (bcells bk) _ RB.out Tryz.underlying78 rfl SB.out ?_
      simp only [Act.put, lay6]
      refine wpAny_all (rs := [8]) (by kernel_rfl) (by simp) (fun j hj => ?_)
      obtain rfl : j = 8 := by simpa using hj
      clear hj
      refine wpOp_of_wp (o := { dst := some 59, op := Op.call { callee := Callee.value (Operand.func 110), args := #[Operand.tmp 55, Operand.tmp 58], argTypes := #[76, 78] }, type := 76, pos := "hash.go:44", after := #[{ on := 4, ground := Ground.data }, { on := 7, ground := Ground.data }], guard := none }) rfl rfl ?_
      generalize hKK : wpAny _ _ _ _ _ _ = K
      go_simp
      refine (CM2.out).mono ?_
      rintro e wm ⟨rfl, hBm⟩
      rw [<- hKK]
      clear hKK K
      refine wpAny_take (i := 9) (oi := { dst := some 60, op := Op.nilCheck (Operand.tmp 51), type := 0, pos := "hash.go:44", after := #[{ on := 0, ground := Ground.data }, { on := 0, ground := Ground.phase }, { on := 1, ground := Ground.phase }, { on := 2, ground := Ground.phase }, { on := 3, ground := Ground.phase }, { on := 4, ground := Ground.phase }, { on := 5, ground := Ground.phase }, { on := 6, ground := Ground.phase }, { on := 7, ground := Ground.phase }, { on := 8, ground := Ground.phase }], guard := none }) (v := .pointer (some ⟨g, 0, none⟩)) rfl (by kernel_rfl) (by kernel_rfl) (by kernel_rfl) (fun _ _ _ h => h) (Or.inl ⟨by rfl, ?q9⟩) ?_
      case q9 => intro w; first | (go_simp; done) | (go_simp; rfl)
      simp only [Act.put, lay6]
      refine wpAny_take (i := 10) (oi := { dst := some 61, op := Op.fieldAddr 146 (Operand.tmp 60) 1, type := 0, pos := "hash.go:44", after := #[{ on := 9, ground := Ground.data }, { on := 0, ground := Ground.phase }, { on := 1, ground := Ground.phase }, { on := 2, ground := Ground.phase }, { on := 3, ground := Ground.phase }, { on := 4, ground := Ground.phase }, { on := 5, ground := Ground.phase }, { on := 6, ground := Ground.phase }, { on := 7, ground := Ground.phase }, { on := 8, ground := Ground.phase }], guard := none }) (v := .pointer (some ⟨g, 8, none⟩)) rfl (by kernel_rfl) (by kernel_rfl) (by kernel_rfl) (fun _ _ _ h => h) (Or.inl ⟨by rfl, ?q10⟩) ?_
      case q10 => intro w; first | (go_simp; done) | (go_simp; rfl)
      simp only [Act.put, lay6]
      have HSm := hid ((HS2.out.block (C := W2.drew) rfl).below hBm)
      have TH : Hid (wm.there g 8 (cellsW vv).size) := by
       rw [cellsW_size, HVV.out.1]
       exact there_sub HSm.out.th 8 8 (by decide)
      refine wpAny_all (rs := [11]) (by kernel_rfl) (by simp) (fun j hj => ?_)
      obtain rfl : j = 11 := by simpa using hj
      clear hj
      refine wpOp_of_wp (o := { dst := none, op := Op.store 76 (Operand.tmp 61) (Operand.tmp 59), type := 0, pos := "hash.go:44", after := #[{ on := 10, ground := Ground.data }, { on := 8, ground := Ground.data }, { on := 8, ground := Ground.chain }, { on := 0, ground := Ground.phase }, { on := 1, ground := Ground.phase }, { on := 2, ground := Ground.phase }, { on := 3, ground := Ground.phase }, { on := 4, ground := Ground.phase }, { on := 5, ground := Ground.phase }, { on := 6, ground := Ground.phase }, { on := 7, ground := Ground.phase }, { on := 8, ground := Ground.phase }], guard := none }) rfl rfl ?_
      refine wp_store_mid 76 _ _ rfl g 8 (cellsW vv) rfl rfl TH.out SV.out SO.out ?_
      simp only [Act.put]
      refine wpAny_done (by kernel_rfl) ?_ _
      obtain ⟨W3, hW3⟩ : ∃ W3, Hid (wm.setCells g 8 (cellsW vv).toList = W3) := ⟨_, rfl⟩
      rw [hW3.out]
      have HS3 : Hid (HSt W3 g (wAt M (cc + 1)) rr N) := by
       rw [<- hW3.out, HWS.out]
       exact HSm.out.words vv HVV.out
      have G23 : Hid (W2.grownBy W3 (some g)) := by
       rw [<- hW3.out]
       exact grown_tr (grown_tr (b := W2.drew) ⟨rfl, rfl, rfl, Nat.le_refl _, fun _ _ _ => rfl⟩ (grown_below hBm)) (grown_setCells g _ _ _)
      have HB5 := hid (HB4.out.aw G23.out HO4.out)
      have G3 := hid (grown_tr G2.out G23.out)
      clear hW3 hBm
      go_wp2
      exact ⟨⟨cc + 1, p4, L - 64, cp - 64, rr, rfl, by omega, by omega, by have := HLN.out; show _ = _; omega, HS3, HB5, HO4, G3⟩, by simp [lenV]; omega⟩
     ·refine wpOp_of_wp (o := { dst := some 58, op := Op.load 78 (Operand.tmp 57), type := 78, pos := "hash.go:44", after := #[{ on := 6, ground := Ground.data }], guard := none }) rfl rfl ?_
      refine wp_load_mid 78 _ rfl bb off rfl (bcells bk) _ RB.out Tryz.underlying78 rfl SB.out ?_
      simp only [Act.put, lay6]
      refine wpAny_all (rs := [4]) (by kernel_rfl) (by simp) (fun j hj => ?_)
      obtain rfl : j = 4 := by simpa using hj
      clear hj
      refine wpOp_of_wp (o := { dst := some 55, op := Op.load 76 (Operand.tmp 54), type := 76, pos := "hash.go:44", after := #[{ on := 3, ground := Ground.data }], guard := none }) rfl rfl ?_
      refine wp_load_mid 76 _ rfl g 8 rfl (wcells ww) _ RW.out Tryz.underlying76 rfl SW.out ?_
      simp only [Act.put, lay6]
      refine wpAny_all (rs := [8]) (by kernel_rfl) (by simp) (fun j hj => ?_)
      obtain rfl : j = 8 := by simpa using hj
      clear hj
      refine wpOp_of_wp (o := { dst := some 59, op := Op.call { callee := Callee.value (Operand.func 110), args := #[Operand.tmp 55, Operand.tmp 58], argTypes := #[76, 78] }, type := 76, pos := "hash.go:44", after := #[{ on := 4, ground := Ground.data }, { on := 7, ground := Ground.data }], guard := none }) rfl rfl ?_
      generalize hKK : wpAny _ _ _ _ _ _ = K
      go_simp
      refine (CM2.out).mono ?_
      rintro e wm ⟨rfl, hBm⟩
      rw [<- hKK]
      clear hKK K
      refine wpAny_take (i := 9) (oi := { dst := some 60, op := Op.nilCheck (Operand.tmp 51), type := 0, pos := "hash.go:44", after := #[{ on := 0, ground := Ground.data }, { on := 0, ground := Ground.phase }, { on := 1, ground := Ground.phase }, { on := 2, ground := Ground.phase }, { on := 3, ground := Ground.phase }, { on := 4, ground := Ground.phase }, { on := 5, ground := Ground.phase }, { on := 6, ground := Ground.phase }, { on := 7, ground := Ground.phase }, { on := 8, ground := Ground.phase }], guard := none }) (v := .pointer (some ⟨g, 0, none⟩)) rfl (by kernel_rfl) (by kernel_rfl) (by kernel_rfl) (fun _ _ _ h => h) (Or.inl ⟨by rfl, ?q9⟩) ?_
      case q9 => intro w; first | (go_simp; done) | (go_simp; rfl)
      simp only [Act.put, lay6]
      refine wpAny_take (i := 10) (oi := { dst := some 61, op := Op.fieldAddr 146 (Operand.tmp 60) 1, type := 0, pos := "hash.go:44", after := #[{ on := 9, ground := Ground.data }, { on := 0, ground := Ground.phase }, { on := 1, ground := Ground.phase }, { on := 2, ground := Ground.phase }, { on := 3, ground := Ground.phase }, { on := 4, ground := Ground.phase }, { on := 5, ground := Ground.phase }, { on := 6, ground := Ground.phase }, { on := 7, ground := Ground.phase }, { on := 8, ground := Ground.phase }], guard := none }) (v := .pointer (some ⟨g, 8, none⟩)) rfl (by kernel_rfl) (by kernel_rfl) (by kernel_rfl) (fun _ _ _ h => h) (Or.inl ⟨by rfl, ?q10⟩) ?_
      case q10 => intro w; first | (go_simp; done) | (go_simp; rfl)
      simp only [Act.put, lay6]
      have HSm := hid ((HS2.out.block (C := W2.drew) rfl).below hBm)
      have TH : Hid (wm.there g 8 (cellsW vv).size) := by
       rw [cellsW_size, HVV.out.1]
       exact there_sub HSm.out.th 8 8 (by decide)
      refine wpAny_all (rs := [11]) (by kernel_rfl) (by simp) (fun j hj => ?_)
      obtain rfl : j = 11 := by simpa using hj
      clear hj
      refine wpOp_of_wp (o := { dst := none, op := Op.store 76 (Operand.tmp 61) (Operand.tmp 59), type := 0, pos := "hash.go:44", after := #[{ on := 10, ground := Ground.data }, { on := 8, ground := Ground.data }, { on := 8, ground := Ground.chain }, { on := 0, ground := Ground.phase }, { on := 1, ground := Ground.phase }, { on := 2, ground := Ground.phase }, { on := 3, ground := Ground.phase }, { on := 4, ground := Ground.phase }, { on := 5, ground := Ground.phase }, { on := 6, ground := Ground.phase }, { on := 7, ground := Ground.phase }, { on := 8, ground := Ground.phase }], guard := none }) rfl rfl ?_
      refine wp_store_mid 76 _ _ rfl g 8 (cellsW vv) rfl rfl TH.out SV.out SO.out ?_
      simp only [Act.put]
      refine wpAny_done (by kernel_rfl) ?_ _
      obtain ⟨W3, hW3⟩ : ∃ W3, Hid (wm.setCells g 8 (cellsW vv).toList = W3) := ⟨_, rfl⟩
      rw [hW3.out]
      have HS3 : Hid (HSt W3 g (wAt M (cc + 1)) rr N) := by
       rw [<- hW3.out, HWS.out]
       exact HSm.out.words vv HVV.out
      have G23 : Hid (W2.grownBy W3 (some g)) := by
       rw [<- hW3.out]
       exact grown_tr (grown_tr (b := W2.drew) ⟨rfl, rfl, rfl, Nat.le_refl _, fun _ _ _ => rfl⟩ (grown_below hBm)) (grown_setCells g _ _ _)
      have HB5 := hid (HB4.out.aw G23.out HO4.out)
      have G3 := hid (grown_tr G2.out G23.out)
      clear hW3 hBm
      go_wp2
      exact ⟨⟨cc + 1, p4, L - 64, cp - 64, rr, rfl, by omega, by omega, by have := HLN.out; show _ = _; omega, HS3, HB5, HO4, G3⟩, by simp [lenV]; omega⟩
    ·have hcp0 := run_copy_rest wr g 0 _ rr N HS2.out (by decide) 3 _ _ HB2.out L (by rw [HLL.out]; omega)
     rw [List.take_of_length_le (by rw [HLL.out]; exact Nat.le_refl _)] at hcp0
     have hsa := run_slice_all g
     have HFN : Hid (HM (wr.setCells g (16 + 0) (bcells (M.drop (64 * cc)))) g M) := by
      have h1 := HS2.out.put 0 (M.drop (64 * cc)) (by rw [HLL.out]; omega) (fun x hx => HMB2.out x (List.mem_of_mem_drop hx))
      rw [<- HML.out] at h1
      exact HM.last h1 (by rw [HML.out, <- HLN.out]; omega) (by rw [HML.out, <- HLN.out]; omega) HMB2.out
     have G3 := hid (grown_tr G2.out (grown_setCells g (bcells (M.drop (64 * cc))) (16 + 0) wr))
     obtain ⟨W3, hW3⟩ : ∃ W3, Hid (wr.setCells g (16 + 0) (bcells (M.drop (64 * cc))) = W3) := ⟨_, rfl⟩
     rw [hW3.out] at hcp0 HFN G3
     clear hW3
     go_wp2_with (at_builtin; refine Lib.wpList_copy_run _ rfl _ _ 34 34 rfl _ _ rfl rfl hcp0 ?_)
     go_end0
     exact ⟨rfl, HFN.out, G3.out⟩
 ·have HN0 : Hid (held = 0) := by show _ = _; omega
  obtain ⟨W3, HW3⟩ : ∃ W3, W3 = W1 := ⟨_, rfl⟩
  subst HW3
  have HS3 : Hid (HSt W3 g (wAt M (n / 64)) rest N) := by
   rw [<- HM2.out, wAt_app (by rw [HN.out]; omega)]
   exact HS1.out
  have HB3 : Hid (HB W3 (.slice p b.length c) (M.drop (64 * (n / 64)))) := by
   rw [<- HM2.out, show 64 * (n / 64) = m.length by rw [HN.out]; have := HH.out; have h0 := HN0.out; omega, List.drop_left]
   exact HB1.out
  have HO3 := HV
  have G3 := G1
  have HL3 : Hid (64 * (n / 64) + b.length = N) := by
   show _ = _
   have h1 := HNN.out
   have h2 := HH.out
   have h0 := HN0.out
   omega
  have hl3 : b.length <= c := hlc
  have hc3 : c <= 9223372036854775807 := by omega
  have hW1' := hW1.out
  go_wp2
  clear hheld hhc
  go_loopw [1] (fun v wr => ∃ (cc : Nat) (pp : Option Addr) (L cp : Nat) (rr : List Int), v = .slice pp L cp /\ L <= cp /\ cp <= 9223372036854775807 /\ Hid (64 * cc + L = N) /\ Hid (HSt wr g (wAt M cc) rr N) /\ Hid (HB wr (.slice pp L cp) (M.drop (64 * cc))) /\ Hid (Off (.slice pp L cp) g) /\ Hid (w.grownBy wr (some g))) (fun v _ => lenV v)
  case atStart => exact ⟨_, _, _, _, _, rfl, hl3, hc3, HL3, HS3, HB3, HO3, G3⟩
  case round =>
   clear HL3 HS3 HB3 HO3 G3 hl3 hc3
   obtain ⟨cc, pp, L, cp, rr, rfl, hLc, hcp9, HLN, HS2, HB2, HO2, G2⟩ := hrel
   have HLL : Hid ((M.drop (64 * cc)).length = L) := by
    show _ = _
    rw [List.length_drop, HML.out]
    have := HLN.out
    omega
   by_cases hL : 64 <= L
   ·obtain ⟨W2, hW2⟩ : ∃ W2, Hid (W2 = wr) := ⟨_, rfl⟩
    rw [<- hW2.out] at HS2 HB2 G2 ⊢
    obtain ⟨bb, off, cp', ep, _, _, hcl⟩ := HB2.out.ne (by rw [HLL.out]; omega)
    simp only [Value.slice.injEq] at ep
    obtain ⟨rfl, -, rfl⟩ := ep
    obtain ⟨ww, HWW⟩ : ∃ ww, Hid (wAt M cc = ww) := ⟨_, rfl⟩
    obtain ⟨bk, HBK⟩ : ∃ bk, Hid (blkOf M cc = bk) := ⟨_, rfl⟩
    rw [HWW.out] at HS2
    have hbkl : bk.length = 64 := by
     rw [<- HBK.out]
     exact blkOf_length (by rw [HML.out, <- HLN.out]; omega)
    have hbkb : ∀ x ∈ bk, 0 <= x /\ x < 256 := by rw [<- HBK.out]; exact blkOf_byt HMB2.out cc
    obtain ⟨vv, HVE⟩ : ∃ vv, Hid (mixL ww bk = vv) := ⟨_, rfl⟩
    have HVV : Hid (W8 vv) := by rw [<- HVE.out]; exact HS2.out.w8.mix
    have HK2 : Hid (KC W2) := fun t ht => G2.out.cell (HKC.out t ht) (by simpa using hg0.symm)
    have CM := mix_any W2.drew ww bk HS2.out.w8 hbkl hbkb HK2.out
    rw [HVE.out] at CM
    have CM2 := hid CM
    have RW : Hid (W2.drew.rangeAt g 8 (wcells ww)) := HS2.out.wv
    have RB : Hid (W2.drew.rangeAt bb off (bcells bk)) := fun j u hu => by
     have hj : j < 64 := by have := (List.getElem?_eq_some_iff.1 hu).1; rw [bcells_length, hbkl] at this; exact this
     have h1 := hcl j (by rw [HLL.out]; omega)
     rw [show W2.drew.cell? ⟨bb, off + j, none⟩ = W2.cell? ⟨bb, off + j, none⟩ from rfl, h1]
     rw [<- HBK.out] at hu
     unfold blkOf at hu
     simp only [bcells, List.getElem?_map, List.getElem?_take, if_pos hj] at hu
     rw [List.getElem?_eq_getElem (show j < (M.drop (64 * cc)).length by rw [HLL.out]; omega), Option.map_some, <- getD_of_lt] at hu
     exact hu
    have SW : Hid ((Tryz.prog.info? 76).map (·.size) = some (wcells ww).length) := by rw [wcells_length, HS2.out.w8.1]; exact size_w8
    have SB : Hid ((Tryz.prog.info? 78).map (·.size) = some (bcells bk).length) := by rw [bcells_length, hbkl]; exact size_b64
    have SV : Hid ((Tryz.prog.info? 76).map (·.size) = some (cellsW vv).size) := by rw [cellsW_size, HVV.out.1]; exact size_w8
    have SO : Hid ((cellsW vv).all (·.oneCell') = true) := cellsW_one _
    have harr := run_arrayAt_b64 bb off L cp hL
    obtain ⟨p4, HP4⟩ : ∃ p4, Hid ((if cp = 64 then (some (⟨bb, off, none⟩ : Addr)) else (some (⟨bb, off, none⟩ : Addr)).map (·.add 64)) = p4) := ⟨_, rfl⟩
    have hss : ∀ W, (Instr.slice 34 (.slice (some ⟨bb, off, none⟩) L cp) (some (.int .i64 64)) none none).run Tryz.prog W = .ok (.slice p4 (L - 64) (cp - 64)) W := fun W => by
     rw [<- HP4.out]
     exact run_slice_suf (some ⟨bb, off, none⟩) L cp 64 hL W
    have HB4 : Hid (HB W2 (.slice p4 (L - 64) (cp - 64)) (M.drop (64 * (cc + 1)))) := by
     rw [<- HP4.out]
     have h1 : HB W2 (.slice (some ⟨bb, off, none⟩) (M.drop (64 * cc)).length cp) (M.drop (64 * cc)) := by rw [HLL.out]; exact HB2.out
     have h2 := h1.suf 64 (by rw [HLL.out]; exact hL)
     rw [HLL.out, List.drop_drop] at h2
     rwa [show 64 * cc + 64 = 64 * (cc + 1) by omega] at h2
    have HO4 : Hid (Off (.slice p4 (L - 64) (cp - 64)) g) := by
     rw [<- HP4.out]
     exact off_suf _ cp 64 L cp g HO2.out
    have HWS : Hid (wAt M (cc + 1) = vv) := by
     show mixL (wAt M cc) (blkOf M cc) = vv
     rw [HWW.out, HBK.out, HVE.out]
    clear CM hcl hbkl hbkb
    go_wp2
    refine wp_region_any (by kernel_rfl) ?_
    change wpAny _ _ _ _ _ _ _ (World.drew _)
    refine wpAny_take (i := 0) (oi := { dst := some 51, op := Op.move (Operand.tmp 0), type := 135, pos := "hash.go:44", after := #[], guard := none }) (v := .pointer (some ⟨g, 0, none⟩)) rfl (by kernel_rfl) (by kernel_rfl) (by kernel_rfl) (fun _ _ _ h => h) (Or.inl ⟨by rfl, ?q0⟩) ?_
    case q0 => intro w; first | (go_simp; done) | (go_simp; rfl)
    simp only [Act.put, lay6]
    refine wpAny_take (i := 1) (oi := { dst := some 52, op := Op.move (Operand.tmp 0), type := 135, pos := "hash.go:44", after := #[], guard := none }) (v := .pointer (some ⟨g, 0, none⟩)) rfl (by kernel_rfl) (by kernel_rfl) (by kernel_rfl) (fun _ _ _ h => h) (Or.inl ⟨by rfl, ?q1⟩) ?_
    case q1 => intro w; first | (go_simp; done) | (go_simp; rfl)
    simp only [Act.put, lay6]
    refine wpAny_take (i := 2) (oi := { dst := some 53, op := Op.nilCheck (Operand.tmp 52), type := 0, pos := "hash.go:44", after := #[{ on := 1, ground := Ground.data }], guard := none }) (v := .pointer (some ⟨g, 0, none⟩)) rfl (by kernel_rfl) (by kernel_rfl) (by kernel_rfl) (fun _ _ _ h => h) (Or.inl ⟨by rfl, ?q2⟩) ?_
    case q2 => intro w; first | (go_simp; done) | (go_simp; rfl)
    simp only [Act.put, lay6]
    refine wpAny_take (i := 3) (oi := { dst := some 54, op := Op.fieldAddr 146 (Operand.tmp 53) 1, type := 0, pos := "hash.go:44", after := #[{ on := 2, ground := Ground.data }], guard := none }) (v := .pointer (some ⟨g, 8, none⟩)) rfl (by kernel_rfl) (by kernel_rfl) (by kernel_rfl) (fun _ _ _ h => h) (Or.inl ⟨by rfl, ?q3⟩) ?_
    case q3 => intro w; first | (go_simp; done) | (go_simp; rfl)
    simp only [Act.put, lay6]
    refine wpAny_take (i := 5) (oi := { dst := some 56, op := Op.move (Operand.tmp 1), type := 34, pos := "hash.go:44", after := #[], guard := none }) (v := .slice (some ⟨bb, off, none⟩) L cp) rfl (by kernel_rfl) (by kernel_rfl) (by kernel_rfl) (fun _ _ _ h => h) (Or.inl ⟨by rfl, ?q5⟩) ?_
    case q5 => intro w; first | (go_simp; done) | (go_simp; rfl)
    simp only [Act.put, lay6]
    refine wpAny_take (i := 6) (oi := { dst := some 57, op := Op.sliceToArrayPointer 78 (Operand.tmp 56), type := 0, pos := "hash.go:44", after := #[{ on := 5, ground := Ground.data }], guard := none }) (v := .pointer (some ⟨bb, off, none⟩)) rfl (by kernel_rfl) (by kernel_rfl) (by kernel_rfl) (fun _ _ _ h => h) (Or.inl ⟨by rfl, ?q6⟩) ?_
    case q6 => intro w; first | (go_simp; done) | (go_simp; rfl)
    simp only [Act.put, lay6]
    refine wpAny_all (rs := [4, 7]) (by kernel_rfl) (by simp) (fun j hj => ?_)
    have hj2 : j = 4 \/ j = 7 := by simpa using hj
    clear hj
    rcases hj2 with rfl | rfl
    ·refine wpOp_of_wp (o := { dst := some 55, op := Op.load 76 (Operand.tmp 54), type := 76, pos := "hash.go:44", after := #[{ on := 3, ground := Ground.data }], guard := none }) rfl rfl ?_
     refine wp_load_mid 76 _ rfl g 8 rfl (wcells ww) _ RW.out Tryz.underlying76 rfl SW.out ?_
     simp only [Act.put, lay6]
     refine wpAny_all (rs := [7]) (by kernel_rfl) (by simp) (fun j hj => ?_)
     obtain rfl : j = 7 := by simpa using hj
     clear hj
     refine wpOp_of_wp (o := { dst := some 58, op := Op.load 78 (Operand.tmp 57), type := 78, pos := "hash.go:44", after := #[{ on := 6, ground := Ground.data }], guard := none }) rfl rfl ?_
     refine wp_load_mid 78 _ rfl bb off rfl (bcells bk) _ RB.out Tryz.underlying78 rfl SB.out ?_
     simp only [Act.put, lay6]
     refine wpAny_all (rs := [8]) (by kernel_rfl) (by simp) (fun j hj => ?_)
     obtain rfl : j = 8 := by simpa using hj
     clear hj
     refine wpOp_of_wp (o := { dst := some 59, op := Op.call { callee := Callee.value (Operand.func 110), args := #[Operand.tmp 55, Operand.tmp 58], argTypes := #[76, 78] }, type := 76, pos := "hash.go:44", after := #[{ on := 4, ground := Ground.data }, { on := 7, ground := Ground.data }], guard := none }) rfl rfl ?_
     generalize hKK : wpAny _ _ _ _ _ _ = K
     go_simp
     refine (CM2.out).mono ?_
     rintro e wm ⟨rfl, hBm⟩
     rw [<- hKK]
     clear hKK K
     refine wpAny_take (i := 9) (oi := { dst := some 60, op := Op.nilCheck (Operand.tmp 51), type := 0, pos := "hash.go:44", after := #[{ on := 0, ground := Ground.data }, { on := 0, ground := Ground.phase }, { on := 1, ground := Ground.phase }, { on := 2, ground := Ground.phase }, { on := 3, ground := Ground.phase }, { on := 4, ground := Ground.phase }, { on := 5, ground := Ground.phase }, { on := 6, ground := Ground.phase }, { on := 7, ground := Ground.phase }, { on := 8, ground := Ground.phase }], guard := none }) (v := .pointer (some ⟨g, 0, none⟩)) rfl (by kernel_rfl) (by kernel_rfl) (by kernel_rfl) (fun _ _ _ h => h) (Or.inl ⟨by rfl, ?q9⟩) ?_
     case q9 => intro w; first | (go_simp; done) | (go_simp; rfl)
     simp only [Act.put, lay6]
     refine wpAny_take (i := 10) (oi := { dst := some 61, op := Op.fieldAddr 146 (Operand.tmp 60) 1, type := 0, pos := "hash.go:44", after := #[{ on := 9, ground := Ground.data }, { on := 0, ground := Ground.phase }, { on := 1, ground := Ground.phase }, { on := 2, ground := Ground.phase }, { on := 3, ground := Ground.phase }, { on := 4, ground := Ground.phase }, { on := 5, ground := Ground.phase }, { on := 6, ground := Ground.phase }, { on := 7, ground := Ground.phase }, { on := 8, ground := Ground.phase }], guard := none }) (v := .pointer (some ⟨g, 8, none⟩)) rfl (by kernel_rfl) (by kernel_rfl) (by kernel_rfl) (fun _ _ _ h => h) (Or.inl ⟨by rfl, ?q10⟩) ?_
     case q10 => intro w; first | (go_simp; done) | (go_simp; rfl)
     simp only [Act.put, lay6]
     have HSm := hid ((HS2.out.block (C := W2.drew) rfl).below hBm)
     have TH : Hid (wm.there g 8 (cellsW vv).size) := by
      rw [cellsW_size, HVV.out.1]
      exact there_sub HSm.out.th 8 8 (by decide)
     refine wpAny_all (rs := [11]) (by kernel_rfl) (by simp) (fun j hj => ?_)
     obtain rfl : j = 11 := by simpa using hj
     clear hj
     refine wpOp_of_wp (o := { dst := none, op := Op.store 76 (Operand.tmp 61) (Operand.tmp 59), type := 0, pos := "hash.go:44", after := #[{ on := 10, ground := Ground.data }, { on := 8, ground := Ground.data }, { on := 8, ground := Ground.chain }, { on := 0, ground := Ground.phase }, { on := 1, ground := Ground.phase }, { on := 2, ground := Ground.phase }, { on := 3, ground := Ground.phase }, { on := 4, ground := Ground.phase }, { on := 5, ground := Ground.phase }, { on := 6, ground := Ground.phase }, { on := 7, ground := Ground.phase }, { on := 8, ground := Ground.phase }], guard := none }) rfl rfl ?_
     refine wp_store_mid 76 _ _ rfl g 8 (cellsW vv) rfl rfl TH.out SV.out SO.out ?_
     simp only [Act.put]
     refine wpAny_done (by kernel_rfl) ?_ _
     obtain ⟨W3, hW3⟩ : ∃ W3, Hid (wm.setCells g 8 (cellsW vv).toList = W3) := ⟨_, rfl⟩
     rw [hW3.out]
     have HS3 : Hid (HSt W3 g (wAt M (cc + 1)) rr N) := by
      rw [<- hW3.out, HWS.out]
      exact HSm.out.words vv HVV.out
     have G23 : Hid (W2.grownBy W3 (some g)) := by
      rw [<- hW3.out]
      exact grown_tr (grown_tr (b := W2.drew) ⟨rfl, rfl, rfl, Nat.le_refl _, fun _ _ _ => rfl⟩ (grown_below hBm)) (grown_setCells g _ _ _)
     have HB5 := hid (HB4.out.aw G23.out HO4.out)
     have G3 := hid (grown_tr G2.out G23.out)
     clear hW3 hBm
     go_wp2
     exact ⟨⟨cc + 1, p4, L - 64, cp - 64, rr, rfl, by omega, by omega, by have := HLN.out; show _ = _; omega, HS3, HB5, HO4, G3⟩, by simp [lenV]; omega⟩
    ·refine wpOp_of_wp (o := { dst := some 58, op := Op.load 78 (Operand.tmp 57), type := 78, pos := "hash.go:44", after := #[{ on := 6, ground := Ground.data }], guard := none }) rfl rfl ?_
     refine wp_load_mid 78 _ rfl bb off rfl (bcells bk) _ RB.out Tryz.underlying78 rfl SB.out ?_
     simp only [Act.put, lay6]
     refine wpAny_all (rs := [4]) (by kernel_rfl) (by simp) (fun j hj => ?_)
     obtain rfl : j = 4 := by simpa using hj
     clear hj
     refine wpOp_of_wp (o := { dst := some 55, op := Op.load 76 (Operand.tmp 54), type := 76, pos := "hash.go:44", after := #[{ on := 3, ground := Ground.data }], guard := none }) rfl rfl ?_
     refine wp_load_mid 76 _ rfl g 8 rfl (wcells ww) _ RW.out Tryz.underlying76 rfl SW.out ?_
     simp only [Act.put, lay6]
     refine wpAny_all (rs := [8]) (by kernel_rfl) (by simp) (fun j hj => ?_)
     obtain rfl : j = 8 := by simpa using hj
     clear hj
     refine wpOp_of_wp (o := { dst := some 59, op := Op.call { callee := Callee.value (Operand.func 110), args := #[Operand.tmp 55, Operand.tmp 58], argTypes := #[76, 78] }, type := 76, pos := "hash.go:44", after := #[{ on := 4, ground := Ground.data }, { on := 7, ground := Ground.data }], guard := none }) rfl rfl ?_
     generalize hKK : wpAny _ _ _ _ _ _ = K
     go_simp
     refine (CM2.out).mono ?_
     rintro e wm ⟨rfl, hBm⟩
     rw [<- hKK]
     clear hKK K
     refine wpAny_take (i := 9) (oi := { dst := some 60, op := Op.nilCheck (Operand.tmp 51), type := 0, pos := "hash.go:44", after := #[{ on := 0, ground := Ground.data }, { on := 0, ground := Ground.phase }, { on := 1, ground := Ground.phase }, { on := 2, ground := Ground.phase }, { on := 3, ground := Ground.phase }, { on := 4, ground := Ground.phase }, { on := 5, ground := Ground.phase }, { on := 6, ground := Ground.phase }, { on := 7, ground := Ground.phase }, { on := 8, ground := Ground.phase }], guard := none }) (v := .pointer (some ⟨g, 0, none⟩)) rfl (by kernel_rfl) (by kernel_rfl) (by kernel_rfl) (fun _ _ _ h => h) (Or.inl ⟨by rfl, ?q9⟩) ?_
     case q9 => intro w; first | (go_simp; done) | (go_simp; rfl)
     simp only [Act.put, lay6]
     refine wpAny_take (i := 10) (oi := { dst := some 61, op := Op.fieldAddr 146 (Operand.tmp 60) 1, type := 0, pos := "hash.go:44", after := #[{ on := 9, ground := Ground.data }, { on := 0, ground := Ground.phase }, { on := 1, ground := Ground.phase }, { on := 2, ground := Ground.phase }, { on := 3, ground := Ground.phase }, { on := 4, ground := Ground.phase }, { on := 5, ground := Ground.phase }, { on := 6, ground := Ground.phase }, { on := 7, ground := Ground.phase }, { on := 8, ground := Ground.phase }], guard := none }) (v := .pointer (some ⟨g, 8, none⟩)) rfl (by kernel_rfl) (by kernel_rfl) (by kernel_rfl) (fun _ _ _ h => h) (Or.inl ⟨by rfl, ?q10⟩) ?_
     case q10 => intro w; first | (go_simp; done) | (go_simp; rfl)
     simp only [Act.put, lay6]
     have HSm := hid ((HS2.out.block (C := W2.drew) rfl).below hBm)
     have TH : Hid (wm.there g 8 (cellsW vv).size) := by
      rw [cellsW_size, HVV.out.1]
      exact there_sub HSm.out.th 8 8 (by decide)
     refine wpAny_all (rs := [11]) (by kernel_rfl) (by simp) (fun j hj => ?_)
     obtain rfl : j = 11 := by simpa using hj
     clear hj
     refine wpOp_of_wp (o := { dst := none, op := Op.store 76 (Operand.tmp 61) (Operand.tmp 59), type := 0, pos := "hash.go:44", after := #[{ on := 10, ground := Ground.data }, { on := 8, ground := Ground.data }, { on := 8, ground := Ground.chain }, { on := 0, ground := Ground.phase }, { on := 1, ground := Ground.phase }, { on := 2, ground := Ground.phase }, { on := 3, ground := Ground.phase }, { on := 4, ground := Ground.phase }, { on := 5, ground := Ground.phase }, { on := 6, ground := Ground.phase }, { on := 7, ground := Ground.phase }, { on := 8, ground := Ground.phase }], guard := none }) rfl rfl ?_
     refine wp_store_mid 76 _ _ rfl g 8 (cellsW vv) rfl rfl TH.out SV.out SO.out ?_
     simp only [Act.put]
     refine wpAny_done (by kernel_rfl) ?_ _
     obtain ⟨W3, hW3⟩ : ∃ W3, Hid (wm.setCells g 8 (cellsW vv).toList = W3) := ⟨_, rfl⟩
     rw [hW3.out]
     have HS3 : Hid (HSt W3 g (wAt M (cc + 1)) rr N) := by
      rw [<- hW3.out, HWS.out]
      exact HSm.out.words vv HVV.out
     have G23 : Hid (W2.grownBy W3 (some g)) := by
      rw [<- hW3.out]
      exact grown_tr (grown_tr (b := W2.drew) ⟨rfl, rfl, rfl, Nat.le_refl _, fun _ _ _ => rfl⟩ (grown_below hBm)) (grown_setCells g _ _ _)
     have HB5 := hid (HB4.out.aw G23.out HO4.out)
     have G3 := hid (grown_tr G2.out G23.out)
     clear hW3 hBm
     go_wp2
     exact ⟨⟨cc + 1, p4, L - 64, cp - 64, rr, rfl, by omega, by omega, by have := HLN.out; show _ = _; omega, HS3, HB5, HO4, G3⟩, by simp [lenV]; omega⟩
   ·have hcp0 := run_copy_rest wr g 0 _ rr N HS2.out (by decide) 3 _ _ HB2.out L (by rw [HLL.out]; omega)
    rw [List.take_of_length_le (by rw [HLL.out]; exact Nat.le_refl _)] at hcp0
    have hsa := run_slice_all g
    have HFN : Hid (HM (wr.setCells g (16 + 0) (bcells (M.drop (64 * cc)))) g M) := by
     have h1 := HS2.out.put 0 (M.drop (64 * cc)) (by rw [HLL.out]; omega) (fun x hx => HMB2.out x (List.mem_of_mem_drop hx))
     rw [<- HML.out] at h1
     exact HM.last h1 (by rw [HML.out, <- HLN.out]; omega) (by rw [HML.out, <- HLN.out]; omega) HMB2.out
    have G3 := hid (grown_tr G2.out (grown_setCells g (bcells (M.drop (64 * cc))) (16 + 0) wr))
    obtain ⟨W3, hW3⟩ : ∃ W3, Hid (wr.setCells g (16 + 0) (bcells (M.drop (64 * cc))) = W3) := ⟨_, rfl⟩
    rw [hW3.out] at hcp0 HFN G3
    clear hW3
    go_wp2_with (at_builtin; refine Lib.wpList_copy_run _ rfl _ _ 34 34 rfl _ _ rfl rfl hcp0 ?_)
    go_end0
    exact ⟨rfl, HFN.out, G3.out⟩
theorem made_any (w : World) (g : Nat) (bw : List Nat) (h8 : bw.length = 8) (hr : w.rangeAt g 0 (wcells bw)) :
  Calls Tryz.prog 111 #[.pointer (some ⟨g, 0, none⟩)] w fun e w' => e = .returned (.bool (decide (bw = iv))) /\ Below w.heap.size w w' := by
 obtain ⟨a, b, c, d, e, f, x, y, rfl⟩ : ∃ a b c d e f x y, bw = [a, b, c, d, e, f, x, y] := by
  match bw, h8 with
  | [a, b, c, d, e, f, x, y], _ => exact ⟨a, b, c, d, e, f, x, y, rfl⟩
 obtain ⟨m, HM⟩ : ∃ m, Hid (cellsW iv = m) := ⟨_, rfl⟩
 obtain ⟨q, HQ⟩ : ∃ q, Hid (decide (([a, b, c, d, e, f, x, y] : List Nat) = iv) = q) := ⟨_, rfl⟩
 rw [HQ.out]
 have heq : ∀ W, (binOp .eql 76 (.agg #[.int .u32 (a : Int), .int .u32 (b : Int), .int .u32 (c : Int), .int .u32 (d : Int), .int .u32 (e : Int), .int .u32 (f : Int), .int .u32 (x : Int), .int .u32 (y : Int)]) (.agg m)).run Tryz.prog W = .ok (.bool q) W := fun W => by
  rw [<- HM.out, <- HQ.out]
  exact run_eql_words W 8 76 Tryz.underlying76 [a, b, c, d, e, f, x, y] iv rfl rfl
 have CI : Hid (∀ W, Calls Tryz.prog 109 #[] W fun e w' => e = .returned (.agg m) /\ Below W.heap.size W w') := fun W => by rw [<- HM.out]; exact initial_any W
 have k0 : w.cell? ⟨g, 0, none⟩ = some (.int .u32 (a : Int)) := hr 0 _ rfl
 have k1 : w.cell? ⟨g, 1, none⟩ = some (.int .u32 (b : Int)) := hr 1 _ rfl
 have k2 : w.cell? ⟨g, 2, none⟩ = some (.int .u32 (c : Int)) := hr 2 _ rfl
 have k3 : w.cell? ⟨g, 3, none⟩ = some (.int .u32 (d : Int)) := hr 3 _ rfl
 have k4 : w.cell? ⟨g, 4, none⟩ = some (.int .u32 (e : Int)) := hr 4 _ rfl
 have k5 : w.cell? ⟨g, 5, none⟩ = some (.int .u32 (f : Int)) := hr 5 _ rfl
 have k6 : w.cell? ⟨g, 6, none⟩ = some (.int .u32 (x : Int)) := hr 6 _ rfl
 have k7 : w.cell? ⟨g, 7, none⟩ = some (.int .u32 (y : Int)) := hr 7 _ rfl
 have hgl : g < w.heap.size := World.block_lt_of_cell? w _ k0
 have C0 := hid (CI.out w.drew)
 clear hr
 go_enter Tryz.func111, Tryz.ntmps111
 go_wp2
 go_region_held3 (fun w' => w'.cell? ⟨g, 0, none⟩ = some (.int .u32 (a : Int)) /\ w'.cell? ⟨g, 1, none⟩ = some (.int .u32 (b : Int)) /\ w'.cell? ⟨g, 2, none⟩ = some (.int .u32 (c : Int)) /\ w'.cell? ⟨g, 3, none⟩ = some (.int .u32 (d : Int)) /\ w'.cell? ⟨g, 4, none⟩ = some (.int .u32 (e : Int)) /\ w'.cell? ⟨g, 5, none⟩ = some (.int .u32 (f : Int)) /\ w'.cell? ⟨g, 6, none⟩ = some (.int .u32 (x : Int)) /\ w'.cell? ⟨g, 7, none⟩ = some (.int .u32 (y : Int)))
  (first
   | exact ⟨k0, k1, k2, k3, k4, k5, k6, k7⟩
   | exact ⟨(hBm.cell (p := ⟨g, 0, none⟩) hgl).trans k0, (hBm.cell (p := ⟨g, 1, none⟩) hgl).trans k1, (hBm.cell (p := ⟨g, 2, none⟩) hgl).trans k2, (hBm.cell (p := ⟨g, 3, none⟩) hgl).trans k3, (hBm.cell (p := ⟨g, 4, none⟩) hgl).trans k4, (hBm.cell (p := ⟨g, 5, none⟩) hgl).trans k5, (hBm.cell (p := ⟨g, 6, none⟩) hgl).trans k6, (hBm.cell (p := ⟨g, 7, none⟩) hgl).trans k7⟩)
  ((go_at_call 109; refine C0.out.mono ?_; rintro e' wm ⟨rfl, hBm⟩))
 have HBM : Hid (Below w.heap.size w wm) := ⟨hBm.os, hBm.tape, hBm.output, hBm.size, hBm.block⟩
 clear hBm
 go_wp2
 go_ret
 exact ⟨rfl, HBM.out⟩
theorem HM.below {A C : World} {g : Nat} {m : List Int} (h : HM A g m) (hb : Below A.heap.size A C) : HM C g m := by
 obtain ⟨rest, h1, h2, h3⟩ := h
 exact ⟨rest, h1.below hb, h2, h3⟩
theorem HM.lt {w : World} {g : Nat} {m : List Int} (h : HM w g m) : g < w.heap.size := by
 obtain ⟨rest, h1, _⟩ := h
 exact h1.lt
theorem made_yes (w : World) (g : Nat) (m : List Int) (h : HM w g m) :
  Calls Tryz.prog 111 #[.pointer (some ⟨g, 0, none⟩)] w fun e w' => e = .returned (.bool true) /\ Below w.heap.size w w' := by
 obtain ⟨rest, h1, _⟩ := h
 have := made_any w g iv rfl h1.bw
 rwa [decide_eq_true rfl] at this
end Go.Proofs.YtdgollnapbonjaaGreatDoor
