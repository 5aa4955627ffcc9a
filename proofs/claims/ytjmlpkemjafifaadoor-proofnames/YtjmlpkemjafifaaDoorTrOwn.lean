/- A row of digests of a call's own: making, storing, copying. -/
import Derived.Test.YtjmlpkemjafifaaDoorTrDig
import Derived.Laws.MakeOwn
set_option linter.unusedVariables false
set_option linter.unusedSimpArgs false
namespace Go.Proofs.YtjmlpkemjafifaaDoor
open Go.RowKit

/-- Block g is a row of the digests N, of the call's own. -/
def OD (w : World) (g : Nat) (N : List (List Int)) : Prop :=
  (∃ cur, w.heap[g]? = some (.cells cur 28 (0, 0)) ∧ cur.size = N.length * 32) ∧ (∀ i, i < N.length → w.rangeAt g (i * 32) (dc (N.getD i []))) ∧ ∀ d ∈ N, D32 d
theorem OD.there {w : World} {g : Nat} {N : List (List Int)} (h : OD w g N) (i : Nat) (hi : i < N.length) : w.there g (i * 32) 32 := by
  obtain ⟨cur, h1, h2⟩ := h.1
  intro j hj
  have : i * 32 + j < cur.size := by rw [h2]; omega
  refine ⟨?_, frozen_of_row w g _ cur _ h1⟩
  rw [cell_of_row w g _ _ _ _ h1, Array.getElem?_eq_getElem this]
  rfl
theorem OD.HDs {w : World} {g : Nat} {N : List (List Int)} (h : OD w g N) (hn : N.length ≤ 1000000) : HDs w (.slice (some ⟨g, 0, none⟩) N.length N.length) N :=
  ⟨⟨_, _, rfl, Nat.le_refl _, by unfold maxLen; omega, (fun e => by cases e), fun _ => ⟨g, 0, rfl, fun i hi => by rw [Nat.zero_add]; exact h.2.1 i hi⟩⟩, h.2.2⟩
theorem OD.lt {w : World} {g : Nat} {N : List (List Int)} (h : OD w g N) : g < w.heap.size := by
  obtain ⟨cur, h1, _⟩ := h.1
  exact (Array.getElem?_eq_some_iff.1 h1).1
theorem OD.below {w w' : World} {g : Nat} {N : List (List Int)} (h : OD w g N) (hB : Below w.heap.size w w') : OD w' g N := by
  have hl := h.lt
  obtain ⟨⟨cur, q1, q2⟩, q3, q4⟩ := h
  exact ⟨⟨cur, (hB.block _ hl).trans q1, q2⟩, fun i hi => range_below (q3 i hi) hB hl, q4⟩
theorem shape_setCells (g : Nat) (T : TypeId) : ∀ (vs : List Value) (o : Nat) (w : World) (cur : Array Value), w.heap[g]? = some (.cells cur T (0, 0)) → ∃ cur', (w.setCells g o vs).heap[g]? = some (.cells cur' T (0, 0)) ∧ cur'.size = cur.size
  | [], o, w, cur, h => ⟨cur, h, rfl⟩
  | v :: r, o, w, cur, h => by
    obtain ⟨cur', h1, h2⟩ := shape_setCells g T r (o + 1) (w.setCell ⟨g, o, none⟩ v) _ (heap_setCell_same w g o cur T v h)
    exact ⟨cur', h1, by rw [h2]; simp⟩
theorem setCells_other (g : Nat) : ∀ (vs : List Value) (o : Nat) (w : World) (k : Nat), k ≠ g → (w.setCells g o vs).heap[k]? = w.heap[k]?
  | [], _, _, _, _ => rfl
  | v :: r, o, w, k, h => by
    rw [World.setCells, setCells_other g r (o + 1) _ k h]
    simp only [World.setCell, Array.getElem?_modify]
    rw [if_neg (fun e => h e.symm)]
theorem below_setCells {B : Nat} {a w : World} (h : Below B a w) {g : Nat} (hg : B ≤ g) : ∀ (vs : List Value) (o : Nat), Below B a (w.setCells g o vs) := by
  intro vs
  induction vs generalizing w with
  | nil => intro o; exact h
  | cons v r ih => intro o; exact ih (h.setCell (p := ⟨g, o, none⟩) hg v) (o + 1)
theorem setD {N : List (List Int)} {i : Nat} {d : List Int} (h : ∀ x ∈ N, D32 x) (hd : D32 d) : ∀ x ∈ N.set i d, D32 x := fun x hx => by
  rcases List.mem_or_eq_of_mem_set hx with h1 | rfl
  · exact h x h1
  · exact hd
theorem getD_set (N : List (List Int)) (i j : Nat) (d : List Int) (hi : i < N.length) : (N.set i d).getD j [] = if i = j then d else N.getD j [] := by
  by_cases e : i = j
  · subst e; simp [List.getD, hi]
  · rw [if_neg e]; simp [List.getD, List.getElem?_set_ne e]
theorem OD.store {w : World} {g : Nat} {N : List (List Int)} (h : OD w g N) (i : Nat) (hi : i < N.length) {d : List Int} (hd : D32 d) : OD (w.setCells g (i * 32) (dc d)) g (N.set i d) := by
  obtain ⟨cur, h1, h2⟩ := h.1
  obtain ⟨cur', h3, h4⟩ := shape_setCells g _ (dc d) (i * 32) w cur h1
  refine ⟨⟨cur', h3, by rw [h4, h2, List.length_set]⟩, fun j hj => ?_, setD h.2.2 hd⟩
  rw [List.length_set] at hj
  rw [getD_set N i j d hi]
  by_cases e : i = j
  · subst e
    rw [if_pos rfl]
    exact World.rangeAt_setCells_same w g (i * 32) (dc d) (by rw [dc_length, hd.1]; exact h.there i hi)
  · rw [if_neg e]
    refine World.rangeAt_setCells_apart (h.2.1 j hj) g (i * 32) (dc d) ?_
    have hl := (getD_D h.2.2 j hj).1
    rw [dc_length, dc_length, hl, hd.1]
    omega
/-- The digests ls, laid over N from place o on. -/
def setL (N : List (List Int)) (o : Nat) : List (List Int) → List (List Int)
  | [] => N
  | d :: r => setL (N.set o d) (o + 1) r
theorem setL_length : ∀ (ls N : List (List Int)) (o : Nat), (setL N o ls).length = N.length
  | [], _, _ => rfl
  | d :: r, N, o => by rw [setL, setL_length r, List.length_set]
theorem setL_getD : ∀ (ls N : List (List Int)) (o j : Nat), o + ls.length ≤ N.length → (setL N o ls).getD j [] = if o ≤ j ∧ j < o + ls.length then ls.getD (j - o) [] else N.getD j []
  | [], N, o, j, h => by rw [if_neg (by simp only [List.length_nil]; omega)]; rfl
  | d :: r, N, o, j, h => by
    simp only [List.length_cons] at h ⊢
    rw [setL, setL_getD r (N.set o d) (o + 1) j (by rw [List.length_set]; omega), getD_set N o j d (by omega)]
    by_cases e : o = j
    · subst e
      rw [if_neg (by omega), if_pos rfl, if_pos (by omega), Nat.sub_self]
      rfl
    · by_cases h1 : o + 1 ≤ j ∧ j < o + 1 + r.length
      · rw [if_pos h1, if_pos (by omega), show j - o = (j - (o + 1)) + 1 by omega]
        rfl
      · rw [if_neg h1, if_neg e, if_neg (by omega)]
theorem setCells_append (g : Nat) : ∀ (xs ys : List Value) (o : Nat) (w : World), w.setCells g o (xs ++ ys) = (w.setCells g o xs).setCells g (o + xs.length) ys
  | [], ys, o, w => by simp [World.setCells]
  | x :: r, ys, o, w => by
    rw [List.cons_append, World.setCells, World.setCells, setCells_append g r ys (o + 1)]
    simp only [List.length_cons]
    rw [show o + 1 + r.length = o + (r.length + 1) by omega]
theorem OD.copy {g : Nat} : ∀ (ls N : List (List Int)) (o : Nat) (w : World), OD w g N → o + ls.length ≤ N.length → (∀ d ∈ ls, D32 d) → OD (w.setCells g (o * 32) (ls.flatMap dc)) g (setL N o ls)
  | [], N, o, w, h, _, _ => h
  | d :: r, N, o, w, h, hl, hd => by
    have hd0 := hd d (by simp)
    simp only [List.length_cons] at hl
    rw [List.flatMap_cons, setCells_append, setL, dc_length, hd0.1, show o * 32 + 32 = (o + 1) * 32 by omega]
    exact OD.copy r (N.set o d) (o + 1) _ (h.store o (by omega) hd0) (by rw [List.length_set]; omega) (fun x hx => hd x (by simp [hx]))
/-- make([]Digest, n). -/
theorem run_make_dig (w : World) (n : Nat) (hn : n ≤ 1000000) : ∃ C, (Instr.makeSlice 22 (.int .i64 (n : Int)) (.int .i64 (n : Int))).run Tryd.prog w = .ok (.slice (some ⟨w.heap.size, 0, none⟩) n n) (w.alloc (.cells C 28)) ∧ OD (w.alloc (.cells C 28)) w.heap.size (List.replicate n zeros32) := by
  obtain ⟨i0, hi, hz0, hz1, hz2⟩ := info_parts info_digest
  have hr := run_make (P := Tryd.prog) w 22 28 i0 _ Tryd.underlying22 hi hz0 .i64 .i64 n n (by omega) (Int.le_refl _) (by rw [hz2]; omega) (by omega)
  simp only [Int.toNat_natCast] at hr
  refine ⟨_, hr, ⟨_, heap_alloc_new w _, by rw [size_madeCells, hz1, List.length_replicate]⟩, fun i hi => ?_, fun d hd => ?_⟩
  · rw [List.length_replicate] at hi
    have e : (List.replicate n zeros32).getD i [] = zeros32 := by simp [List.getD, hi]
    rw [e]
    intro j v hj
    have hj2 : j < 32 := by
      have := (List.getElem?_eq_some_iff.1 hj).1
      rwa [dc_length, zeros32_length] at this
    have hv : v = .int .u8 0 := by
      simp only [dc, zeros32, List.map_replicate, List.getElem?_replicate] at hj
      rw [if_pos hj2] at hj
      exact (Option.some.inj hj).symm
    subst hv
    rw [cell_of_row _ _ _ _ _ _ (heap_alloc_new w _)]
    unfold madeCells
    rw [Array.getElem?_map, Array.getElem?_range, hz1]
    rw [if_pos (by omega)]
    have e2 : (Value.agg (cellsB zeros32)).cells = cellsB zeros32 := rfl
    rw [e2, cellsB_size, zeros32_length, Option.map_some, show (i * 32 + j) % 32 = j by omega]
    have h5 : (cellsB zeros32)[j]? = some (.int .u8 0) := by rw [← dc_arr, List.getElem?_toArray]; exact hj
    rw [getElem!_def, h5]
  · rw [(List.mem_replicate.1 hd).2]
    exact ⟨zeros32_length, fun x hx => by have := (List.mem_replicate.1 hx).2; omega⟩
/-- copy of digests. -/
theorem run_copy_dig (w : World) (ty : TypeId) (b o dLen dCap : Nat) (a : Addr) (sLen sCap : Nat) (cs : List Value)
    (hn : cs.length = Nat.min sLen dLen * 32) (hsrc : ∀ j v, cs[j]? = some v → w.cell? (a.add j) = some v) (hc : ∀ j, j < cs.length → (w.cell? ⟨b, o + j, none⟩).isSome = true) (hf : ∀ j, j < cs.length → w.frozen? ⟨b, o + j, none⟩ = false) (h1 : ∀ v ∈ cs, v.oneCell' = true) :
    (Builtin.copy_ #[22, 22] ty #[.slice (some ⟨b, o, none⟩) dLen dCap, .slice (some a) sLen sCap]).run Tryd.prog w = .ok (goInt (Nat.min sLen dLen)) (w.setCells b o cs) := by
  obtain ⟨i0, hi, hz0, hz1, hz2⟩ := info_parts info_digest
  have hl := run_loadCells_list (P := Tryd.prog) w a cs hsrc
  have hst := run_storeCells_cells (P := Tryd.prog) b o cs 0 w (by simpa using hc) (by simpa using hf) h1
  rw [hn] at hl
  simp [Builtin.copy_, run_underlying Tryd.underlying22, Builtin.lenOf, Builtin.firstCells, sizeOf, typeInfo, hi, hz1, hl, hst]
end Go.Proofs.YtjmlpkemjafifaaDoor
