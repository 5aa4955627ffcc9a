/- The keystream's bytes; a copy of a block's into a row. -/
import Derived.Test.YtbafegpiipkmbaaCtrIter
import Derived.Test.YtbafegpiipkmbaaOwns
import Derived.Laws.OwnMore
import Derived.Laws.IdiomCopy
set_option linter.unusedVariables false
set_option linter.unusedSimpArgs false
namespace Go.Proofs.Ytbafegpiipkmbaa
open Go Go.RowKit Go.Shelf

/-- A byte of the keystream; n of them from a place on; what stands there when F of them are laid down. -/
def ksB (k : List Nat) (p : Nat) : Int := ((at8 (ksL k (p / 16)) (p % 16) : Nat) : Int)
def strL (k : List Nat) (at' n : Nat) : List Int := (List.range n).map fun i => ksB k (at' + i)
def curS (k : List Nat) (at' n F : Nat) : List Int := (strL k at' n).take F ++ List.replicate (n - F) 0
theorem strL_length (k : List Nat) (at' n : Nat) : (strL k at' n).length = n := by simp [strL]
theorem curS_length (k : List Nat) (at' n F : Nat) (h : F ≤ n) : (curS k at' n F).length = n := by simp [curS, strL_length]; omega


def setAll (xs : List Value) : Nat → List Value → List Value
  | _, [] => xs
  | o, v :: r => setAll (xs.set o v) (o + 1) r
theorem setAll_get : ∀ (vs : List Value) (o : Nat) (xs : List Value) (i : Nat), (setAll xs o vs)[i]? = if o ≤ i ∧ i < o + vs.length ∧ i < xs.length then vs[i - o]? else xs[i]?
  | [], o, xs, i => by
    rw [setAll, if_neg (by simp only [List.length_nil]; omega)]
  | v :: r, o, xs, i => by
    rw [setAll, setAll_get r (o + 1) (xs.set o v) i]
    simp only [List.length_set, List.length_cons, List.getElem?_set]
    by_cases h1 : i = o
    · subst h1
      rw [if_neg (fun h => absurd h.1 (by omega)), if_pos rfl]
      by_cases h2 : i < xs.length
      · rw [if_pos h2, if_pos ⟨Nat.le_refl _, by omega, h2⟩, Nat.sub_self]; rfl
      · rw [if_neg h2, if_neg (fun h => h2 h.2.2), List.getElem?_eq_none (by omega)]
    · by_cases h2 : o + 1 ≤ i ∧ i < o + 1 + r.length ∧ i < xs.length
      · rw [if_pos h2, if_pos ⟨by omega, by omega, h2.2.2⟩, show i - o = (i - (o + 1)) + 1 by omega]; simp
      · rw [if_neg h2, if_neg (fun e => h1 e.symm), if_neg (fun h => h2 ⟨by omega, by omega, h.2.2⟩)]
theorem own_setAll {B e n cap g : Nat} : ∀ (vs : List Value) (o : Nat) (W : World) (xs : List Value), W.ownsRow B e 1 (.slice (some ⟨g, 0, none⟩) n cap) n xs → (W.setCells g o vs).ownsRow B e 1 (.slice (some ⟨g, 0, none⟩) n cap) n (setAll xs o vs)
  | [], _, _, _, h => h
  | v :: r, o, W, xs, h => own_setAll r (o + 1) _ _ (h.stored o v).1
def blkC (k : List Nat) (N ah c : Nat) : List Value := (List.range c).map fun t => Value.int .u8 ((at8 (ksL k N) (ah + t) : Nat) : Int)
theorem curS_step (k : List Nat) (at' n F c ah N : Nat) (hF : F + c ≤ n) (h16 : ∀ t, t < c → (at' + F + t) / 16 = N ∧ (at' + F + t) % 16 = ah + t) :
    setAll ((curS k at' n F).map (Value.int .u8)) F (blkC k N ah c) = (curS k at' n (F + c)).map (Value.int .u8) := by
  refine List.ext_getElem? fun i => ?_
  rw [setAll_get]
  simp only [List.length_map, curS_length k at' n F (by omega), blkC, List.length_range]
  have hcur : ∀ G, G ≤ n → ∀ i, i < n → (curS k at' n G)[i]? = some (if i < G then ksB k (at' + i) else 0) := fun G hG i hi => by
    unfold curS
    by_cases h : i < G
    · rw [List.getElem?_append_left (by simp [strL_length]; omega), List.getElem?_take, if_pos h, if_pos h]
      simp [strL, hi]
    · rw [List.getElem?_append_right (by simp [strL_length]; omega), List.getElem?_replicate, if_neg h]
      simp only [List.length_take, strL_length]
      rw [if_pos (by omega)]
  by_cases hi : i < n
  · by_cases hc : F ≤ i ∧ i < F + c
    · rw [if_pos ⟨hc.1, hc.2, hi⟩, List.getElem?_map, List.getElem?_map, hcur (F + c) (by omega) i hi, if_pos hc.2]
      have := h16 (i - F) (by omega)
      rw [show at' + F + (i - F) = at' + i by omega] at this
      simp only [List.getElem?_range (show i - F < c by omega), Option.map_some, ksB, this.1, this.2]
    · rw [if_neg (by omega), List.getElem?_map, List.getElem?_map, hcur F (by omega) i hi, hcur (F + c) (by omega) i hi]
      by_cases h : i < F
      · rw [if_pos h, if_pos (by omega)]
      · rw [if_neg h, if_neg (by omega)]
  · rw [if_neg (by omega), List.getElem?_eq_none (by simp [curS_length k at' n F (by omega)]; omega), List.getElem?_eq_none (by simp [curS_length k at' n (F + c) hF]; omega)]
theorem info_u8s : (Try.prog.info? 5).map (·.size) = some 1 := by kernel_rfl
theorem run_copy_blk (W : World) (B n g F b12 ah c : Nat) (k : List Nat) (N : Nat) (ty : TypeId) (xs : List Value) (hx : xs.length = n) (hO : W.ownsRow B 5 1 (.slice (some ⟨g, 0, none⟩) n n) n xs) (hF : F ≤ n) (hc : c = min (16 - ah) (n - F))
    (hsrc : ∀ i, i < 16 → W.cell? ⟨b12, i, none⟩ = some (.int .u8 ((at8 (ksL k N) i : Nat) : Int))) :
    (Builtin.copy_ #[32, 32] ty #[.slice (some ⟨g, F, none⟩) (n - F) (n - F), .slice (some ⟨b12, ah, none⟩) (16 - ah) (16 - ah)]).run Try.prog W = .ok (.int .i64 (c : Int)) (W.setCells g F (blkC k N ah c)) := by
  have hl : (blkC k N ah c).length = c := by simp [blkC]
  have hr := run_copy_cells (P := Try.prog) W 32 32 ty 5 g F (n - F) (n - F) ⟨b12, ah, none⟩ (16 - ah) (16 - ah) (blkC k N ah c) Try.underlying32 info_u8s (by rw [hl, hc]) (fun j v hv => ?_) (fun j hj => ?_) (fun j hj => ?_) (fun v hv => by
    simp only [blkC, List.mem_map] at hv
    obtain ⟨t, _, rfl⟩ := hv
    rfl)
  · rw [hr, hl]; rfl
  · have hj : j < c := by have := (List.getElem?_eq_some_iff.1 hv).1; omega
    simp only [blkC, List.getElem?_map, List.getElem?_range hj, Option.map_some, Option.some.injEq] at hv
    rw [← hv]
    rw [Addr.add_mid]
    exact hsrc (ah + j) (by omega)
  · rw [hl] at hj
    rw [hO.cellAt (F + j) (by omega), List.getElem?_eq_getElem (by omega)]
    rfl
  · exact hO.frozenAt (F + j)
theorem bel8 : Try.prog.elem 32 = 5 := by kernel_rfl
/-- What stands from F on in a row. -/
theorem run_slice_out (W : World) (g n F : Nat) (hF : F ≤ n) (h0 : n = F → F = 0) : (Instr.slice 32 (.slice (some ⟨g, 0, none⟩) n n) (some (.int .i64 (F : Int))) none none).run Try.prog W = .ok (.slice (some ⟨g, F, none⟩) (n - F) (n - F)) W := by
  have h := run_slice_l (P := Try.prog) W 32 (some ⟨g, 0, none⟩) n n (by rw [bel8]; exact Try.underlying32) .i64 (F : Int) (by omega) (by omega)
  rw [h, bel8, size_u8, Result.andThen_ok, Int.toNat_natCast]
  unfold sliced
  by_cases e : n = F
  · have := h0 e
    subst this
    simp [e]
  · simp [Addr.add_mid]
    omega
theorem alenB : Try.prog.arrayLen 29 = 16 := by kernel_rfl
theorem aelemB : Try.prog.elem 29 = 5 := by kernel_rfl
theorem run_slice_blk (b ah : Nat) (h : ah < 16) (w : World) : (Instr.sliceAt 29 (.pointer (some ⟨b, 0, none⟩)) (some (.int .i64 (ah : Int))) none none).run Try.prog w = .ok (.slice (some ⟨b, ah, none⟩) (16 - ah) (16 - ah)) w := by
  have h := run_sliceAt_array_l (P := Try.prog) w 29 ⟨b, 0, none⟩ (by rw [alenB, aelemB]; exact Try.underlying29) .i64 (ah : Int) (by omega) (by rw [alenB]; omega)
  rw [h, aelemB, size_u8, Result.andThen_ok, Int.toNat_natCast, alenB]
  unfold slicedAt
  rw [if_neg (by omega), Nat.mul_one, Addr.add_mid, Nat.zero_add]
/-- A copy among the operations of a region. -/
theorem wp_cp {o : Oper} {a : Act} {w w' : World} {K : Act → World → Prop} {Q : Exit → Act → World → Prop} {x y : Operand} {t t' : TypeId} {v u r : Value} (ho : o.op = .call { callee := .builtin .copy, args := #[x, y], argTypes := #[t, t'] })
    (hx : a.eval x = v) (hy : a.eval y = u) (hr : (Builtin.copy_ #[t, t'] o.type #[v, u]).run Try.prog w = .ok r w') (h : K (a.put o.dst r) w') : o.wp Try.prog a w K Q := by
  have e : (execOp a.eval o).run Try.prog w = .ok (.value r) w' := by
    simp only [execOp, ho, resolve, invoke, builtin, Sem.run_bind, Sem.run_pure, Result.andThen_ok, List.map_toArray, List.map_cons, List.map_nil, hx, hy, hr]
  unfold Oper.wp
  rw [e]
  exact h
theorem grown_cells (g : Nat) : ∀ (vs : List Value) (o : Nat) (w : World), w.grownBy (w.setCells g o vs) (some g)
  | [], _, _ => ⟨rfl, rfl, rfl, Nat.le_refl _, fun _ _ _ => rfl⟩
  | v :: vs, o, w => grown_tr (grown_sets w g o v) (grown_cells g vs (o + 1) _)
theorem size_cells (g : Nat) : ∀ (vs : List Value) (o : Nat) (w : World), (w.setCells g o vs).heap.size = w.heap.size
  | [], _, _ => rfl
  | v :: vs, o, w => (size_cells g vs (o + 1) _).trans (by simp [World.setCell])
theorem curS_all (k : List Nat) (at' n : Nat) : curS k at' n n = strL k at' n := by
  unfold curS
  rw [List.take_of_length_le (by rw [strL_length]; exact Nat.le_refl _), Nat.sub_self]
  simp
end Go.Proofs.Ytbafegpiipkmbaa
