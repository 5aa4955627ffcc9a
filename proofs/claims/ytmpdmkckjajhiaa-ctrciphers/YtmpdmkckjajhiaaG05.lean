/- Of the road to ctrCiphers_holds: CtrCopy, Range2, CtrStream, Clone, Slices, Chunks, Xor, CtrApplyW. -/
import Derived.Test.YtmpdmkckjajhiaaG04
import Derived.Laws.OwnMore
import Derived.Laws.IdiomCopy
import Derived.Deep.RegionHeld
import Derived.Test.YtmpdmkckjajhiaaG00
import Derived.Laws.BitsAllLaws
import Derived.RangeFuncBox
set_option linter.unusedVariables false
set_option linter.unusedSimpArgs false
namespace Go.Proofs.Ytmpdmkckjajhiaa
open Go Go.RowKit Go.Shelf
def ksB (k : List Nat) (p : Nat) : Int := ((at8 (ksL k (p / 16)) (p % 16) : Nat) : Int)
def strL (k : List Nat) (at' n : Nat) : List Int := (List.range n).map fun i => ksB k (at' + i)
def curS (k : List Nat) (at' n F : Nat) : List Int := (strL k at' n).take F ++ List.replicate (n - F) 0
theorem strL_length (k : List Nat) (at' n : Nat) : (strL k at' n).length = n := by simp [strL]
theorem curS_length (k : List Nat) (at' n F : Nat) (h : F ≤ n) : (curS k at' n F).length = n := by simp [curS, strL_length]; omega
def setAll (xs : List Value) : Nat → List Value → List Value
  | _, [] => xs
  | o, v :: r => setAll (xs.set o v) (o + 1) r
theorem setAll_get : ∀ (vs : List Value) (o : Nat) (xs : List Value) (i : Nat), (setAll xs o vs)[i]? = if o ≤ i ∧ i < o + vs.length ∧ i < xs.length then vs[i - o]? else xs[i]?
  | [], o, xs, i => by
    rw [setAll, if_neg (by simp only [List.length_nil]; omega)]
  | v :: r, o, xs, i => by
    rw [setAll, setAll_get r (o + 1) (xs.set o v) i]
    simp only [List.length_set, List.length_cons, List.getElem?_set]
    by_cases h1 : i = o
    · subst h1
      rw [if_neg (fun h => absurd h.1 (by omega)), if_pos rfl]
      by_cases h2 : i < xs.length
      · rw [if_pos h2, if_pos ⟨Nat.le_refl _, by omega, h2⟩, Nat.sub_self]; rfl
      · rw [if_neg h2, if_neg (fun h => h2 h.2.2), List.getElem?_eq_none (by omega)]
    · by_cases h2 : o + 1 ≤ i ∧ i < o + 1 + r.length ∧ i < xs.length
      · rw [if_pos h2, if_pos ⟨by omega, by omega, h2.2.2⟩, show i - o = (i - (o + 1)) + 1 by omega]; simp
      · rw [if_neg h2, if_neg (fun e => h1 e.symm), if_neg (fun h => h2 ⟨by omega, by omega, h.2.2⟩)]
theorem own_setAll {B e n cap g : Nat} : ∀ (vs : List Value) (o : Nat) (W : World) (xs : List Value), W.ownsRow B e 1 (.slice (some ⟨g, 0, none⟩) n cap) n xs → (W.setCells g o vs).ownsRow B e 1 (.slice (some ⟨g, 0, none⟩) n cap) n (setAll xs o vs)
  | [], _, _, _, h => h
  | v :: r, o, W, xs, h => own_setAll r (o + 1) _ _ (h.stored o v).1
def blkC (k : List Nat) (N ah c : Nat) : List Value := (List.range c).map fun t => Value.int .u8 ((at8 (ksL k N) (ah + t) : Nat) : Int)
theorem curS_step (k : List Nat) (at' n F c ah N : Nat) (hF : F + c ≤ n) (h16 : ∀ t, t < c → (at' + F + t) / 16 = N ∧ (at' + F + t) % 16 = ah + t) :
    setAll ((curS k at' n F).map (Value.int .u8)) F (blkC k N ah c) = (curS k at' n (F + c)).map (Value.int .u8) := by
  refine List.ext_getElem? fun i => ?_
  rw [setAll_get]
  simp only [List.length_map, curS_length k at' n F (by omega), blkC, List.length_range]
  have hcur : ∀ G, G ≤ n → ∀ i, i < n → (curS k at' n G)[i]? = some (if i < G then ksB k (at' + i) else 0) := fun G hG i hi => by
    unfold curS
    by_cases h : i < G
    · rw [List.getElem?_append_left (by simp [strL_length]; omega), List.getElem?_take, if_pos h, if_pos h]
      simp [strL, hi]
    · rw [List.getElem?_append_right (by simp [strL_length]; omega), List.getElem?_replicate, if_neg h]
      simp only [List.length_take, strL_length]
      rw [if_pos (by omega)]
  by_cases hi : i < n
  · by_cases hc : F ≤ i ∧ i < F + c
    · rw [if_pos ⟨hc.1, hc.2, hi⟩, List.getElem?_map, List.getElem?_map, hcur (F + c) (by omega) i hi, if_pos hc.2]
      have := h16 (i - F) (by omega)
      rw [show at' + F + (i - F) = at' + i by omega] at this
      simp only [List.getElem?_range (show i - F < c by omega), Option.map_some, ksB, this.1, this.2]
    · rw [if_neg (by omega), List.getElem?_map, List.getElem?_map, hcur F (by omega) i hi, hcur (F + c) (by omega) i hi]
      by_cases h : i < F
      · rw [if_pos h, if_pos (by omega)]
      · rw [if_neg h, if_neg (by omega)]
  · rw [if_neg (by omega), List.getElem?_eq_none (by simp [curS_length k at' n F (by omega)]; omega), List.getElem?_eq_none (by simp [curS_length k at' n (F + c) hF]; omega)]
theorem info_u8s : (Try.prog.info? 5).map (·.size) = some 1 := by kernel_rfl
theorem run_copy_blk (W : World) (B n g F b12 ah c : Nat) (k : List Nat) (N : Nat) (ty : TypeId) (xs : List Value) (hx : xs.length = n) (hO : W.ownsRow B 5 1 (.slice (some ⟨g, 0, none⟩) n n) n xs) (hF : F ≤ n) (hc : c = min (16 - ah) (n - F))
    (hsrc : ∀ i, i < 16 → W.cell? ⟨b12, i, none⟩ = some (.int .u8 ((at8 (ksL k N) i : Nat) : Int))) :
    (Builtin.copy_ #[31, 31] ty #[.slice (some ⟨g, F, none⟩) (n - F) (n - F), .slice (some ⟨b12, ah, none⟩) (16 - ah) (16 - ah)]).run Try.prog W = .ok (.int .i64 (c : Int)) (W.setCells g F (blkC k N ah c)) := by
  have hl : (blkC k N ah c).length = c := by simp [blkC]
  have hr := run_copy_cells (P := Try.prog) W 31 31 ty 5 g F (n - F) (n - F) ⟨b12, ah, none⟩ (16 - ah) (16 - ah) (blkC k N ah c) Try.underlying31 info_u8s (by rw [hl, hc]) (fun j v hv => ?_) (fun j hj => ?_) (fun j hj => ?_) (fun v hv => by
    simp only [blkC, List.mem_map] at hv
    obtain ⟨t, _, rfl⟩ := hv
    rfl)
  · rw [hr, hl]; rfl
  · have hj : j < c := by have := (List.getElem?_eq_some_iff.1 hv).1; omega
    simp only [blkC, List.getElem?_map, List.getElem?_range hj, Option.map_some, Option.some.injEq] at hv
    rw [← hv]
    rw [Addr.add_mid]
    exact hsrc (ah + j) (by omega)
  · rw [hl] at hj
    rw [hO.cellAt (F + j) (by omega), List.getElem?_eq_getElem (by omega)]
    rfl
  · exact hO.frozenAt (F + j)
theorem bel8 : Try.prog.elem 31 = 5 := by kernel_rfl
theorem run_slice_out (W : World) (g n F : Nat) (hF : F ≤ n) (h0 : n = F → F = 0) : (Instr.slice 31 (.slice (some ⟨g, 0, none⟩) n n) (some (.int .i64 (F : Int))) none none).run Try.prog W = .ok (.slice (some ⟨g, F, none⟩) (n - F) (n - F)) W := by
  have h := run_slice_l (P := Try.prog) W 31 (some ⟨g, 0, none⟩) n n (by rw [bel8]; exact Try.underlying31) .i64 (F : Int) (by omega) (by omega)
  rw [h, bel8, size_u8, Result.andThen_ok, Int.toNat_natCast]
  unfold sliced
  by_cases e : n = F
  · have := h0 e
    subst this
    simp [e]
  · simp [Addr.add_mid]
    omega
theorem alenB : Try.prog.arrayLen 53 = 16 := by kernel_rfl
theorem aelemB : Try.prog.elem 53 = 5 := by kernel_rfl
theorem run_slice_blk (b ah : Nat) (h : ah < 16) (w : World) : (Instr.sliceAt 53 (.pointer (some ⟨b, 0, none⟩)) (some (.int .i64 (ah : Int))) none none).run Try.prog w = .ok (.slice (some ⟨b, ah, none⟩) (16 - ah) (16 - ah)) w := by
  have h := run_sliceAt_array_l (P := Try.prog) w 53 ⟨b, 0, none⟩ (by rw [alenB, aelemB]; exact Try.underlying53) .i64 (ah : Int) (by omega) (by rw [alenB]; omega)
  rw [h, aelemB, size_u8, Result.andThen_ok, Int.toNat_natCast, alenB]
  unfold slicedAt
  rw [if_neg (by omega), Nat.mul_one, Addr.add_mid, Nat.zero_add]
theorem wp_cp {o : Oper} {a : Act} {w w' : World} {K : Act → World → Prop} {Q : Exit → Act → World → Prop} {x y : Operand} {t t' : TypeId} {v u r : Value} (ho : o.op = .call { callee := .builtin .copy, args := #[x, y], argTypes := #[t, t'] })
    (hx : a.eval x = v) (hy : a.eval y = u) (hr : (Builtin.copy_ #[t, t'] o.type #[v, u]).run Try.prog w = .ok r w') (h : K (a.put o.dst r) w') : o.wp Try.prog a w K Q := by
  have e : (execOp a.eval o).run Try.prog w = .ok (.value r) w' := by
    simp only [execOp, ho, resolve, invoke, builtin, Sem.run_bind, Sem.run_pure, Result.andThen_ok, List.map_toArray, List.map_cons, List.map_nil, hx, hy, hr]
  unfold Oper.wp
  rw [e]
  exact h
theorem grown_cells (g : Nat) : ∀ (vs : List Value) (o : Nat) (w : World), w.grownBy (w.setCells g o vs) (some g)
  | [], _, _ => ⟨rfl, rfl, rfl, Nat.le_refl _, fun _ _ _ => rfl⟩
  | v :: vs, o, w => grown_tr (grown_sets w g o v) (grown_cells g vs (o + 1) _)
theorem size_cells (g : Nat) : ∀ (vs : List Value) (o : Nat) (w : World), (w.setCells g o vs).heap.size = w.heap.size
  | [], _, _ => rfl
  | v :: vs, o, w => (size_cells g vs (o + 1) _).trans (by simp [World.setCell])
theorem curS_all (k : List Nat) (at' n : Nat) : curS k at' n n = strL k at' n := by
  unfold curS
  rw [List.take_of_length_le (by rw [strL_length]; exact Nat.le_refl _), Nat.sub_self]
  simp
end Go.Proofs.Ytmpdmkckjajhiaa
namespace Go.Proofs.Ytmpdmkckjajhiaa
open Go.RowKit Go.Shelf
theorem range_fit2 {F : Fence} {n : Nat} {P : Program} {g : Operand} {ps : Array Tmp} {assign body : Code} {Q : Exit → Act → World → Prop} {a : Act} {w : World}
    (hro : F.round = none) (h1 : 1 ≤ n) {gf : Nat} {lb : Array Value} (hg : a.eval g = .func (.func gf) #[] lb) (hFg : F.fn gf) (eg : ∀ args w, (callFunc gf args).run P w = .ok (.enter gf args) w)
    {enc : Nat → Value → Array Value} {Fit : Nat → Value → World → Prop} {D : Nat → Prop} {N : Nat} {w0 : World} (hit : IterF F (n - 1) P gf lb enc Fit D N w0) (hw0 : KD D w0 w) (hD : ∀ i, D i → i < w.heap.size) (hps : ∀ k v, (enc k v).size = ps.size)
    (I : Nat → World → Prop) (Ix : Code → World → Prop) (hI : OwnFrom w.heap.size I) (hIx : OwnFrom w.heap.size Ix) (hFit : ∀ k v, OwnFrom w.heap.size (fun (_ : Unit) W => Fit k v W)) (h0 : I 0 w) (A : Nat → Value → Act → World → Prop) (hA : ∀ k v, OwnFrom w.heap.size (A k v))
    (hassign : ∀ (l k : Nat) (v : Value) (W : World), w.heap.size ≤ l → I k W → Fit k v W → k < N →
      assign.wpIn (F.inRound l) (n - 1 - 1) P (Exit.then (fun a₁ W₁ => KeepsFrom w.heap.size W W₁ ∧ KD D W W₁ ∧ A k v a₁ W₁) (fun _ _ _ => False)) { tmps := (ps.zip (enc k v)).foldl (fun t (p, v) => t.setIfInBounds p v) a.tmps, defers := [] } W)
    (hbody : ∀ (l k : Nat) (v : Value) (a₁ : Act) (W : World), w.heap.size ≤ l → (∃ r, W.heap[l]? = some (.loop r)) → A k v a₁ W → k < N → body.wpIn (F.inRound l) (n - 1 - 1) P (OutF w.heap.size D I Ix k W) a₁ W)
    (hdone : ∀ (d : Nat) (W : World), w.heap.size ≤ d → I N W → W.heap[d]? = some (.deferred (some [])) → Q .normal { a with defers := { target := .collected d, args := #[] } :: a.defers } W)
    (hstop : ∀ (d : Nat) (c : Code) (W : World), w.heap.size ≤ d → Ix c W → W.heap[d]? = some (.deferred (some [])) → c.wpIn F n P Q { a with defers := { target := .collected d, args := #[] } :: a.defers } W) :
    (Code.rangeFunc g ps assign body).wpIn F n P Q a w := by
  refine wpIn_rangeFunc fun fn hfn => ?_
  rw [hro]
  let R : LoopState → Option Code → Loop := fun st pe => { state := st, pending := pe, fn, tmps := a.tmps, params := ps, assign, body, defers := w.heap.size }
  have hds : ∀ i, D i → i ≠ w.heap.size ∧ i ≠ w.heap.size + 1 := fun i hi => by have := hD i hi; omega
  have hnd : ¬ D (w.heap.size + 1) := fun h => (hds _ h).2 rfl
  -- what of the two blocks of book-keeping: the record at st, pe, and the block for deferred calls
  let BK : LoopState → Option Code → World → Prop := fun st pe W => W.heap[w.heap.size + 1]? = some (.loop (R st pe)) ∧ W.heap[w.heap.size]? = some (.deferred (some []))
  have bk_put : ∀ {st pe W} (st' pe'), BK st pe W → BK st' pe' (W.putObj (w.heap.size + 1) (.loop (R st' pe'))) := fun st' pe' h =>
    ⟨World.putObj_heap_same (Array.getElem?_eq_some_iff.1 h.1).1, (World.putObj_heap_other (by omega)).trans h.2⟩
  have bk_kept : ∀ {st pe A C}, BK st pe A → KeepsFrom w.heap.size A C → BK st pe C := fun h k => ⟨k.same _ _ (by omega) h.1 rfl, k.same _ _ (Nat.le_refl _) h.2 rfl⟩
  have bk_grown : ∀ {st pe A C}, BK st pe A → A.grownBy C none → BK st pe C := fun h k =>
    ⟨(k.block _ (Array.getElem?_eq_some_iff.1 h.1).1 (by simp)).trans h.1, (k.block _ (Array.getElem?_eq_some_iff.1 h.2).1 (by simp)).trans h.2⟩
  obtain ⟨W1, hW1⟩ : ∃ W1, (w.alloc (.deferred (some []))).alloc (.loop (R .ready none)) = W1 := ⟨_, rfl⟩
  have hg1 : w.grownBy W1 none := by
    rw [← hW1]
    exact ⟨rfl, rfl, rfl, by simp; omega, fun i hi _ => (Below.heap_alloc _ _ _ (by simp; omega)).trans (Below.heap_alloc _ _ _ hi)⟩
  have hBK1 : BK .ready none W1 := by
    rw [← hW1]
    refine ⟨?_, (Below.heap_alloc _ _ _ (by simp)).trans (World.alloc_heap_new w _)⟩
    have := World.alloc_heap_new (w.alloc (.deferred (some []))) (.loop (R .ready none))
    rwa [World.size_alloc] at this
  refine ⟨w.heap.size + 1, [{ target := .collected w.heap.size, args := #[] }], W1, { target := .fn (.func gf) lb, args := #[.func (.yield (w.heap.size + 1)) #[] #[]] }, W1, gf, #[.func (.yield (w.heap.size + 1)) #[] #[]] ++ lb, W1, ?_, ?_, ?_, ?_, fun _ => h1, ?_⟩
  · rw [← hW1]; exact run_enterLoop_outer _ _ _ _ _
  · simp only [resolve, hg]; simp [go_sem]
  · intro f' hf'; simp [Target.leads] at hf'; subst hf'; exact hFg
  · simp [invoke, go_sem, eg]
  · refine (hit (w.heap.size + 1) (fun k W => I k W ∧ BK .ready none W) (fun W => ∃ c, Ix c W ∧ BK .done (some c) W) W1 (hw0.trans ⟨hg1.size, fun i hi => hg1.block i (hD i hi) (by simp)⟩)
      (fun k A C h hg' => ⟨hI k A C none h.1 hg' (fun r e => by cases e), bk_grown h.2 hg'⟩) ?_ ⟨hI 0 w W1 none h0 hg1 (fun r e => by cases e), hBK1⟩).mono ?_
    · rintro k v W ⟨hi, hb⟩ hf hk
      refine ⟨fn, _, assign, body, run_yield (P := P) (r := R .ready none) (args := enc k v) hb.1 (hps k v), roundIn_of_wpIn hfn (wpIn_mono (hassign _ k v W (by omega) hi hf hk) ?_)⟩
      rintro e1 a1 Wa hp1
      have hn1 : e1 = .normal := by cases e1 <;> first | rfl | exact hp1.elim
      subst hn1
      obtain ⟨m1, m2, m3⟩ := hp1
      have hb1 := bk_kept hb m1
      refine ⟨_, run_beginRound hb1.1 rfl, ?_⟩
      have hb2 : BK .busy none (Wa.putObj (w.heap.size + 1) (.loop (R .busy none))) := bk_put _ _ hb1
      refine wpIn_mono (hbody _ k v a1 _ (by omega) ⟨_, hb2.1⟩ ((hA k v).putObj _ m3 (by omega) hb1.1 rfl) hk) ?_
      rintro e a3 W3 hp
      cases e with
      | normal =>
        obtain ⟨k1, k2, k3⟩ := hp
        have hb3 := bk_kept hb2 k1
        exact ⟨_, _, run_endRound (P := P) none hb3.1, .inl ⟨rfl, ⟨hI.putObj _ k3 (by omega) hb3.1 rfl, bk_put .ready none hb3⟩, (m2.trans ((KD.put hnd _).trans k2)).trans (KD.put hnd _)⟩⟩
      | ret =>
        have hb3 := bk_kept hb2 hp.1
        exact ⟨_, _, run_endRound (P := P) (some .ret) hb3.1, .inr ⟨rfl, .ret, hIx.putObj _ hp.2 (by omega) hb3.1 rfl, bk_put .done (some .ret) hb3⟩⟩
      | exit id =>
        have hb3 := bk_kept hb2 hp.1
        exact ⟨_, _, run_endRound (P := P) (some (.exit id)) hb3.1, .inr ⟨rfl, .exit id, hIx.putObj _ hp.2 (by omega) hb3.1 rfl, bk_put .done (some (.exit id)) hb3⟩⟩
      | goto t => exact hp.elim
      | panic ch => exact hp.elim
      | outgrown => exact hp.elim
    · rintro e W2 ⟨⟨v, rfl⟩, ⟨hi, hb⟩ | ⟨c, hc, hb⟩⟩
      · exact ⟨none, _, run_endLoop (P := P) hb.1 (by simp [R]), hdone _ _ (Nat.le_refl _) (hI.putObj _ hi (by omega) hb.1 rfl) ((World.putObj_heap_other (by omega)).trans hb.2)⟩
      · exact ⟨some c, _, run_endLoop (P := P) hb.1 (by simp [R]), hstop _ c _ (Nat.le_refl _) (hIx.putObj _ hc (by omega) hb.1 rfl) ((World.putObj_heap_other (by omega)).trans hb.2)⟩
end Go.Proofs.Ytmpdmkckjajhiaa
namespace Go.Proofs.Ytmpdmkckjajhiaa
open Go Go.RowKit Go.Shelf Ev
attribute [local go_sem] Oper.semAt_some
set_option maxHeartbeats 1000000 in
theorem within_ok (w : World) (at' n : Nat) (hpl : at' + n ≤ 4611686018427387904) : Calls Try.prog 15 #[.int .i64 (at' : Int), .int .i64 (n : Int)] w fun e w' => e = .returned (.bool true) ∧ w' = w := by
  have h1 : (0 : Int) ≤ (at' : Int) := by omega
  have h2 : (at' : Int) ≤ 4611686018427387904 - (n : Int) := by omega
  go_enter Try.func15, Try.ntmps15
  go_wp2
  go_ret
  exact ⟨rfl, rfl⟩
set_option maxRecDepth 100000 in
set_option maxHeartbeats 4000000 in
theorem stream_any (w : World) (k : List Nat) (at' n : Nat) (hk : Byt k) (hl : k.length = 16) (hpl : at' + n ≤ 4611686018427387904) (hn : n ≤ 140737488351232) :
    Calls Try.prog 20 #[.agg (cells8 k), .int .i64 (at' : Int), .int .i64 (n : Int)] w fun e w' => ∃ v', e = .returned (.tuple #[v', .int .i64 0]) ∧ w'.ownsRow w.heap.size 5 1 v' n ((strL k at' n).map (Value.int .u8)) ∧ Below w.heap.size w w' := by
  obtain ⟨i0, hi, hz0, hz1, hz2⟩ := info_parts info_u8
  obtain ⟨z0, z1, z2, z3, z4, z5, z6, z7, z8, z9, z10, z11, z12, z13, z14, z15, hz⟩ := list16 hl
  have HZ := hid hz
  have hcz : cells8 k = #[.int .u8 (z0 : Int), .int .u8 (z1 : Int), .int .u8 (z2 : Int), .int .u8 (z3 : Int), .int .u8 (z4 : Int), .int .u8 (z5 : Int), .int .u8 (z6 : Int), .int .u8 (z7 : Int), .int .u8 (z8 : Int), .int .u8 (z9 : Int), .int .u8 (z10 : Int), .int .u8 (z11 : Int), .int .u8 (z12 : Int), .int .u8 (z13 : Int), .int .u8 (z14 : Int), .int .u8 (z15 : Int)] := by rw [hz]; rfl
  have HCZ := hid hcz
  rw [hcz]
  clear hz hcz
  refine (callsIn_wide (n := 3)).1 ?_
  refine callsIn_of_wp_marks Try.func20 rfl trivial ?_ rfl
  simp only [Try.ntmps20, List.size_toArray, List.length_cons, List.length_nil, Nat.reduceAdd, Nat.reduceSub, Array.replicate_succ, Array.replicate_zero, List.push_toArray, List.append_toArray, List.nil_append, List.cons_append]
  refine wpIn_seq_k fun K1 h1 => ?_
  have H1 := hid h1
  clear h1
  gi_wp2
  refine H1.out _ _ ?_
  clear H1 K1
  obtain ⟨S, hS⟩ : ∃ S, w.heap.size = S := ⟨_, rfl⟩
  obtain ⟨W0, hW0⟩ : ∃ W0, Hid ((w.alloc (.cells (cells8 k) 23)).alloc (.cells #[.int .i64 (n : Int)] 3) = W0) := ⟨_, rfl⟩
  have hW0e := hW0.out
  rw [HCZ.out] at hW0e
  rw [hW0e, hS]
  clear hW0e
  have HB0 : Hid (Below S w W0) := by rw [← hW0.out, ← hS]; exact ((Below.refl _ w).alloc (Nat.le_refl _) _).alloc (by simp) _
  have hS0 : W0.heap.size = S + 2 := by rw [← hW0.out, ← hS]; simp
  have HKY0 : Hid (W0.heap[S]? = some (.cells (cells8 k) 23)) := by
    show _ = _
    rw [← hW0.out, ← hS]
    exact (Below.heap_alloc _ _ _ (by simp)).trans (World.alloc_heap_new w _)
  have HN0 : Hid (Boxed W0 (S + 1) 3 (.int .i64 (n : Int))) := by
    rw [← hW0.out, ← hS]
    have := Boxed.new (w.alloc (.cells (cells8 k) 23)) 3 (.int .i64 (n : Int))
    rwa [World.size_alloc] at this
  have c5 := HN0.out.cell
  have hn0 : ¬ ((n : Int) < 0) := by omega
  refine wpIn_seq_k fun K1 h1 => ?_
  have H1 := hid h1
  clear h1
  gi_wp2
  refine H1.out _ _ ?_
  clear H1 K1
  have HWI := hid (within_ok W0 at' n hpl)
  refine wpIn_seq_k fun K1 h1 => ?_
  have H1 := hid h1
  clear h1
  gi_wp2
  refine ⟨trivial, callsIn_wide.2 (HWI.out.mono ?_)⟩
  rintro e w' ⟨rfl, rfl⟩
  gi_wp2
  refine H1.out _ _ ?_
  clear H1 K1 HWI
  obtain ⟨w1, hmk, hown, hgr⟩ := run_make_full (P := Try.prog) w' w'.heap.size 31 5 i0 (.int .u8 0) 1 Try.underlying31 hi hz0 hz1 .i64 .i64 n (by rw [hz2]; omega) (by unfold maxLen; omega) (Nat.le_refl _)
  rw [hS0] at hown
  have HO1 := hid hown
  have HG1 := hid hgr
  clear hown hgr
  have HKY1 : Hid (w1.heap[S]? = some (.cells (cells8 k) 23)) := (HG1.out.block S (by omega) (by simp)).trans HKY0.out
  have HN1 : Hid (Boxed w1 (S + 1) 3 (.int .i64 (n : Int))) := HN0.out.kept HG1.out (by simp)
  have HB1 : Hid (Below S w w1) := HB0.out.trans ((Below.refl _ w').grown HG1.out (by omega) (fun k e => by cases e))
  refine wpIn_seq_k fun K1 h1 => ?_
  have H1 := hid h1
  clear h1
  gi_wp2
  refine H1.out _ _ ?_
  clear H1 K1 hmk c5
  obtain ⟨A0, HA0⟩ : ∃ A0, Hid (at' % 16 = A0) := ⟨_, rfl⟩
  obtain ⟨Q0, HQ0⟩ : ∃ Q0, Hid (at' / 16 = Q0) := ⟨_, rfl⟩
  have hAlt : A0 < 16 := by rw [← HA0.out]; omega
  have hQlt : Q0 < 18446744073709551616 := by rw [← HQ0.out]; omega
  have hrem : Int.tmod (at' : Int) 16 = (A0 : Int) := by rw [Int.tmod_eq_emod_of_nonneg (by omega), ← HA0.out]; omega
  have hquo : Int.tdiv (at' : Int) 16 = (Q0 : Int) := by rw [Int.tdiv_eq_ediv_of_nonneg (by omega), ← HQ0.out]; omega
  have hrem2 : (at' : Int) % 16 = (A0 : Int) := by rw [← HA0.out]; omega
  have hquo2 : (at' : Int) / 16 = (Q0 : Int) := by rw [← HQ0.out]; omega
  refine wpIn_seq_k fun K1 h1 => ?_
  have H1 := hid h1
  clear h1
  gi_wp2
  refine H1.out _ _ ?_
  clear H1 K1
  refine wpIn_seq_k fun K1 h1 => ?_
  have H1 := hid h1
  clear h1
  gi_wp2
  refine H1.out _ _ ?_
  clear H1 K1
  obtain ⟨T, hT⟩ : ∃ T, w1.heap.size = T := ⟨_, rfl⟩
  rw [hT]
  have hST : S + 3 ≤ T := by
    have := (HO1.out.lt (S + 2) rfl).2
    omega
  obtain ⟨W3, hW3⟩ : ∃ W3, Hid (((w1.alloc (.cells #[.slice (some ⟨S + 2, 0, none⟩) n n] 31)).alloc (.cells #[.int .i64 0] 3)).alloc (.cells #[.int .i64 (A0 : Int)] 3) = W3) := ⟨_, rfl⟩
  rw [hW3.out]
  have hS3 : W3.heap.size = T + 3 := by rw [← hW3.out]; simp; omega
  have HB3 : Hid (Below S w W3) := by
    rw [← hW3.out]
    exact ((HB1.out.alloc (by omega) _).alloc (by simp; omega) _).alloc (by simp; omega) _
  have HG3 : Hid (w1.grownBy W3 none) := by
    rw [← hW3.out]
    exact ⟨rfl, rfl, rfl, by simp; omega, fun i hi _ => (Below.heap_alloc _ _ _ (by simp; omega)).trans ((Below.heap_alloc _ _ _ (by simp; omega)).trans (Below.heap_alloc _ _ _ hi))⟩
  have HKY3 : Hid (W3.heap[S]? = some (.cells (cells8 k) 23)) := (HG3.out.block S (by omega) (by simp)).trans HKY1.out
  have HN3 : Hid (Boxed W3 (S + 1) 3 (.int .i64 (n : Int))) := HN1.out.kept HG3.out (by simp)
  have HO3 : Hid (W3.ownsRow (S + 2) 5 1 (.slice (some ⟨S + 2, 0, none⟩) n n) n ((curS k at' n 0).map (Value.int .u8))) := by
    show World.ownsRow _ _ _ _ _ _ _
    have e : (madeCells (Value.int IntKind.u8 0).cells (n * 1)).toList = (curS k at' n 0).map (Value.int .u8) := by
      rw [show (Value.int IntKind.u8 0).cells = #[Value.int .u8 0] from rfl, toList_madeCells_one]
      simp [curS]
    rw [← e]
    exact HO1.out.kept HG3.out (.inr (by simp [Value.ownBlock]))
  have HOX : Hid (Boxed W3 T 31 (.slice (some ⟨S + 2, 0, none⟩) n n)) := by
    rw [← hW3.out, ← hT]
    exact ((Boxed.new w1 _ _).alloc _).alloc _
  have HFX : Hid (Boxed W3 (T + 1) 3 (.int .i64 0)) := by
    rw [← hW3.out, ← hT]
    have := (Boxed.new (w1.alloc (.cells #[.slice (some ⟨S + 2, 0, none⟩) n n] 31)) 3 (.int .i64 0)).alloc (.cells #[.int .i64 (A0 : Int)] 3)
    rwa [World.size_alloc] at this
  have HAX : Hid (Boxed W3 (T + 2) 3 (.int .i64 (A0 : Int))) := by
    rw [← hW3.out, ← hT]
    have := Boxed.new ((w1.alloc (.cells #[.slice (some ⟨S + 2, 0, none⟩) n n] 31)).alloc (.cells #[.int .i64 0] 3)) 3 (.int .i64 (A0 : Int))
    rwa [World.size_alloc, World.size_alloc] at this
  have hcl : ∀ i, i < 16 → W3.cell? ⟨S, i, none⟩ = some (.int .u8 ((at8 k i : Nat) : Int)) := fun i hi => by
    simp [World.cell?, HKY3.out, cells8, at8, List.getD, hl, hi]
  rw [HZ.out] at hcl
  have hc0 : W3.cell? ⟨S, 0, none⟩ = some (.int .u8 (z0 : Int)) := hcl 0 (by decide)
  have hc1 : W3.cell? ⟨S, 1, none⟩ = some (.int .u8 (z1 : Int)) := hcl 1 (by decide)
  have hc2 : W3.cell? ⟨S, 2, none⟩ = some (.int .u8 (z2 : Int)) := hcl 2 (by decide)
  have hc3 : W3.cell? ⟨S, 3, none⟩ = some (.int .u8 (z3 : Int)) := hcl 3 (by decide)
  have hc4 : W3.cell? ⟨S, 4, none⟩ = some (.int .u8 (z4 : Int)) := hcl 4 (by decide)
  have hc5 : W3.cell? ⟨S, 5, none⟩ = some (.int .u8 (z5 : Int)) := hcl 5 (by decide)
  have hc6 : W3.cell? ⟨S, 6, none⟩ = some (.int .u8 (z6 : Int)) := hcl 6 (by decide)
  have hc7 : W3.cell? ⟨S, 7, none⟩ = some (.int .u8 (z7 : Int)) := hcl 7 (by decide)
  have hc8 : W3.cell? ⟨S, 8, none⟩ = some (.int .u8 (z8 : Int)) := hcl 8 (by decide)
  have hc9 : W3.cell? ⟨S, 9, none⟩ = some (.int .u8 (z9 : Int)) := hcl 9 (by decide)
  have hc10 : W3.cell? ⟨S, 10, none⟩ = some (.int .u8 (z10 : Int)) := hcl 10 (by decide)
  have hc11 : W3.cell? ⟨S, 11, none⟩ = some (.int .u8 (z11 : Int)) := hcl 11 (by decide)
  have hc12 : W3.cell? ⟨S, 12, none⟩ = some (.int .u8 (z12 : Int)) := hcl 12 (by decide)
  have hc13 : W3.cell? ⟨S, 13, none⟩ = some (.int .u8 (z13 : Int)) := hcl 13 (by decide)
  have hc14 : W3.cell? ⟨S, 14, none⟩ = some (.int .u8 (z14 : Int)) := hcl 14 (by decide)
  have hc15 : W3.cell? ⟨S, 15, none⟩ = some (.int .u8 (z15 : Int)) := hcl 15 (by decide)
  clear hcl
  have HBL := hid (blocks_any W3 k Q0 hk hl)
  rw [HCZ.out] at HBL
  refine wpIn_seq_k fun K9 h9 => ?_
  have H9 := hid h9
  clear h9
  refine wpIn_seq_k fun K1 h1 => ?_
  have H1 := hid h1
  clear h1
  gi_wp2
  refine ⟨trivial, callsIn_wide.2 (HBL.out.mono ?_)⟩
  rintro e w4 ⟨b1, b4, g, rfl, hat, hD, hB4⟩
  have HAT := hid hat
  have HD := hid hD
  have HB4 := hid hB4
  clear hat hD hB4 HBL hc0 hc1 hc2 hc3 hc4 hc5 hc6 hc7 hc8 hc9 hc10 hc11 hc12 hc13 hc14 hc15
  rw [← HCZ.out]
  have hS4 := HB4.out.size
  gi_wp2
  refine H1.out _ _ ?_
  clear H1 K1
  have HG4 : Hid (W3.grownBy w4 none) := grown_of HB4.out
  have hkv : (Value.agg (cells8 k)).oneCell' = (Value.agg (cells8 k)).oneCell' := rfl
  refine wpIn_block ?_
  refine range_fit2 rfl (by decide) (gf := 28) (lb := #[.pointer (some ⟨b1, 0, none⟩), .pointer (some ⟨b4, 0, none⟩)]) rfl trivial (enters_of Try.func28 (by kernel_rfl) rfl)
    (blocks_iter (3 - 1) w4 b1 b4 g Q0 k hk hl hQlt HAT.out (fun i hi => (HD.out i hi).2)) (KD.refl _ _) (fun i hi => (HD.out i hi).2) (fun _ _ => rfl)
    (fun j W => Boxed W T 31 (.slice (some ⟨S + 2, 0, none⟩) n n) ∧ Boxed W (T + 1) 3 (.int .i64 ((16 * j - A0 : Nat) : Int)) ∧ Boxed W (T + 2) 3 (.int .i64 ((if j = 0 then A0 else 0 : Nat) : Int)) ∧ Boxed W (S + 1) 3 (.int .i64 (n : Int)) ∧
      W.ownsRow (S + 2) 5 1 (.slice (some ⟨S + 2, 0, none⟩) n n) n ((curS k at' n (16 * j - A0)).map (Value.int .u8)) ∧ Below S w W ∧ w4.heap.size ≤ W.heap.size ∧ (j = 0 ∨ 16 * j < A0 + n))
    (fun c W => c = .exit 0 ∧ Boxed W T 31 (.slice (some ⟨S + 2, 0, none⟩) n n) ∧ W.ownsRow (S + 2) 5 1 (.slice (some ⟨S + 2, 0, none⟩) n n) n ((strL k at' n).map (Value.int .u8)) ∧ Below S w W)
    (fun s A C row hs hg hr => ⟨box_from hs.1 hg hr, box_from hs.2.1 hg hr, box_from hs.2.2.1 hg hr, box_from hs.2.2.2.1 hg hr, row_from hs.2.2.2.2.1 hg hr, below_from hs.2.2.2.2.2.1 (by omega) hg hr (by omega), Nat.le_trans hs.2.2.2.2.2.2.1 hg.size, hs.2.2.2.2.2.2.2⟩)
    (fun s A C row hs hg hr => ⟨hs.1, box_from hs.2.1 hg hr, row_from hs.2.2.1 hg hr, below_from hs.2.2.2 (by omega) hg hr (by omega)⟩)
    (fun j v _ A C row hs hg hr => hs)
    ⟨HOX.out.kept HG4.out (by simp), (by rw [show 16 * 0 - A0 = 0 by omega]; exact HFX.out.kept HG4.out (by simp)), HAX.out.kept HG4.out (by simp), HN3.out.kept HG4.out (by simp), (by rw [show 16 * 0 - A0 = 0 by omega]; exact HO3.out.kept HG4.out (.inr (by simp [Value.ownBlock]))), HB3.out.trans (HB4.out.mono (by omega)), Nat.le_refl _, .inl rfl⟩
    (fun j v a1 W => ∃ b12, w4.heap.size ≤ b12 ∧ b12 < W.heap.size ∧ (∀ i, i < 16 → W.cell? ⟨b12, i, none⟩ = some (.int .u8 ((at8 (ksL k (Q0 + j)) i : Nat) : Int))) ∧
      a1 = { tmps := #[.agg (cells8 k), .int .i64 (at' : Int), .int .i64 (n : Int), .pointer (some ⟨S, 0, none⟩), undef, .pointer (some ⟨S + 1, 0, none⟩), .slice none 0 0, .int .i64 0, .pointer (some ⟨T, 0, none⟩), .pointer (some ⟨T + 1, 0, none⟩), .pointer (some ⟨T + 1 + 1, 0, none⟩), undef, .pointer (some ⟨b12, 0, none⟩), .int .i64 (n : Int), .bool false, .int .i64 (at' : Int), .int .i64 (n : Int), .bool true, .bool false, .int .i64 (n : Int), .slice (some ⟨S + 2, 0, none⟩) n n, .int .i64 (at' : Int), .int .i64 (A0 : Int), .agg (cells8 k), .int .i64 (at' : Int), .int .i64 (Q0 : Int), .int .u64 (Q0 : Int), .func (.func 28) #[] #[.pointer (some ⟨b1, 0, none⟩), .pointer (some ⟨b4, 0, none⟩)], .int .u64 ((Q0 + j : Nat) : Int), v, undef, undef, undef, undef, undef, undef, undef, undef, undef, undef, undef, undef], defers := [] } ∧
      (Boxed W T 31 (.slice (some ⟨S + 2, 0, none⟩) n n) ∧ Boxed W (T + 1) 3 (.int .i64 ((16 * j - A0 : Nat) : Int)) ∧ Boxed W (T + 2) 3 (.int .i64 ((if j = 0 then A0 else 0 : Nat) : Int)) ∧ Boxed W (S + 1) 3 (.int .i64 (n : Int)) ∧
      W.ownsRow (S + 2) 5 1 (.slice (some ⟨S + 2, 0, none⟩) n n) n ((curS k at' n (16 * j - A0)).map (Value.int .u8)) ∧ Below S w W ∧ w4.heap.size ≤ W.heap.size ∧ (j = 0 ∨ 16 * j < A0 + n)))
    ?hA ?assign ?body ?done ?stop
  case hA =>
    rintro j v a1 A C row ⟨b12, h1, h2, h3, h4, hs⟩ hg hr
    refine ⟨b12, h1, Nat.lt_of_lt_of_le h2 hg.size, fun i hi => ?_, h4, ⟨box_from hs.1 hg hr, box_from hs.2.1 hg hr, box_from hs.2.2.1 hg hr, box_from hs.2.2.2.1 hg hr, row_from hs.2.2.2.2.1 hg hr, below_from hs.2.2.2.2.2.1 (by omega) hg hr (by omega), Nat.le_trans hs.2.2.2.2.2.2.1 hg.size, hs.2.2.2.2.2.2.2⟩⟩
    have e : C.heap[b12]? = A.heap[b12]? := hg.block b12 h2 fun e => by
      obtain ⟨_, o, ho, hc⟩ := hr b12 e.symm
      have := h3 i hi
      unfold World.cell? at this
      rw [ho] at this
      cases o <;> simp_all [Obj.isCells]
    have := h3 i hi
    unfold World.cell? at this ⊢
    rw [e]; exact this
  case done =>
    rintro d W _ hs _
    exfalso
    have := hs.2.2.2.2.2.2.2
    have := HQ0.out
    omega
  case stop =>
    rintro d c W hd ⟨rfl, x1, x2, x3⟩ hK
    have c2 := x1.cell
    have HKD := hid hK
    have X2 := hid x2
    have X3 := hid x3
    clear x1 x2 x3 hK
    refine wpIn_exit ?_
    show K9 _ _
    refine H9.out _ _ ?_
    clear H9 K9
    gi_wp2
    refine ⟨by simp, .inl ⟨_, _, rfl, run_takeDeferred HKD.out, ?_⟩⟩
    exact ⟨_, results_tmp2 rfl _ _ _, _, rfl, own_mono (ownsRow_putObj X2.out _ HKD.out rfl) (by omega), X3.out.trans (belowK_b (w := w) (by omega) W d _ _ (by omega) HKD.out rfl rfl)⟩
  case assign =>
    rintro l j v W hll hs hv hj
    subst hv
    obtain ⟨y0, y1, y2, y3, y4, y5, y6, y7, y8, y9, y10, y11, y12, y13, y14, y15, hy⟩ := list16 (ksL_ok hl hk (Q0 + j)).1
    have HY := hid hy
    have hcy : cells8 (ksL k (Q0 + j)) = #[.int .u8 (y0 : Int), .int .u8 (y1 : Int), .int .u8 (y2 : Int), .int .u8 (y3 : Int), .int .u8 (y4 : Int), .int .u8 (y5 : Int), .int .u8 (y6 : Int), .int .u8 (y7 : Int), .int .u8 (y8 : Int), .int .u8 (y9 : Int), .int .u8 (y10 : Int), .int .u8 (y11 : Int), .int .u8 (y12 : Int), .int .u8 (y13 : Int), .int .u8 (y14 : Int), .int .u8 (y15 : Int)] := by rw [hy]; rfl
    have HCY := hid hcy
    rw [hcy]
    have HS := hid hs
    clear hs hy hcy
    refine wpIn_mono (Q := fun e a₁ W₁ => e = .normal ∧ a₁ = { tmps := #[.agg (cells8 k), .int .i64 (at' : Int), .int .i64 (n : Int), .pointer (some ⟨S, 0, none⟩), undef, .pointer (some ⟨S + 1, 0, none⟩), .slice none 0 0, .int .i64 0, .pointer (some ⟨T, 0, none⟩), .pointer (some ⟨T + 1, 0, none⟩), .pointer (some ⟨T + 1 + 1, 0, none⟩), undef, .pointer (some ⟨W.heap.size, 0, none⟩), .int .i64 (n : Int), .bool false, .int .i64 (at' : Int), .int .i64 (n : Int), .bool true, .bool false, .int .i64 (n : Int), .slice (some ⟨S + 2, 0, none⟩) n n, .int .i64 (at' : Int), .int .i64 (A0 : Int), .agg (cells8 k), .int .i64 (at' : Int), .int .i64 (Q0 : Int), .int .u64 (Q0 : Int), .func (.func 28) #[] #[.pointer (some ⟨b1, 0, none⟩), .pointer (some ⟨b4, 0, none⟩)], .int .u64 ((Q0 + j : Nat) : Int), .agg (cells8 (ksL k (Q0 + j))), undef, undef, undef, undef, undef, undef, undef, undef, undef, undef, undef, undef], defers := [] } ∧ W₁ = W.alloc (.cells (cells8 (ksL k (Q0 + j))) 53)) ?_ ?_
    · rw [HCY.out]
      gi_wp2
    · rintro e a₁ W₁ ⟨rfl, rfl, rfl⟩
      rw [← HCY.out]
      have hg := World.grownBy_alloc W (.cells (cells8 (ksL k (Q0 + j))) 53) none
      have hr : ∀ r, (none : Option Nat) = some r → w4.heap.size ≤ r ∧ ∃ o : Obj, W.heap[r]? = some o ∧ o.isCells = false := fun r e => by cases e
      have hs := HS.out
      refine ⟨KeepsFrom.of_grownBy hg (fun j e => by cases e), ⟨hg.size, fun i hi => hg.block i (by have := (HD.out i hi).2; have := hs.2.2.2.2.2.2.1; omega) (by simp)⟩, W.heap.size, hs.2.2.2.2.2.2.1, by simp, fun i hi => ?_, rfl, ⟨box_from hs.1 hg hr, box_from hs.2.1 hg hr, box_from hs.2.2.1 hg hr, box_from hs.2.2.2.1 hg hr, row_from hs.2.2.2.2.1 hg hr, below_from hs.2.2.2.2.2.1 (by omega) hg hr (by omega), Nat.le_trans hs.2.2.2.2.2.2.1 hg.size, hs.2.2.2.2.2.2.2⟩⟩
      have hln := (ksL_ok hl hk (Q0 + j)).1
      unfold World.cell?
      rw [World.alloc_heap_new]
      simp [cells8, at8, List.getD, hln, hi]
  case body =>
    rintro l j v a1 W hll hrec ⟨b12, hb1, hb2, hc, rfl, x1, x2, x3, x4, x5, x6, x7, x8⟩ hj
    clear hrec
    obtain ⟨F, HF⟩ : ∃ F, Hid (16 * j - A0 = F) := ⟨_, rfl⟩
    obtain ⟨ah, HAh⟩ : ∃ ah, Hid ((if j = 0 then A0 else 0) = ah) := ⟨_, rfl⟩
    rw [HF.out] at x2 x5
    rw [HAh.out] at x3
    have hrel : ah < 16 ∧ F ≤ n ∧ (n = F → F = 0) ∧ at' + F = 16 * (Q0 + j) + ah := by
      have e1 := HF.out
      have e2 := HAh.out
      have e3 := HA0.out
      have e4 := HQ0.out
      split at e2 <;> omega
    obtain ⟨hah, hFn, hF0, hmath⟩ := hrel
    obtain ⟨c, HC⟩ : ∃ c, Hid (c = min (16 - ah) (n - F)) := ⟨_, rfl⟩
    have hcl1 : c ≤ 16 - ah := by rw [HC.out]; omega
    have hcl2 : F + c ≤ n := by rw [HC.out]; omega
    have HST : Hid (setAll ((curS k at' n F).map (Value.int .u8)) F (blkC k (Q0 + j) ah c) = (curS k at' n (F + c)).map (Value.int .u8)) := curS_step k at' n F c ah (Q0 + j) hcl2 fun t ht => by omega
    have X1 := hid x1
    have X2 := hid x2
    have X3 := hid x3
    have X4 := hid x4
    have X5 := hid x5
    have X6 := hid x6
    have HCC := hid hc
    have hS2T : S + 2 ≠ T := by omega
    clear x1 x2 x3 x4 x5 x6 hc
    refine wpIn_block ?_
    refine wpIn_seq_k fun K1 h1 => ?_
    have H1 := hid h1
    clear h1
    have hm : Try.prog.follows .mixedOrders = true := mixedOrders
    obtain ⟨G, HGe⟩ : ∃ G, Hid (F + c = G) := ⟨_, rfl⟩
    have hGn : G ≤ n := by rw [← HGe.out]; exact hcl2
    have hadd : (F : Int) + (c : Int) = (G : Int) := by have := HGe.out; omega
    have hwr : IntKind.i64.wrap ((F : Int) + (c : Int)) = (G : Int) := by rw [IntKind.wrap_i64]; omega
    obtain ⟨Wc, HWc⟩ : ∃ Wc, Hid (W.drew.setCells (S + 2) F (blkC k (Q0 + j) ah c) = Wc) := ⟨_, rfl⟩
    obtain ⟨Wd, HWd⟩ : ∃ Wd, Hid (Wc.setCell ⟨T + 1, 0, none⟩ (.int .i64 (G : Int)) = Wd) := ⟨_, rfl⟩
    have HCP : Hid ((Builtin.copy_ #[31, 31] 3 #[.slice (some ⟨S + 2, F, none⟩) (n - F) (n - F), .slice (some ⟨b12, ah, none⟩) (16 - ah) (16 - ah)]).run Try.prog W.drew = .ok (.int .i64 (c : Int)) Wc) := by
      rw [← HWc.out]
      exact run_copy_blk W.drew (S + 2) n (S + 2) F b12 ah c k (Q0 + j) _ _ (by simp [curS_length k at' n F hFn]) X5.out hFn HC.out HCC.out
    have gC : W.drew.grownBy Wc (some (S + 2)) := by rw [← HWc.out]; exact grown_cells (S + 2) _ F W.drew
    have gD : Wc.grownBy Wd (some (T + 1)) := by rw [← HWd.out]; exact grown_sets Wc (T + 1) 0 _
    have bT : Boxed W.drew T 31 (.slice (some ⟨S + 2, 0, none⟩) n n) := X1.out
    have bF : Boxed W.drew (T + 1) 3 (.int .i64 (F : Int)) := X2.out
    have bA : Boxed W.drew (T + 1 + 1) 3 (.int .i64 (ah : Int)) := X3.out
    have bN : Boxed W.drew (S + 1) 3 (.int .i64 (n : Int)) := X4.out
    have ne1 : some T ≠ some (S + 2) := by simp; omega
    have ne2 : some (T + 1) ≠ some (S + 2) := by simp; omega
    have ne3 : some (T + 1 + 1) ≠ some (S + 2) := by simp; omega
    have ne4 : some (S + 1) ≠ some (S + 2) := by simp
    have ne5 : some T ≠ some (T + 1) := by simp
    have ne6 : some (T + 1 + 1) ≠ some (T + 1) := by simp
    have ne7 : some (S + 1) ≠ some (T + 1) := by simp; omega
    have HSS : Hid ((fun V : World => V.cell? ⟨T, 0, none⟩ = some (.slice (some ⟨S + 2, 0, none⟩) n n) ∧ V.cell? ⟨T + 1 + 1, 0, none⟩ = some (.int .i64 (ah : Int))) W.drew) := ⟨X1.out.cell, X3.out.cell⟩
    have HSC : Hid ((fun V : World => V.cell? ⟨T, 0, none⟩ = some (.slice (some ⟨S + 2, 0, none⟩) n n) ∧ V.cell? ⟨T + 1 + 1, 0, none⟩ = some (.int .i64 (ah : Int))) Wc) := ⟨(bT.kept gC ne1).cell, (bA.kept gC ne3).cell⟩
    have HSD : Hid ((fun V : World => V.cell? ⟨T, 0, none⟩ = some (.slice (some ⟨S + 2, 0, none⟩) n n) ∧ V.cell? ⟨T + 1 + 1, 0, none⟩ = some (.int .i64 (ah : Int))) (Wc.setCell ⟨T + 1, 0, none⟩ (.int .i64 (G : Int)))) := by rw [HWd.out]; exact ⟨((bT.kept gC ne1).kept gD ne5).cell, ((bA.kept gC ne3).kept gD ne6).cell⟩
    have DT := hid ((bT.kept gC ne1).kept gD ne5)
    have DF : Hid (Boxed Wd (T + 1) 3 (.int .i64 (G : Int))) := by rw [← HWd.out]; exact Boxed.set _ (bF.kept gC ne2)
    have DA := hid ((bA.kept gC ne3).kept gD ne6)
    have DN := hid ((bN.kept gC ne4).kept gD ne7)
    have OD : Hid (Wd.ownsRow (S + 2) 5 1 (.slice (some ⟨S + 2, 0, none⟩) n n) n ((curS k at' n G).map (Value.int .u8))) := by
      show World.ownsRow _ _ _ _ _ _ _
      have h0 : W.drew.ownsRow (S + 2) 5 1 (.slice (some ⟨S + 2, 0, none⟩) n n) n ((curS k at' n F).map (Value.int .u8)) := X5.out
      have h1 := own_setAll (blkC k (Q0 + j) ah c) F W.drew _ h0
      rw [HST.out, HGe.out, HWc.out] at h1
      exact h1.kept gD (.inr (by simp [Value.ownBlock]; omega))
    have BD : Hid (Below S w Wd) := (X6.out.drew.grown gC (by have := X6.out.size; have : W.drew.heap.size = W.heap.size := rfl; omega) (fun k e => by cases e; omega)).grown gD (by have := gC.size; have := X6.out.size; have : W.drew.heap.size = W.heap.size := rfl; omega) (fun k e => by cases e; omega)
    have KDd : Hid (∀ i, i ≠ S + 2 → i ≠ T + 1 → i < W.heap.size → Wd.heap[i]? = W.heap[i]?) := fun i h1 h2 h3 => by
      have q1 := gC.block i h3 (by simp; exact h1)
      have q2 := gD.block i (Nat.lt_of_lt_of_le h3 gC.size) (by simp; exact h2)
      exact q2.trans q1
    have SZd : Hid (W.heap.size ≤ Wd.heap.size) := Nat.le_trans gC.size gD.size
    have c9c := (bF.kept gC ne2).cell
    have f9c := (bF.kept gC ne2).frozen
    have c9 : W.drew.cell? ⟨T + 1, 0, none⟩ = some (.int .i64 (F : Int)) := X2.out.cell
    have FIN : Hid (K1 { tmps := #[.agg (cells8 k), .int .i64 (at' : Int), .int .i64 (n : Int), .pointer (some ⟨S, 0, none⟩), undef, .pointer (some ⟨S + 1, 0, none⟩), .slice none 0 0, .int .i64 0, .pointer (some ⟨T, 0, none⟩), .pointer (some ⟨T + 1, 0, none⟩), .pointer (some ⟨T + 1 + 1, 0, none⟩), undef, .pointer (some ⟨b12, 0, none⟩), .int .i64 (n : Int), .bool false, .int .i64 (at' : Int), .int .i64 (n : Int), .bool true, .bool false, .int .i64 (n : Int), .slice (some ⟨S + 2, 0, none⟩) n n, .int .i64 (at' : Int), .int .i64 (A0 : Int), .agg (cells8 k), .int .i64 (at' : Int), .int .i64 (Q0 : Int), .int .u64 (Q0 : Int), .func (.func 28) #[] #[.pointer (some ⟨b1, 0, none⟩), .pointer (some ⟨b4, 0, none⟩)], .int .u64 ((Q0 + j : Nat) : Int), v, .int .i64 (F : Int), .slice (some ⟨S + 2, 0, none⟩) n n, .int .i64 (F : Int), .slice (some ⟨S + 2, F, none⟩) (n - F) (n - F), .int .i64 (ah : Int), .slice (some ⟨b12, ah, none⟩) (16 - ah) (16 - ah), .int .i64 (c : Int), .int .i64 (G : Int), undef, undef, undef, undef], defers := [] } (Wc.setCell ⟨T + 1, 0, none⟩ (.int .i64 (G : Int)))) := by
      refine H1.out _ _ ?_
      rw [HWd.out]
      clear c9c f9c c9 H1 HCP
      have c9 := DF.out.cell
      have c5 := DN.out.cell
      have c10 := DA.out.cell
      have f10 := DA.out.frozen
      by_cases hG : G = n
      · have hGi : (G : Int) = (n : Int) := by omega
        gi_wp2
        refine ⟨⟨SZd.out, fun i o hi ho _ => (KDd.out i (by omega) (by omega) (Array.getElem?_eq_some_iff.1 ho).1).trans ho⟩, rfl, DT.out, ?_, BD.out⟩
        have := OD.out
        rw [hG, curS_all] at this
        exact this
      · have hGi : ¬ (G : Int) = (n : Int) := by omega
        gi_wp2
        obtain ⟨We, HWe⟩ : ∃ We, Hid (Wd.setCell ⟨T + 1 + 1, 0, none⟩ (.int .i64 0) = We) := ⟨_, rfl⟩
        rw [HWe.out]
        have gE : Wd.grownBy We (some (T + 1 + 1)) := by rw [← HWe.out]; exact grown_sets Wd (T + 1 + 1) 0 _
        have hej : 16 * (j + 1) - A0 = G := by
          have e1 := HF.out
          have e2 := HAh.out
          have e3 := HC.out
          have e4 := HGe.out
          split at e2 <;> omega
        have KDe : ∀ i, i ≠ S + 2 → i ≠ T + 1 → i ≠ T + 1 + 1 → i < W.heap.size → We.heap[i]? = W.heap[i]? := fun i q1 q2 q3 q4 => (gE.block i (Nat.lt_of_lt_of_le q4 SZd.out) (by simp; exact q3)).trans (KDd.out i q1 q2 q4)
        refine ⟨⟨Nat.le_trans SZd.out gE.size, fun i o hi ho _ => (KDe i (by omega) (by omega) (by omega) (Array.getElem?_eq_some_iff.1 ho).1).trans ho⟩, ⟨Nat.le_trans SZd.out gE.size, fun i hi => KDe i (by have := (HD.out i hi).1; omega) (by have := (HD.out i hi).1; omega) (by have := (HD.out i hi).1; omega) (by have := (HD.out i hi).2; omega)⟩, DT.out.kept gE (by simp; omega), ?_, ?_, DN.out.kept gE (by simp; omega), ?_, BD.out.grown gE (by have := BD.out.size; omega) (fun k e => by cases e; omega), Nat.le_trans x7 (Nat.le_trans SZd.out gE.size), .inr ?_⟩
        · rw [hej]; exact DF.out.kept gE (by simp)
        · rw [if_neg (by omega), ← HWe.out]; exact Boxed.set _ DA.out
        · rw [hej]; exact OD.out.kept gE (.inr (by simp [Value.ownBlock]; omega))
        · omega
    clear bT bF bA bN gC gD ne1 ne2 ne3 ne4 ne5 ne6 ne7
    refine wpIn_mono (wpIn_region_any hm (any_in (ro := some l) (Y := []) (yv := undef) (Q := fun e a' w' => e = .normal ∧ K1 a' w') (fun e a w q => q.1) (by kernel_rfl) _ _ _ _ (wpAny_of_held (S := (fun V : World => V.cell? ⟨T, 0, none⟩ = some (.slice (some ⟨S + 2, 0, none⟩) n n) ∧ V.cell? ⟨T + 1 + 1, 0, none⟩ = some (.int .i64 (ah : Int)))) _ _ _ _ ?_) (fun y hy => by cases hy))) (fun e a' w' q => by rw [q.1.1]; exact q.1.2)
    change wpAnyH _ _ _ _ _ _ _ _ (World.drew _)
    refine wpAnyH_take (i := 1) (v := ?_) rfl (by kernel_rfl) (by kernel_rfl) (by kernel_rfl) (fun _ _ _ h => by cases h.1) (Or.inl ⟨by rfl, ?q1⟩) HSS.out ?_
    case q1 => intro w hSw; have hs1 := hSw.1; have hs2 := hSw.2; clear hSw; go_simp; rfl
    simp only [Act.put, List.getElem_toArray, List.getElem_cons_zero, List.getElem_cons_succ, List.setIfInBounds_toArray, List.set_cons_zero, List.set_cons_succ]
    refine wpAnyH_take (i := 4) (v := ?_) rfl (by kernel_rfl) (by kernel_rfl) (by kernel_rfl) (fun _ _ _ h => by cases h.1) (Or.inl ⟨by rfl, ?q4⟩) HSS.out ?_
    case q4 => intro w hSw; have hs1 := hSw.1; have hs2 := hSw.2; clear hSw; go_simp; rfl
    simp only [Act.put, List.getElem_toArray, List.getElem_cons_zero, List.getElem_cons_succ, List.setIfInBounds_toArray, List.set_cons_zero, List.set_cons_succ]
    refine wpAnyH_take (i := 5) (v := ?_) rfl (by kernel_rfl) (by kernel_rfl) (by kernel_rfl) (fun _ _ _ h => by cases h.1) (Or.inl ⟨by rfl, ?q5⟩) HSS.out ?_
    case q5 => intro w hSw; have hs1 := hSw.1; have hs2 := hSw.2; clear hSw; have hsb := run_slice_blk b12 ah hah w; go_simp; rfl
    simp only [Act.put, List.getElem_toArray, List.getElem_cons_zero, List.getElem_cons_succ, List.setIfInBounds_toArray, List.set_cons_zero, List.set_cons_succ]
    refine wpAnyH_ready (rs := [0, 2]) (by kernel_rfl) (by simp) ?_
    refine AllReadyH.cons rfl (fun K hK => ?_) (AllReadyH.cons rfl (fun K hK => ?_) AllReadyH.nil)
    · go_simp
      refine hK.out _ _ HSS.out (fun _ => ?_)
      clear hK K
      refine wpAnyH_ready (rs := [2]) (by kernel_rfl) (by simp) ?_
      refine AllReadyH.cons rfl (fun K hK => ?_) AllReadyH.nil
      go_simp
      refine hK.out _ _ HSS.out (fun _ => ?_)
      clear hK K
      refine wpAnyH_take (i := 3) (v := .slice (some ⟨S + 2, F, none⟩) (n - F) (n - F)) rfl (by kernel_rfl) (by kernel_rfl) (by kernel_rfl) (fun _ _ _ h => by cases h.1) (Or.inl ⟨by rfl, ?qa3⟩) HSS.out ?_
      case qa3 => intro w hSw; have hs1 := hSw.1; have hs2 := hSw.2; clear hSw; have hso := run_slice_out w (S + 2) n F hFn hF0; go_simp
      simp only [Act.put, List.getElem_toArray, List.getElem_cons_zero, List.getElem_cons_succ, List.setIfInBounds_toArray, List.set_cons_zero, List.set_cons_succ]
      refine wpAnyH_ready (rs := [6]) (by kernel_rfl) (by simp) ?_
      refine AllReadyH.cons rfl (fun K hK => ?_) AllReadyH.nil
      rw [if_pos (show Region.wanted _ _ = true from rfl)]
      refine wp_cp (x := .tmp 33) (y := .tmp 35) rfl rfl rfl HCP.out ?_
      refine hK.out _ _ HSC.out (fun _ => ?_)
      clear hK K
      simp only [Act.put, List.getElem_toArray, List.getElem_cons_zero, List.getElem_cons_succ, List.setIfInBounds_toArray, List.set_cons_zero, List.set_cons_succ]
      refine wpAnyH_take (i := 7) (v := .int .i64 (G : Int)) rfl (by kernel_rfl) (by kernel_rfl) (by kernel_rfl) (fun _ _ _ h => by cases h.1) (Or.inl ⟨by rfl, ?qa7⟩) HSC.out ?_
      case qa7 => intro w hSw; have hs1 := hSw.1; have hs2 := hSw.2; clear hSw; go_simp; rw [IntKind.wrap_i64]; omega
      simp only [Act.put, List.getElem_toArray, List.getElem_cons_zero, List.getElem_cons_succ, List.setIfInBounds_toArray, List.set_cons_zero, List.set_cons_succ]
      refine wpAnyH_ready (rs := [8]) (by kernel_rfl) (by simp) ?_
      refine AllReadyH.cons rfl (fun K hK => ?_) AllReadyH.nil
      go_simp
      refine hK.out _ _ HSD.out (fun _ => ?_)
      clear hK K
      refine wpAnyH_done (by kernel_rfl) ⟨rfl, ?_⟩ _
      exact FIN.out
    · go_simp
      refine hK.out _ _ HSS.out (fun _ => ?_)
      clear hK K
      refine wpAnyH_take (i := 3) (v := .slice (some ⟨S + 2, F, none⟩) (n - F) (n - F)) rfl (by kernel_rfl) (by kernel_rfl) (by kernel_rfl) (fun _ _ _ h => by cases h.1) (Or.inl ⟨by rfl, ?qb3⟩) HSS.out ?_
      case qb3 => intro w hSw; have hs1 := hSw.1; have hs2 := hSw.2; clear hSw; have hso := run_slice_out w (S + 2) n F hFn hF0; go_simp
      simp only [Act.put, List.getElem_toArray, List.getElem_cons_zero, List.getElem_cons_succ, List.setIfInBounds_toArray, List.set_cons_zero, List.set_cons_succ]
      refine wpAnyH_ready (rs := [0, 6]) (by kernel_rfl) (by simp) ?_
      refine AllReadyH.cons rfl (fun K hK => ?_) (AllReadyH.cons rfl (fun K hK => ?_) AllReadyH.nil)
      · go_simp
        refine hK.out _ _ HSS.out (fun _ => ?_)
        clear hK K
        refine wpAnyH_ready (rs := [6]) (by kernel_rfl) (by simp) ?_
        refine AllReadyH.cons rfl (fun K hK => ?_) AllReadyH.nil
        rw [if_pos (show Region.wanted _ _ = true from rfl)]
        refine wp_cp (x := .tmp 33) (y := .tmp 35) rfl rfl rfl HCP.out ?_
        refine hK.out _ _ HSC.out (fun _ => ?_)
        clear hK K
        simp only [Act.put, List.getElem_toArray, List.getElem_cons_zero, List.getElem_cons_succ, List.setIfInBounds_toArray, List.set_cons_zero, List.set_cons_succ]
        refine wpAnyH_take (i := 7) (v := .int .i64 (G : Int)) rfl (by kernel_rfl) (by kernel_rfl) (by kernel_rfl) (fun _ _ _ h => by cases h.1) (Or.inl ⟨by rfl, ?qb7⟩) HSC.out ?_
        case qb7 => intro w hSw; have hs1 := hSw.1; have hs2 := hSw.2; clear hSw; go_simp; rw [IntKind.wrap_i64]; omega
        simp only [Act.put, List.getElem_toArray, List.getElem_cons_zero, List.getElem_cons_succ, List.setIfInBounds_toArray, List.set_cons_zero, List.set_cons_succ]
        refine wpAnyH_ready (rs := [8]) (by kernel_rfl) (by simp) ?_
        refine AllReadyH.cons rfl (fun K hK => ?_) AllReadyH.nil
        go_simp
        refine hK.out _ _ HSD.out (fun _ => ?_)
        clear hK K
        refine wpAnyH_done (by kernel_rfl) ⟨rfl, ?_⟩ _
        exact FIN.out
      · rw [if_pos (show Region.wanted _ _ = true from rfl)]
        refine wp_cp (x := .tmp 33) (y := .tmp 35) rfl rfl rfl HCP.out ?_
        refine hK.out _ _ HSC.out (fun _ => ?_)
        clear hK K
        simp only [Act.put, List.getElem_toArray, List.getElem_cons_zero, List.getElem_cons_succ, List.setIfInBounds_toArray, List.set_cons_zero, List.set_cons_succ]
        refine wpAnyH_ready (rs := [0]) (by kernel_rfl) (by simp) ?_
        refine AllReadyH.cons rfl (fun K hK => ?_) AllReadyH.nil
        go_simp
        refine hK.out _ _ HSC.out (fun _ => ?_)
        clear hK K
        refine wpAnyH_take (i := 7) (v := .int .i64 (G : Int)) rfl (by kernel_rfl) (by kernel_rfl) (by kernel_rfl) (fun _ _ _ h => by cases h.1) (Or.inl ⟨by rfl, ?qc7⟩) HSC.out ?_
        case qc7 => intro w hSw; have hs1 := hSw.1; have hs2 := hSw.2; clear hSw; go_simp; rw [IntKind.wrap_i64]; omega
        simp only [Act.put, List.getElem_toArray, List.getElem_cons_zero, List.getElem_cons_succ, List.setIfInBounds_toArray, List.set_cons_zero, List.set_cons_succ]
        refine wpAnyH_ready (rs := [8]) (by kernel_rfl) (by simp) ?_
        refine AllReadyH.cons rfl (fun K hK => ?_) AllReadyH.nil
        go_simp
        refine hK.out _ _ HSD.out (fun _ => ?_)
        clear hK K
        refine wpAnyH_done (by kernel_rfl) ⟨rfl, ?_⟩ _
        exact FIN.out
end Go.Proofs.Ytmpdmkckjajhiaa
namespace Go.Proofs.Ytmpdmkckjajhiaa
open Go.RowKit
set_option maxHeartbeats 1000000 in
theorem clone_any (w : World) (v : Value) (l : List Int) (h : HB w v l) (hbig : l.length ≤ 140737488355328) :
    Calls Try.prog 32 #[v] w fun e w' => ∃ v', e = .returned v' ∧ w'.ownsRow w.heap.size 5 1 v' l.length (l.map (Value.int .u8)) ∧ Below w.heap.size w w' := by
  obtain ⟨i0, hi, hz0, hz1, hz2⟩ := info_parts info_u8
  have q22 := eql_nil_bytes
  obtain ⟨⟨p, c, rfl, hlc, hm, _, hcell⟩, hby⟩ := h
  cases p with
  | none =>
    have e : l = [] := by
      apply Classical.byContradiction
      intro hne
      obtain ⟨b, off, e, _⟩ := hcell hne
      cases e
    subst e
    go_enter Try.func32, Try.ntmps32
    go_wp2
    go_ret
    exact ⟨_, rfl, World.ownsRow_nil _ _ _ _, Below.refl _ _⟩
  | some a =>
    have A : Hid (l ≠ [] → ∃ b off, some a = some ⟨b, off, none⟩ ∧ ∀ j, j < l.length → w.cell? ⟨b, off + j, none⟩ = some (.int .u8 (l.getD j 0))) := hcell
    clear hcell
    go_enter Try.func32, Try.ntmps32
    go_wp2_with (at_builtin; refine wpList_append_own _ rfl _ _ 31 rfl w.heap.size 5 i0 (.int .u8 0) 1 1 Try.underlying31 hi hz0 hz1 hz2 rfl (by decide) _ _ _ rfl (World.ownsRow_made w #[] 0 (Nat.le_refl _) (Nat.zero_le _) rfl) a l.length c (l.map (Value.int .u8)) rfl ?qc1 ?qc2 ?qc3 ?qc4 ?qc5 ?qc6 ?_)
    case qc1 => simp
    case qc2 =>
      intro j u hj
      have hjn : j < l.length := by
        have := (List.getElem?_eq_some_iff.1 hj).1
        simpa using this
      refine Lib.cell?_alloc_some _ ?_
      obtain ⟨b, off, e, hh⟩ := A.out (by intro e; subst e; simp at hjn)
      cases e
      rw [Go.WideShapes.add_plain, hh j hjn]
      have e : (l.map (Value.int .u8))[j]? = some (Value.int .u8 (l.getD j 0)) := by simp [List.getD, List.getElem?_eq_getElem hjn]
      rw [e] at hj
      exact hj
    case qc3 => intro u hu; obtain ⟨x, _, rfl⟩ := List.mem_map.1 hu; rfl
    case qc4 => unfold maxLen; omega
    case qc5 => omega
    case qc6 => simp
    intro v' w1 hown hgrow hnil
    go_wp2
    go_ret
    exact ⟨v', rfl, by simpa using hown, ((Below.refl _ w).alloc (Nat.le_refl _) _).grown hgrow (by simp) (by intro k hk; simp [Value.ownBlock] at hk; omega)⟩
theorem grown_set (w : World) (g o : Nat) (u : Value) : w.grownBy (w.setCell ⟨g, o, none⟩ u) (some g) :=
  ⟨rfl, rfl, rfl, by simp, fun k _ hk => heap_setCell_other w ⟨g, o, none⟩ k u (fun e => hk (by simp [e]))⟩
theorem grown_trans {a b c : World} {r : Option Nat} (h : a.grownBy b r) (k : b.grownBy c r) : a.grownBy c r :=
  ⟨k.os.trans h.os, k.tape.trans h.tape, k.output.trans h.output, Nat.le_trans h.size k.size, fun i hi hr => (k.block i (Nat.lt_of_lt_of_le hi h.size) hr).trans (h.block i hi hr)⟩
theorem grown_below {a b : World} {r : Option Nat} (h : Below a.heap.size a b) : a.grownBy b r :=
  ⟨h.os, h.tape, h.output, h.size, fun i hi _ => h.block i hi⟩
theorem HB.sliced {w : World} {p : Option Addr} {c : Nat} {l : List Int} (h : HB w (.slice p l.length c) l) (lo hi m : Nat) (h1 : lo ≤ hi) (h2 : hi ≤ l.length) (h3 : hi ≤ m) (h4 : m ≤ c) : HB w (.slice (if m = lo then p else p.map (·.add lo)) (hi - lo) (m - lo)) ((l.take hi).drop lo) := by
  obtain ⟨⟨p', c', e, hc, hm, hpc, hcell⟩, hby⟩ := h
  simp only [Value.slice.injEq, true_and] at e
  obtain ⟨rfl, rfl⟩ := e
  have hlen : ((l.take hi).drop lo).length = hi - lo := by simp; omega
  refine ⟨⟨_, m - lo, by rw [hlen], by omega, by omega, fun e => ?_, fun hne => ?_⟩, fun x hx => hby x (List.mem_of_mem_take (List.mem_of_mem_drop hx))⟩
  · have : p = none := by
      split at e
      · exact e
      · cases p <;> simp_all
    have := hpc this
    omega
  have hlt : lo < hi := by
    apply Classical.byContradiction
    intro hn
    exact hne (List.length_eq_zero_iff.1 (by omega))
  obtain ⟨b, off, rfl, hk⟩ := hcell (by intro e; subst e; simp at h2; omega)
  rw [if_neg (by omega)]
  refine ⟨b, off + lo, by simp [Go.WideShapes.add_plain], fun j hj => ?_⟩
  rw [hlen] at hj
  have := hk (lo + j) (by omega)
  rw [show off + lo + j = off + (lo + j) by omega, this]
  have e1 : ((l.take hi).drop lo).getD j 0 = l.getD (lo + j) 0 := by
    simp only [List.getD, List.getElem?_drop, List.getElem?_take]
    rw [if_pos (by omega)]
  rw [e1]
theorem HB.pre {w : World} {p : Option Addr} {c : Nat} {l : List Int} (h : HB w (.slice p l.length c) l) (n : Nat) (hn : n ≤ l.length) : HB w (.slice p n n) (l.take n) := by
  obtain ⟨p', c', e, hc, _⟩ := h.open
  simp only [Value.slice.injEq, true_and] at e
  obtain ⟨rfl, rfl⟩ := e
  have := h.sliced 0 n n (Nat.zero_le _) hn (Nat.le_refl _) (by omega)
  have e : (if n = 0 then p else p.map (·.add 0)) = p := by
    split
    · rfl
    · cases p <;> simp [Addr.add]
  simpa [e] using this
theorem HB.suf {w : World} {p : Option Addr} {c : Nat} {l : List Int} (h : HB w (.slice p l.length c) l) (n : Nat) (hn : n ≤ l.length) : HB w (.slice (if c = n then p else p.map (·.add n)) (l.length - n) (c - n)) (l.drop n) := by
  obtain ⟨p', c', e, hc, _⟩ := h.open
  simp only [Value.slice.injEq, true_and] at e
  obtain ⟨rfl, rfl⟩ := e
  have := h.sliced n l.length c hn (Nat.le_refl _) hc (Nat.le_refl _)
  rwa [List.take_of_length_le (Nat.le_refl _)] at this
theorem HB.slice_form {w : World} {v : Value} {l : List Int} (h : HB w v l) : ∃ p c, v = .slice p l.length c := by
  obtain ⟨p, c, e, _⟩ := h.open
  exact ⟨p, c, e⟩
end Go.Proofs.Ytmpdmkckjajhiaa
namespace Go.Proofs.Ytmpdmkckjajhiaa
open Go.RowKit Go.Shelf
attribute [local go_sem] Oper.semAt_some
def chN (len size : Nat) : Nat := (len + size - 1) / size
def chAt (size k : Nat) : Nat := k * size
def chPiece (l : List Int) (size k : Nat) : List Int := (l.take (chAt size k + min size (l.length - chAt size k))).drop (chAt size k)
theorem chN_iff {len size k : Nat} (hs : 1 ≤ size) : k < chN len size ↔ chAt size k < len := by
  unfold chN chAt
  rw [Nat.lt_div_iff_mul_lt (by omega)]
  omega
theorem chPiece_length (l : List Int) (size k : Nat) : (chPiece l size k).length = min size (l.length - chAt size k) := by
  unfold chPiece
  simp
  omega
structure ChBox (w : World) (hv : Value) (b5 b3 : Nat) (l : List Int) (size : Nat) : Prop where
  row : HB w hv l
  held : w.cell? ⟨b5, 0, none⟩ = some hv
  sz : w.cell? ⟨b3, 0, none⟩ = some (.int .i64 size)
def chD (hv : Value) (b5 b3 : Nat) (i : Nat) : Prop := i = b5 ∨ i = b3 ∨ hv.ownBlock = some i
theorem cell_of_block {A C : World} {a : Addr} (h : C.heap[a.block]? = A.heap[a.block]?) : C.cell? a = A.cell? a := by simp [World.cell?, h]
theorem ChBox.kept {A C : World} {hv : Value} {b5 b3 size : Nat} {l : List Int} (h : ChBox A hv b5 b3 l size) (k : KD (chD hv b5 b3) A C) : ChBox C hv b5 b3 l size := by
  refine ⟨?_, (cell_of_block (k.2 b5 (.inl rfl))).trans h.held, (cell_of_block (k.2 b3 (.inr (.inl rfl)))).trans h.sz⟩
  obtain ⟨⟨p, c, rfl, h2, h3, h6, h4⟩, h5⟩ := h.row
  refine ⟨⟨p, c, rfl, h2, h3, h6, fun hl => ?_⟩, h5⟩
  obtain ⟨b, off, rfl, hh⟩ := h4 hl
  exact ⟨b, off, rfl, fun j hj => (cell_of_block (a := ⟨b, off + j, none⟩) (k.2 b (.inr (.inr rfl)))).trans (hh j hj)⟩
set_option maxRecDepth 100000 in
set_option maxHeartbeats 1000000 in
theorem chunks_any (w : World) (v : Value) (l : List Int) (size : Nat) (h : HB w v l) (hbig : l.length ≤ 140737488355328) (hs : 1 ≤ size) :
    Calls Try.prog 24 #[v, .int .i64 size] w fun e w' => ∃ hv b5 b3, e = .returned (.func (.func 33) #[] #[.pointer (some ⟨b5, 0, none⟩), .pointer (some ⟨b3, 0, none⟩)]) ∧ ChBox w' hv b5 b3 l size ∧
      (∀ i, chD hv b5 b3 i → w.heap.size ≤ i ∧ i < w'.heap.size) ∧ Below w.heap.size w w' := by
  have H := hid h
  clear h
  have hs' : ¬ ((size : Int) < 1) := by omega
  go_enter Try.func24, Try.ntmps24
  go_wp2_with fail
  obtain ⟨W0, hW0⟩ : ∃ W0, Hid (w.alloc (.cells #[.int .i64 size] 3) = W0) := ⟨_, rfl⟩
  rw [hW0.out]
  have HB0 : Hid (Below w.heap.size w W0) := by rw [← hW0.out]; exact (Below.refl _ w).alloc (Nat.le_refl _) _
  have HC0 : Hid (W0.heap[w.heap.size]? = some (.cells #[.int .i64 size] 3 (0, 0))) := by rw [← hW0.out]; exact heap_alloc_new w _
  have hS0 : W0.heap.size = w.heap.size + 1 := by rw [← hW0.out]; simp
  refine (clone_any W0 v l (H.out.below HB0.out) hbig).mono ?_
  rintro e w1 ⟨v1, rfl, hown, hB⟩
  have HO := hid hown
  have HB1 := hid hB
  have HH := hid (HB.of_own hown H.out.2)
  obtain ⟨p, c, e1, _, _⟩ := HH.out.open
  clear hown hB
  subst e1
  go_wp2
  go_ret
  have hb5 := (HB1.out.block w.heap.size (by omega)).trans HC0.out
  have hsz := HB1.out.size
  have hBA : Below w1.heap.size w1 (w1.alloc (.cells #[.slice p l.length c] 31)) := (Below.refl _ w1).alloc (Nat.le_refl _) _
  refine ⟨.slice p l.length c, w1.heap.size, w.heap.size, rfl, ⟨HH.out.below hBA, ?_, ?_⟩, ?_, (HB0.out.trans (HB1.out.mono (by omega))).alloc (by omega) _⟩
  · rw [cell_of_row _ _ _ _ _ _ (heap_alloc_new w1 _)]; rfl
  · rw [cell_of_row _ _ _ _ _ _ ((hBA.block w.heap.size (by omega)).trans hb5)]; rfl
  · rintro i (rfl | rfl | hi)
    · simp; omega
    · simp; omega
    · have := HO.out.lt i hi
      simp; omega
set_option maxRecDepth 100000 in
set_option maxHeartbeats 2000000 in
theorem chunks_iter (n : Nat) (w0 : World) (hv : Value) (b5 b3 : Nat) (l : List Int) (size : Nat) (hs : 1 ≤ size) (hbig : l.length ≤ 140737488355328) (hbox : ChBox w0 hv b5 b3 l size) (hD : ∀ i, chD hv b5 b3 i → i < w0.heap.size) :
    IterF Fence.wide n Try.prog 33 #[.pointer (some ⟨b5, 0, none⟩), .pointer (some ⟨b3, 0, none⟩)] (fun k v => #[.int .i64 (chAt size k : Nat), v])
      (fun k v W => W.ownsRow w0.heap.size 5 1 v (chPiece l size k).length ((chPiece l size k).map (Value.int .u8))) (chD hv b5 b3) (chN l.length size) w0 := fun l' J Jx W hK hJ hY h0 => by
  have HBx := hid (hbox.kept hK)
  have HK := hid hK
  have HJ := hid hJ
  have HY := hid hY
  have H0 := hid h0
  have HD := hid hD
  clear hbox hK hJ hY h0 hD
  refine callsIn_of_wp Try.func33 rfl trivial ?_ rfl
  simp only [Try.ntmps33, List.size_toArray, List.length_cons, List.length_nil, Nat.reduceAdd, Nat.reduceSub, Array.replicate_succ, Array.replicate_zero, List.push_toArray, List.append_toArray, List.nil_append, List.cons_append]
  obtain ⟨p, c, rfl, hlc, hcm⟩ := HBx.out.row.open
  unfold maxLen at hcm
  gi_wp2
  gi_loopw [4] (fun i wr => ∃ k : Nat, Hid (k ≤ chN l.length size) ∧ i = .int .i64 ((min (chAt size k) l.length : Nat) : Int) ∧ Hid (J k wr) ∧ Hid (KD (chD (.slice p l.length c) b5 b3) W wr)) (fun i _ => l.length - (intOf i).toNat)
  case atStart => exact ⟨0, Nat.zero_le _, by simp [chAt], H0, KD.refl _ _⟩
  case round =>
    obtain ⟨k, hk, rfl, HJk, HKk⟩ := hrel
    have hbx := HBx.out.kept HKk.out
    have c5 := hbx.held
    have c3 := hbx.sz
    have HR := hid hbx.row
    clear hbx
    by_cases hlt : chAt size k < l.length
    · obtain ⟨A, HA⟩ : ∃ A, Hid (chAt size k = A) := ⟨_, rfl⟩
      have hmn : min (chAt size k) l.length = A := by rw [← HA.out]; omega
      rw [hmn]
      have hAl : A < l.length := by rw [← HA.out]; exact hlt
      clear hmn hlt
      obtain ⟨m, HM⟩ : ∃ m, Hid (min size (l.length - A) = m) := ⟨_, rfl⟩
      have hm1 : 1 ≤ m := by rw [← HM.out]; omega
      have hm2 : A + m ≤ l.length := by rw [← HM.out]; omega
      have hmm : min (size : Int) ((l.length : Int) - (A : Int)) = (m : Int) := by rw [← HM.out]; omega
      have hkN : k < chN l.length size := (chN_iff hs).2 (by rw [HA.out]; exact hAl)
      have HP : Hid (chPiece l size k = (l.take (A + m)).drop A) := by
        show _ = _
        unfold chPiece
        rw [HA.out, HM.out]
      have HN1 : Hid (min (chAt size (k + 1)) l.length = A + m) := by
        show _ = _
        have e : chAt size (k + 1) = A + size := by rw [← HA.out]; unfold chAt; rw [Nat.succ_mul]
        rw [e, ← HM.out]
        omega
      have HSL : Hid (HB wr (.slice (p.map (·.add A)) m (c - A)) (chPiece l size k)) := by
        have := HR.out.sliced A (A + m) c (by omega) hm2 (by omega) (Nat.le_refl _)
        rw [if_neg (by omega), Nat.add_sub_cancel_left] at this
        rw [HP.out]
        exact this
      have HPL : Hid ((chPiece l size k).length ≤ 140737488355328) := by
        show _ ≤ _
        rw [chPiece_length]
        omega
      clear hmm
      gi_wp2
      all_goals first | rw [show ((A : Int) + (size : Int)).toNat - A = m by rw [← HM.out]; omega] | rw [show ((A : Int) + ((l.length : Int) - (A : Int))).toNat - A = m by rw [← HM.out]; omega]
      all_goals refine ⟨trivial, fun h => absurd h (by simp [Fence.wide]), callsIn_wide.2 ((clone_any wr _ _ HSL.out HPL.out).mono ?_)⟩
      all_goals rintro e w1 ⟨v1, rfl, hown, hB⟩
      all_goals have hJ1 := HJ.out k wr w1 HJk.out (grown_below hB)
      all_goals obtain ⟨fn, tmps, assign, body, hy, hR⟩ := HY.out k v1 w1 hJ1 (own_mono hown (Nat.le_trans HK.out.1 HKk.out.1)) hkN
      all_goals have HRR := hid hR
      all_goals have HKD : Hid (KD (chD (.slice p l.length c) b5 b3) wr w1) := ⟨hB.size, fun i hi => hB.block i (Nat.lt_of_lt_of_le (HD.out i hi) (Nat.le_trans HK.out.1 HKk.out.1))⟩
      all_goals rw [HA.out] at hy
      all_goals clear hown hB hJ1 hR
      all_goals gi_wp2
      all_goals refine ⟨fun h => absurd h (by simp [Fence.wide]), HRR.out.mono ?_⟩
      all_goals rintro e W3 (⟨rfl, hJ3, hk3⟩ | ⟨rfl, hJx3⟩)
      · clear HRR hy
        have HF3 := hid (And.intro hk3 hJ3)
        clear hk3 hJ3
        gi_wp2
        go_roundw
        case rel => exact ⟨k + 1, hkN, by rw [HN1.out, ← HM.out]; go_num, HF3.out.2, HKk.out.trans (HKD.out.trans HF3.out.1)⟩
        case measure => simp [intOf]; omega
      · clear HRR hy
        have HF3 := hid hJx3
        clear hJx3
        gi_wp2
        refine bodyPost_ret (results_none rfl _ _ _) rfl ?_
        exact ⟨⟨_, rfl⟩, .inr HF3.out⟩
      · clear HRR hy
        have HF3 := hid (And.intro hk3 hJ3)
        clear hk3 hJ3
        gi_wp2
        go_roundw
        case rel => exact ⟨k + 1, hkN, by rw [HN1.out, ← HM.out]; go_num, HF3.out.2, HKk.out.trans (HKD.out.trans HF3.out.1)⟩
        case measure => simp [intOf]; omega
      · clear HRR hy
        have HF3 := hid hJx3
        clear hJx3
        gi_wp2
        refine bodyPost_ret (results_none rfl _ _ _) rfl ?_
        exact ⟨⟨_, rfl⟩, .inr HF3.out⟩
    · have hmn : min (chAt size k) l.length = l.length := by omega
      rw [hmn]
      have HKE : Hid (k = chN l.length size) := by
        show _ = _
        have h1 : ¬ k < chN l.length size := fun h => hlt ((chN_iff hs).1 h)
        have := hk.out
        omega
      clear hmn hlt
      gi_wp2
      go_end0
      rw [← HKE.out]
      exact ⟨⟨_, rfl⟩, .inl HJk.out⟩
attribute [local go_sem] Oper.semAt_some
def xorB (x y : Int) : Int := bits .xor .u8 x y
def xorL (la lb : List Int) : List Int := List.zipWith xorB la lb
def curX (la lb : List Int) (j : Nat) : List Int := (xorL la lb).take j ++ List.replicate (la.length - j) 0
theorem xorB_byt {x y : Int} (hx : 0 ≤ x ∧ x < 256) (hy : 0 ≤ y ∧ y < 256) : 0 ≤ xorB x y ∧ xorB x y < 256 := by
  unfold xorB
  rw [u8_xor x y hx.1 hx.2 hy.1 hy.2]
  have : x.toNat ^^^ y.toNat < 2 ^ 8 := Nat.xor_lt_two_pow (by omega) (by omega)
  omega
theorem xorL_length {la lb : List Int} (h : la.length = lb.length) : (xorL la lb).length = la.length := by simp [xorL]; omega
theorem xorL_getD {la lb : List Int} (h : la.length = lb.length) {j : Nat} (hj : j < la.length) : (xorL la lb).getD j 0 = xorB (la.getD j 0) (lb.getD j 0) := by
  rw [getD_of_lt (by rw [xorL_length h]; exact hj), getD_of_lt hj, getD_of_lt (by omega)]
  simp [xorL]
theorem xorL_byt {la lb : List Int} (ha : ∀ x ∈ la, 0 ≤ x ∧ x < 256) (hb : ∀ x ∈ lb, 0 ≤ x ∧ x < 256) : ∀ x ∈ xorL la lb, 0 ≤ x ∧ x < 256 := by
  intro x hx
  obtain ⟨i, hi, rfl⟩ := List.getElem_of_mem hx
  simp only [xorL, List.getElem_zipWith]
  exact xorB_byt (ha _ (List.getElem_mem _)) (hb _ (List.getElem_mem _))
theorem curX_length {la lb : List Int} (h : la.length = lb.length) {j : Nat} (hj : j ≤ la.length) : (curX la lb j).length = la.length := by
  simp [curX, xorL_length h]; omega
theorem curX_step {la lb : List Int} (h : la.length = lb.length) {j : Nat} (hj : j < la.length) : (curX la lb j).set j (xorB (la.getD j 0) (lb.getD j 0)) = curX la lb (j + 1) := by
  unfold curX
  have hl := xorL_length h
  have ht : ((xorL la lb).take j).length = j := by rw [List.length_take]; omega
  rw [List.set_append_right _ _ (by omega), ht, Nat.sub_self, show la.length - j = (la.length - (j + 1)) + 1 by omega, List.replicate_succ, List.set_cons_zero, List.take_succ_eq_append_getElem (by omega), ← getD_of_lt (by omega), xorL_getD h hj, List.append_assoc]
  rfl
set_option maxRecDepth 100000 in
set_option maxHeartbeats 2000000 in
theorem xor_same (w : World) (va vb : Value) (la lb : List Int) (ha : HB w va la) (hb : HB w vb lb) (hlen : la.length = lb.length) (hbig : la.length ≤ 140737488351232) :
    Calls Try.prog 21 #[va, vb] w fun e w' => ∃ v', e = .returned (.tuple #[v', .int .i64 0]) ∧ w'.ownsRow w.heap.size 5 1 v' la.length ((xorL la lb).map (Value.int .u8)) ∧ Below w.heap.size w w' := by
  obtain ⟨i0, hi, hz0, hz1, hz2⟩ := info_parts info_u8
  have HA := hid ha
  have HBb := hid hb
  obtain ⟨pa, ca, rfl, _, _⟩ := ha.open
  obtain ⟨pb, cb, rfl, hcb, hcbm⟩ := hb.open
  unfold maxLen at hcbm
  clear ha hb
  have HLn := hid hlen
  obtain ⟨W0, hW0⟩ : ∃ W0, Hid (w.alloc (.cells #[.slice pb lb.length cb] 31) = W0) := ⟨_, rfl⟩
  have HB0 : Hid (Below w.heap.size w W0) := by rw [← hW0.out]; exact (Below.refl _ w).alloc (Nat.le_refl _) _
  have HX0 : Hid (Boxed W0 w.heap.size 31 (.slice pb lb.length cb)) := by rw [← hW0.out]; exact Boxed.new w _ _
  have hS0 : W0.heap.size = w.heap.size + 1 := by rw [← hW0.out]; simp
  obtain ⟨w1, hmk, hown, hgr⟩ := run_make_full (P := Try.prog) W0 W0.heap.size 31 5 i0 (.int .u8 0) 1 Try.underlying31 hi hz0 hz1 .i64 .i64 la.length (by rw [hz2]; omega) (by unfold maxLen; omega) (Nat.le_refl _)
  have HO1 := hid hown
  have HG1 := hid hgr
  have hc0 := HX0.out.cell
  rw [hlen] at hmk
  clear hown hgr
  refine (callsIn_wide (n := 3)).1 ?_
  refine callsIn_of_wp_marks Try.func21 rfl trivial ?_ rfl
  simp only [Try.ntmps21, List.size_toArray, List.length_cons, List.length_nil, Nat.reduceAdd, Nat.reduceSub, Array.replicate_succ, Array.replicate_zero, List.push_toArray, List.append_toArray, List.nil_append, List.cons_append]
  rw [hlen]
  have hW0' := hW0.out
  rw [hlen] at HA HO1
  gi_wp2
  clear hW0' hmk hc0
  obtain ⟨W2, hW2⟩ : ∃ W2, Hid (w1.alloc (.cells #[.slice (some ⟨w.heap.size + 1, 0, none⟩) lb.length lb.length] 31) = W2) := ⟨_, rfl⟩
  rw [hW2.out]
  rw [hS0] at HO1
  have hS1 : w.heap.size + 2 ≤ w1.heap.size := by
    have := HO1.out.lt (w.heap.size + 1) rfl
    omega
  have HB1 : Hid (Below w.heap.size w w1) := HB0.out.trans ((Below.refl _ W0).grown HG1.out (by omega) (fun k e => by cases e))
  have HB2 : Hid (Below w.heap.size w W2) := by rw [← hW2.out]; exact HB1.out.alloc (by omega) _
  have HX2 : Hid (Boxed W2 w.heap.size 31 (.slice pb lb.length cb)) := by rw [← hW2.out]; exact (HX0.out.kept HG1.out (by simp)).alloc _
  have HY2 : Hid (Boxed W2 w1.heap.size 31 (.slice (some ⟨w.heap.size + 1, 0, none⟩) lb.length lb.length)) := by rw [← hW2.out]; exact Boxed.new _ _ _
  have HO2 : Hid (W2.ownsRow (w.heap.size + 1) 5 1 (.slice (some ⟨w.heap.size + 1, 0, none⟩) lb.length lb.length) lb.length ((curX la lb 0).map (Value.int .u8))) := by
    show World.ownsRow _ _ _ _ _ _ _
    rw [← hW2.out]
    have e : (madeCells (Value.int IntKind.u8 0).cells (lb.length * 1)).toList = (curX la lb 0).map (Value.int .u8) := by
      rw [show (Value.int IntKind.u8 0).cells = #[Value.int .u8 0] from rfl, toList_madeCells_one]
      simp [curX, hlen]
    rw [← e]
    exact HO1.out.alloc _
  have hS2 : W2.heap.size = w1.heap.size + 1 := by rw [← hW2.out]; simp
  refine ⟨trivial, callsIn_wide.2 ((chunks_any W2 _ la 4096 (HA.out.below (HB2.out)) (by omega) (by decide)).mono ?_)⟩
  rintro e w3 ⟨hv, b5, b3, rfl, hbox, hD, hB3⟩
  have HBx := hid hbox
  have HD := hid hD
  have HB3 := hid hB3
  clear hbox hD hB3
  have hS3 := HB3.out.size
  gi_wp2
  refine range_fit rfl (by decide) (gf := 33) (lb := #[.pointer (some ⟨b5, 0, none⟩), .pointer (some ⟨b3, 0, none⟩)]) rfl trivial (enters_of Try.func33 (by kernel_rfl) rfl)
    (chunks_iter (3 - 1) w3 hv b5 b3 la 4096 (by decide) (by omega) HBx.out (fun i hi => (HD.out i hi).2)) (KD.refl _ _) (fun i hi => (HD.out i hi).2) (fun _ _ => rfl)
    (fun k W => Boxed W w.heap.size 31 (.slice pb lb.length cb) ∧ Boxed W w1.heap.size 31 (.slice (some ⟨w.heap.size + 1, 0, none⟩) lb.length lb.length) ∧
      W.ownsRow (w.heap.size + 1) 5 1 (.slice (some ⟨w.heap.size + 1, 0, none⟩) lb.length lb.length) lb.length ((curX la lb (min (chAt 4096 k) la.length)).map (Value.int .u8)) ∧ Below w.heap.size w W ∧ w3.heap.size ≤ W.heap.size)
    (fun _ _ => False)
    (fun s A C row hs hg hr => ⟨box_from hs.1 hg hr, box_from hs.2.1 hg hr, row_from hs.2.2.1 hg hr, below_from hs.2.2.2.1 (Nat.le_refl _) hg hr (by omega), Nat.le_trans hs.2.2.2.2 hg.size⟩)
    (fun _ _ _ _ hs _ _ => hs)
    (fun k v _ A C row hs hg hr => row_from hs hg hr)
    ⟨HX2.out.kept (grown_below (r := none) HB3.out) (by simp), HY2.out.kept (grown_below (r := none) HB3.out) (by simp), HO2.out.kept (grown_below (r := none) HB3.out) (.inr (by simp [Value.ownBlock])), HB2.out.trans (HB3.out.mono (by omega)), Nat.le_refl _⟩
    (fun k v => { tmps := #[.slice pa lb.length ca, .slice pb lb.length cb, undef, .pointer (some ⟨w.heap.size, 0, none⟩), .slice none 0 0, .int .i64 0, .pointer (some ⟨w1.heap.size, 0, none⟩), .int .i64 (chAt 4096 k : Nat), v, undef, undef, .slice pa lb.length ca, .int .i64 lb.length, .slice pb lb.length cb, .int .i64 lb.length, .bool false, .slice pa lb.length ca, .int .i64 lb.length,
      .slice (some ⟨w.heap.size + 1, 0, none⟩) lb.length lb.length, .slice pa lb.length ca, .func (.func 33) #[] #[.pointer (some ⟨b5, 0, none⟩), .pointer (some ⟨b3, 0, none⟩)], .int .i64 (chAt 4096 k : Nat), v,
      undef, undef, undef, undef, undef, undef, undef, undef, undef, undef, undef, undef, undef, undef, undef, undef, undef, undef, undef, undef, undef, undef], defers := [] }) ?assign ?body ?done ?stop
  case assign =>
    intro l k v W K hK
    gi_wp2
    exact hK
  case stop =>
    intro d c W _ h _
    exact h.elim
  case done =>
    rintro d W hd ⟨x1, x2, x3, x4, x5⟩ hK
    have c2 := x2.cell
    have HKD := hid hK
    have HN : Hid (min (chAt 4096 (chN la.length 4096)) la.length = la.length) := by
      show _ = _
      have h1 : ¬ chN la.length 4096 < chN la.length 4096 := Nat.lt_irrefl _
      rw [chN_iff (by decide)] at h1
      omega
    have HE : Hid (curX la lb la.length = xorL la lb) := by
      show _ = _
      unfold curX
      rw [List.take_of_length_le (by rw [xorL_length hlen]; exact Nat.le_refl _), Nat.sub_self]
      simp
    rw [HN.out, HE.out] at x3
    have X3 := hid x3
    have X4 := hid x4
    clear x1 x2 x3 x4 hK
    gi_wp2
    refine ⟨by simp, .inl ⟨_, _, rfl, run_takeDeferred HKD.out, ?_⟩⟩
    exact ⟨_, results_tmp2 rfl _ _ _, _, rfl, own_mono (ownsRow_putObj X3.out _ HKD.out rfl) (by omega), X4.out.trans (belowK_b (w := w) (Nat.le_refl _) W d _ _ (by omega) HKD.out rfl rfl)⟩
  case body =>
    rintro l k v W hl hrec ⟨x1, x2, x3, x4, x5⟩ hf hk
    have hAl : chAt 4096 k < la.length := (chN_iff (by decide)).1 hk
    obtain ⟨A, HAA⟩ : ∃ A, Hid (chAt 4096 k = A) := ⟨_, rfl⟩
    obtain ⟨pc, HPC⟩ : ∃ pc, Hid (chPiece la 4096 k = pc) := ⟨_, rfl⟩
    have hml : Hid (pc.length = min 4096 (la.length - A)) := by rw [← HPC.out, chPiece_length, HAA.out]; exact rfl
    obtain ⟨m, HM⟩ : ∃ m, Hid (pc.length = m) := ⟨_, rfl⟩
    rw [HAA.out] at hAl
    have hm1 : 1 ≤ m := by rw [← HM.out, hml.out]; omega
    have hm2 : A + m ≤ lb.length := by rw [← HM.out, hml.out]; omega
    rw [HPC.out, HM.out] at hf
    rw [HAA.out, Nat.min_eq_left (by omega)] at x3
    have X1 := hid x1
    have X2 := hid x2
    have X3 := hid x3
    have X4 := hid x4
    have HF := hid hf
    obtain ⟨gv, cv, hve⟩ : ∃ gv cv, v = .slice (some ⟨gv, 0, none⟩) m cv := by
      obtain ⟨m', rfl⟩ : ∃ m', m = m' + 1 := ⟨m - 1, by omega⟩
      exact ownsRow_succ hf
    subst hve
    clear x1 x2 x3 x4 hf hrec hl hk
    rw [HAA.out]
    gi_wp2
    gi_loopw [25] (fun i wr => ∃ I : Nat, I ≤ m ∧ i = .int .i64 I ∧ Hid (wr.ownsRow (w.heap.size + 1) 5 1 (.slice (some ⟨w.heap.size + 1, 0, none⟩) lb.length lb.length) lb.length ((curX la lb (A + I)).map (Value.int .u8))) ∧ Hid (W.grownBy wr (some (w.heap.size + 1)))) (fun i _ => m - (intOf i).toNat)
    case atStart => exact ⟨0, Nat.zero_le _, rfl, X3, ⟨rfl, rfl, rfl, Nat.le_refl _, fun _ _ _ => rfl⟩⟩
    case round =>
      obtain ⟨I, hI, rfl, HO, HG⟩ := hrel
      have b1 := (X1.out.kept HG.out (by simp)).cell
      have b2 := (X2.out.kept HG.out (by simp; omega)).cell
      by_cases hlt : I < m
      · have hgv := (HF.out.lt gv rfl).1
        have hfr := (HF.out.kept HG.out (.inr (by simp [Value.ownBlock]; omega))).cellAt I (by omega)
        obtain ⟨x, HX⟩ : ∃ x, Hid (la.getD (A + I) 0 = x) := ⟨_, rfl⟩
        obtain ⟨y, HY⟩ : ∃ y, Hid (lb.getD (A + I) 0 = y) := ⟨_, rfl⟩
        have hpx : (pc.map (Value.int .u8))[I]? = some (.int .u8 x) := by
          rw [List.getElem?_map, List.getElem?_eq_getElem (by rw [HM.out]; exact hlt), ← getD_of_lt (by rw [HM.out]; exact hlt), ← HX.out, ← HPC.out]
          unfold chPiece
          rw [HAA.out]
          simp only [List.getD, List.getElem?_drop, List.getElem?_take, Option.map_some]
          rw [if_pos]
          have := hml.out
          rw [HM.out] at this
          omega
        rw [hpx] at hfr
        have hBw : Below w.heap.size w wr := X4.out.trans ((Below.refl _ W).grown HG.out X4.out.size (fun k e => by cases e; omega))
        obtain ⟨bb, ob, cb', eb, _, _, hcl⟩ := (HBb.out.below hBw).ne (by omega)
        simp only [Value.slice.injEq, true_and] at eb
        obtain ⟨rfl, rfl⟩ := eb
        have hby := hcl (A + I) (by omega)
        rw [HY.out] at hby
        have hoc := HO.out.cellAt (A + I) (by omega)
        have hof := HO.out.frozenAt (A + I)
        have hol : (curX la lb (A + I)).length = la.length := curX_length hlen (by omega)
        obtain ⟨z, hz⟩ : ∃ z, ((curX la lb (A + I)).map (Value.int .u8))[A + I]? = some z := ⟨_, List.getElem?_eq_getElem (by simp; omega)⟩
        rw [hz] at hoc
        have hxb := hid (HA.out.byte (A + I))
        have HBW := hid hBw
        have HN := hid hol
        clear hpx hcl hz hBw hgv hol
        have hmx : Try.prog.follows .mixedOrders = true := by kernel_rfl
        obtain ⟨AI, hAI⟩ : ∃ AI, A + I = AI := ⟨_, rfl⟩
        have hwr : IntKind.i64.wrap ((A : Int) + (I : Int)) = (AI : Int) := by rw [IntKind.wrap_i64]; omega
        have hAI2 : AI < lb.length := by omega
        have hAI3 : (AI : Int) < (lb.length : Int) := by omega
        rw [hAI] at hby hoc hof
        have FIN : Hid ((wr.drew.setCell ⟨w.heap.size + 1, AI, none⟩ (.int .u8 (bits .xor .u8 x y))).ownsRow (w.heap.size + 1) 5 1 (.slice (some ⟨w.heap.size + 1, 0, none⟩) lb.length lb.length) lb.length ((curX la lb (A + (I + 1))).map (Value.int .u8)) ∧
            W.grownBy (wr.drew.setCell ⟨w.heap.size + 1, AI, none⟩ (.int .u8 (bits .xor .u8 x y))) (some (w.heap.size + 1))) := by
          have h1 : wr.drew.ownsRow (w.heap.size + 1) 5 1 (.slice (some ⟨w.heap.size + 1, 0, none⟩) lb.length lb.length) lb.length ((curX la lb (A + I)).map (Value.int .u8)) := HO.out
          have h2 := (h1.stored AI (.int .u8 (bits .xor .u8 x y))).1
          have e : ((curX la lb (A + I)).map (Value.int .u8)).set AI (.int .u8 (bits .xor .u8 x y)) = (curX la lb (A + (I + 1))).map (Value.int .u8) := by
            rw [← Nat.add_assoc, ← curX_step hlen (show A + I < la.length by omega), List.map_set, HX.out, HY.out, hAI]
            rfl
          rw [e] at h2
          have h3 : W.grownBy wr.drew (some (w.heap.size + 1)) := ⟨HG.out.os, HG.out.tape, HG.out.output, HG.out.size, HG.out.block⟩
          exact ⟨h2, grown_trans h3 (grown_set _ _ _ _)⟩
        gi_wp2
        refine wpIn_region_any hmx (any_round rfl (by kernel_rfl) _ _ _ _ ?_)
        change wpAnyIn _ _ _ _ _ _ _ _ _ (World.drew _)
        refine wpAnyIn_take (i := 1) (v := ?_) rfl rfl (by kernel_rfl) (by kernel_rfl) (by kernel_rfl) (fun _ _ _ h => h) ⟨Or.inl ⟨by rfl, ?q1⟩, fun _ => rfl⟩ ?_
        case q1 => intro w; go_simp; rfl
        refine wpAnyIn_take (i := 2) (v := ?_) rfl rfl (by kernel_rfl) (by kernel_rfl) (by kernel_rfl) (fun _ _ _ h => h) ⟨Or.inl ⟨by rfl, ?q2⟩, fun _ => rfl⟩ ?_
        case q2 => intro w; go_simp; rfl
        refine wpAnyIn_take (i := 3) (v := ?_) rfl rfl (by kernel_rfl) (by kernel_rfl) (by kernel_rfl) (fun _ _ _ h => h) ⟨Or.inl ⟨by rfl, ?q3⟩, fun _ => rfl⟩ ?_
        case q3 => intro w; go_simp; rfl
        refine wpAnyIn_take (i := 4) (v := ?_) rfl rfl (by kernel_rfl) (by kernel_rfl) (by kernel_rfl) (fun _ _ _ h => h) ⟨Or.inl ⟨by rfl, ?q4⟩, fun _ => rfl⟩ ?_
        case q4 => intro w; go_simp; rfl
        refine wpAnyIn_take (i := 6) (v := ?_) rfl rfl (by kernel_rfl) (by kernel_rfl) (by kernel_rfl) (fun _ _ _ h => h) ⟨Or.inl ⟨by rfl, ?q6⟩, fun _ => rfl⟩ ?_
        case q6 => intro w; go_simp; rfl
        refine wpAnyIn_take (i := 7) (v := ?_) rfl rfl (by kernel_rfl) (by kernel_rfl) (by kernel_rfl) (fun _ _ _ h => h) ⟨Or.inl ⟨by rfl, ?q7⟩, fun _ => rfl⟩ ?_
        case q7 => intro w; go_simp; rfl
        refine wpAnyIn_take (i := 8) (v := ?_) rfl rfl (by kernel_rfl) (by kernel_rfl) (by kernel_rfl) (fun _ _ _ h => h) ⟨Or.inl ⟨by rfl, ?q8⟩, fun _ => rfl⟩ ?_
        case q8 => intro w; go_simp; rfl
        refine wpAnyIn_ready (rs := [0, 5]) (by kernel_rfl) (by simp) ?_
        refine AllReadyIn.cons rfl (fun K hK => ?_) (AllReadyIn.cons rfl (fun K hK => ?_) AllReadyIn.nil)
        · go_simp
          refine hK _ _ ?_
          clear hK K
          refine wpAnyIn_ready (rs := [5]) (by kernel_rfl) (by simp) ?_
          refine AllReadyIn.cons rfl (fun K hK => ?_) AllReadyIn.nil
          go_simp
          refine hK _ _ ?_
          clear hK K
          refine wpAnyIn_ready (rs := [9]) (by kernel_rfl) (by simp) ?_
          refine AllReadyIn.cons rfl (fun K hK => ?_) AllReadyIn.nil
          go_simp
          refine hK _ _ ?_
          clear hK K
          refine wpAnyIn_ready (rs := [10]) (by kernel_rfl) (by simp) ?_
          refine AllReadyIn.cons rfl (fun K hK => ?_) AllReadyIn.nil
          go_simp
          refine hK _ _ ?_
          clear hK K
          refine wpAnyIn_ready (rs := [11]) (by kernel_rfl) (by simp) ?_
          refine AllReadyIn.cons rfl (fun K hK => ?_) AllReadyIn.nil
          go_simp
          refine hK _ _ ?_
          clear hK K
          refine wpAnyIn_ready (rs := [12]) (by kernel_rfl) (by simp) ?_
          refine AllReadyIn.cons rfl (fun K hK => ?_) AllReadyIn.nil
          go_simp
          refine hK _ _ ?_
          clear hK K
          refine wpAnyIn_ready (rs := [13]) (by kernel_rfl) (by simp) ?_
          refine AllReadyIn.cons rfl (fun K hK => ?_) AllReadyIn.nil
          go_simp
          refine hK _ _ ?_
          clear hK K
          refine wpAnyIn_done (by kernel_rfl) ?_ _
          clear hoc hof hby hfr
          gi_wp2
          go_roundw
          case rel => exact ⟨I + 1, by omega, by go_num, FIN.out.1, FIN.out.2⟩
          case measure => simp [intOf]; omega
        · go_simp
          refine hK _ _ ?_
          clear hK K
          refine wpAnyIn_ready (rs := [0, 9]) (by kernel_rfl) (by simp) ?_
          refine AllReadyIn.cons rfl (fun K hK => ?_) (AllReadyIn.cons rfl (fun K hK => ?_) AllReadyIn.nil)
          · go_simp
            refine hK _ _ ?_
            clear hK K
            refine wpAnyIn_ready (rs := [9]) (by kernel_rfl) (by simp) ?_
            refine AllReadyIn.cons rfl (fun K hK => ?_) AllReadyIn.nil
            go_simp
            refine hK _ _ ?_
            clear hK K
            refine wpAnyIn_ready (rs := [10]) (by kernel_rfl) (by simp) ?_
            refine AllReadyIn.cons rfl (fun K hK => ?_) AllReadyIn.nil
            go_simp
            refine hK _ _ ?_
            clear hK K
            refine wpAnyIn_ready (rs := [11]) (by kernel_rfl) (by simp) ?_
            refine AllReadyIn.cons rfl (fun K hK => ?_) AllReadyIn.nil
            go_simp
            refine hK _ _ ?_
            clear hK K
            refine wpAnyIn_ready (rs := [12]) (by kernel_rfl) (by simp) ?_
            refine AllReadyIn.cons rfl (fun K hK => ?_) AllReadyIn.nil
            go_simp
            refine hK _ _ ?_
            clear hK K
            refine wpAnyIn_ready (rs := [13]) (by kernel_rfl) (by simp) ?_
            refine AllReadyIn.cons rfl (fun K hK => ?_) AllReadyIn.nil
            go_simp
            refine hK _ _ ?_
            clear hK K
            refine wpAnyIn_done (by kernel_rfl) ?_ _
            clear hoc hof hby hfr
            gi_wp2
            go_roundw
            case rel => exact ⟨I + 1, by omega, by go_num, FIN.out.1, FIN.out.2⟩
            case measure => simp [intOf]; omega
          · go_simp
            refine hK _ _ ?_
            clear hK K
            refine wpAnyIn_ready (rs := [0, 10]) (by kernel_rfl) (by simp) ?_
            refine AllReadyIn.cons rfl (fun K hK => ?_) (AllReadyIn.cons rfl (fun K hK => ?_) AllReadyIn.nil)
            · go_simp
              refine hK _ _ ?_
              clear hK K
              refine wpAnyIn_ready (rs := [10]) (by kernel_rfl) (by simp) ?_
              refine AllReadyIn.cons rfl (fun K hK => ?_) AllReadyIn.nil
              go_simp
              refine hK _ _ ?_
              clear hK K
              refine wpAnyIn_ready (rs := [11]) (by kernel_rfl) (by simp) ?_
              refine AllReadyIn.cons rfl (fun K hK => ?_) AllReadyIn.nil
              go_simp
              refine hK _ _ ?_
              clear hK K
              refine wpAnyIn_ready (rs := [12]) (by kernel_rfl) (by simp) ?_
              refine AllReadyIn.cons rfl (fun K hK => ?_) AllReadyIn.nil
              go_simp
              refine hK _ _ ?_
              clear hK K
              refine wpAnyIn_ready (rs := [13]) (by kernel_rfl) (by simp) ?_
              refine AllReadyIn.cons rfl (fun K hK => ?_) AllReadyIn.nil
              go_simp
              refine hK _ _ ?_
              clear hK K
              refine wpAnyIn_done (by kernel_rfl) ?_ _
              clear hoc hof hby hfr
              gi_wp2
              go_roundw
              case rel => exact ⟨I + 1, by omega, by go_num, FIN.out.1, FIN.out.2⟩
              case measure => simp [intOf]; omega
            · go_simp
              refine hK _ _ ?_
              clear hK K
              refine wpAnyIn_ready (rs := [0, 11]) (by kernel_rfl) (by simp) ?_
              refine AllReadyIn.cons rfl (fun K hK => ?_) (AllReadyIn.cons rfl (fun K hK => ?_) AllReadyIn.nil)
              · go_simp
                refine hK _ _ ?_
                clear hK K
                refine wpAnyIn_ready (rs := [11]) (by kernel_rfl) (by simp) ?_
                refine AllReadyIn.cons rfl (fun K hK => ?_) AllReadyIn.nil
                go_simp
                refine hK _ _ ?_
                clear hK K
                refine wpAnyIn_ready (rs := [12]) (by kernel_rfl) (by simp) ?_
                refine AllReadyIn.cons rfl (fun K hK => ?_) AllReadyIn.nil
                go_simp
                refine hK _ _ ?_
                clear hK K
                refine wpAnyIn_ready (rs := [13]) (by kernel_rfl) (by simp) ?_
                refine AllReadyIn.cons rfl (fun K hK => ?_) AllReadyIn.nil
                go_simp
                refine hK _ _ ?_
                clear hK K
                refine wpAnyIn_done (by kernel_rfl) ?_ _
                clear hoc hof hby hfr
                gi_wp2
                go_roundw
                case rel => exact ⟨I + 1, by omega, by go_num, FIN.out.1, FIN.out.2⟩
                case measure => simp [intOf]; omega
              · go_simp
                refine hK _ _ ?_
                clear hK K
                refine wpAnyIn_ready (rs := [0]) (by kernel_rfl) (by simp) ?_
                refine AllReadyIn.cons rfl (fun K hK => ?_) AllReadyIn.nil
                go_simp
                refine hK _ _ ?_
                clear hK K
                refine wpAnyIn_ready (rs := [12]) (by kernel_rfl) (by simp) ?_
                refine AllReadyIn.cons rfl (fun K hK => ?_) AllReadyIn.nil
                go_simp
                refine hK _ _ ?_
                clear hK K
                refine wpAnyIn_ready (rs := [13]) (by kernel_rfl) (by simp) ?_
                refine AllReadyIn.cons rfl (fun K hK => ?_) AllReadyIn.nil
                go_simp
                refine hK _ _ ?_
                clear hK K
                refine wpAnyIn_done (by kernel_rfl) ?_ _
                clear hoc hof hby hfr
                gi_wp2
                go_roundw
                case rel => exact ⟨I + 1, by omega, by go_num, FIN.out.1, FIN.out.2⟩
                case measure => simp [intOf]; omega
      · have hIm : I = m := by omega
        subst hIm
        have HN : Hid (A + I = min (chAt 4096 (k + 1)) la.length) := by
          show _ = _
          have e : chAt 4096 (k + 1) = A + 4096 := by rw [← HAA.out]; unfold chAt; rw [Nat.succ_mul]
          have := hml.out
          rw [HM.out] at this
          rw [e]
          omega
        rw [HN.out] at HO
        clear b1 b2
        gi_wp2
        refine ⟨KeepsFrom.of_grownBy HG.out (fun j e => by cases e; omega), ⟨HG.out.size, fun i hi => HG.out.block i (by have := (HD.out i hi).2; omega) (by have := (HD.out i hi).1; simp; omega)⟩, X1.out.kept HG.out (by simp), X2.out.kept HG.out (by simp; omega), HO.out, ?_, Nat.le_trans x5 HG.out.size⟩
        exact X4.out.grown HG.out X4.out.size (fun k e => by cases e; omega)
set_option maxRecDepth 100000 in
set_option maxHeartbeats 1000000 in
theorem xor_unlike (w : World) (va vb : Value) (la lb : List Int) (ha : HB w va la) (hb : HB w vb lb) (hlen : la.length ≠ lb.length) :
    Calls Try.prog 21 #[va, vb] w fun e w' => e = .returned (.tuple #[.slice none 0 0, .int .i64 12]) ∧ Below w.heap.size w w' := by
  obtain ⟨pa, ca, rfl, _, _⟩ := ha.open
  obtain ⟨pb, cb, rfl, hcb, hcbm⟩ := hb.open
  clear ha hb
  have hne : ¬ ((la.length : Int) = (lb.length : Int)) := by omega
  go_enter Try.func21, Try.ntmps21
  go_wp2
  go_ret2
  exact ⟨rfl, (Below.refl _ w).alloc (Nat.le_refl _) _⟩
def xorA (la lb : List Int) : List Int := if la.length = lb.length then xorL la lb else []
def xorErr (la lb : List Int) : Int := if la.length = lb.length then 0 else 12
theorem xor_any (w : World) (va vb : Value) (la lb : List Int) (ha : HB w va la) (hb : HB w vb lb) (hbig : la.length ≤ 140737488351232) :
    Calls Try.prog 21 #[va, vb] w fun e w' => ∃ v', e = .returned (.tuple #[v', .int .i64 (xorErr la lb)]) ∧ w'.ownsRow w.heap.size 5 1 v' (xorA la lb).length ((xorA la lb).map (Value.int .u8)) ∧ Below w.heap.size w w' := by
  by_cases h : la.length = lb.length
  · refine (xor_same w va vb la lb ha hb h hbig).mono ?_
    rintro e w' ⟨v', rfl, h1, h2⟩
    unfold xorErr xorA
    rw [if_pos h, if_pos h, xorL_length h]
    exact ⟨v', rfl, h1, h2⟩
  · refine (xor_unlike w va vb la lb ha hb h).mono ?_
    rintro e w' ⟨rfl, h2⟩
    unfold xorErr xorA
    rw [if_neg h, if_neg h]
    exact ⟨_, rfl, World.ownsRow_nil _ _ _ _, h2⟩
theorem xorA_byt {la lb : List Int} (ha : ∀ x ∈ la, 0 ≤ x ∧ x < 256) (hb : ∀ x ∈ lb, 0 ≤ x ∧ x < 256) : ∀ x ∈ xorA la lb, 0 ≤ x ∧ x < 256 := by
  unfold xorA
  split
  · exact xorL_byt ha hb
  · simp
theorem xorA_length (la lb : List Int) : (xorA la lb).length ≤ la.length := by
  unfold xorA
  split
  · rename_i h; rw [xorL_length h]; exact Nat.le_refl _
  · simp
end Go.Proofs.Ytmpdmkckjajhiaa
namespace Go.Proofs.Ytmpdmkckjajhiaa
open Go Go.RowKit Ev
def KeyIn (w : World) (b : Nat) (k : List Nat) : Prop := w.heap[b]? = some (.cells (cells8 k) 23)
theorem KeyIn.below {w w' : World} {b : Nat} {k : List Nat} (h : KeyIn w b k) (hb : Below w.heap.size w w') : KeyIn w' b k := (hb.block b (Array.getElem?_eq_some_iff.1 h).1).trans h
def keyBlk : Blk := ⟨true, true, 0, vars 0 16⟩
theorem keyBlk_plain : keyBlk.cells.all SV.plain = true := by decide +kernel
theorem holds_key {w : World} {b : Nat} {k : List Nat} (h : KeyIn w b k) (hl : k.length = 16) : Holds (envC (at8 k) 0) [b] [keyBlk] w.heap.size w := by
  have hlt := (Array.getElem?_eq_some_iff.1 h).1
  refine ⟨rfl, fun g hg => absurd hg (Nat.not_lt_zero _), ?_, ?_, ?_, Nat.le_refl _, ?_, ?_, ?_⟩
  · intro i j b' kk k' hi hj _ _ _ _
    rw [(one_get hi).1, (one_get hj).1]
  · intro i b' kk hi hk hr
    rw [(one_get hk).2] at hr; cases hr
  · intro i b' kk hi hk _
    rw [(one_get hi).2]; exact hlt
  · intro i kk hk _
    rw [(one_get hk).2]; exact keyBlk_plain
  · intro i b' kk hi hk j s hs
    rw [(one_get hi).2]
    rw [(one_get hk).2] at hs ⊢
    have hj : j < 16 := by
      have := (List.getElem?_eq_some_iff.1 hs).1
      simpa [keyBlk, vars] using this
    have : s = .int .u8 (.var j) := by
      rw [show keyBlk.cells = vars 0 16 from rfl, vars_get 16 j hj] at hs
      exact (Option.some.inj hs).symm
    subst this
    refine ⟨_, rfl, ?_, fun hr => by cases hr⟩
    simp only [Ex.den, envC]
    rw [if_neg (by omega)]
    unfold KeyIn at h
    simp [World.cell?, h, cells8, at8, List.getD, hl, hj]
  · intro i b' c k0 kk hi hc
    obtain ⟨rfl, rfl⟩ := one_get hi
    simp at hc
theorem ldk_ev : evLoad Try.prog (tmL 1 [(0, .tv (.sc (.ptr 0 0)))]) [keyBlk] 23 (.tmp 0) = some (V 0 16) := by kernel_rfl
theorem run_ldk {w : World} {b : Nat} {k : List Nat} (h : KeyIn w b k) (hl : k.length = 16) : (Instr.loadAt 23 (.pointer (some ⟨b, 0, none⟩))).run Try.prog w = .ok (.agg (cells8 k)) w := by
  have hT : RelT (envC (at8 k) 0) [b] (tmL 1 [(0, .tv (.sc (.ptr 0 0)))]) (({ tmps := #[.pointer (some ⟨b, 0, none⟩)], defers := [] } : Act)).tmps := RelT.ofL (n := 1) rfl (by decide) (fun g hg => absurd hg (Nat.not_lt_zero _)) _ fun p hp => by
    simp only [List.mem_cons, List.not_mem_nil, or_false] at hp
    subst hp
    exact ⟨_, rfl, rfl⟩
  obtain ⟨u, e1, e2⟩ := evLoad_ok hT (fun n _ _ => ((holds_key h hl).sees n).at _ _) ldk_ev
  rw [VC _ _ 0 16 (by decide), at8_vars hl (fun i hi => by rw [Nat.zero_add])] at e1
  rw [← Option.some.inj e1] at e2
  exact e2
theorem wpList_ldk {ops : Array Oper} {rest : List Oper} {o : Oper} {a : Act} {w : World} {Q : Exit → Act → World → Prop} {x : Operand} {b : Nat} {k : List Nat} (h : Hid (KeyIn w b k)) (hl : k.length = 16) (hg : o.guard = none) (ho : o.op = .load 23 x)
    (hx : a.eval x = .pointer (some ⟨b, 0, none⟩)) (hK : wpList Try.prog ops Q rest (a.put o.dst (.agg (cells8 k))) w) : wpList Try.prog ops Q (o :: rest) a w := by
  refine wpList_plain hg fun K hk => ?_
  have hr := run_ldk h.out hl
  have e : (execOp a.eval o).run Try.prog w = .ok (.value (.agg (cells8 k))) w := by
    simp only [execOp, ho, hx, Sem.run_bind, hr, Result.andThen_ok, Sem.run_pure]
  unfold Oper.wp
  rw [e]
  exact hk _ _ hK
def okPl (p : Int) (n : Nat) : Prop := 0 ≤ p ∧ p + n ≤ 4611686018427387904
set_option maxHeartbeats 1000000 in
theorem within_bad (w : World) (p : Int) (n : Nat) (hp : -9223372036854775808 ≤ p ∧ p ≤ 9223372036854775807) (hn : n ≤ 140737488351232) (hb : ¬ okPl p n) : Calls Try.prog 15 #[.int .i64 p, .int .i64 (n : Int)] w fun e w' => e = .returned (.bool false) ∧ w' = w := by
  unfold okPl at hb
  by_cases h1 : 0 ≤ p
  · have h2 : ¬ (p ≤ 4611686018427387904 - (n : Int)) := by omega
    go_enter Try.func15, Try.ntmps15
    go_wp2
    go_ret
    exact ⟨rfl, rfl⟩
  · go_enter Try.func15, Try.ntmps15
    go_wp2
    go_ret
    exact ⟨rfl, rfl⟩
set_option maxRecDepth 100000 in
set_option maxHeartbeats 2000000 in
theorem stream_bad (w : World) (k : List Nat) (p : Int) (n : Nat) (hp : -9223372036854775808 ≤ p ∧ p ≤ 9223372036854775807) (hn : n ≤ 140737488351232) (hb : ¬ okPl p n) :
    Calls Try.prog 20 #[.agg (cells8 k), .int .i64 p, .int .i64 (n : Int)] w fun e w' => e = .returned (.tuple #[.slice none 0 0, .int .i64 40]) ∧ Below w.heap.size w w' := by
  have hn0 : ¬ ((n : Int) < 0) := by omega
  obtain ⟨m, hm⟩ : ∃ m, Value.agg (cells8 k) = m := ⟨_, rfl⟩
  rw [hm]
  unfold okPl at hb
  by_cases h1 : 0 ≤ p
  · have h2 : ¬ (p ≤ 4611686018427387904 - (n : Int)) := by omega
    go_enter Try.func20, Try.ntmps20
    go_wp2
    all_goals go_ret2
    all_goals exact ⟨rfl, ((Below.refl _ w).alloc (Nat.le_refl _) _).alloc (by simp) _⟩
  · go_enter Try.func20, Try.ntmps20
    go_wp2
    all_goals go_ret2
    all_goals exact ⟨rfl, ((Below.refl _ w).alloc (Nat.le_refl _) _).alloc (by simp) _⟩
theorem ksB_lt {k : List Nat} (hl : k.length = 16) (hk : Byt k) (p : Nat) : 0 ≤ ksB k p ∧ ksB k p < 256 := by
  unfold ksB
  have := byt_at (ksL_ok hl hk (p / 16)).2 (p % 16)
  omega
theorem strL_byt {k : List Nat} (hl : k.length = 16) (hk : Byt k) (at' n : Nat) : ∀ x ∈ strL k at' n, 0 ≤ x ∧ x < 256 := by
  intro x hx
  simp only [strL, List.mem_map] at hx
  obtain ⟨i, _, rfl⟩ := hx
  exact ksB_lt hl hk _
set_option maxRecDepth 100000 in
set_option maxHeartbeats 2000000 in
theorem apply_ok (w : World) (k : List Nat) (at' : Nat) (v : Value) (l : List Int) (hk : Byt k) (hl : k.length = 16) (hv : HB w v l) (hpl : at' + l.length ≤ 4611686018427387904) (hn : l.length ≤ 140737488351232) :
    Calls Try.prog 17 #[.agg (cells8 k), .int .i64 (at' : Int), v] w fun e w' => ∃ v', e = .returned (.tuple #[v', .int .i64 0]) ∧ w'.ownsRow w.heap.size 5 1 v' l.length ((xorL l (strL k at' l.length)).map (Value.int .u8)) ∧ Below w.heap.size w w' := by
  obtain ⟨z0, z1, z2, z3, z4, z5, z6, z7, z8, z9, z10, z11, z12, z13, z14, z15, hz⟩ := list16 hl
  have hcz : cells8 k = #[.int .u8 (z0 : Int), .int .u8 (z1 : Int), .int .u8 (z2 : Int), .int .u8 (z3 : Int), .int .u8 (z4 : Int), .int .u8 (z5 : Int), .int .u8 (z6 : Int), .int .u8 (z7 : Int), .int .u8 (z8 : Int), .int .u8 (z9 : Int), .int .u8 (z10 : Int), .int .u8 (z11 : Int), .int .u8 (z12 : Int), .int .u8 (z13 : Int), .int .u8 (z14 : Int), .int .u8 (z15 : Int)] := by rw [hz]; rfl
  have HCZ := hid hcz
  rw [hcz]
  clear hz hcz
  have HV := hid hv
  obtain ⟨pa, ca, rfl, hca, hcm⟩ := hv.open
  clear hv
  refine Calls.mono (calls_of_wp Try.func17 rfl (R := fun e w' => ∃ v', e = .returned (.tuple #[v', .int .i64 0]) ∧ w'.ownsRow w.heap.size 5 1 v' l.length ((xorL l (strL k at' l.length)).map (Value.int .u8)) ∧ Below w.heap.size w w') ?_) (fun e w' h => h)
  simp only [Try.ntmps17, List.size_toArray, List.length_cons, List.length_nil, Nat.reduceAdd, Nat.reduceSub, Array.replicate_succ, Array.replicate_zero, List.push_toArray, List.append_toArray, List.nil_append, List.cons_append]
  refine wp_seq_k fun K1 h1 => ?_
  have H1 := hid h1
  clear h1
  go_wp2
  refine H1.out _ _ ?_
  clear H1 K1
  rw [← HCZ.out]
  clear HCZ
  obtain ⟨w0, hw0⟩ : ∃ w0, Hid (w.alloc (.cells (cells8 k) 23) = w0) := ⟨_, rfl⟩
  rw [hw0.out]
  have B0 : Hid (Below w.heap.size w w0) := by rw [← hw0.out]; exact (Below.refl _ w).alloc (Nat.le_refl _) _
  have K0 : Hid (KeyIn w0 w.heap.size k) := by rw [← hw0.out]; exact World.alloc_heap_new w _
  have CS := hid (stream_any w0 k at' l.length hk hl hpl hn)
  go_wp2_with (refine wpList_ldk K0 hl rfl rfl rfl ?_)
  refine CS.out.mono ?_
  rintro e w1 ⟨v1, rfl, ho1, hB1⟩
  have O1 := hid ho1
  have B1 := hid (B0.out.trans (hB1.mono B0.out.size))
  clear ho1 hB1 CS
  have V1 := hid (HV.out.below B1.out)
  have S1 : Hid (HB w1 v1 (strL k at' l.length)) := HB.of_own (l := strL k at' l.length) (by rw [strL_length]; exact O1.out) (strL_byt hl hk at' l.length)
  have CX := hid (xor_same w1 _ v1 l (strL k at' l.length) V1.out S1.out (by rw [strL_length]) hn)
  go_wp2_with fail
  refine CX.out.mono ?_
  rintro e w2 ⟨v2, rfl, ho2, hB2⟩
  have O2 := hid ho2
  have B2 := hid (B1.out.trans (hB2.mono B1.out.size))
  clear ho2 hB2 CX
  go_wp2
  go_ret2
  exact ⟨_, rfl, own_mono O2.out B1.out.size, B2.out⟩
set_option maxRecDepth 100000 in
set_option maxHeartbeats 2000000 in
theorem apply_bad (w : World) (k : List Nat) (p : Int) (v : Value) (l : List Int) (hl : k.length = 16) (hv : HB w v l) (hp : -9223372036854775808 ≤ p ∧ p ≤ 9223372036854775807) (hn : l.length ≤ 140737488351232) (hb : ¬ okPl p l.length) :
    Calls Try.prog 17 #[.agg (cells8 k), .int .i64 p, v] w fun e w' => e = .returned (.tuple #[.slice none 0 0, .int .i64 40]) ∧ Below w.heap.size w w' := by
  obtain ⟨z0, z1, z2, z3, z4, z5, z6, z7, z8, z9, z10, z11, z12, z13, z14, z15, hz⟩ := list16 hl
  have hcz : cells8 k = #[.int .u8 (z0 : Int), .int .u8 (z1 : Int), .int .u8 (z2 : Int), .int .u8 (z3 : Int), .int .u8 (z4 : Int), .int .u8 (z5 : Int), .int .u8 (z6 : Int), .int .u8 (z7 : Int), .int .u8 (z8 : Int), .int .u8 (z9 : Int), .int .u8 (z10 : Int), .int .u8 (z11 : Int), .int .u8 (z12 : Int), .int .u8 (z13 : Int), .int .u8 (z14 : Int), .int .u8 (z15 : Int)] := by rw [hz]; rfl
  have HCZ := hid hcz
  rw [hcz]
  clear hz hcz
  obtain ⟨pa, ca, rfl, hca, hcm⟩ := hv.open
  clear hv
  refine Calls.mono (calls_of_wp Try.func17 rfl (R := fun e w' => e = .returned (.tuple #[.slice none 0 0, .int .i64 40]) ∧ Below w.heap.size w w') ?_) (fun e w' h => h)
  simp only [Try.ntmps17, List.size_toArray, List.length_cons, List.length_nil, Nat.reduceAdd, Nat.reduceSub, Array.replicate_succ, Array.replicate_zero, List.push_toArray, List.append_toArray, List.nil_append, List.cons_append]
  refine wp_seq_k fun K1 h1 => ?_
  have H1 := hid h1
  clear h1
  go_wp2
  refine H1.out _ _ ?_
  clear H1 K1
  rw [← HCZ.out]
  clear HCZ
  obtain ⟨w0, hw0⟩ : ∃ w0, Hid (w.alloc (.cells (cells8 k) 23) = w0) := ⟨_, rfl⟩
  rw [hw0.out]
  have B0 : Hid (Below w.heap.size w w0) := by rw [← hw0.out]; exact (Below.refl _ w).alloc (Nat.le_refl _) _
  have K0 : Hid (KeyIn w0 w.heap.size k) := by rw [← hw0.out]; exact World.alloc_heap_new w _
  have CS := hid (stream_bad w0 k p l.length hp hn hb)
  clear hp hb
  go_wp2_with (refine wpList_ldk K0 hl rfl rfl rfl ?_)
  refine CS.out.mono ?_
  rintro e w1 ⟨rfl, hB1⟩
  have B1 := hid (B0.out.trans (hB1.mono B0.out.size))
  clear hB1 CS
  go_wp2
  go_ret2
  exact ⟨rfl, B1.out⟩
end Go.Proofs.Ytmpdmkckjajhiaa
