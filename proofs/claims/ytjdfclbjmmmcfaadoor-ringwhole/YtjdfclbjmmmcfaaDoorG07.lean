/- Of the road to ringWholeCard_holds: RgRound, Range, RgIter, RangeNone, RgKnW, Less, RefShaTurn, RefShaWords, RefShaConst, RefShaMix, RefShaPad, ShaPiecesLaw, ShaMixesLaw. -/
import Derived.Test.YtjdfclbjmmmcfaaDoorG06
import Derived.Deep.MidRow
import Derived.RangeFuncNested
import Derived.RangeFuncBound
import Derived.RangeFuncCalls
import Derived.RangeFuncBox
import Derived.RangeFuncLeaves
import Derived.Shelf.Abstract
import Derived.Shelf.RegionOpen
import Derived.WalkKit
import Derived.OwnWalkIn
import Derived.TacticsInMore
import Derived.LoopNIn
import Derived.LoopIn
import Derived.Test.YtjdfclbjmmmcfaaDoorG00
import Derived.Test.YtjdfclbjmmmcfaaDoorChecked
import Derived.Lib.Bytealg
import Derived.Test.YtjdfclbjmmmcfaaDoorG05
set_option linter.unusedVariables false
set_option linter.unusedSimpArgs false
namespace Go.Proofs.YtjdfclbjmmmcfaaDoor
open Go Go.RowKit
set_option maxRecDepth 100000 in
set_option maxHeartbeats 2000000 in
theorem round_bad (w : World) (x : List Int) (n f : Int) (hx : X16 x) (h : n < 1 ∨ 32 < n) :
    Calls Tryd.prog 15 #[.agg (cellsB x), .int .i64 n, .int .i64 f] w fun e w' => e = .returned (.func (.func 24) #[] #[]) ∧ Below w.heap.size w w' := by
  have HIx := hid (size_ix hx)
  obtain ⟨cl, HCL⟩ : ∃ c, Hid (cellsB x = c) := ⟨_, rfl⟩
  rw [HCL.out] at HIx
  rw [HCL.out]
  obtain ⟨W1, HW1⟩ : ∃ W1, Hid ((w.alloc (.cells cl 23)).alloc (.cells #[.int .i64 n] 3) = W1) := ⟨_, rfl⟩
  have HB1 : Hid (Below w.heap.size w W1) := by rw [← HW1.out]; exact ((Below.refl _ w).alloc (Nat.le_refl _) _).alloc (by simp) _
  have HC1 : Hid (W1.heap[w.heap.size]? = some (.cells cl 23 (0, 0))) := by rw [← HW1.out]; refine hid ?_; rw [heap_alloc_old _ _ (by simp)]; exact heap_alloc_new w _
  have hN1 : W1.cell? ⟨w.heap.size + 1, 0, none⟩ = some (.int .i64 n) := by
    rw [← HW1.out]
    have := heap_alloc_new (w.alloc (.cells cl 23)) (.cells #[.int .i64 n] 3)
    rw [show (w.alloc (.cells cl 23)).heap.size = w.heap.size + 1 by simp] at this
    exact (cell_of_row _ _ _ _ _ _ this).trans rfl
  have e1 : (w.alloc (.cells cl 23)).heap.size = w.heap.size + 1 := by simp
  have C1 := hid (order_bad W1 x n hx h)
  rw [HCL.out] at C1
  clear h hx
  go_enter Tryd.func15, Tryd.ntmps15
  go_wp2_with (first | (refine wpList_load_row rfl 23 _ rfl w.heap.size rfl 23 cl (0, 0) _ (by rw [HW1.out]; exact HC1.out) Tryd.underlying23 rfl HIx.out ?_; rw [HW1.out]))
  refine C1.out.mono ?_
  rintro e W3 ⟨rfl, hB3⟩
  have BL3 : Hid (Below w.heap.size w (W3.alloc (.cells #[.slice none 0 0] 24))) := (HB1.out.trans (hB3.mono HB1.out.size)).alloc (Nat.le_trans HB1.out.size hB3.size) _
  clear hB3 C1
  go_wp2
  go_ret
  exact ⟨rfl, BL3.out⟩
theorem first_mod (f : Int) (n : Nat) (h : 1 ≤ n) : Int.tmod (Int.tmod f n + n) n = f % (n : Int) := by
  have hn : (0 : Int) < n := by omega
  have h1 : Int.tmod f n = if 0 ≤ f ∨ (n : Int) ∣ f then f % n else f % n - n := by
    rw [Int.tmod_eq_emod]
    split
    · simp
    · simp
  have h2 := Int.emod_nonneg f (show (n : Int) ≠ 0 by omega)
  have h3 := Int.emod_lt_of_pos f hn
  rw [h1]
  split
  · rw [Int.tmod_eq_emod_of_nonneg (by omega), Int.add_emod_right, Int.emod_emod_of_dvd _ (Int.dvd_refl _)]
  · rw [show f % (n : Int) - n + n = f % n by omega, Int.tmod_eq_emod_of_nonneg (by omega), Int.emod_emod_of_dvd _ (Int.dvd_refl _)]
structure HRd (w : World) (a b c g n f : Nat) (l : List Nat) : Prop where
  ha : w.heap[a]? = some (.cells #[.int .i64 (n : Int)] 3 (0, 0))
  hb : w.heap[b]? = some (.cells #[.int .i64 (f : Int)] 3 (0, 0))
  hc : w.heap[c]? = some (.cells #[.slice (some ⟨g, 0, none⟩) n n] 24 (0, 0))
  hg : OI w g l
set_option maxRecDepth 100000 in
set_option maxHeartbeats 2000000 in
theorem round_ok (w : World) (x : List Int) (n : Nat) (f : Int) (hx : X16 x) (h1 : 1 ≤ n) (h2 : n ≤ 32) (hf : -9223372036854775808 ≤ f ∧ f < 9223372036854775808) (hk : KC w) :
    Calls Tryd.prog 15 #[.agg (cellsB x), .int .i64 (n : Int), .int .i64 f] w fun e w' => ∃ a b c g l, e = .returned (.func (.func 25) #[] #[.pointer (some ⟨a, 0, none⟩), .pointer (some ⟨b, 0, none⟩), .pointer (some ⟨c, 0, none⟩)]) ∧ (w.heap.size ≤ a ∧ w.heap.size ≤ b ∧ w.heap.size ≤ c ∧ w.heap.size ≤ g) ∧ IsO (rgL x) n l ∧ HRd w' a b c g n (f % (n : Int)).toNat l ∧ Below w.heap.size w w' := by
  have HIx := hid (size_ix hx)
  obtain ⟨cl, HCL⟩ : ∃ c, Hid (cellsB x = c) := ⟨_, rfl⟩
  rw [HCL.out] at HIx
  obtain ⟨W1, HW1⟩ : ∃ W1, Hid ((w.alloc (.cells cl 23)).alloc (.cells #[.int .i64 (n : Int)] 3) = W1) := ⟨_, rfl⟩
  have HB1 : Hid (Below w.heap.size w W1) := by rw [← HW1.out]; exact ((Below.refl _ w).alloc (Nat.le_refl _) _).alloc (by simp) _
  have HC1 : Hid (W1.heap[w.heap.size]? = some (.cells cl 23 (0, 0))) := by rw [← HW1.out]; refine hid ?_; rw [heap_alloc_old _ _ (by simp)]; exact heap_alloc_new w _
  have HN1 : Hid (W1.heap[w.heap.size + 1]? = some (.cells #[.int .i64 (n : Int)] 3 (0, 0))) := by
    rw [← HW1.out]
    have := heap_alloc_new (w.alloc (.cells cl 23)) (.cells #[.int .i64 (n : Int)] 3)
    rw [show (w.alloc (.cells cl 23)).heap.size = w.heap.size + 1 by simp] at this
    exact this
  have hN1 : W1.cell? ⟨w.heap.size + 1, 0, none⟩ = some (.int .i64 (n : Int)) := (cell_of_row _ _ _ _ _ _ HN1.out).trans rfl
  have e1 : (w.alloc (.cells cl 23)).heap.size = w.heap.size + 1 := by simp
  have hS1 : w.heap.size + 2 ≤ W1.heap.size := by rw [← HW1.out]; simp
  have C1 := hid (order_ok W1 x n hx h1 h2 (hk.below HB1.out))
  rw [HCL.out] at C1
  rw [HCL.out]
  clear hx hk
  go_enter Tryd.func15, Tryd.ntmps15
  go_wp2_with (first | (refine wpList_load_row rfl 23 _ rfl w.heap.size rfl 23 cl (0, 0) _ (by rw [HW1.out]; exact HC1.out) Tryd.underlying23 rfl HIx.out ?_; rw [HW1.out]))
  refine C1.out.mono ?_
  rintro e W3 ⟨g, l, rfl, hg, hO, hI, hB3⟩
  have BL3 : Hid (Below w.heap.size w W3) := HB1.out.trans (hB3.mono HB1.out.size)
  have HO := hid hO
  have HI := hid hI
  have hs3 := hB3.size
  have HN3 : Hid (W3.heap[w.heap.size + 1]? = some (.cells #[.int .i64 (n : Int)] 3 (0, 0))) := (hB3.block _ (by omega)).trans HN1.out
  have hN3 : W3.cell? ⟨w.heap.size + 1, 0, none⟩ = some (.int .i64 (n : Int)) := (cell_of_row _ _ _ _ _ _ HN3.out).trans rfl
  have hgl := hI.lt
  clear hN1 hO hI hB3 C1
  have hm := first_mod f n h1
  have hn0 : ¬ ((n : Int) = 0) := by omega
  have hb1 := Int.emod_nonneg f (show (n : Int) ≠ 0 by omega)
  have hb2 := Int.emod_lt_of_pos f (show (0 : Int) < n by omega)
  go_wp2
  -- DRAWN
  obtain ⟨W4, HW4⟩ : ∃ W4, Hid (W3.alloc (.cells #[.slice (some ⟨g, 0, none⟩) n n] 24) = W4) := ⟨_, rfl⟩
  rw [HW4.out]
  have HB4 : Hid (Below W3.heap.size W3 W4) := by rw [← HW4.out]; exact (Below.refl _ W3).alloc (Nat.le_refl _) _
  have HC4 : Hid (W4.heap[W3.heap.size]? = some (.cells #[.slice (some ⟨g, 0, none⟩) n n] 24 (0, 0))) := by rw [← HW4.out]; exact heap_alloc_new W3 _
  have hN4 : Hid (W4.cell? ⟨w.heap.size + 1, 0, none⟩ = some (.int .i64 (n : Int))) := hid ((HB4.out.cell (show w.heap.size + 1 < W3.heap.size by omega)).trans hN3)
  have hs4 : W4.heap.size = W3.heap.size + 1 := by rw [← HW4.out]; simp
  have HS4 := hid hs4
  clear hN3 hs4
  have hnn : ¬ (n = 0) := by omega
  have HM := hid hm
  clear hm hn0
  have ht1 : Hid (-9223372036854775808 ≤ Int.tmod f n + n ∧ Int.tmod f n + n ≤ 9223372036854775807) := hid (by
    have hn : (0 : Int) < n := by omega
    have h3 : Int.tmod f n = if 0 ≤ f ∨ (n : Int) ∣ f then f % n else f % n - n := by
      rw [Int.tmod_eq_emod]
      split <;> simp
    rw [h3]
    split <;> omega)
  refine wp_region_held_drew (S := fun W' => W'.cell? ⟨w.heap.size + 1, 0, none⟩ = some (.int .i64 (n : Int))) (by kernel_rfl) hN4.out (fun hHeld => ?_)
  have HS := hid hHeld
  clear hHeld
  change wpAnyH _ _ _ _ _ _ _ _ (World.drew _)
  refine wpAnyH_take (i := 0) (v := ?_) rfl (by kernel_rfl) (by kernel_rfl) (by kernel_rfl) (fun _ _ _ h => h) (Or.inl ⟨by rfl, ?q0⟩) HS.out ?_
  case q0 => intro w hSw; go_simp; rfl
  simp only [Act.put, List.getElem_toArray, List.getElem_cons_zero, List.getElem_cons_succ, List.setIfInBounds_toArray, List.set_cons_zero, List.set_cons_succ]
  refine wpAnyH_take (i := 1) (v := ?_) rfl (by kernel_rfl) (by kernel_rfl) (by kernel_rfl) (fun _ _ _ h => h) (Or.inl ⟨by rfl, ?q1⟩) HS.out ?_
  case q1 => intro w hSw; go_simp; rfl
  simp only [Act.put, List.getElem_toArray, List.getElem_cons_zero, List.getElem_cons_succ, List.setIfInBounds_toArray, List.set_cons_zero, List.set_cons_succ]
  refine wpAnyH_take (i := 2) (v := ?_) rfl (by kernel_rfl) (by kernel_rfl) (by kernel_rfl) (fun _ _ _ h => h) (Or.inl ⟨by rfl, ?q2⟩) HS.out ?_
  case q2 => intro w hSw; go_simp; rfl
  simp only [Act.put, List.getElem_toArray, List.getElem_cons_zero, List.getElem_cons_succ, List.setIfInBounds_toArray, List.set_cons_zero, List.set_cons_succ]
  refine wpAnyH_take (i := 3) (v := ?_) rfl (by kernel_rfl) (by kernel_rfl) (by kernel_rfl) (fun _ _ _ h => h) (Or.inl ⟨by rfl, ?q3⟩) HS.out ?_
  case q3 => intro w hSw; go_simp; rfl
  simp only [Act.put, List.getElem_toArray, List.getElem_cons_zero, List.getElem_cons_succ, List.setIfInBounds_toArray, List.set_cons_zero, List.set_cons_succ]
  refine wpAnyH_take (i := 4) (v := .int .i64 (Int.tmod f n + n)) rfl (by kernel_rfl) (by kernel_rfl) (by kernel_rfl) (fun _ _ _ h => h) (Or.inl ⟨by rfl, ?q4⟩) HS.out ?_
  case q4 => intro w hSw; go_simp; rw [IntWalk.i64_in _ ht1.out]
  simp only [Act.put, List.getElem_toArray, List.getElem_cons_zero, List.getElem_cons_succ, List.setIfInBounds_toArray, List.set_cons_zero, List.set_cons_succ]
  refine wpAnyH_take (i := 5) (v := ?_) rfl (by kernel_rfl) (by kernel_rfl) (by kernel_rfl) (fun _ _ _ h => h) (Or.inl ⟨by rfl, ?q5⟩) HS.out ?_
  case q5 => intro w hSw; go_simp; rfl
  simp only [Act.put, List.getElem_toArray, List.getElem_cons_zero, List.getElem_cons_succ, List.setIfInBounds_toArray, List.set_cons_zero, List.set_cons_succ]
  refine wpAnyH_take (i := 6) (v := .int .i64 (f % (n : Int))) rfl (by kernel_rfl) (by kernel_rfl) (by kernel_rfl) (fun _ _ _ h => h) (Or.inl ⟨by rfl, ?q6⟩) HS.out ?_
  case q6 => intro w hSw; go_simp; rw [HM.out]
  simp only [Act.put, List.getElem_toArray, List.getElem_cons_zero, List.getElem_cons_succ, List.setIfInBounds_toArray, List.set_cons_zero, List.set_cons_succ]
  refine wpAnyH_ready (rs := [7]) (by kernel_rfl) (by simp) ?_
  refine AllReadyH.cons rfl (fun K hK => ?_) AllReadyH.nil
  replace hK := hid hK
  go_simp
  obtain ⟨W5, HW5⟩ : ∃ W5, Hid ((W4.alloc (.cells #[.int .i64 0] 3)).drew = W5) := ⟨_, rfl⟩
  rw [HW5.out]
  have HB5 : Hid (Below W4.heap.size W4 W5) := by rw [← HW5.out]; exact ((Below.refl _ W4).alloc (Nat.le_refl _) _).drew
  have HC5 : Hid (W5.heap[W4.heap.size]? = some (.cells #[.int .i64 0] 3 (0, 0))) := by rw [← HW5.out]; exact heap_alloc_new W4 _
  have hc5 : W5.cell? ⟨W4.heap.size, 0, none⟩ = some (.int .i64 0) := (cell_of_row _ _ _ _ _ _ HC5.out).trans rfl
  have hf5 : W5.frozen? ⟨W4.heap.size, 0, none⟩ = false := frozen_of_row _ _ _ _ _ HC5.out
  have S5 : Hid (W5.cell? ⟨w.heap.size + 1, 0, none⟩ = some (.int .i64 (n : Int))) := hid ((HB5.out.cell (show w.heap.size + 1 < W4.heap.size by rw [HS4.out]; omega)).trans hN4.out)
  refine hK.out _ _ S5.out (fun _ => ?_)
  clear hK K
  replace HS := S5
  refine wpAnyH_ready (rs := [8]) (by kernel_rfl) (by simp) ?_
  refine AllReadyH.cons rfl (fun K hK => ?_) AllReadyH.nil
  replace hK := hid hK
  go_simp
  obtain ⟨W6, HW6⟩ : ∃ W6, Hid (W5.setCell ⟨W4.heap.size, 0, none⟩ (.int .i64 (f % (n : Int))) = W6) := ⟨_, rfl⟩
  rw [HW6.out]
  have HB6 : Hid (Below W4.heap.size W4 W6) := by rw [← HW6.out]; exact HB5.out.setCell (p := ⟨W4.heap.size, 0, none⟩) (Nat.le_refl _) _
  have HC6 : Hid (W6.heap[W4.heap.size]? = some (.cells #[.int .i64 (f % (n : Int))] 3 (0, 0))) := by rw [← HW6.out]; exact heap_setCell_same W5 _ 0 _ _ _ HC5.out
  have S6 : Hid (W6.cell? ⟨w.heap.size + 1, 0, none⟩ = some (.int .i64 (n : Int))) := hid ((HB6.out.cell (show w.heap.size + 1 < W4.heap.size by rw [HS4.out]; omega)).trans hN4.out)
  refine hK.out _ _ S6.out (fun _ => ?_)
  clear hK K
  refine wpAnyH_done (by kernel_rfl) ?_ _
  clear hc5 hf5
  go_wp2
  go_ret
  have hs4 := HS4.out
  have hs0 := BL3.out.size
  have hfm : (((f % (n : Int)).toNat : Nat) : Int) = f % (n : Int) := by omega
  refine ⟨w.heap.size + 1, W4.heap.size, W3.heap.size, g, l, rfl, ⟨by omega, by omega, by omega, by have := HB1.out.size; omega⟩, HO.out, ⟨?_, ?_, ?_, ?_⟩, ?_⟩
  · rw [HB6.out.block _ (by omega), HB4.out.block _ (by omega)]; exact HN3.out
  · rw [hfm]; exact HC6.out
  · rw [HB6.out.block _ (by omega)]; exact HC4.out
  · exact (HI.out.below HB4.out).belowB HB6.out (by omega)
  · exact (BL3.out.trans (HB4.out.mono hs0)).trans (HB6.out.mono (by omega))
end Go.Proofs.YtjdfclbjmmmcfaaDoor
namespace Go.Proofs.YtjdfclbjmmmcfaaDoor
open Go.RowKit Go.Shelf
def KD (D : Nat → Prop) (A C : World) : Prop := A.heap.size ≤ C.heap.size ∧ ∀ i, D i → C.heap[i]? = A.heap[i]?
theorem KD.refl (D : Nat → Prop) (A : World) : KD D A A := ⟨Nat.le_refl _, fun _ _ => rfl⟩
theorem KD.trans {D : Nat → Prop} {A B C : World} (h : KD D A B) (k : KD D B C) : KD D A C := ⟨Nat.le_trans h.1 k.1, fun i hi => (k.2 i hi).trans (h.2 i hi)⟩
theorem KD.put {D : Nat → Prop} {A : World} {l : Nat} (hl : ¬ D l) (o : Obj) : KD D A (A.putObj l o) := ⟨by simp, fun _ hi => World.putObj_heap_other (fun e => hl (e ▸ hi))⟩
def IterF (F : Fence) (n : Nat) (P : Program) (g : Nat) (lb : Array Value) (enc : Nat → Value → Array Value) (Fit : Nat → Value → World → Prop) (D : Nat → Prop) (N : Nat) (w0 : World) : Prop :=
  ∀ (l : Nat) (J : Nat → World → Prop) (Jx : World → Prop) (W : World), KD D w0 W → (∀ k A C, J k A → A.grownBy C none → J k C) →
    (∀ k v W1, J k W1 → Fit k v W1 → k < N → YieldAt F (n - 1) P l (enc k v) W1 fun e W' => (e = .returned (.bool true) ∧ J (k + 1) W' ∧ KD D W1 W') ∨ (e = .returned (.bool false) ∧ Jx W')) →
    J 0 W → CallsIn F n P g (#[.func (.yield l) #[] #[]] ++ lb) W fun e W' => (∃ v, e = .returned v) ∧ (J N W' ∨ Jx W')
def OutF (B : Nat) (D : Nat → Prop) (I : Nat → World → Prop) (Ix : Code → World → Prop) (k : Nat) (W : World) : Exit → Act → World → Prop
  | .normal, _, W' => KeepsFrom B W W' ∧ KD D W W' ∧ I (k + 1) W'
  | .ret, _, W' => KeepsFrom B W W' ∧ Ix .ret W'
  | .exit id, _, W' => KeepsFrom B W W' ∧ Ix (.exit id) W'
  | _, _, _ => False
theorem range_fit {F : Fence} {n : Nat} {P : Program} {g : Operand} {ps : Array Tmp} {assign body : Code} {Q : Exit → Act → World → Prop} {a : Act} {w : World}
    (hro : F.round = none) (h1 : 1 ≤ n) {gf : Nat} {lb : Array Value} (hg : a.eval g = .func (.func gf) #[] lb) (hFg : F.fn gf) (eg : ∀ args w, (callFunc gf args).run P w = .ok (.enter gf args) w)
    {enc : Nat → Value → Array Value} {Fit : Nat → Value → World → Prop} {D : Nat → Prop} {N : Nat} {w0 : World} (hit : IterF F (n - 1) P gf lb enc Fit D N w0) (hw0 : KD D w0 w) (hD : ∀ i, D i → i < w.heap.size) (hps : ∀ k v, (enc k v).size = ps.size)
    (I : Nat → World → Prop) (Ix : Code → World → Prop) (hI : OwnFrom w.heap.size I) (hIx : OwnFrom w.heap.size Ix) (hFit : ∀ k v, OwnFrom w.heap.size (fun (_ : Unit) W => Fit k v W)) (h0 : I 0 w) (a₁ : Nat → Value → Act)
    (hassign : ∀ (l k : Nat) (v : Value) (W : World) (K : Act → World → Prop), K (a₁ k v) W →
      assign.wpIn (F.inRound l) (n - 1 - 1) P (Exit.then K (fun _ _ _ => False)) { tmps := (ps.zip (enc k v)).foldl (fun t (p, v) => t.setIfInBounds p v) a.tmps, defers := [] } W)
    (hbody : ∀ (l k : Nat) (v : Value) (W : World), w.heap.size ≤ l → (∃ r, W.heap[l]? = some (.loop r)) → I k W → Fit k v W → k < N → body.wpIn (F.inRound l) (n - 1 - 1) P (OutF w.heap.size D I Ix k W) (a₁ k v) W)
    (hdone : ∀ (d : Nat) (W : World), w.heap.size ≤ d → I N W → W.heap[d]? = some (.deferred (some [])) → Q .normal { a with defers := { target := .collected d, args := #[] } :: a.defers } W)
    (hstop : ∀ (d : Nat) (c : Code) (W : World), w.heap.size ≤ d → Ix c W → W.heap[d]? = some (.deferred (some [])) → c.wpIn F n P Q { a with defers := { target := .collected d, args := #[] } :: a.defers } W) :
    (Code.rangeFunc g ps assign body).wpIn F n P Q a w := by
  refine wpIn_rangeFunc fun fn hfn => ?_
  rw [hro]
  let R : LoopState → Option Code → Loop := fun st pe => { state := st, pending := pe, fn, tmps := a.tmps, params := ps, assign, body, defers := w.heap.size }
  have hds : ∀ i, D i → i ≠ w.heap.size ∧ i ≠ w.heap.size + 1 := fun i hi => by have := hD i hi; omega
  have hnd : ¬ D (w.heap.size + 1) := fun h => (hds _ h).2 rfl
  -- what of the two blocks of book-keeping: the record at st, pe, and the block for deferred calls
  let BK : LoopState → Option Code → World → Prop := fun st pe W => W.heap[w.heap.size + 1]? = some (.loop (R st pe)) ∧ W.heap[w.heap.size]? = some (.deferred (some []))
  have bk_put : ∀ {st pe W} (st' pe'), BK st pe W → BK st' pe' (W.putObj (w.heap.size + 1) (.loop (R st' pe'))) := fun st' pe' h =>
    ⟨World.putObj_heap_same (Array.getElem?_eq_some_iff.1 h.1).1, (World.putObj_heap_other (by omega)).trans h.2⟩
  have bk_kept : ∀ {st pe A C}, BK st pe A → KeepsFrom w.heap.size A C → BK st pe C := fun h k => ⟨k.same _ _ (by omega) h.1 rfl, k.same _ _ (Nat.le_refl _) h.2 rfl⟩
  have bk_grown : ∀ {st pe A C}, BK st pe A → A.grownBy C none → BK st pe C := fun h k =>
    ⟨(k.block _ (Array.getElem?_eq_some_iff.1 h.1).1 (by simp)).trans h.1, (k.block _ (Array.getElem?_eq_some_iff.1 h.2).1 (by simp)).trans h.2⟩
  obtain ⟨W1, hW1⟩ : ∃ W1, (w.alloc (.deferred (some []))).alloc (.loop (R .ready none)) = W1 := ⟨_, rfl⟩
  have hg1 : w.grownBy W1 none := by
    rw [← hW1]
    exact ⟨rfl, rfl, rfl, by simp; omega, fun i hi _ => (Below.heap_alloc _ _ _ (by simp; omega)).trans (Below.heap_alloc _ _ _ hi)⟩
  have hBK1 : BK .ready none W1 := by
    rw [← hW1]
    refine ⟨?_, (Below.heap_alloc _ _ _ (by simp)).trans (World.alloc_heap_new w _)⟩
    have := World.alloc_heap_new (w.alloc (.deferred (some []))) (.loop (R .ready none))
    rwa [World.size_alloc] at this
  refine ⟨w.heap.size + 1, [{ target := .collected w.heap.size, args := #[] }], W1, { target := .fn (.func gf) lb, args := #[.func (.yield (w.heap.size + 1)) #[] #[]] }, W1, gf, #[.func (.yield (w.heap.size + 1)) #[] #[]] ++ lb, W1, ?_, ?_, ?_, ?_, fun _ => h1, ?_⟩
  · rw [← hW1]; exact run_enterLoop_outer _ _ _ _ _
  · simp only [resolve, hg]; simp [go_sem]
  · intro f' hf'; simp [Target.leads] at hf'; subst hf'; exact hFg
  · simp [invoke, go_sem, eg]
  · refine (hit (w.heap.size + 1) (fun k W => I k W ∧ BK .ready none W) (fun W => ∃ c, Ix c W ∧ BK .done (some c) W) W1 (hw0.trans ⟨hg1.size, fun i hi => hg1.block i (hD i hi) (by simp)⟩)
      (fun k A C h hg' => ⟨hI k A C none h.1 hg' (fun r e => by cases e), bk_grown h.2 hg'⟩) ?_ ⟨hI 0 w W1 none h0 hg1 (fun r e => by cases e), hBK1⟩).mono ?_
    · rintro k v W ⟨hi, hb⟩ hf hk
      refine ⟨fn, _, assign, body, run_yield (P := P) (r := R .ready none) (args := enc k v) hb.1 (hps k v), roundIn_of_wpIn hfn (hassign _ k v W _ ⟨_, run_beginRound hb.1 rfl, ?_⟩)⟩
      have hb2 : BK .busy none (W.putObj (w.heap.size + 1) (.loop (R .busy none))) := bk_put _ _ hb
      refine wpIn_mono (hbody _ k v _ (by omega) ⟨_, hb2.1⟩ (hI.putObj _ hi (by omega) hb.1 rfl) ((hFit k v).putObj (s := ()) _ hf (by omega) hb.1 rfl) hk) ?_
      rintro e a3 W3 hp
      cases e with
      | normal =>
        obtain ⟨k1, k2, k3⟩ := hp
        have hb3 := bk_kept hb2 k1
        exact ⟨_, _, run_endRound (P := P) none hb3.1, .inl ⟨rfl, ⟨hI.putObj _ k3 (by omega) hb3.1 rfl, bk_put .ready none hb3⟩, ((KD.put hnd _).trans k2).trans (KD.put hnd _)⟩⟩
      | ret =>
        have hb3 := bk_kept hb2 hp.1
        exact ⟨_, _, run_endRound (P := P) (some .ret) hb3.1, .inr ⟨rfl, .ret, hIx.putObj _ hp.2 (by omega) hb3.1 rfl, bk_put .done (some .ret) hb3⟩⟩
      | exit id =>
        have hb3 := bk_kept hb2 hp.1
        exact ⟨_, _, run_endRound (P := P) (some (.exit id)) hb3.1, .inr ⟨rfl, .exit id, hIx.putObj _ hp.2 (by omega) hb3.1 rfl, bk_put .done (some (.exit id)) hb3⟩⟩
      | goto t => exact hp.elim
      | panic ch => exact hp.elim
      | outgrown => exact hp.elim
    · rintro e W2 ⟨⟨v, rfl⟩, ⟨hi, hb⟩ | ⟨c, hc, hb⟩⟩
      · exact ⟨none, _, run_endLoop (P := P) hb.1 (by simp [R]), hdone _ _ (Nat.le_refl _) (hI.putObj _ hi (by omega) hb.1 rfl) ((World.putObj_heap_other (by omega)).trans hb.2)⟩
      · exact ⟨some c, _, run_endLoop (P := P) hb.1 (by simp [R]), hstop _ c _ (Nat.le_refl _) (hIx.putObj _ hc (by omega) hb.1 rfl) ((World.putObj_heap_other (by omega)).trans hb.2)⟩
def noDefer (o : Oper) : Bool := match o.op with | .defer _ => false | _ => true
theorem noDefer_spec {ops : Array Oper} (h : ops.all noDefer = true) (i : Nat) (o : Oper) (ho : ops[i]? = some o) : ∀ c, o.op ≠ .defer c := fun c e => by
  obtain ⟨hi, rfl⟩ := Array.getElem?_eq_some_iff.1 ho
  have := (Array.all_eq_true.1 h) i hi
  simp [noDefer, e] at this
theorem any_round {F : Fence} {n : Nat} {P : Program} {ops : Array Oper} {Q : Exit → Act → World → Prop} {md : Region.Mode} {l : Nat} (hro : F.round = none) (hd : ops.all noDefer = true) :
    ∀ (fuel : Nat) (listed : Array Bool) (a : Act) (w : World), wpAnyIn F n P md ops Q fuel listed a w → wpAnyIn (F.inRound l) n P md ops Q fuel listed a w
  | 0, _, _, _, h => h
  | fuel + 1, listed, a, w, h => by
    refine ⟨h.1, fun i hi => ?_⟩
    have h1 := wpOpIn_mono (fun a' w' h' => any_round (l := l) hro hd fuel (listed.setIfInBounds i true) a' w' h') (h.2 i hi)
    unfold wpOpIn at h1 ⊢
    cases ho : ops[i]? with
    | none => simpa only [ho] using h1
    | some o =>
      simp only [ho] at h1 ⊢
      by_cases hw : Region.wanted o (yielded ops a.tmps) = true
      · simp only [hw, if_true] at h1 ⊢
        unfold Oper.wpIn at h1 ⊢
        refine ⟨h1.1, ?_⟩
        have h2 := h1.2
        rw [Oper.semAt_eq _ _ _ (noDefer_spec hd i o ho)] at h2 ⊢
        exact h2
      · simp only [hw] at h1 ⊢
        exact h1
theorem box_from {A C : World} {row : Option Nat} {B n : Nat} {t : TypeId} {v : Value} (h : Boxed A B t v) (hg : A.grownBy C row) (hr : ∀ r, row = some r → n ≤ r ∧ ∃ o : Obj, A.heap[r]? = some o ∧ o.isCells = false) : Boxed C B t v :=
  h.kept hg fun e => by
    obtain ⟨_, o, ho, hc⟩ := hr B e.symm
    rw [show A.heap[B]? = _ from h] at ho
    cases ho
    cases hc
theorem row_from {A C : World} {row : Option Nat} {B n k size : Nat} {e : TypeId} {v : Value} {xs : List Value} (h : A.ownsRow B e size v k xs) (hg : A.grownBy C row) (hr : ∀ r, row = some r → n ≤ r ∧ ∃ o : Obj, A.heap[r]? = some o ∧ o.isCells = false) : C.ownsRow B e size v k xs := by
  refine h.kept hg ?_
  rcases h.2 with ⟨rfl, _⟩ | ⟨g, cap, cur, rfl, _, hgb, _⟩
  · exact .inl rfl
  · refine .inr fun e' => ?_
    obtain ⟨_, o, ho, hc⟩ := hr g (by simpa [Value.ownBlock] using e'.symm)
    rw [hgb] at ho
    cases ho
    cases hc
theorem below_from {w A C : World} {row : Option Nat} {B n : Nat} (h : Below B w A) (hB : B ≤ w.heap.size) (hg : A.grownBy C row) (hr : ∀ r, row = some r → n ≤ r ∧ ∃ o : Obj, A.heap[r]? = some o ∧ o.isCells = false) (hn : B ≤ n) : Below B w C :=
  h.grown hg (Nat.le_trans hB h.size) (fun k e => by have := (hr k e).1; omega)
end Go.Proofs.YtjdfclbjmmmcfaaDoor
namespace Go.Proofs.YtjdfclbjmmmcfaaDoor
open Go Go.RowKit Go.Shelf
def rdD (a b c g : Nat) (i : Nat) : Prop := i = a ∨ i = b ∨ i = c ∨ i = g
theorem HRd.kept {w0 w : World} {a b c g n f : Nat} {l : List Nat} (h : HRd w0 a b c g n f l) (hK : KD (rdD a b c g) w0 w) : HRd w a b c g n f l :=
  ⟨(hK.2 a (.inl rfl)).trans h.ha, (hK.2 b (.inr (.inl rfl))).trans h.hb, (hK.2 c (.inr (.inr (.inl rfl)))).trans h.hc, (hK.2 g (.inr (.inr (.inr rfl)))).trans h.hg⟩
set_option maxRecDepth 100000 in
set_option maxHeartbeats 4000000 in
theorem round_iter (m : Nat) (w0 : World) (a b c g n f : Nat) (l : List Nat) (h : HRd w0 a b c g n f l) (h1 : 1 ≤ n) (h2 : n ≤ 32) (hf : f < n) (hl : l.length = n) :
    IterF Fence.wide m Tryd.prog 25 #[.pointer (some ⟨a, 0, none⟩), .pointer (some ⟨b, 0, none⟩), .pointer (some ⟨c, 0, none⟩)] (fun k v => #[.int .i64 (((f + k) % n : Nat) : Int), v])
      (fun k v W => v = .int .i64 ((l.getD ((f + k) % n) 0 : Nat) : Int)) (rdD a b c g) n w0 := fun l' J Jx W hK hJ hY h0 => by
  have HH := hid (h.kept hK)
  have HY := hid hY
  have H0 := hid h0
  have HL := hid hl
  clear h hK hJ hY h0 hl
  have ca : W.cell? ⟨a, 0, none⟩ = some (.int .i64 (n : Int)) := (cell_of_row _ _ _ _ _ _ HH.out.ha).trans rfl
  refine callsIn_of_wp Tryd.func25 rfl trivial ?_ rfl
  simp only [Tryd.ntmps25, List.size_toArray, List.length_cons, List.length_nil, Nat.reduceAdd, Nat.reduceSub, Array.replicate_succ, Array.replicate_zero, List.push_toArray, List.append_toArray, List.nil_append, List.cons_append]
  gi_wp2
  gi_loopw [8] (fun i wr => ∃ k : Nat, k ≤ n ∧ i = .int .i64 (k : Int) ∧ Hid (J k wr) ∧ Hid (KD (rdD a b c g) W wr)) (fun i _ => n - (intOf i).toNat)
  case atStart => exact ⟨0, Nat.zero_le _, rfl, H0, KD.refl _ _⟩
  case round =>
    clear ca
    obtain ⟨k, hk, rfl, HJk, HKk⟩ := hrel
    by_cases hlt : k < n
    · have HHk := hid (HH.out.kept HKk.out)
      have ca : wr.cell? ⟨a, 0, none⟩ = some (.int .i64 (n : Int)) := (cell_of_row _ _ _ _ _ _ HHk.out.ha).trans rfl
      have cb : wr.cell? ⟨b, 0, none⟩ = some (.int .i64 (f : Int)) := (cell_of_row _ _ _ _ _ _ HHk.out.hb).trans rfl
      have cc : wr.cell? ⟨c, 0, none⟩ = some (.slice (some ⟨g, 0, none⟩) n n) := (cell_of_row _ _ _ _ _ _ HHk.out.hc).trans rfl
      obtain ⟨r, HR⟩ : ∃ r, Hid ((f + k) % n = r) := ⟨_, rfl⟩
      have hr : r < n := by rw [← HR.out]; exact Nat.mod_lt _ h1
      have hti : Int.tmod ((f : Int) + (k : Int)) (n : Int) = (r : Int) := by
        rw [Int.tmod_eq_emod_of_nonneg (by omega), ← HR.out]
        simp
      have hn0 : ¬ (n = 0) := by omega
      have hcell := HHk.out.hg.cell (i := r) (by rw [HL.out]; exact hr)
      obtain ⟨fn, tmps, assign, body, hy, hR⟩ := HY.out k (.int .i64 ((l.getD ((f + k) % n) 0 : Nat) : Int)) wr HJk.out rfl hlt
      rw [HR.out] at hy
      generalize l.getD r 0 = y at hcell hy
      have HRR := hid hR
      clear hR
      gi_wp2
      refine ⟨fun h => absurd h (by simp [Fence.wide]), HRR.out.mono ?_⟩
      rintro e W3 (⟨rfl, hJ3, hk3⟩ | ⟨rfl, hJx3⟩)
      · clear HRR hy
        have HF3 := hid (And.intro hk3 hJ3)
        clear hk3 hJ3
        gi_wp2
        go_roundw
        case rel => exact ⟨k + 1, hlt, by go_num, HF3.out.2, HKk.out.trans HF3.out.1⟩
        case measure => simp [intOf]; omega
      · clear HRR hy
        have HF3 := hid hJx3
        clear hJx3
        gi_wp2
        refine bodyPost_ret (results_none rfl _ _ _) rfl ?_
        exact ⟨⟨_, rfl⟩, .inr HF3.out⟩
    · have hk' : k = n := by omega
      subst hk'
      gi_wp2
      go_end0
      exact ⟨⟨_, rfl⟩, .inl HJk.out⟩
theorem wp_range_none {P : Program} {g : Operand} {ps : Array Tmp} {assign body : Code} {Q : Exit → Act → World → Prop} {a : Act} {w : World} {gf : Nat} {lb : Array Value}
    (hg : a.eval g = .func (.func gf) #[] lb) (eg : ∀ args w, (callFunc gf args).run P w = .ok (.enter gf args) w) (hc : ∀ args w, Calls P gf args w fun e w' => (∃ v, e = .returned v) ∧ w' = w)
    (hQ : ∀ W, w.grownBy W none → W.heap[w.heap.size]? = some (.deferred (some [])) → Q .normal { a with defers := { target := .collected w.heap.size, args := #[] } :: a.defers } W) :
    (Code.rangeFunc g ps assign body).wp P Q a w := by
  refine (wpIn_wide (n := 1)).1 (wpIn_rangeFunc fun fn hfn => ?_)
  let R : LoopState → Option Code → Loop := fun st pe => { state := st, pending := pe, fn, tmps := a.tmps, params := ps, assign, body, defers := w.heap.size }
  obtain ⟨W1, hW1⟩ : ∃ W1, (w.alloc (.deferred (some []))).alloc (.loop (R .ready none)) = W1 := ⟨_, rfl⟩
  have hg1 : w.grownBy W1 none := by
    rw [← hW1]
    exact ⟨rfl, rfl, rfl, by simp; omega, fun i hi _ => (Below.heap_alloc _ _ _ (by simp; omega)).trans (Below.heap_alloc _ _ _ hi)⟩
  have hl : W1.heap[w.heap.size + 1]? = some (.loop (R .ready none)) := by
    rw [← hW1]
    have := World.alloc_heap_new (w.alloc (.deferred (some []))) (.loop (R .ready none))
    rwa [World.size_alloc] at this
  have hd : W1.heap[w.heap.size]? = some (.deferred (some [])) := by
    rw [← hW1]
    exact (Below.heap_alloc _ _ _ (by simp)).trans (World.alloc_heap_new w _)
  refine ⟨w.heap.size + 1, [{ target := .collected w.heap.size, args := #[] }], W1, { target := .fn (.func gf) lb, args := #[.func (.yield (w.heap.size + 1)) #[] #[]] }, W1, gf, #[.func (.yield (w.heap.size + 1)) #[] #[]] ++ lb, W1, ?_, ?_, ?_, ?_, fun _ => Nat.le_refl _, ?_⟩
  · rw [← hW1]; exact run_enterLoop_outer _ _ _ _ _
  · simp only [resolve, hg]; simp [go_sem]
  · intro f' hf'; trivial
  · simp [invoke, go_sem, eg]
  · refine callsIn_wide.2 ((hc _ W1).mono ?_)
    rintro e W2 ⟨⟨v, rfl⟩, rfl⟩
    refine ⟨none, _, run_endLoop (P := P) hl (by simp [R]), hQ _ ?_ ?_⟩
    · exact ⟨hg1.os, hg1.tape, hg1.output, by simpa using hg1.size, fun i hi hr => (World.putObj_heap_other (by omega)).trans (hg1.block i hi hr)⟩
    · rw [World.putObj_heap_other (by omega)]
      exact hd
def x123 : List Int := 1 :: 2 :: 3 :: List.replicate 13 0
theorem x123_X : X16 x123 := ⟨rfl, fun x hx => by
  have : x = 1 ∨ x = 2 ∨ x = 3 ∨ x = 0 := by
    rcases List.mem_cons.1 hx with h | h
    · exact .inl h
    rcases List.mem_cons.1 h with h | h
    · exact .inr (.inl h)
    rcases List.mem_cons.1 h with h | h
    · exact .inr (.inr (.inl h))
    · exact .inr (.inr (.inr (List.mem_replicate.1 h).2))
  omega⟩
theorem built_x123 : Tryd.prog.built 23 [(0, .int .u8 1), (1, .int .u8 2), (2, .int .u8 3)] = some (cellsB x123) := by kernel_rfl
theorem zero_ix : (Tryd.prog.info? 23).map (·.zero) = some (some (.agg (cellsB (List.replicate 16 0)))) := by kernel_rfl
theorem wpList_alloc_ix {cs : Array Value} (hz : (Tryd.prog.info? 23).map (·.zero) = some (some (.agg cs))) {ops : Array Oper} {rest : List Oper} {o : Oper} {a : Act} {w : World} {Q : Exit → Act → World → Prop} (hgd : o.guard = none) (ho : o.op = .alloc 23)
    (h : wpList Tryd.prog ops Q rest (a.put o.dst (.pointer (some ⟨w.heap.size, 0, none⟩))) (w.alloc (.cells cs 23))) : wpList Tryd.prog ops Q (o :: rest) a w :=
  wpList_plain hgd fun _ hK => by
    have hr : (Instr.alloc 23 true (.tuple #[])).run Tryd.prog w = .ok (.pointer (some ⟨w.heap.size, 0, none⟩)) (w.alloc (.cells cs 23)) := by
      cases hi : Tryd.prog.info? 23 with
      | none => simp [hi] at hz
      | some i0 =>
        simp [hi] at hz
        simp [Instr.alloc, zeroValue, typeInfo, hi, hz, newVar, newRow, Value.cells]
    unfold Oper.wp
    simp only [execOp, ho, Sem.run_bind, hr, Result.andThen_ok]
    exact hK _ _ h
theorem wpList_build_x {T : TypeId} (cs : Array Value) {ps : Array (Nat × Operand)} {ops : Array Oper} {rest : List Oper} {o : Oper} {a : Act} {w : World} {Q : Exit → Act → World → Prop} (hgd : o.guard = none) (ho : o.op = .build T ps) (hb : Tryd.prog.built T (ps.map fun (i, x) => (i, a.eval x)).toList = some cs)
    (h : wpList Tryd.prog ops Q rest (a.put o.dst (.agg cs)) w) : wpList Tryd.prog ops Q (o :: rest) a w := by
  refine wpList_build hgd T ps ho (by rw [hb]; rfl) ?_
  rw [hb]
  exact h
theorem eql_seq2_nil : ∀ (w : World) (f : Fn) (a b : Array Value), (binOp .eql 37 (.func f a b) .nilFunc).run Tryd.prog w = .ok (.bool false) w := fun w f a b => by
  have h : ∀ d : Nat, (Op.equalIn (d + 1) 37 (.func f a b) .nilFunc).run Tryd.prog w = .ok false w := fun d => by
    simp [Op.equalIn, run_underlying Tryd.underlying37]
  simp only [binOp]
  simp [Op.equal, Op.maxDepth, h 9999]
theorem rd1_enter (args : Array Value) (w : World) : (callFunc 24 args).run Tryd.prog w = .ok (.enter 24 args) w := by
  simp only [callFunc, program, Sem.run_bind, Result.andThen_ok, Sem.run, Tryd.func24]
  rfl
theorem rd1_any (args : Array Value) (w : World) : Calls Tryd.prog 24 args w fun e w' => (∃ v, e = .returned v) ∧ w' = w := by
  refine calls_of_wp Tryd.func24 (c := .skip) (by kernel_rfl) (wp_skip ?_)
  exact ⟨rfl, _, results_none rfl _ _ _, ⟨_, rfl⟩, rfl⟩
theorem rbool_res {fn : Func} {p : Tmp} (h : fn.results = #[.cell p 4]) (tmps : Array Value) (w : World) (g : Nat) (b : Bool) (hp : tmps.getD p undef = .pointer (some ⟨g, 0, none⟩)) (hc : w.cell? ⟨g, 0, none⟩ = some (.bool b)) : (results fn tmps).run Tryd.prog w = .ok (.bool b) w := by
  have hp' : tmps[p]?.getD undef = .pointer (some ⟨g, 0, none⟩) := by simpa using hp
  simp only [results, h]
  simp [hp', asAddr]
  simp [go_sem, hc]
theorem rbel_put {B b : Nat} {w W : World} (h : Below B w W) (hb : B ≤ b) (o : Obj) : Below B w (W.putObj b o) := h.trans ⟨rfl, rfl, rfl, by simp, fun k hk => World.putObj_heap_other (by omega)⟩
theorem rcell_put {b : Nat} {W : World} {a : Addr} (h : a.block ≠ b) (o : Obj) : (W.putObj b o).cell? a = W.cell? a := by simp [World.cell?, World.putObj_heap_other h]
set_option maxRecDepth 100000 in
set_option maxHeartbeats 4000000 in
theorem known_walk (w : World) (hk : KC w) : Calls Tryd.prog 7 #[] w fun e w' => e = .returned (.bool true) ∧ Below w.heap.size w w' := by
  obtain ⟨cl, HCL⟩ : ∃ c, Hid (cellsB x123 = c) := ⟨_, rfl⟩
  obtain ⟨zl, HZL⟩ : ∃ c, Hid (cellsB (List.replicate 16 0) = c) := ⟨_, rfl⟩
  have HBt := built_x123
  have HZt := zero_ix
  have HIx := hid (size_ix x123_X)
  rw [HCL.out] at HBt HIx
  rw [HZL.out] at HZt
  have HBT := hid HBt
  have HZT := hid HZt
  have H1c : Hid (cl.all (·.oneCell') = true) := by rw [← HCL.out]; exact cellsB_one _
  have HZc : Hid (zl.size = cl.size) := by rw [← HCL.out, ← HZL.out]; exact rfl
  have HX := hid x123_X
  have HK := hid hk
  obtain ⟨W0, HW0⟩ : ∃ W0, Hid ((w.alloc (.cells #[.bool false] 4)).alloc (.cells zl 23) = W0) := ⟨_, rfl⟩
  have e0 : (w.alloc (.cells #[.bool false] 4)).heap.size = w.heap.size + 1 := by simp
  have HB0 : Hid (Below w.heap.size w W0) := by rw [← HW0.out]; exact ((Below.refl _ w).alloc (Nat.le_refl _) _).alloc (by simp) _
  have HT0 : Hid (W0.heap[w.heap.size]? = some (.cells #[.bool false] 4 (0, 0))) := by rw [← HW0.out]; refine hid ?_; rw [heap_alloc_old _ _ (by simp)]; exact heap_alloc_new w _
  have HR0 : Hid (W0.heap[w.heap.size + 1]? = some (.cells zl 23 (0, 0))) := by
    rw [← HW0.out]
    have := heap_alloc_new (w.alloc (.cells #[.bool false] 4)) (.cells zl 23)
    rw [e0] at this
    exact this
  obtain ⟨W1, HW1⟩ : ∃ W1, Hid (W0.setRow (w.heap.size + 1) cl = W1) := ⟨_, rfl⟩
  have HB1 : Hid (Below w.heap.size w W1) := by rw [← HW1.out]; exact below_setRow HB0.out (by omega) _
  have HR1 : Hid (W1.heap[w.heap.size + 1]? = some (.cells cl 23 (0, 0))) := by rw [← HW1.out]; exact setRow_heap _ _ _ _ _ _ HR0.out
  have HT1 : Hid (W1.heap[w.heap.size]? = some (.cells #[.bool false] 4 (0, 0))) := by rw [← HW1.out]; exact (setRow_other _ _ _ _ (by omega)).trans HT0.out
  have hs1 : w.heap.size + 1 < W1.heap.size := (Array.getElem?_eq_some_iff.1 HR1.out).1
  clear HBt HZt hk
  refine (callsIn_wide (n := 3)).1 ?_
  refine callsIn_of_wp_marks Tryd.func7 rfl trivial (wpIn_wide.2 ?_) rfl
  simp only [Tryd.ntmps7, List.size_toArray, List.length_cons, List.length_nil, Nat.reduceAdd, Nat.reduceSub, Array.replicate_succ, Array.replicate_zero, List.push_toArray, List.append_toArray, List.nil_append, List.cons_append]
  go_wp2_with (first
    | (refine wpList_build_x cl rfl rfl (by simp [Act.eval, HBT.out]) ?_)
    | (refine wpList_alloc_ix HZT.out rfl rfl ?_; rw [HW0.out, e0])
    | (refine wpList_store_row rfl 23 _ _ rfl (w.heap.size + 1) cl rfl rfl 23 _ HR0.out HIx.out HZc.out H1c.out ?_; rw [HW1.out])
    | (refine wpList_load_row rfl 23 _ rfl (w.heap.size + 1) rfl 23 cl (0, 0) _ HR1.out Tryd.underlying23 rfl HIx.out ?_))
  have C1 := hid (order_bad W1 x123 0 HX.out (by omega))
  rw [HCL.out] at C1
  refine C1.out.mono ?_
  rintro e W2 ⟨rfl, hB2⟩
  have HB2 : Hid (Below w.heap.size w W2) := HB1.out.trans (hB2.mono HB1.out.size)
  have HR2 : Hid (W2.heap[w.heap.size + 1]? = some (.cells cl 23 (0, 0))) := (hB2.block _ hs1).trans HR1.out
  have HT2 : Hid (W2.heap[w.heap.size]? = some (.cells #[.bool false] 4 (0, 0))) := (hB2.block _ (by omega)).trans HT1.out
  have hs2 : w.heap.size + 1 < W2.heap.size := (Array.getElem?_eq_some_iff.1 HR2.out).1
  clear hB2 C1 HR1 HT1
  go_wp2_with (refine wpList_load_row rfl 23 _ rfl (w.heap.size + 1) rfl 23 cl (0, 0) _ HR2.out Tryd.underlying23 rfl HIx.out ?_)
  have C2 := hid (order_bad W2 x123 33 HX.out (by omega))
  rw [HCL.out] at C2
  refine C2.out.mono ?_
  rintro e W3 ⟨rfl, hB3⟩
  have HB3 : Hid (Below w.heap.size w W3) := HB2.out.trans (hB3.mono HB2.out.size)
  have HR3 : Hid (W3.heap[w.heap.size + 1]? = some (.cells cl 23 (0, 0))) := (hB3.block _ hs2).trans HR2.out
  have HT3 : Hid (W3.heap[w.heap.size]? = some (.cells #[.bool false] 4 (0, 0))) := (hB3.block _ (by omega)).trans HT2.out
  have hs3 : w.heap.size + 1 < W3.heap.size := (Array.getElem?_eq_some_iff.1 HR3.out).1
  clear hB3 C2 HR2 HT2
  go_wp2_with (refine wpList_load_row rfl 23 _ rfl (w.heap.size + 1) rfl 23 cl (0, 0) _ HR3.out Tryd.underlying23 rfl HIx.out ?_)
  have C3 := hid (rank_bad W3 x123 3 3 HX.out (by omega))
  rw [HCL.out] at C3
  refine C3.out.mono ?_
  rintro e W4 ⟨rfl, hB4⟩
  have HB4 : Hid (Below w.heap.size w W4) := HB3.out.trans (hB4.mono HB3.out.size)
  have HR4 : Hid (W4.heap[w.heap.size + 1]? = some (.cells cl 23 (0, 0))) := (hB4.block _ hs3).trans HR3.out
  have HT4 : Hid (W4.heap[w.heap.size]? = some (.cells #[.bool false] 4 (0, 0))) := (hB4.block _ (by omega)).trans HT3.out
  have hs4 : w.heap.size + 1 < W4.heap.size := (Array.getElem?_eq_some_iff.1 HR4.out).1
  clear hB4 C3 HR3 HT3
  go_wp2_with (refine wpList_load_row rfl 23 _ rfl (w.heap.size + 1) rfl 23 cl (0, 0) _ HR4.out Tryd.underlying23 rfl HIx.out ?_)
  have C4 := hid (rank_bad W4 x123 3 (-1) HX.out (by omega))
  rw [HCL.out] at C4
  refine C4.out.mono ?_
  rintro e W5 ⟨rfl, hB5⟩
  have HB5 : Hid (Below w.heap.size w W5) := HB4.out.trans (hB5.mono HB4.out.size)
  have HR5 : Hid (W5.heap[w.heap.size + 1]? = some (.cells cl 23 (0, 0))) := (hB5.block _ hs4).trans HR4.out
  have HT5 : Hid (W5.heap[w.heap.size]? = some (.cells #[.bool false] 4 (0, 0))) := (hB5.block _ (by omega)).trans HT4.out
  have hs5 : w.heap.size + 1 < W5.heap.size := (Array.getElem?_eq_some_iff.1 HR5.out).1
  clear hB5 C4 HR4 HT4
  go_wp2_with (refine wpList_load_row rfl 23 _ rfl (w.heap.size + 1) rfl 23 cl (0, 0) _ HR5.out Tryd.underlying23 rfl HIx.out ?_)
  have C5 := hid (round_bad W5 x123 0 5 HX.out (by omega))
  rw [HCL.out] at C5
  refine C5.out.mono ?_
  rintro e W6 ⟨rfl, hB6⟩
  have HB6 : Hid (Below w.heap.size w W6) := HB5.out.trans (hB6.mono HB5.out.size)
  have HR6 : Hid (W6.heap[w.heap.size + 1]? = some (.cells cl 23 (0, 0))) := (hB6.block _ hs5).trans HR5.out
  have HT6 : Hid (W6.heap[w.heap.size]? = some (.cells #[.bool false] 4 (0, 0))) := (hB6.block _ (by omega)).trans HT5.out
  have hs6 : w.heap.size + 1 < W6.heap.size := (Array.getElem?_eq_some_iff.1 HR6.out).1
  clear hB6 C5 HR5 HT5
  go_wp2_with (refine wpList_load_row rfl 23 _ rfl (w.heap.size + 1) rfl 23 cl (0, 0) _ HR6.out Tryd.underlying23 rfl HIx.out ?_)
  refine (awake_any W6 (HK.out.below HB6.out)).mono ?_
  rintro e W7 ⟨rfl, hB7⟩
  have HB7 : Hid (Below w.heap.size w W7) := HB6.out.trans (hB7.mono HB6.out.size)
  have HT7 : Hid (W7.heap[w.heap.size]? = some (.cells #[.bool false] 4 (0, 0))) := (hB7.block _ (by omega)).trans HT6.out
  have hs7 : w.heap.size < W7.heap.size := (Array.getElem?_eq_some_iff.1 HT7.out).1
  clear hB7 HT6 HR6
  have hnil := eql_seq2_nil
  go_wp2
  clear hnil
  refine wp_range_none rfl rd1_enter rd1_any fun W hg hd => ?_
  have HT8 : Hid (W.heap[w.heap.size]? = some (.cells #[.bool false] 4 (0, 0))) := (hg.block _ hs7 (by simp)).trans HT7.out
  have HD8 := hid hd
  have HB8 : Hid (Below w.heap.size w W) := HB7.out.trans (Below.mono (by exact ⟨hg.os, hg.tape, hg.output, hg.size, fun i hi => hg.block i hi (by simp)⟩ : Below W7.heap.size W7 W) HB7.out.size)
  have c8 : W.cell? ⟨w.heap.size, 0, none⟩ = some (.bool false) := (cell_of_row _ _ _ _ _ _ HT8.out).trans rfl
  have f8 : W.frozen? ⟨w.heap.size, 0, none⟩ = false := frozen_of_row _ _ _ _ _ HT8.out
  have HM8 : Hid ((W.setCell ⟨w.heap.size, 0, none⟩ (.bool true)).heap[W7.heap.size]? = some (.deferred (some []))) := hid ((heap_setCell_other _ _ _ _ (fun e => by simp at e; omega)).trans hd)
  have CX : Hid ((W.setCell ⟨w.heap.size, 0, none⟩ (.bool true)).cell? ⟨w.heap.size, 0, none⟩ = some (.bool true)) := hid (World.cell?_setCell_same _ _ _ c8)
  have B8 : Hid (Below w.heap.size w (W.setCell ⟨w.heap.size, 0, none⟩ (.bool true))) := hid (HB8.out.setCell (p := ⟨w.heap.size, 0, none⟩) (Nat.le_refl _) _)
  clear hg hd
  go_wp2
  refine ⟨by simp, .inl ⟨_, _, rfl, run_takeDeferred HM8.out, ?_⟩⟩
  exact ⟨_, rbool_res rfl _ _ w.heap.size true rfl ((rcell_put (by show w.heap.size ≠ W7.heap.size; omega) _).trans CX.out), rfl, rbel_put B8.out (by omega) _⟩
end Go.Proofs.YtjdfclbjmmmcfaaDoor
namespace Go.Proofs.YtjdfclbjmmmcfaaDoor
open Go.RowKit
def toB (l : List Int) : List UInt8 := l.map fun x => x.toNat.toUInt8
def ltL : List Int → List Int → Bool
  | [], [] => false
  | [], _ :: _ => true
  | _ :: _, [] => false
  | a :: la, b :: lb => if a < b then true else if b < a then false else ltL la lb
theorem byte_lt {a b : Int} (ha : 0 ≤ a ∧ a < 256) (hb : 0 ≤ b ∧ b < 256) : (a.toNat.toUInt8 < b.toNat.toUInt8) ↔ a < b := by
  rw [UInt8.lt_iff_toNat_lt]
  have e1 : a.toNat.toUInt8.toNat = a.toNat := by simp; omega
  have e2 : b.toNat.toUInt8.toNat = b.toNat := by simp; omega
  rw [e1, e2]
  omega
theorem cmp_ltL : ∀ (la lb : List Int), (∀ x ∈ la, 0 ≤ x ∧ x < 256) → (∀ x ∈ lb, 0 ≤ x ∧ x < 256) → decide (Lib.compareBytes (toB la) (toB lb) < 0) = ltL la lb
  | [], [], _, _ => rfl
  | [], _ :: _, _, _ => rfl
  | _ :: _, [], _, _ => rfl
  | a :: la, b :: lb, h1, h2 => by
    have ih := cmp_ltL la lb (fun x hx => h1 x (List.mem_cons_of_mem _ hx)) (fun x hx => h2 x (List.mem_cons_of_mem _ hx))
    have ha := h1 a (by simp)
    have hb := h2 b (by simp)
    simp only [toB, List.map_cons, Lib.compareBytes, ltL]
    by_cases hab : a < b
    · rw [if_pos ((byte_lt ha hb).2 hab), if_pos hab]; rfl
    · rw [if_neg (fun h => hab ((byte_lt ha hb).1 h)), if_neg hab]
      by_cases hba : b < a
      · rw [if_pos ((byte_lt hb ha).2 hba), if_pos hba]; rfl
      · rw [if_neg (fun h => hba ((byte_lt hb ha).1 h)), if_neg hba]
        exact ih
theorem run_loadOwn {P : Program} {w : World} : ∀ (xs : List Int) (a : Addr) (acc : ByteArray), (∀ (j : Nat) x, xs[j]? = some x → w.cell? (a.add j) = some (.int .u8 x)) →
    (Extern.Bytes.loadBytes a xs.length acc).run P w = .ok ⟨acc.data ++ (toB xs).toArray⟩ w
  | [], a, acc, _ => by simp [Extern.Bytes.loadBytes, toB]
  | x :: l, a, acc, h => by
    have h0 : w.cell? a = some (.int .u8 x) := by
      have := h 0 x rfl
      simpa [Addr.add] using this
    have ih := run_loadOwn (P := P) (w := w) l (a.add 1) (acc.push x.toNat.toUInt8) (fun j y hy => by
      have := h (j + 1) y (by simpa using hy)
      have e : (a.add 1).add j = a.add (j + 1) := by
        unfold Addr.add
        by_cases hj : j = 0
        · subst hj; simp
        · simp [hj]; omega
      rw [e]; exact this)
    simp only [List.length_cons, Extern.Bytes.loadBytes, Sem.run_bind, run_load, h0, Result.andThen]
    rw [ih]
    congr 1
    apply ByteArray.ext
    simp [ByteArray.push, toB]
theorem run_bytesOf_HB {P : Program} {w : World} {v : Value} {l : List Int} (h : HB w v l) : (Extern.Bytes.bytesOf v).run P w = .ok ⟨(toB l).toArray⟩ w := by
  obtain ⟨⟨p, c, rfl, _, _, _, h4⟩, _⟩ := h
  cases p with
  | none =>
    have e : l = [] := by
      apply Classical.byContradiction
      intro hne
      obtain ⟨b, off, e, _⟩ := h4 hne
      cases e
    subst e
    rfl
  | some a =>
    have := run_loadOwn (P := P) (w := w) l a .empty (fun j x hj => by
      have hjl : j < l.length := (List.getElem?_eq_some_iff.1 hj).1
      obtain ⟨b, off, e, hh⟩ := h4 (by intro e; subst e; simp at hjl)
      cases e
      rw [Go.WideShapes.add_plain, hh j hjl]
      simp [List.getD, hj])
    show (Extern.Bytes.loadBytes a l.length .empty).run P w = _
    rw [this]
    congr 1
    apply ByteArray.ext
    show (#[] : Array UInt8) ++ (toB l).toArray = (toB l).toArray
    simp
theorem run_compare_HB {P : Program} {w : World} {va vb : Value} {la lb : List Int} (ha : HB w va la) (hb : HB w vb lb) :
    (Extern.BytealgCompare.compare #[va, vb]).run P w = .ok (.int .i64 (Lib.compareBytes (toB la) (toB lb))) w := by
  change Sem.run P (do pure (goInt (Extern.BytealgCompare.cmp (← Extern.Bytes.bytesOf va) (← Extern.Bytes.bytesOf vb)))) w = _
  simp only [Sem.run_bind, Sem.run_pure, run_bytesOf_HB ha, run_bytesOf_HB hb, Result.andThen]
  rw [Lib.cmp_eq]
  rfl
set_option maxHeartbeats 1000000 in
set_option maxRecDepth 100000 in
theorem compare_any (w : World) (va vb : Value) (la lb : List Int) (ha : HB w va la) (hb : HB w vb lb) :
    Calls Tryd.prog 28 #[va, vb] w fun e w' => e = .returned (.int .i64 (Lib.compareBytes (toB la) (toB lb))) ∧ w' = w := by
  have hrun := run_compare_HB (P := Tryd.prog) ha hb
  obtain ⟨p1, c1, rfl, _, _⟩ := ha.open
  obtain ⟨p2, c2, rfl, _, _⟩ := hb.open
  go_enter Tryd.func28, Tryd.ntmps28
  go_wp2
  rw [run_callFunc_extern Tryd.func36 (by kernel_rfl) (by kernel_rfl) (by kernel_rfl) (e := Extern.BytealgCompare.compare) (by kernel_rfl), hrun]
  simp only [Result.andThen]
  rw [Oper.upon_value]
  go_wp2
  go_ret
  exact ⟨rfl, rfl⟩
set_option maxHeartbeats 1000000 in
theorem less_any (w : World) (va vb : Value) (la lb : List Int) (ha : HB w va la) (hb : HB w vb lb) :
    Calls Tryd.prog 18 #[va, vb] w fun e w' => e = .returned (.bool (ltL la lb)) ∧ w' = w := by
  have hd := cmp_ltL la lb ha.2 hb.2
  obtain ⟨z, HZ⟩ : ∃ z, Hid (ltL la lb = z) := ⟨_, rfl⟩
  rw [HZ.out] at hd ⊢
  have HA := hid ha
  have HBb := hid hb
  obtain ⟨p1, c1, rfl, _, _⟩ := ha.open
  obtain ⟨p2, c2, rfl, _, _⟩ := hb.open
  clear ha hb
  obtain ⟨y, HY⟩ : ∃ y, Hid (Lib.compareBytes (toB la) (toB lb) = y) := ⟨_, rfl⟩
  rw [HY.out] at hd
  have hc := compare_any w _ _ la lb HA.out HBb.out
  rw [HY.out] at hc
  have HC := hid hc
  clear hc
  go_enter Tryd.func18, Tryd.ntmps18
  go_wp2_with fail
  refine HC.out.mono ?_
  rintro e w' ⟨rfl, hw⟩
  have hw' := hw.symm
  subst hw'
  clear hw
  go_wp2
  go_ret
  exact ⟨by rfl, rfl⟩
theorem rot_bits2 (x n : Nat) (hx : x < 4294967296) : bits .or .u32 ((x : Int) / 2 ^ n) (IntKind.u32.wrap ((x : Int) * 2 ^ (32 - n))) = ((rot x n : Nat) : Int) := by
  have e1 : IntKind.u32.wrap ((x : Int) * 2 ^ (32 - n)) = ((x * 2 ^ (32 - n) % 4294967296 : Nat) : Int) := by
    rw [IntKind.wrap_u32, Int.natCast_emod, Int.natCast_mul, Int.natCast_pow]
    rfl
  have e2 : (x : Int) / 2 ^ n = ((x / 2 ^ n : Nat) : Int) := by rw [Int.natCast_ediv, Int.natCast_pow]; rfl
  rw [e1, e2, u32_or_nat _ _ (Nat.lt_of_le_of_lt (Nat.div_le_self _ _) hx) (Nat.mod_lt _ (by decide)), Nat.or_comm]
  rfl
set_option maxRecDepth 100000 in
set_option maxHeartbeats 1000000 in
theorem rturn_6 (w : World) (x : Nat) (hx : x < 4294967296) : Calls Tryd.prog 83 #[.int .u32 (x : Int), .int .u64 6] w fun e w' => e = .returned (.int .u32 ((rot x 6 : Nat) : Int)) ∧ w' = w := by
  have HR := hid (rot_bits2 x 6 hx)
  go_enter Tryd.func83, Tryd.ntmps83
  go_wp2
  go_ret
  refine ⟨?_, rfl⟩
  rw [← HR.out]
  rfl
set_option maxRecDepth 100000 in
set_option maxHeartbeats 1000000 in
theorem rturn_11 (w : World) (x : Nat) (hx : x < 4294967296) : Calls Tryd.prog 83 #[.int .u32 (x : Int), .int .u64 11] w fun e w' => e = .returned (.int .u32 ((rot x 11 : Nat) : Int)) ∧ w' = w := by
  have HR := hid (rot_bits2 x 11 hx)
  go_enter Tryd.func83, Tryd.ntmps83
  go_wp2
  go_ret
  refine ⟨?_, rfl⟩
  rw [← HR.out]
  rfl
set_option maxRecDepth 100000 in
set_option maxHeartbeats 1000000 in
theorem rturn_25 (w : World) (x : Nat) (hx : x < 4294967296) : Calls Tryd.prog 83 #[.int .u32 (x : Int), .int .u64 25] w fun e w' => e = .returned (.int .u32 ((rot x 25 : Nat) : Int)) ∧ w' = w := by
  have HR := hid (rot_bits2 x 25 hx)
  go_enter Tryd.func83, Tryd.ntmps83
  go_wp2
  go_ret
  refine ⟨?_, rfl⟩
  rw [← HR.out]
  rfl
set_option maxRecDepth 100000 in
set_option maxHeartbeats 1000000 in
theorem rturn_2 (w : World) (x : Nat) (hx : x < 4294967296) : Calls Tryd.prog 83 #[.int .u32 (x : Int), .int .u64 2] w fun e w' => e = .returned (.int .u32 ((rot x 2 : Nat) : Int)) ∧ w' = w := by
  have HR := hid (rot_bits2 x 2 hx)
  go_enter Tryd.func83, Tryd.ntmps83
  go_wp2
  go_ret
  refine ⟨?_, rfl⟩
  rw [← HR.out]
  rfl
set_option maxRecDepth 100000 in
set_option maxHeartbeats 1000000 in
theorem rturn_13 (w : World) (x : Nat) (hx : x < 4294967296) : Calls Tryd.prog 83 #[.int .u32 (x : Int), .int .u64 13] w fun e w' => e = .returned (.int .u32 ((rot x 13 : Nat) : Int)) ∧ w' = w := by
  have HR := hid (rot_bits2 x 13 hx)
  go_enter Tryd.func83, Tryd.ntmps83
  go_wp2
  go_ret
  refine ⟨?_, rfl⟩
  rw [← HR.out]
  rfl
set_option maxRecDepth 100000 in
set_option maxHeartbeats 1000000 in
theorem rturn_22 (w : World) (x : Nat) (hx : x < 4294967296) : Calls Tryd.prog 83 #[.int .u32 (x : Int), .int .u64 22] w fun e w' => e = .returned (.int .u32 ((rot x 22 : Nat) : Int)) ∧ w' = w := by
  have HR := hid (rot_bits2 x 22 hx)
  go_enter Tryd.func83, Tryd.ntmps83
  go_wp2
  go_ret
  refine ⟨?_, rfl⟩
  rw [← HR.out]
  rfl
set_option maxRecDepth 100000 in
set_option maxHeartbeats 1000000 in
theorem rturn_7 (w : World) (x : Nat) (hx : x < 4294967296) : Calls Tryd.prog 83 #[.int .u32 (x : Int), .int .u64 7] w fun e w' => e = .returned (.int .u32 ((rot x 7 : Nat) : Int)) ∧ w' = w := by
  have HR := hid (rot_bits2 x 7 hx)
  go_enter Tryd.func83, Tryd.ntmps83
  go_wp2
  go_ret
  refine ⟨?_, rfl⟩
  rw [← HR.out]
  rfl
set_option maxRecDepth 100000 in
set_option maxHeartbeats 1000000 in
theorem rturn_18 (w : World) (x : Nat) (hx : x < 4294967296) : Calls Tryd.prog 83 #[.int .u32 (x : Int), .int .u64 18] w fun e w' => e = .returned (.int .u32 ((rot x 18 : Nat) : Int)) ∧ w' = w := by
  have HR := hid (rot_bits2 x 18 hx)
  go_enter Tryd.func83, Tryd.ntmps83
  go_wp2
  go_ret
  refine ⟨?_, rfl⟩
  rw [← HR.out]
  rfl
set_option maxRecDepth 100000 in
set_option maxHeartbeats 1000000 in
theorem rturn_17 (w : World) (x : Nat) (hx : x < 4294967296) : Calls Tryd.prog 83 #[.int .u32 (x : Int), .int .u64 17] w fun e w' => e = .returned (.int .u32 ((rot x 17 : Nat) : Int)) ∧ w' = w := by
  have HR := hid (rot_bits2 x 17 hx)
  go_enter Tryd.func83, Tryd.ntmps83
  go_wp2
  go_ret
  refine ⟨?_, rfl⟩
  rw [← HR.out]
  rfl
set_option maxRecDepth 100000 in
set_option maxHeartbeats 1000000 in
theorem rturn_19 (w : World) (x : Nat) (hx : x < 4294967296) : Calls Tryd.prog 83 #[.int .u32 (x : Int), .int .u64 19] w fun e w' => e = .returned (.int .u32 ((rot x 19 : Nat) : Int)) ∧ w' = w := by
  have HR := hid (rot_bits2 x 19 hx)
  go_enter Tryd.func83, Tryd.ntmps83
  go_wp2
  go_ret
  refine ⟨?_, rfl⟩
  rw [← HR.out]
  rfl
def partW (l : List Int) (I : Nat) : Nat → Nat
  | 0 => 0
  | J + 1 => partW l I J * 256 + (l.getD (4 * I + J) 0).toNat
theorem partW_four (l : List Int) (I : Nat) : partW l I 4 = beW l I := by
  simp only [partW, beW, Nat.add_zero]
  omega
theorem partW_lt {l : List Int} (h : ∀ x ∈ l, 0 ≤ x ∧ x < 256) (I : Nat) : ∀ J, partW l I J < 256 ^ J
  | 0 => by simp [partW]
  | J + 1 => by
    have h1 := partW_lt h I J
    have h2 := byte_nat h (4 * I + J)
    simp only [partW, Nat.pow_succ]
    omega
theorem curWs_zero (l : List Int) (I : Nat) (hI : I < 64) : (curWs l I).set I 0 = curWs l I := by
  unfold curWs
  have hl : (wordsTo l I).length = I := wordsTo_length l I
  rw [List.set_append_right _ _ (by omega), hl, Nat.sub_self, show 64 - I = (63 - I) + 1 by omega, List.replicate_succ, List.set_cons_zero]
set_option maxRecDepth 100000 in
set_option maxHeartbeats 4000000 in
theorem rwords_any (w : World) (l : List Int) (hl : l.length = 64) (hby : ∀ x ∈ l, 0 ≤ x ∧ x < 256) :
    Calls Tryd.prog 81 #[.agg (cellsB l)] w fun e w' => e = .returned (.agg (cellsW (wordsTo l 64))) ∧ Below w.heap.size w w' := by
  obtain ⟨z, HZ⟩ : ∃ z, Hid (cellsW (zerosW 64) = z) := ⟨_, rfl⟩
  have hz := zero_w64
  rw [HZ.out] at hz
  have HZ0 := hid hz
  obtain ⟨bl, HBL⟩ : ∃ bl, Hid (cellsB l = bl) := ⟨_, rfl⟩
  rw [HBL.out]
  clear hz
  go_enter Tryd.func81, Tryd.ntmps81
  go_wp2_with (refine wpList_alloc_agg HZ0.out rfl rfl ?_)
  obtain ⟨W0, hW0⟩ : ∃ W0, Hid (((w.alloc (.cells bl 104)).alloc (.cells z 115)).alloc (.cells z 115) = W0) := ⟨_, rfl⟩
  rw [hW0.out]
  have HB0 : Hid (Below w.heap.size w W0) := by rw [← hW0.out]; exact (((Below.refl _ w).alloc (Nat.le_refl _) _).alloc (by simp) _).alloc (by simp; omega) _
  have HS0 : Hid (W0.heap.size = w.heap.size + 3) := by rw [← hW0.out]; show _ = _; simp
  have H0 : Hid (W0.heap[w.heap.size]? = some (.cells bl 104 (0, 0))) := by
    rw [← hW0.out]
    exact (Below.heap_alloc _ _ _ (by simp; omega)).trans ((Below.heap_alloc _ _ _ (by simp)).trans (heap_alloc_new w _))
  have H1 : Hid (W0.heap[w.heap.size + 1]? = some (.cells z 115 (0, 0))) := by
    rw [← hW0.out]
    refine (Below.heap_alloc _ _ _ (by simp)).trans ?_
    have := heap_alloc_new (w.alloc (.cells bl 104)) (.cells z 115)
    rwa [World.size_alloc] at this
  have H2 : Hid (W0.heap[w.heap.size + 2]? = some (.cells (cellsW (curWs l 0)) 115 (0, 0))) := by
    have := heap_alloc_new ((w.alloc (.cells bl 104)).alloc (.cells z 115)) (.cells z 115)
    rw [World.size_alloc, World.size_alloc, hW0.out, ← HZ.out] at this
    exact this
  clear hW0
  go_loopw [4] (fun i wr => ∃ I : Nat, I ≤ 16 ∧ i = .int .i64 I ∧ Hid (wr.heap[w.heap.size + 2]? = some (.cells (cellsW (curWs l I)) 115 (0, 0))) ∧ Hid (W0.grownBy wr (some (w.heap.size + 2)))) (fun i _ => 16 - (intOf i).toNat)
  case atStart => exact ⟨0, Nat.zero_le _, rfl, H2, ⟨rfl, rfl, rfl, Nat.le_refl _, fun _ _ _ => rfl⟩⟩
  case round =>
    obtain ⟨I, hI, rfl, HF, HG⟩ := hrel
    obtain ⟨wo, rfl⟩ : ∃ wo, wo = wr := ⟨_, rfl⟩
    by_cases hlt : I < 16
    · have HF0 : Hid (wo.heap[w.heap.size + 2]? = some (.cells (cellsW ((curWs l I).set I (partW l I 0))) 115 (0, 0))) := by
        rw [show partW l I 0 = 0 from rfl, curWs_zero l I (by omega)]
        exact HF
      go_wp2
      go_loopw [5] (fun i wq => ∃ J : Nat, J ≤ 4 ∧ i = .int .i64 J ∧ Hid (wq.heap[w.heap.size + 2]? = some (.cells (cellsW ((curWs l I).set I (partW l I J))) 115 (0, 0))) ∧ Hid (W0.grownBy wq (some (w.heap.size + 2)))) (fun i _ => 4 - (intOf i).toNat)
      case atStart => exact ⟨0, Nat.zero_le _, rfl, HF0, HG⟩
      case round =>
        clear HF HG HF0
        obtain ⟨J, hJ, rfl, HF, HG⟩ := hrel
        by_cases hlj : J < 4
        · have hb := (HG.out.block w.heap.size (by rw [HS0.out]; omega) (by simp)).trans H0.out
          have hlj2 : 4 * I + J < l.length := by omega
          obtain ⟨a, HA⟩ : ∃ a, Hid ((l.getD (4 * I + J) 0).toNat = a) := ⟨_, rfl⟩
          have ha : a < 256 := by rw [← HA.out]; exact byte_nat hby _
          have ca : wr.cell? ⟨w.heap.size, 4 * I + J, none⟩ = some (.int .u8 (a : Int)) := by
            rw [cell_of_row wr w.heap.size _ _ _ _ hb, ← HBL.out, ← HA.out]
            have := hby _ (List.getElem_mem hlj2)
            simp only [cellsB, List.getElem?_toArray, List.getElem?_map, List.getElem?_eq_getElem hlj2, Option.map_some, getD_of_lt hlj2]
            congr 2
            omega
          obtain ⟨x, HX⟩ : ∃ x, Hid (partW l I J = x) := ⟨_, rfl⟩
          have hx : x < 16777216 := by
            rw [← HX.out]
            exact Nat.lt_of_lt_of_le (partW_lt hby I J) (Nat.pow_le_pow_right (by decide) (show J ≤ 3 by omega))
          rw [HX.out] at HF
          have HN : Hid (partW l I (J + 1) = x * 256 + a) := by show _ = _; simp only [partW]; rw [HX.out, HA.out]
          have hcx : wr.cell? ⟨w.heap.size + 2, I, none⟩ = some (.int .u32 (x : Int)) := by
            rw [cell_of_row wr (w.heap.size + 2) I _ _ _ HF.out, cellsW_get (by rw [List.length_set, curWs_length l I (by omega)]; omega)]
            simp [List.getD, curWs_length l I (show I ≤ 64 by omega), show I < 64 by omega]
          have hfz : wr.frozen? ⟨w.heap.size + 2, I, none⟩ = false := by simp [World.frozen?, HF.out]
          clear hb
          go_wp2
          go_region
          all_goals go_wp2
          refine ⟨⟨J + 1, by omega, by go_num, ?_, grown_tr HG.out (grown_setd _ _ _ _)⟩, by simp [intOf]; omega⟩
          show _ = _
          rw [HN.out, ← List.set_set (a := x), ← cellsW_set _ I (x * 256 + a)]
          rw [show ((x * 256 + a : Nat) : Int) = (x : Int) * 256 + (a : Int) by omega]
          exact heap_setCell_same _ (w.heap.size + 2) I _ _ _ HF.out
        · have hJ4 : J = 4 := by omega
          subst hJ4
          have HST : Hid ((curWs l I).set I (partW l I 4) = curWs l (I + 1)) := by
            show _ = _
            rw [partW_four, ← curWs_step l I (by omega)]
            unfold nextW
            rw [if_pos hlt]
          rw [HST.out] at HF
          go_wp2
          exact ⟨⟨I + 1, by omega, by go_num, HF, HG⟩, by simp [intOf]; omega⟩
    · have hI16 : I = 16 := by omega
      rw [hI16] at HF
      clear hI16
      go_wp2
      clear hlt
      go_loopw [6] (fun i wq => ∃ I : Nat, 16 ≤ I ∧ I ≤ 64 ∧ i = .int .i64 I ∧ Hid (wq.heap[w.heap.size + 2]? = some (.cells (cellsW (curWs l I)) 115 (0, 0))) ∧ Hid (W0.grownBy wq (some (w.heap.size + 2)))) (fun i _ => 64 - (intOf i).toNat)
      case atStart => exact ⟨16, Nat.le_refl _, by decide, rfl, HF, HG⟩
      case round =>
        clear HF HG hI
        obtain ⟨I, hI16, hI, rfl, HF, HG⟩ := hrel
        by_cases hlt : I < 64
        · have cell : ∀ j, j < I → ∃ a : Nat, a < 4294967296 ∧ wr.cell? ⟨w.heap.size + 2, j, none⟩ = some (.int .u32 (a : Int)) ∧ (wordsTo l I).getD j 0 = a := fun j hj => by
            refine ⟨_, getW_lt (wordsTo_lt hby I) j, ?_, rfl⟩
            rw [cell_of_row wr (w.heap.size + 2) j _ _ _ HF.out, cellsW_get (by rw [curWs_length l I hI]; omega), curWs_get l I j hj]
          obtain ⟨a2, ha2, c2, e2⟩ := cell (I - 2) (by omega)
          obtain ⟨a7, ha7, c7, e7⟩ := cell (I - 7) (by omega)
          obtain ⟨a15, ha15, c15, e15⟩ := cell (I - 15) (by omega)
          obtain ⟨a16, ha16, c16, e16⟩ := cell (I - 16) (by omega)
          have HV : Hid (nextW l (wordsTo l I) I = add32 (add32 (add32 (sig1 a2) a7) (sig0 a15)) a16) := by
            show _ = _
            unfold nextW
            rw [if_neg (by omega), e2, e7, e15, e16]
          have hci : wr.cell? ⟨w.heap.size + 2, I, none⟩ = some (.int .u32 (((curWs l I).getD I 0 : Nat) : Int)) := by
            rw [cell_of_row wr (w.heap.size + 2) I _ _ _ HF.out]
            exact cellsW_get (by rw [curWs_length l I (by omega)]; omega)
          obtain ⟨old, HOLD⟩ : ∃ old, Hid ((curWs l I).getD I 0 = old) := ⟨_, rfl⟩
          rw [HOLD.out] at hci
          have hfz : wr.frozen? ⟨w.heap.size + 2, I, none⟩ = false := by simp [World.frozen?, HF.out]
          have n2 : ((I : Int) - 2) = ((I - 2 : Nat) : Int) := by omega
          have n7 : ((I : Int) - 7) = ((I - 7 : Nat) : Int) := by omega
          have n15 : ((I : Int) - 15) = ((I - 15 : Nat) : Int) := by omega
          have n16 : ((I : Int) - 16) = ((I - 16 : Nat) : Int) := by omega
          clear cell e2 e7 e15 e16
          have HS0 := hid (sig0_bits a15 ha15)
          have HS1 := hid (sig1_bits a2 ha2)
          go_wp2_with fail
          refine (rturn_7 _ a15 ha15).mono ?_
          rintro e w' ⟨rfl, hw⟩
          subst hw
          go_wp2_with fail
          refine (rturn_18 _ a15 ha15).mono ?_
          rintro e w' ⟨rfl, hw⟩
          subst hw
          go_wp2_with fail
          rw [HS0.out]
          refine (rturn_17 _ a2 ha2).mono ?_
          rintro e w' ⟨rfl, hw⟩
          subst hw
          go_wp2_with fail
          refine (rturn_19 _ a2 ha2).mono ?_
          rintro e w' ⟨rfl, hw⟩
          subst hw
          go_wp2_with fail
          rw [HS1.out]
          go_region
          all_goals go_wp2
          have HADD : Hid ((((sig1 a2 : Nat) : Int) + (a7 : Int) + ((sig0 a15 : Nat) : Int) + (a16 : Int)) % 4294967296 = ((add32 (add32 (add32 (sig1 a2) a7) (sig0 a15)) a16 : Nat) : Int)) := by
            show _ = _
            unfold add32
            omega
          refine ⟨⟨I + 1, by omega, by omega, by go_num, ?_, grown_tr HG.out (grown_setd _ _ _ _)⟩, by simp [intOf]; omega⟩
          show _ = _
          rw [← curWs_step l I (by omega), HV.out, ← cellsW_set, HADD.out]
          exact heap_setCell_same _ (w.heap.size + 2) I _ _ _ HF.out
        · have hI64 : I = 64 := by omega
          subst hI64
          have HWW : Hid (curWs l 64 = wordsTo l 64) := by show _ = _; simp [curWs]
          rw [HWW.out] at HF
          obtain ⟨y, HY⟩ : ∃ y, Hid (cellsW (wordsTo l 64) = y) := ⟨_, rfl⟩
          rw [HY.out] at HF
          have hys : y.size = 64 := by rw [← HY.out, cellsW_size, wordsTo_length]
          have HIy : Hid ((Tryd.prog.info? 115).map (·.size) = some y.size) := by rw [hys]; exact size_w64
          have H1y : Hid (y.all (·.oneCell') = true) := by rw [← HY.out]; exact cellsW_one _
          have HF1c : Hid (wr.heap[w.heap.size + 1]? = some (.cells z 115 (0, 0))) := by
            rw [HG.out.block (w.heap.size + 1) (by rw [HS0.out]; omega) (by simp)]
            exact H1
          have HZY : Hid (z.size = y.size) := by rw [hys, ← HZ.out, cellsW_size, zerosW_length]; exact rfl
          have HB1 := hid (below_setRow (HB0.out.grown HG.out (by rw [HS0.out]; omega) (fun k e => by cases e; omega)) (g := w.heap.size + 1) (by omega) y)
          clear hys hlt
          go_wp2_with (first | (refine wpList_load_row rfl 115 _ rfl (w.heap.size + 2) rfl 115 y (0, 0) _ HF.out Tryd.underlying115 rfl HIy.out ?_) | (refine wpList_store_row rfl 115 _ _ rfl (w.heap.size + 1) y rfl rfl 115 _ HF1c.out HIy.out HZY.out H1y.out ?_))
          refine bodyPost_ret (v := .agg y) (results_cell_row (p := 2) (ty := 115) rfl _ _ (w.heap.size + 1) 115 y (0, 0) _ rfl (setRow_heap _ _ _ _ _ _ HF1c.out) Tryd.underlying115 rfl HIy.out) rfl ?_
          rw [HY.out]
          exact ⟨rfl, HB1.out⟩
set_option maxRecDepth 100000 in
set_option maxHeartbeats 1000000 in
theorem rinitial_any (w : World) : Calls Tryd.prog 71 #[] w fun e w' => e = .returned (.agg (cellsW iv)) ∧ Below w.heap.size w w' := by
  obtain ⟨z8, HZ8⟩ : ∃ z8, Hid (cellsW (zerosW 8) = z8) := ⟨_, rfl⟩
  have hz8 := zero_w8
  rw [HZ8.out] at hz8
  have HZ1 := hid hz8
  have HIm : Hid ((Tryd.prog.info? 102).map (·.size) = some (cellsW iv).size) := size_w8
  have H1m : Hid ((cellsW iv).all (·.oneCell') = true) := cellsW_one _
  have HZM : Hid (z8.size = (cellsW iv).size) := by rw [← HZ8.out, cellsW_size, zerosW_length]; exact rfl
  have HR : Hid ((w.alloc (.cells z8 102)).heap[w.heap.size]? = some (.cells z8 102 (0, 0))) := heap_alloc_new w _
  have HB := hid (below_setRow ((Below.refl _ w).alloc (Nat.le_refl _) (.cells z8 102)) (g := w.heap.size) (Nat.le_refl _) (cellsW iv))
  clear hz8
  go_enter Tryd.func71, Tryd.ntmps71
  go_wp2_with (first | (refine wpList_alloc_agg HZ1.out rfl rfl ?_) | (refine wpList_store_row rfl 102 _ _ rfl w.heap.size (cellsW iv) rfl rfl 102 _ HR.out HIm.out HZM.out H1m.out ?_))
  refine bodyPost_ret (v := .agg (cellsW iv)) (results_cell_row (p := 0) (ty := 102) rfl _ _ w.heap.size 102 (cellsW iv) (0, 0) _ rfl (setRow_heap _ _ _ _ _ _ HR.out) Tryd.underlying102 rfl HIm.out) rfl ?_
  exact ⟨rfl, HB.out⟩
set_option maxRecDepth 100000 in
set_option maxHeartbeats 1000000 in
theorem rconst_any (w : World) : Calls Tryd.prog 82 #[] w fun e w' => e = .returned (.agg (cellsW kW)) ∧ Below w.heap.size w w' := by
  obtain ⟨z8, HZ8⟩ : ∃ z8, Hid (cellsW (zerosW 64) = z8) := ⟨_, rfl⟩
  have hz8 := zero_w64
  rw [HZ8.out] at hz8
  have HZ1 := hid hz8
  have HIm : Hid ((Tryd.prog.info? 115).map (·.size) = some (cellsW kW).size) := size_w64
  have H1m : Hid ((cellsW kW).all (·.oneCell') = true) := cellsW_one _
  have HZM : Hid (z8.size = (cellsW kW).size) := by rw [← HZ8.out, cellsW_size, zerosW_length]; exact rfl
  have HR : Hid ((w.alloc (.cells z8 115)).heap[w.heap.size]? = some (.cells z8 115 (0, 0))) := heap_alloc_new w _
  have HB := hid (below_setRow ((Below.refl _ w).alloc (Nat.le_refl _) (.cells z8 115)) (g := w.heap.size) (Nat.le_refl _) (cellsW kW))
  clear hz8
  go_enter Tryd.func82, Tryd.ntmps82
  go_wp2_with (first | (refine wpList_alloc_agg HZ1.out rfl rfl ?_) | (refine wpList_store_row rfl 115 _ _ rfl w.heap.size (cellsW kW) rfl rfl 115 _ HR.out HIm.out HZM.out H1m.out ?_))
  refine bodyPost_ret (v := .agg (cellsW kW)) (results_cell_row (p := 0) (ty := 115) rfl _ _ w.heap.size 115 (cellsW kW) (0, 0) _ rfl (setRow_heap _ _ _ _ _ _ HR.out) Tryd.underlying115 rfl HIm.out) rfl ?_
  exact ⟨rfl, HB.out⟩
theorem rturn_i (w : World) (x : Nat) (i : Int) (hx : x < 4294967296) (hi : i = 6 ∨ i = 11 ∨ i = 25 ∨ i = 2 ∨ i = 13 ∨ i = 22) : Calls Tryd.prog 83 #[.int .u32 (x : Int), .int .u64 i] w fun e w' => e = .returned (.int .u32 ((rot x i.toNat : Nat) : Int)) ∧ w' = w := by
  rcases hi with rfl | rfl | rfl | rfl | rfl | rfl
  · exact rturn_6 w x hx
  · exact rturn_11 w x hx
  · exact rturn_25 w x hx
  · exact rturn_2 w x hx
  · exact rturn_13 w x hx
  · exact rturn_22 w x hx
theorem grown_setRow2 (w : World) (g : Nat) (cs : Array Value) : w.grownBy (w.setRow g cs) (some g) :=
  ⟨rfl, rfl, rfl, by simp [World.setRow], fun i _ hne => by
    have h1 : g ≠ i := fun e => hne (by rw [e])
    simp [World.setRow, Array.getElem?_modify, h1]⟩
theorem rnd_open {k x a b c d e f g h : Nat} : rnd k x [a, b, c, d, e, f, g, h] = [((h + bs1 e + chW e f g + k + x) % 4294967296 + (bs0 a + majW a b c) % 4294967296) % 4294967296, a, b, c, (d + (h + bs1 e + chW e f g + k + x) % 4294967296) % 4294967296, e, f, g] := rfl
set_option maxRecDepth 100000 in
set_option maxHeartbeats 4000000 in
theorem rmix_core (w : World) (hs ws : List Nat) (l : List Int) (h8 : W8 hs) (hl : l.length = 64) (hwl : ws.length = 64) (hwb : ∀ x ∈ ws, x < 4294967296)
    (hS : ∀ W, Calls Tryd.prog 81 #[.agg (cellsB l)] W fun e w' => e = .returned (.agg (cellsW ws)) ∧ Below W.heap.size W w') :
    Calls Tryd.prog 72 #[.agg (cellsW hs), .agg (cellsB l)] w fun e w' => e = .returned (.agg (cellsW (List.zipWith add32 hs (rnds hs ws 64)))) ∧ Below w.heap.size w w' := by
  obtain ⟨z, HZ⟩ : ∃ z, Hid (cellsW (zerosW 64) = z) := ⟨_, rfl⟩
  obtain ⟨z8, HZ8⟩ : ∃ z8, Hid (cellsW (zerosW 8) = z8) := ⟨_, rfl⟩
  have hz := zero_w64
  rw [HZ.out] at hz
  have HZ0 := hid hz
  have hz8 := zero_w8
  rw [HZ8.out] at hz8
  have HZ1 := hid hz8
  obtain ⟨bl, HBL⟩ : ∃ bl, Hid (cellsB l = bl) := ⟨_, rfl⟩
  obtain ⟨hw, HHW⟩ : ∃ hw, Hid (cellsW hs = hw) := ⟨_, rfl⟩
  obtain ⟨kc, HKC⟩ : ∃ kc, Hid (cellsW kW = kc) := ⟨_, rfl⟩
  rw [HBL.out, HHW.out]
  have HWB := hid hwb
  clear hz hz8 hwb
  obtain ⟨W0, hW0⟩ : ∃ W0, Hid (((w.alloc (.cells hw 102)).alloc (.cells bl 104)).alloc (.cells z8 102) = W0) := ⟨_, rfl⟩
  have HB0 : Hid (Below w.heap.size w W0) := by rw [← hW0.out]; exact (((Below.refl _ w).alloc (Nat.le_refl _) _).alloc (by simp) _).alloc (by simp; omega) _
  have hS0 : W0.heap.size = w.heap.size + 3 := by rw [← hW0.out]; simp
  have H0 : Hid (W0.heap[w.heap.size]? = some (.cells hw 102 (0, 0))) := by
    rw [← hW0.out]
    exact (Below.heap_alloc _ _ _ (by simp; omega)).trans ((Below.heap_alloc _ _ _ (by simp)).trans (heap_alloc_new w _))
  have H1 : Hid (W0.heap[w.heap.size + 1]? = some (.cells bl 104 (0, 0))) := by
    rw [← hW0.out]
    refine (Below.heap_alloc _ _ _ (by simp)).trans ?_
    have := heap_alloc_new (w.alloc (.cells hw 102)) (.cells bl 104)
    rwa [World.size_alloc] at this
  have H2 : Hid (W0.heap[w.heap.size + 2]? = some (.cells z8 102 (0, 0))) := by
    have := heap_alloc_new ((w.alloc (.cells hw 102)).alloc (.cells bl 104)) (.cells z8 102)
    rw [World.size_alloc, World.size_alloc, hW0.out] at this
    exact this
  have hbs : bl.size = 64 := by rw [← HBL.out, cellsB_size, hl]
  have HIb : Hid ((Tryd.prog.info? 104).map (·.size) = some bl.size) := by rw [hbs]; exact size_b64
  have CS := hS W0
  clear hS
  rw [HBL.out] at CS
  obtain ⟨y, HY⟩ : ∃ y, Hid (cellsW ws = y) := ⟨_, rfl⟩
  rw [HY.out] at CS
  have C1 := hid CS
  have hys : y.size = 64 := by rw [← HY.out, cellsW_size, hwl]
  have HIy : Hid ((Tryd.prog.info? 115).map (·.size) = some y.size) := by rw [hys]; exact size_w64
  have H1y : Hid (y.all (·.oneCell') = true) := by rw [← HY.out]; exact cellsW_one _
  have HZY : Hid (z.size = y.size) := by rw [hys, ← HZ.out, cellsW_size, zerosW_length]; exact rfl
  have hks : kc.size = 64 := by rw [← HKC.out, cellsW_size]; rfl
  have HIk : Hid ((Tryd.prog.info? 115).map (·.size) = some kc.size) := by rw [hks]; exact size_w64
  have H1k : Hid (kc.all (·.oneCell') = true) := by rw [← HKC.out]; exact cellsW_one _
  have HZK : Hid (z.size = kc.size) := by rw [hks, ← HZ.out, cellsW_size, zerosW_length]; exact rfl
  have hhs : hw.size = 8 := by rw [← HHW.out, cellsW_size, h8.1]
  have HIh : Hid ((Tryd.prog.info? 102).map (·.size) = some hw.size) := by rw [hhs]; exact size_w8
  have H1h : Hid (hw.all (·.oneCell') = true) := by rw [← HHW.out]; exact cellsW_one _
  have HZH : Hid (z8.size = hw.size) := by rw [hhs, ← HZ8.out, cellsW_size, zerosW_length]; exact rfl
  clear CS hbs hys hks hhs
  go_enter Tryd.func72, Tryd.ntmps72
  go_wp2_with (first | (refine wpList_alloc_agg HZ1.out rfl rfl ?_; rw [hW0.out]) | refine wpList_load_row rfl 104 _ rfl (w.heap.size + 1) rfl 104 bl (0, 0) _ H1.out Tryd.underlying104 rfl HIb.out ?_)
  refine C1.out.mono ?_
  rintro e w1 ⟨rfl, hB1⟩
  have HF1 : Hid ((w1.alloc (.cells z 115)).heap[w1.heap.size]? = some (.cells z 115 (0, 0))) := heap_alloc_new w1 _
  have HB1 := hid hB1
  have hs1 := hB1.size
  clear hB1 C1
  obtain ⟨W2, hW2⟩ : ∃ W2, Hid ((w1.alloc (.cells z 115)).setRow w1.heap.size y = W2) := ⟨_, rfl⟩
  have HB2 : Hid (Below W0.heap.size W0 W2) := by
    rw [← hW2.out]
    exact below_setRow (HB1.out.alloc hs1 _) hs1 y
  have HY2 : Hid (W2.heap[w1.heap.size]? = some (.cells y 115 (0, 0))) := by
    rw [← hW2.out]
    exact setRow_heap _ _ _ _ _ _ HF1.out
  have hS2 : W2.heap.size = w1.heap.size + 1 := by rw [← hW2.out]; simp [World.setRow]
  have CK := hid (rconst_any W2)
  rw [HKC.out] at CK
  go_wp2_with (first | (refine wpList_alloc_agg HZ0.out rfl rfl ?_) | (refine wpList_store_row rfl 115 _ _ rfl w1.heap.size y rfl rfl 115 _ HF1.out HIy.out HZY.out H1y.out ?_; rw [hW2.out]))
  refine CK.out.mono ?_
  rintro e w3 ⟨rfl, hB3⟩
  have hs3 := hB3.size
  have HB3 : Hid (Below W0.heap.size W0 w3) := HB2.out.trans (hB3.mono HB2.out.size)
  have HY3 : Hid (w3.heap[w1.heap.size]? = some (.cells y 115 (0, 0))) := (hB3.block _ (by omega)).trans HY2.out
  have HF3 : Hid ((w3.alloc (.cells z 115)).heap[w3.heap.size]? = some (.cells z 115 (0, 0))) := heap_alloc_new w3 _
  obtain ⟨W4, hW4⟩ : ∃ W4, Hid ((w3.alloc (.cells z 115)).setRow w3.heap.size kc = W4) := ⟨_, rfl⟩
  have HB34 : Hid (Below w3.heap.size w3 W4) := by rw [← hW4.out]; exact below_setRow ((Below.refl _ w3).alloc (Nat.le_refl _) _) (Nat.le_refl _) kc
  have HB4 : Hid (Below W0.heap.size W0 W4) := HB3.out.trans (HB34.out.mono HB3.out.size)
  have HK4 : Hid (W4.heap[w3.heap.size]? = some (.cells kc 115 (0, 0))) := by rw [← hW4.out]; exact setRow_heap _ _ _ _ _ _ HF3.out
  have HY4 : Hid (W4.heap[w1.heap.size]? = some (.cells y 115 (0, 0))) := (HB34.out.block _ (by omega)).trans HY3.out
  have hS4 : W4.heap.size = w3.heap.size + 1 := by rw [← hW4.out]; simp [World.setRow]
  have HH4 : Hid (W4.heap[w.heap.size]? = some (.cells hw 102 (0, 0))) := (HB4.out.block w.heap.size (by omega)).trans H0.out
  have HR4 : Hid (W4.heap[w.heap.size + 2]? = some (.cells z8 102 (0, 0))) := (HB4.out.block (w.heap.size + 2) (by omega)).trans H2.out
  have HF5 : Hid ((W4.alloc (.cells z8 102)).heap[W4.heap.size]? = some (.cells z8 102 (0, 0))) := heap_alloc_new W4 _
  obtain ⟨W6, hW6⟩ : ∃ W6, Hid ((W4.alloc (.cells z8 102)).setRow W4.heap.size hw = W6) := ⟨_, rfl⟩
  have HB46 : Hid (Below W4.heap.size W4 W6) := by rw [← hW6.out]; exact below_setRow ((Below.refl _ W4).alloc (Nat.le_refl _) _) (Nat.le_refl _) hw
  have HS6 : Hid (W6.heap[W4.heap.size]? = some (.cells (cellsW (rnds hs ws 0)) 102 (0, 0))) := by
    rw [← hW6.out, show cellsW (rnds hs ws 0) = hw from HHW.out]
    exact setRow_heap _ _ _ _ _ _ HF5.out
  have hS6 : W6.heap.size = W4.heap.size + 1 := by rw [← hW6.out]; simp [World.setRow]
  clear hB3 CK hW2 HF1
  go_wp2_with (first | (refine wpList_alloc_agg HZ0.out rfl rfl ?_) | (refine wpList_alloc_agg HZ1.out rfl rfl ?_) | (refine wpList_store_row rfl 115 _ _ rfl w3.heap.size kc rfl rfl 115 _ HF3.out HIk.out HZK.out H1k.out ?_; rw [hW4.out]) | (refine wpList_load_row rfl 102 _ rfl w.heap.size rfl 102 hw (0, 0) _ HH4.out Tryd.underlying102 rfl HIh.out ?_) | (refine wpList_store_row rfl 102 _ _ rfl W4.heap.size hw rfl rfl 102 _ HF5.out HIh.out HZH.out H1h.out ?_; rw [hW6.out]))
  clear hW4 hW6 HF3 HF5
  rw [hS4] at HS6 hS6 HB46
  have HH6 : Hid (W6.heap[w.heap.size]? = some (.cells hw 102 (0, 0))) := (HB46.out.block _ (by omega)).trans HH4.out
  have HR6 : Hid (W6.heap[w.heap.size + 2]? = some (.cells z8 102 (0, 0))) := (HB46.out.block _ (by omega)).trans HR4.out
  have HY6 : Hid (W6.heap[w1.heap.size]? = some (.cells y 115 (0, 0))) := (HB46.out.block _ (by omega)).trans HY4.out
  have HK6 : Hid (W6.heap[w3.heap.size]? = some (.cells kc 115 (0, 0))) := (HB46.out.block _ (by omega)).trans HK4.out
  have HB6 : Hid (Below w.heap.size w W6) := HB0.out.trans ((HB4.out.trans (HB46.out.mono (by omega))).mono (by omega))
  have H8 := hid h8
  clear h8 HH4 HR4 HY4 HK4 H0 H1 H2 HIb HB34 HB4 HB3 HY3 HY2 HB2 HB1
  go_loopw [8] (fun i wr => ∃ t : Nat, t ≤ 64 ∧ i = .int .i64 t ∧ Hid (wr.heap[w3.heap.size + 1]? = some (.cells (cellsW (rnds hs ws t)) 102 (0, 0))) ∧ Hid (W6.grownBy wr (some (w3.heap.size + 1)))) (fun i _ => 64 - (intOf i).toNat)
  case atStart => exact ⟨0, by decide, rfl, HS6, ⟨rfl, rfl, rfl, Nat.le_refl _, fun _ _ _ => rfl⟩⟩
  case round =>
    obtain ⟨t, ht, rfl, HF, HG⟩ := hrel
    obtain ⟨a, b, c, d, e, f, g, h, ers, ha, hb, hc, hd, he, hf, hg, hh⟩ := (W8.rnds (ws := ws) H8.out t).open
    have HRS := hid ers
    rw [ers] at HF
    clear ers
    by_cases hlt : t < 64
    · obtain ⟨k, HK⟩ : ∃ k, Hid (kW.getD t 0 = k) := ⟨_, rfl⟩
      obtain ⟨x, HX⟩ : ∃ x, Hid (ws.getD t 0 = x) := ⟨_, rfl⟩
      have ck : wr.cell? ⟨w3.heap.size, t, none⟩ = some (.int .u32 (k : Int)) := by
        rw [cell_of_row wr w3.heap.size t _ _ _ ((HG.out.block w3.heap.size (by omega) (by simp)).trans HK6.out), ← HKC.out, cellsW_get (by rw [kW_length]; exact hlt), HK.out]
      have cx : wr.cell? ⟨w1.heap.size, t, none⟩ = some (.int .u32 (x : Int)) := by
        rw [cell_of_row wr w1.heap.size t _ _ _ ((HG.out.block w1.heap.size (by omega) (by simp; omega)).trans HY6.out), ← HY.out, cellsW_get (by rw [hwl]; exact hlt), HX.out]
      have hkl : k < 4294967296 := by rw [← HK.out]; exact getW_lt kW_lt t
      have hxl : x < 4294967296 := by rw [← HX.out]; exact getW_lt HWB.out t
      have cs : ∀ j, j < 8 → wr.cell? ⟨w3.heap.size + 1, j, none⟩ = some (.int .u32 ((([a, b, c, d, e, f, g, h] : List Nat).getD j 0 : Nat) : Int)) := fun j hj => by
        rw [cell_of_row wr (w3.heap.size + 1) j _ _ _ HF.out]
        exact cellsW_get hj
      have s0 := cs 0 (by decide)
      have s1 := cs 1 (by decide)
      have s2 := cs 2 (by decide)
      have s3 := cs 3 (by decide)
      have s4 := cs 4 (by decide)
      have s5 := cs 5 (by decide)
      have s6 := cs 6 (by decide)
      have s7 := cs 7 (by decide)
      simp only [List.getD_cons_zero, List.getD_cons_succ] at s0 s1 s2 s3 s4 s5 s6 s7
      clear cs
      have B1 := hid (bs1_bits e he)
      have B0 := hid (bs0_bits a ha)
      have BC := hid (ch_bits e f g he hf hg)
      have BM := hid (maj_bits a b c ha hb hc)
      go_wp2
      go_quiet ((go_at_call 83; exact Calls.quiet_of_same (rturn_i _ _ _ (by assumption) (by decide))))
      rw [B1.out, BC.out]
      obtain ⟨u, HU⟩ : ∃ u : Nat, Hid ((((h : Int) + ((bs1 e : Nat) : Int) + ((chW e f g : Nat) : Int) + (k : Int)) % 4294967296 + (x : Int)) % 4294967296 = (u : Int)) := ⟨((h + bs1 e + chW e f g + k) % 4294967296 + x) % 4294967296, by show _ = _; omega⟩
      rw [HU.out]
      have hu : u < 4294967296 := by have := HU.out; omega
      obtain ⟨wa, Hq1, Hd1⟩ : ∃ wa, Hid (wr.drewN nq = wa) ∧ Hid (Dr wr wa) := ⟨_, rfl, Dr.one _ _⟩
      rw [Hq1.out]
      clear Hq1 nq
      replace s0 := (Hd1.out.cell _).trans s0
      replace s1 := (Hd1.out.cell _).trans s1
      replace s2 := (Hd1.out.cell _).trans s2
      replace s3 := (Hd1.out.cell _).trans s3
      replace s4 := (Hd1.out.cell _).trans s4
      replace s5 := (Hd1.out.cell _).trans s5
      replace s6 := (Hd1.out.cell _).trans s6
      replace s7 := (Hd1.out.cell _).trans s7
      go_wp2
      go_quiet ((go_at_call 83; exact Calls.quiet_of_same (rturn_i _ _ _ (by assumption) (by decide))))
      rw [B0.out, BM.out]
      obtain ⟨v, HV⟩ : ∃ v : Nat, Hid ((((bs0 a : Nat) : Int) + ((majW a b c : Nat) : Int)) % 4294967296 = (v : Int)) := ⟨(bs0 a + majW a b c) % 4294967296, by show _ = _; omega⟩
      rw [HV.out]
      have hv : v < 4294967296 := by have := HV.out; omega
      obtain ⟨p, hp⟩ : ∃ p : Nat, ((u : Int) + (v : Int)) % 4294967296 = (p : Int) := ⟨(u + v) % 4294967296, by omega⟩
      obtain ⟨q, hq⟩ : ∃ q : Nat, ((d : Int) + (u : Int)) % 4294967296 = (q : Int) := ⟨(d + u) % 4294967296, by omega⟩
      have HN : Hid (rnds hs ws (t + 1) = [p, a, b, c, q, e, f, g]) := by
        show rnd (kW.getD t 0) (ws.getD t 0) (rnds hs ws t) = _
        rw [HRS.out, HK.out, HX.out, rnd_open]
        have h1 := HU.out
        have h2 := HV.out
        have e1 : (h + bs1 e + chW e f g + k + x) % 4294967296 = u := by omega
        have e2 : (bs0 a + majW a b c) % 4294967296 = v := by omega
        rw [e1, e2, show (u + v) % 4294967296 = p by omega, show (d + u) % 4294967296 = q by omega]
      have HIm : Hid ((Tryd.prog.info? 102).map (·.size) = some (cellsW [p, a, b, c, q, e, f, g]).size) := size_w8
      have H1m : Hid ((cellsW [p, a, b, c, q, e, f, g]).all (·.oneCell') = true) := cellsW_one _
      have HZM : Hid ((cellsW [a, b, c, d, e, f, g, h]).size = (cellsW [p, a, b, c, q, e, f, g]).size) := rfl
      obtain ⟨wb, Hq2, Hd2⟩ : ∃ wb, Hid (wa.drewN nq = wb) ∧ Hid (Dr wa wb) := ⟨_, rfl, Dr.one _ _⟩
      rw [Hq2.out]
      clear Hq2 nq
      replace s0 := (Hd2.out.cell _).trans s0
      replace s1 := (Hd2.out.cell _).trans s1
      replace s2 := (Hd2.out.cell _).trans s2
      replace s3 := (Hd2.out.cell _).trans s3
      replace s4 := (Hd2.out.cell _).trans s4
      replace s5 := (Hd2.out.cell _).trans s5
      replace s6 := (Hd2.out.cell _).trans s6
      replace s7 := (Hd2.out.cell _).trans s7
      have HFb : Hid (wb.heap[w3.heap.size + 1]? = some (.cells (cellsW [a, b, c, d, e, f, g, h]) 102 (0, 0))) := by
        show _ = _
        rw [Hd2.out.heap, Hd1.out.heap]
        exact HF.out
      have HGb : Hid (W6.grownBy wb (some (w3.heap.size + 1))) := by
        obtain ⟨n1, r1⟩ := Hd1.out
        obtain ⟨n2, r2⟩ := Hd2.out
        rw [r2, r1]
        exact grown_tr HG.out ⟨rfl, rfl, rfl, Nat.le_refl _, fun _ _ _ => rfl⟩
      clear HU HV B0 B1 BC BM
      go_wp2_with (refine wpList_store_row rfl 102 _ _ rfl (w3.heap.size + 1) (cellsW [p, a, b, c, q, e, f, g]) rfl rfl 102 _ HFb.out HIm.out HZM.out H1m.out ?_)
      refine ⟨⟨t + 1, by omega, by go_num, ?_, grown_tr HGb.out (grown_setRow2 _ _ _)⟩, by simp [intOf]; omega⟩
      show _ = _
      rw [HN.out]
      exact setRow_heap _ _ _ _ _ _ HFb.out
    · have H64 : Hid (t = 64) := by show _ = _; omega
      rw [H64.out] at HRS
      obtain ⟨st, HST⟩ : ∃ st, Hid (([a, b, c, d, e, f, g, h] : List Nat) = st) := ⟨_, rfl⟩
      have hst8 : st.length = 8 := by rw [← HST.out]; rfl
      have hstb : ∀ x ∈ st, x < 4294967296 := by
        rw [← HST.out, ← HRS.out]
        exact (W8.rnds (ws := ws) H8.out 64).2
      rw [HST.out] at HF HRS
      have HSB := hid hstb
      have hnlt : ¬ ((t : Int) < 64) := by omega
      obtain ⟨wo, rfl⟩ : ∃ wo, wo = wr := ⟨_, rfl⟩
      have HM0 : Hid (wo.heap[w.heap.size]? = some (.cells (cellsW (curM hs st 0)) 102 (0, 0))) := by
        rw [show curM hs st 0 = hs from by simp [curM], HHW.out]
        exact (HG.out.block w.heap.size (by omega) (by simp; omega)).trans HH6.out
      have HR7 : Hid (wo.heap[w.heap.size + 2]? = some (.cells z8 102 (0, 0))) := (HG.out.block (w.heap.size + 2) (by omega) (by simp; omega)).trans HR6.out
      have HB7 : Hid (Below w.heap.size w wo) := HB6.out.grown HG.out HB6.out.size (fun q e => by cases e; omega)
      have hso : w3.heap.size + 1 < wo.heap.size := (Array.getElem?_eq_some_iff.1 HF.out).1
      clear hlt ht hstb ha hb hc hd he hf hg hh HST
      go_wp2
      clear hnlt
      go_loopw [13] (fun i wq => ∃ I : Nat, I ≤ 8 ∧ i = .int .i64 I ∧ Hid (wq.heap[w.heap.size]? = some (.cells (cellsW (curM hs st I)) 102 (0, 0))) ∧ Hid (wo.grownBy wq (some w.heap.size))) (fun i _ => 8 - (intOf i).toNat)
      case atStart => exact ⟨0, by decide, rfl, HM0, ⟨rfl, rfl, rfl, Nat.le_refl _, fun _ _ _ => rfl⟩⟩
      case round =>
        obtain ⟨I, hI, rfl, HFI, HGI⟩ := hrel
        by_cases hlt : I < 8
        · have hci := cell_of_row wr w.heap.size I _ _ _ HFI.out
          rw [cellsW_get (by rw [curM_length H8.out.1 hst8]; exact hlt), curM_get H8.out.1 hst8 hlt] at hci
          have hcs : wr.cell? ⟨w3.heap.size + 1, I, none⟩ = some (.int .u32 ((st.getD I 0 : Nat) : Int)) := by
            rw [cell_of_row wr (w3.heap.size + 1) I _ _ _ ((HGI.out.block (w3.heap.size + 1) hso (by simp; omega)).trans HF.out)]
            exact cellsW_get (by rw [hst8]; exact hlt)
          obtain ⟨p, HP⟩ : ∃ p, Hid (hs.getD I 0 = p) := ⟨_, rfl⟩
          obtain ⟨q, HQ⟩ : ∃ q, Hid (st.getD I 0 = q) := ⟨_, rfl⟩
          rw [HP.out] at hci
          rw [HQ.out] at hcs
          have hpl : p < 4294967296 := by rw [← HP.out]; exact getW_lt H8.out.2 I
          have hql : q < 4294967296 := by rw [← HQ.out]; exact getW_lt HSB.out I
          have hfz : wr.frozen? ⟨w.heap.size, I, none⟩ = false := by simp [World.frozen?, HFI.out]
          go_wp2
          go_region
          all_goals go_wp2
          refine ⟨⟨I + 1, by omega, by go_num, ?_, grown_tr HGI.out (grown_setd _ _ _ _)⟩, by simp [intOf]; omega⟩
          show _ = _
          rw [← curM_step H8.out.1 hst8 hlt, HP.out, HQ.out, ← cellsW_set, show ((add32 p q : Nat) : Int) = ((p : Int) + (q : Int)) % 4294967296 by unfold add32; omega]
          exact heap_setCell_same _ w.heap.size I _ _ _ HFI.out
        · have hI8 : I = 8 := by omega
          have HCM : Hid (curM hs st I = List.zipWith add32 hs (rnds hs ws 64)) := by
            show _ = _
            rw [hI8, HRS.out]
            unfold curM
            rw [List.take_of_length_le (by simp; omega), List.drop_eq_nil_of_le (by rw [H8.out.1]; exact Nat.le_refl _), List.append_nil]
          rw [HCM.out] at HFI
          obtain ⟨m, HMM⟩ : ∃ m, Hid (cellsW (List.zipWith add32 hs (rnds hs ws 64)) = m) := ⟨_, rfl⟩
          rw [HMM.out] at HFI
          have hms : m.size = 8 := by
            rw [← HMM.out, cellsW_size, ← HCM.out, curM_length H8.out.1 hst8]
          have HIm : Hid ((Tryd.prog.info? 102).map (·.size) = some m.size) := by rw [hms]; exact size_w8
          have H1m : Hid (m.all (·.oneCell') = true) := by rw [← HMM.out]; exact cellsW_one _
          have HR8 : Hid (wr.heap[w.heap.size + 2]? = some (.cells z8 102 (0, 0))) := (HGI.out.block (w.heap.size + 2) (by omega) (by simp)).trans HR7.out
          have HZM : Hid (z8.size = m.size) := by rw [hms, ← HZ8.out, cellsW_size, zerosW_length]; exact rfl
          have HBF := hid (below_setRow (HB7.out.grown HGI.out HB7.out.size (fun k e => by cases e; exact Nat.le_refl _)) (g := w.heap.size + 2) (by omega) m)
          have hnl : ¬ ((I : Int) < 8) := by omega
          clear hms hlt hI8
          go_wp2_with (first | (refine wpList_load_row rfl 102 _ rfl w.heap.size rfl 102 m (0, 0) _ HFI.out Tryd.underlying102 rfl HIm.out ?_) | (refine wpList_store_row rfl 102 _ _ rfl (w.heap.size + 2) m rfl rfl 102 _ HR8.out HIm.out HZM.out H1m.out ?_))
          refine bodyPost_ret (v := .agg m) (results_cell_row (p := 4) (ty := 102) rfl _ _ (w.heap.size + 2) 102 m (0, 0) _ rfl (setRow_heap _ _ _ _ _ _ HR8.out) Tryd.underlying102 rfl HIm.out) rfl ?_
          rw [HMM.out]
          exact ⟨rfl, HBF.out⟩
theorem rmix_any (w : World) (hs : List Nat) (l : List Int) (h8 : W8 hs) (hl : l.length = 64) (hby : ∀ x ∈ l, 0 ≤ x ∧ x < 256) :
    Calls Tryd.prog 72 #[.agg (cellsW hs), .agg (cellsB l)] w fun e w' => e = .returned (.agg (cellsW (mixL hs l))) ∧ Below w.heap.size w w' :=
  rmix_core w hs (wordsTo l 64) l h8 hl (wordsTo_length l 64) (wordsTo_lt hby 64) (fun W => rwords_any W l hl hby)
def hiL2 (n m x : Nat) : List Int := (bigL n x).take (n - m)
theorem hiL2_step (n m x : Nat) (h : m < n) : hiL2 n m x = hiL2 n (m + 1) x ++ [((x / 256 ^ m % 256 : Nat) : Int)] := by
  have key : ∀ r j, j < r → (bigL r x)[j]? = some ((x / 256 ^ (r - 1 - j) % 256 : Nat) : Int) := by
    intro r
    induction r with
    | zero => intro j hj; omega
    | succ r ih =>
      intro j hj
      cases j with
      | zero => simp [bigL]
      | succ j =>
        simp only [bigL, List.getElem?_cons_succ]
        rw [ih j (by omega), show r + 1 - 1 - (j + 1) = r - 1 - j by omega]
  unfold hiL2
  have e : n - m = (n - (m + 1)) + 1 := by omega
  rw [e, List.take_add_one, key n _ (by omega), show n - 1 - (n - (m + 1)) = m by omega]
  rfl
theorem lit_HB (w : World) (x : Int) (hx : 0 ≤ x ∧ x < 256) : HB (w.alloc (.cells #[.int .u8 x] 5)) (.slice (some ⟨w.heap.size, 0, none⟩) 1 1) [x] := by
  have h1 : (w.alloc (.cells #[.int .u8 x] 5)).ownsRow w.heap.size 5 1 (.slice (some ⟨w.heap.size, 0, none⟩) 1 1) 1 [.int .u8 x] := World.ownsRow_lit (base := w.heap.size) (e := 5) (size := 1) w #[.int .u8 x] 1 (Nat.le_refl _) (by decide) rfl
  exact HB.of_own (l := [x]) h1 (fun y hy => by have : y = x := (by simpa using hy); omega)
theorem lit_HB2 (w : World) (x y : Int) (e : x = y) (hy : 0 ≤ y ∧ y < 256) : HB (w.alloc (.cells #[.int .u8 x] 5)) (.slice (some ⟨w.heap.size, 0, none⟩) 1 1) [y] := by
  subst e
  exact lit_HB w x hy
set_option maxRecDepth 100000 in
set_option maxHeartbeats 2000000 in
theorem rpad_ok (w : World) (n : Nat) (hn : n ≤ 1152921504606846976) :
    Calls Tryd.prog 70 #[.int .i64 (n : Int)] w fun e w' => ∃ v', e = .returned (.tuple #[v', .int .i64 0]) ∧ w'.ownsRow w.heap.size 5 1 v' (padL n).length ((padL n).map (Value.int .u8)) ∧ Below w.heap.size w w' := by
  obtain ⟨z, HZ⟩ : ∃ z, Hid (padZ n = z) := ⟨_, rfl⟩
  have HZE : Hid (z = (64 - (n + 9) % 64) % 64) := by rw [← HZ.out]; rfl
  have hz64 : z < 64 := by have := HZE.out; omega
  have HO1 : Hid ((w.alloc (.cells #[.int .u8 128] 5)).ownsRow w.heap.size 5 1 (.slice (some ⟨w.heap.size, 0, none⟩) 1 1) (1 + 0) ([.int .u8 128] ++ List.replicate 0 (.int .u8 0))) := World.ownsRow_lit (base := w.heap.size) (e := 5) (size := 1) w #[.int .u8 128] 1 (Nat.le_refl _) (by decide) rfl
  have HB1 : Hid (Below w.heap.size w (w.alloc (.cells #[.int .u8 128] 5))) := (Below.refl _ w).alloc (Nat.le_refl _) _
  go_enter Tryd.func70, Tryd.ntmps70
  go_wp2
  go_loopw [4] (fun v wr => ∃ j : Nat, j ≤ z ∧ Hid (wr.ownsRow w.heap.size 5 1 v (1 + j) ([.int .u8 128] ++ List.replicate j (.int .u8 0))) ∧ Hid (Below w.heap.size w wr)) (fun v _ => 64 - lenV v)
  case atStart => exact ⟨0, Nat.zero_le _, HO1, HB1⟩
  case round =>
    obtain ⟨j, hj, HO, HB⟩ := hrel
    obtain ⟨g, cap, ev, hg0⟩ : ∃ g cap, u4 = .slice (some ⟨g, 0, none⟩) (1 + j) cap ∧ w.heap.size ≤ g := by
      rcases HO.out.2 with ⟨_, h⟩ | ⟨g, cap, _, h, h2, _⟩
      · omega
      · exact ⟨g, cap, h, h2⟩
    subst ev
    have hsz := HB.out.size
    by_cases hlt : j < z
    · have hc : ¬ (((n : Int) + (1 + (j : Int))) % 64 = 56) := by have := HZE.out; omega
      have HO2 : Hid ((wr.alloc (.cells #[.int .u8 0] 5)).ownsRow w.heap.size 5 1 (.slice (some ⟨g, 0, none⟩) (1 + j) cap) (1 + j) ([.int .u8 128] ++ List.replicate j (.int .u8 0))) := HO.out.alloc _
      have HLB := hid (lit_HB wr 0 (by decide))
      have HB2 : Hid (Below w.heap.size w (wr.alloc (.cells #[.int .u8 0] 5))) := HB.out.alloc hsz _
      go_wp2_with (at_builtin; refine wpList_append_HB rfl _ _ rfl w.heap.size _ _ _ rfl HO2.out _ _ rfl HLB.out ?q1 ?q2 ?_)
      case q1 => simp; omega
      case q2 => simp; omega
      intro v4 w4 ho4 hg4
      have HO4 : Hid (w4.ownsRow w.heap.size 5 1 v4 (1 + (j + 1)) ([.int .u8 128] ++ List.replicate (j + 1) (.int .u8 0))) := by
        rw [List.replicate_succ', ← Nat.add_assoc]
        exact ho4
      have HB4 : Hid (Below w.heap.size w w4) := HB2.out.grown hg4 HB2.out.size (fun k e => by
        have : g = k := by simpa [Value.ownBlock] using e
        omega)
      obtain ⟨g4, cap4, ev4⟩ : ∃ g cap, v4 = .slice (some ⟨g, 0, none⟩) (1 + (j + 1)) cap := by
        rcases HO4.out.2 with ⟨_, h⟩ | ⟨g, cap, _, h, h2, _⟩
        · omega
        · exact ⟨g, cap, h⟩
      subst ev4
      clear ho4 hg4 HO2 HLB HB2 hc
      go_wp2
      exact ⟨⟨j + 1, by omega, HO4, HB4⟩, by simp [lenV]; omega⟩
    · have hjz : j = z := by omega
      subst hjz
      have hc : ((n : Int) + (1 + (j : Int))) % 64 = 56 := by have := HZE.out; omega
      obtain ⟨xs, HXS⟩ : ∃ xs : List Value, Hid (([Value.int .u8 128] ++ List.replicate j (Value.int .u8 0)) = xs) := ⟨_, rfl⟩
      have HO0 := hid HO.out
      rw [HXS.out] at HO0
      obtain ⟨x, HX0⟩ : ∃ x, Hid (n * 8 = x) := ⟨_, rfl⟩
      have hnx : (n : Int) * 8 = (x : Int) := by rw [← HX0.out]; omega
      have hxb : x ≤ 9223372036854775808 := by rw [← HX0.out]; omega
      go_wp2
      clear hc HO hlt hnx
      go_loopw [4, 6] (fun o i wq => ∃ m : Nat, m ≤ 8 ∧ i = .int .i64 ((m : Int) - 1) ∧ Hid (wq.ownsRow w.heap.size 5 1 o (1 + j + (8 - m)) (xs ++ (hiL2 8 m x).map (Value.int .u8))) ∧ Hid (Below w.heap.size w wq)) (fun _ i _ => (intOf i + 1).toNat)
      case atStart => exact ⟨8, Nat.le_refl _, rfl, by rw [Nat.sub_self, show hiL2 8 8 x = [] from rfl, List.map_nil, List.append_nil]; exact HO0, HB⟩
      case round =>
        clear HO0 HB hsz
        obtain ⟨m, hm, rfl, HO, HBw⟩ := hrel
        obtain ⟨g2, cap2, ev, hg2⟩ : ∃ g cap, u4 = .slice (some ⟨g, 0, none⟩) (1 + j + (8 - m)) cap ∧ w.heap.size ≤ g := by
          rcases HO.out.2 with ⟨_, h⟩ | ⟨g, cap, _, h, h2, _⟩
          · omega
          · exact ⟨g, cap, h, h2⟩
        cases m with
        | zero =>
          have HPL : Hid ((padL n).map (Value.int .u8) = xs ++ (hiL2 8 0 x).map (Value.int .u8)) := by
            show _ = _
            rw [← HXS.out, show hiL2 8 0 x = bigL 8 x from by unfold hiL2; rw [Nat.sub_zero, List.take_of_length_le (by rw [bigL_length]; exact Nat.le_refl 8)], ← HX0.out]
            unfold padL
            rw [HZ.out]
            simp
          have HLn : Hid ((padL n).length = 1 + j + (8 - 0)) := by show _ = _; rw [padL_length, HZ.out]; omega
          go_wp2
          go_ret2
          refine ⟨_, rfl, ?_, HBw.out⟩
          rw [HPL.out, HLn.out]
          exact HO.out
        | succ m =>
          have HS := hid (hiL2_step 8 m x (by omega))
          have hmc : m = 0 ∨ m = 1 ∨ m = 2 ∨ m = 3 ∨ m = 4 ∨ m = 5 ∨ m = 6 ∨ m = 7 := by omega
          have hxi : (x : Int) ≤ 9223372036854775808 := by omega
          have hsz := HBw.out.size
          obtain ⟨y, HY⟩ : ∃ y, Hid (((x / 256 ^ m % 256 : Nat) : Int) = y) := ⟨_, rfl⟩
          rw [HY.out] at HS
          have hyb : Hid (0 ≤ y ∧ y < 256) := by rw [← HY.out]; refine hid ?_; omega
          obtain ⟨k0, HK⟩ : ∃ k0, Hid (1 + j + (8 - (m + 1)) = k0) := ⟨_, rfl⟩
          have HK2 : Hid (1 + j + (8 - m) = k0 + 1) := by show _ = _; rw [← HK.out]; omega
          have hk0 : k0 ≤ 80 := by rw [← HK.out]; omega
          obtain ⟨lst, HLs⟩ : ∃ lst, Hid (xs ++ (hiL2 8 (m + 1) x).map (Value.int .u8) = lst) := ⟨_, rfl⟩
          have HSX : Hid (xs ++ (hiL2 8 m x).map (Value.int .u8) = lst ++ [.int .u8 y]) := by
            show _ = _
            rw [HS.out, List.map_append, ← List.append_assoc, HLs.out]
            rfl
          have HO' := hid HO.out
          rw [HK.out, HLs.out] at HO'
          rw [HK.out] at ev
          clear HO
          subst ev
          rcases hmc with rfl | rfl | rfl | rfl | rfl | rfl | rfl | rfl
          all_goals
            go_wp2_with (at_builtin; refine wpList_append_HB rfl _ _ rfl w.heap.size _ _ _ rfl (HO'.out.alloc _) _ [y] rfl ?q0 ?q1 ?q2 ?_)
            case q0 => exact lit_HB2 _ _ _ (by rw [← HY.out]; simp; try omega) hyb.out
            case q1 => simp; omega
            case q2 => simp; omega
            intro v' w2 hown2 hgr2
            have HO2 : Hid (w2.ownsRow w.heap.size 5 1 v' (k0 + 1) (lst ++ [.int .u8 y])) := hown2
            have HB2 := hid ((HBw.out.alloc HBw.out.size _).grown hgr2 (by simp; omega) (fun k e => (HO'.out.lt k e).1))
            clear hown2 hgr2
            go_wp2
            exact ⟨⟨_, Nat.le_of_succ_le hm, rfl, by rw [HK2.out, HSX.out]; exact HO2, HB2⟩, by simp [intOf]⟩
theorem rpad_bad (w : World) (n : Int) (hn : n < 0 ∨ 1152921504606846976 < n) : Calls Tryd.prog 70 #[.int .i64 n] w fun e w' => e = .returned (.tuple #[.slice none 0 0, .int .i64 2]) ∧ w' = w := by
  rcases hn with h | h
  · go_enter Tryd.func70, Tryd.ntmps70
    go_wp2
    go_ret2
    exact ⟨rfl, rfl⟩
  · have h0 : ¬ n < 0 := by omega
    go_enter Tryd.func70, Tryd.ntmps70
    go_wp2
    go_ret2
    exact ⟨rfl, rfl⟩
def HO (w : World) (v : Value) (ls : List Bool) : Prop :=
  ∃ (p : Option Addr) (c : Nat), v = .slice p ls.length c ∧ ls.length ≤ c ∧ c ≤ maxLen ∧ (0 < ls.length → ∃ b off, p = some ⟨b, off, none⟩ ∧ ∀ j, j < ls.length → w.cell? ⟨b, off + j, none⟩ = some (.bool (ls.getD j false)))
theorem HM.block {A C : World} {g : Nat} {m : List Int} (h : HM A g m) (hb : C.heap[g]? = A.heap[g]?) : HM C g m := by
  obtain ⟨rest, h1, h2⟩ := h
  exact ⟨rest, h1.block hb, h2⟩
theorem own_later {A C : World} {B e n : Nat} {v : Value} {xs : List Value} (h : A.ownsRow B e 1 v n xs) (hb : Below A.heap.size A C) : C.ownsRow B e 1 v n xs := by
  cases hx : v.ownBlock with
  | none => exact h.kept (row := some 0) (grown_below hb) (.inl hx)
  | some y => exact h.kept (row := some (y + 1)) (grown_below hb) (.inr (by rw [hx]; simp))
theorem sum_dig (w : World) (g : Nat) (m : List Int) (h : HM w g m) (hk : KC w) (hlen : m.length ≤ 576460752303423488) :
    Calls Tryd.prog 61 #[.pointer (some ⟨g, 0, none⟩)] w fun e w' => e = .returned (.agg (cellsB (digL m))) ∧ Below w.heap.size w w' := sum_any w g m h hk hlen
theorem sums_one (w : World) (v : Value) (m : List Int) (h : HB w v m) (hk : KC w) (hlen : m.length ≤ 576460752303423488) :
    Calls Tryd.prog 43 #[.slice (some ⟨w.heap.size, 0, none⟩) 1 1] (w.alloc (.cells #[v] 47)) fun e w' => e = .returned (.agg (cellsB (digL m))) ∧ Below w.heap.size w w' := by
  have hB : Below w.heap.size w (w.alloc (.cells #[v] 47)) := (Below.refl _ w).alloc (Nat.le_refl _) _
  have hL : HL (w.alloc (.cells #[v] 47)) (.slice (some ⟨w.heap.size, 0, none⟩) 1 1) [m] := by
    refine ⟨_, 1, rfl, Nat.le_refl _, by decide, (fun e => by cases e), fun _ => ⟨w.heap.size, 0, rfl, fun j hj => ?_⟩⟩
    have hrow : (w.alloc (.cells #[v] 47)).heap[w.heap.size]? = some (.cells #[v] 47 (0, 0)) := heap_alloc_new w _
    match j, hj with
    | 0, _ => exact ⟨_, by rw [cell_of_row _ w.heap.size 0 _ _ _ hrow]; rfl, h.below hB⟩
  have := sums_any _ _ [m] hL (hk.below hB) (by simpa using hlen)
  refine this.mono ?_
  rintro e w' ⟨rfl, hb⟩
  exact ⟨by simp, hB.trans (hb.mono hB.size)⟩
theorem zero_b64 : (Tryd.prog.info? 104).map (·.zero) = some (some (.agg (cellsB (List.replicate 64 0)))) := by kernel_rfl
theorem cellsB_set2 (l : List Int) (i : Nat) (x : Int) : (cellsB l).setIfInBounds i (.int .u8 x) = cellsB (l.set i x) := by
  unfold cellsB
  rw [List.map_set]
  simp
theorem dig_get {W : List Nat} (hW : W8 W) (a r : Nat) (ha : a < 8) (hr : r < 4) : (W.flatMap (bigL 4)).getD (4 * a + r) 0 = ((W.getD a 0 / 256 ^ (3 - r) % 256 : Nat) : Int) := by
  obtain ⟨x0, x1, x2, x3, x4, x5, x6, x7, rfl, _⟩ := hW.open
  have h1 : a = 0 ∨ a = 1 ∨ a = 2 ∨ a = 3 ∨ a = 4 ∨ a = 5 ∨ a = 6 ∨ a = 7 := by omega
  have h2 : r = 0 ∨ r = 1 ∨ r = 2 ∨ r = 3 := by omega
  rcases h1 with rfl | rfl | rfl | rfl | rfl | rfl | rfl | rfl <;> rcases h2 with rfl | rfl | rfl | rfl <;> rfl
def curB (t : List Int) (i : Nat) : List Int := t.take i ++ (List.replicate 64 (0 : Int)).drop i
theorem curB_length (t : List Int) (i : Nat) (hi : i ≤ 64) (ht : t.length = 64) : (curB t i).length = 64 := by
  unfold curB
  rw [List.length_append, List.length_take, List.length_drop, List.length_replicate]
  omega
theorem curB_step (t : List Int) (i : Nat) (hi : i < 64) (ht : t.length = 64) : (curB t i).set i (t.getD i 0) = curB t (i + 1) := by
  unfold curB
  have hl : (t.take i).length = i := by rw [List.length_take]; omega
  have hz : i < (List.replicate 64 (0 : Int)).length := by rw [List.length_replicate]; omega
  have hi2 : i < t.length := by omega
  rw [List.set_append_right _ _ (by omega), hl, Nat.sub_self, List.drop_eq_getElem_cons hz, List.set_cons_zero, List.take_succ_eq_append_getElem hi2, getD_of_lt hi2, List.append_assoc]
  rfl
theorem blkOf_get (M : List Int) (k j : Nat) (hj : j < 64) : (blkOf M k).getD j 0 = M.getD (64 * k + j) 0 := by
  unfold blkOf
  simp only [List.getD, List.getElem?_take, List.getElem?_drop, if_pos hj]
end Go.Proofs.YtjdfclbjmmmcfaaDoor
