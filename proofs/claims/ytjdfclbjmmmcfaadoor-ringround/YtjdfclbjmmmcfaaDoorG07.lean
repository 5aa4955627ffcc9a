/- Of the road to ringRoundCard_holds: RgRound, Range, RgIter, RangeN, EvIn, RangeD, RangeR, RgIterN, RangeNone, RgKnW, Less, RefShaTurn. -/
import Derived.Test.YtjdfclbjmmmcfaaDoorG06
import Derived.Deep.MidRow
import Derived.RangeFuncNested
import Derived.RangeFuncBound
import Derived.RangeFuncCalls
import Derived.RangeFuncBox
import Derived.RangeFuncLeaves
import Derived.Shelf.Abstract
import Derived.Shelf.RegionOpen
import Derived.WalkKit
import Derived.OwnWalkIn
import Derived.TacticsInMore
import Derived.LoopNIn
import Derived.LoopIn
import Derived.Test.YtjdfclbjmmmcfaaDoorG00
import Derived.Test.YtjdfclbjmmmcfaaDoorG05
import Derived.TacticsIn
import Derived.OrdersIn
import Derived.ControlIn
import Derived.OrdersHeld
import Derived.Test.YtjdfclbjmmmcfaaDoorChecked
import Derived.Lib.Bytealg
set_option linter.unusedVariables false
set_option linter.unusedSimpArgs false
namespace Go.Proofs.YtjdfclbjmmmcfaaDoor
open Go Go.RowKit
set_option maxRecDepth 100000 in
set_option maxHeartbeats 2000000 in
theorem round_bad (w : World) (x : List Int) (n f : Int) (hx : X16 x) (h : n < 1 ∨ 32 < n) :
    Calls Tryd.prog 15 #[.agg (cellsB x), .int .i64 n, .int .i64 f] w fun e w' => e = .returned (.func (.func 24) #[] #[]) ∧ Below w.heap.size w w' := by
  have HIx := hid (size_ix hx)
  obtain ⟨cl, HCL⟩ : ∃ c, Hid (cellsB x = c) := ⟨_, rfl⟩
  rw [HCL.out] at HIx
  rw [HCL.out]
  obtain ⟨W1, HW1⟩ : ∃ W1, Hid ((w.alloc (.cells cl 23)).alloc (.cells #[.int .i64 n] 3) = W1) := ⟨_, rfl⟩
  have HB1 : Hid (Below w.heap.size w W1) := by rw [← HW1.out]; exact ((Below.refl _ w).alloc (Nat.le_refl _) _).alloc (by simp) _
  have HC1 : Hid (W1.heap[w.heap.size]? = some (.cells cl 23 (0, 0))) := by rw [← HW1.out]; refine hid ?_; rw [heap_alloc_old _ _ (by simp)]; exact heap_alloc_new w _
  have hN1 : W1.cell? ⟨w.heap.size + 1, 0, none⟩ = some (.int .i64 n) := by
    rw [← HW1.out]
    have := heap_alloc_new (w.alloc (.cells cl 23)) (.cells #[.int .i64 n] 3)
    rw [show (w.alloc (.cells cl 23)).heap.size = w.heap.size + 1 by simp] at this
    exact (cell_of_row _ _ _ _ _ _ this).trans rfl
  have e1 : (w.alloc (.cells cl 23)).heap.size = w.heap.size + 1 := by simp
  have C1 := hid (order_bad W1 x n hx h)
  rw [HCL.out] at C1
  clear h hx
  go_enter Tryd.func15, Tryd.ntmps15
  go_wp2_with (first | (refine wpList_load_row rfl 23 _ rfl w.heap.size rfl 23 cl (0, 0) _ (by rw [HW1.out]; exact HC1.out) Tryd.underlying23 rfl HIx.out ?_; rw [HW1.out]))
  refine C1.out.mono ?_
  rintro e W3 ⟨rfl, hB3⟩
  have BL3 : Hid (Below w.heap.size w (W3.alloc (.cells #[.slice none 0 0] 24))) := (HB1.out.trans (hB3.mono HB1.out.size)).alloc (Nat.le_trans HB1.out.size hB3.size) _
  clear hB3 C1
  go_wp2
  go_ret
  exact ⟨rfl, BL3.out⟩
theorem first_mod (f : Int) (n : Nat) (h : 1 ≤ n) : Int.tmod (Int.tmod f n + n) n = f % (n : Int) := by
  have hn : (0 : Int) < n := by omega
  have h1 : Int.tmod f n = if 0 ≤ f ∨ (n : Int) ∣ f then f % n else f % n - n := by
    rw [Int.tmod_eq_emod]
    split
    · simp
    · simp
  have h2 := Int.emod_nonneg f (show (n : Int) ≠ 0 by omega)
  have h3 := Int.emod_lt_of_pos f hn
  rw [h1]
  split
  · rw [Int.tmod_eq_emod_of_nonneg (by omega), Int.add_emod_right, Int.emod_emod_of_dvd _ (Int.dvd_refl _)]
  · rw [show f % (n : Int) - n + n = f % n by omega, Int.tmod_eq_emod_of_nonneg (by omega), Int.emod_emod_of_dvd _ (Int.dvd_refl _)]
structure HRd (w : World) (a b c g n f : Nat) (l : List Nat) : Prop where
  ha : w.heap[a]? = some (.cells #[.int .i64 (n : Int)] 3 (0, 0))
  hb : w.heap[b]? = some (.cells #[.int .i64 (f : Int)] 3 (0, 0))
  hc : w.heap[c]? = some (.cells #[.slice (some ⟨g, 0, none⟩) n n] 24 (0, 0))
  hg : OI w g l
set_option maxRecDepth 100000 in
set_option maxHeartbeats 2000000 in
theorem round_ok (w : World) (x : List Int) (n : Nat) (f : Int) (hx : X16 x) (h1 : 1 ≤ n) (h2 : n ≤ 32) (hf : -9223372036854775808 ≤ f ∧ f < 9223372036854775808) (hk : KC w) :
    Calls Tryd.prog 15 #[.agg (cellsB x), .int .i64 (n : Int), .int .i64 f] w fun e w' => ∃ a b c g l, e = .returned (.func (.func 25) #[] #[.pointer (some ⟨a, 0, none⟩), .pointer (some ⟨b, 0, none⟩), .pointer (some ⟨c, 0, none⟩)]) ∧ (w.heap.size ≤ a ∧ w.heap.size ≤ b ∧ w.heap.size ≤ c ∧ w.heap.size ≤ g) ∧ IsO (rgL x) n l ∧ HRd w' a b c g n (f % (n : Int)).toNat l ∧ Below w.heap.size w w' := by
  have HIx := hid (size_ix hx)
  obtain ⟨cl, HCL⟩ : ∃ c, Hid (cellsB x = c) := ⟨_, rfl⟩
  rw [HCL.out] at HIx
  obtain ⟨W1, HW1⟩ : ∃ W1, Hid ((w.alloc (.cells cl 23)).alloc (.cells #[.int .i64 (n : Int)] 3) = W1) := ⟨_, rfl⟩
  have HB1 : Hid (Below w.heap.size w W1) := by rw [← HW1.out]; exact ((Below.refl _ w).alloc (Nat.le_refl _) _).alloc (by simp) _
  have HC1 : Hid (W1.heap[w.heap.size]? = some (.cells cl 23 (0, 0))) := by rw [← HW1.out]; refine hid ?_; rw [heap_alloc_old _ _ (by simp)]; exact heap_alloc_new w _
  have HN1 : Hid (W1.heap[w.heap.size + 1]? = some (.cells #[.int .i64 (n : Int)] 3 (0, 0))) := by
    rw [← HW1.out]
    have := heap_alloc_new (w.alloc (.cells cl 23)) (.cells #[.int .i64 (n : Int)] 3)
    rw [show (w.alloc (.cells cl 23)).heap.size = w.heap.size + 1 by simp] at this
    exact this
  have hN1 : W1.cell? ⟨w.heap.size + 1, 0, none⟩ = some (.int .i64 (n : Int)) := (cell_of_row _ _ _ _ _ _ HN1.out).trans rfl
  have e1 : (w.alloc (.cells cl 23)).heap.size = w.heap.size + 1 := by simp
  have hS1 : w.heap.size + 2 ≤ W1.heap.size := by rw [← HW1.out]; simp
  have C1 := hid (order_ok W1 x n hx h1 h2 (hk.below HB1.out))
  rw [HCL.out] at C1
  rw [HCL.out]
  clear hx hk
  go_enter Tryd.func15, Tryd.ntmps15
  go_wp2_with (first | (refine wpList_load_row rfl 23 _ rfl w.heap.size rfl 23 cl (0, 0) _ (by rw [HW1.out]; exact HC1.out) Tryd.underlying23 rfl HIx.out ?_; rw [HW1.out]))
  refine C1.out.mono ?_
  rintro e W3 ⟨g, l, rfl, hg, hO, hI, hB3⟩
  have BL3 : Hid (Below w.heap.size w W3) := HB1.out.trans (hB3.mono HB1.out.size)
  have HO := hid hO
  have HI := hid hI
  have hs3 := hB3.size
  have HN3 : Hid (W3.heap[w.heap.size + 1]? = some (.cells #[.int .i64 (n : Int)] 3 (0, 0))) := (hB3.block _ (by omega)).trans HN1.out
  have hN3 : W3.cell? ⟨w.heap.size + 1, 0, none⟩ = some (.int .i64 (n : Int)) := (cell_of_row _ _ _ _ _ _ HN3.out).trans rfl
  have hgl := hI.lt
  clear hN1 hO hI hB3 C1
  have hm := first_mod f n h1
  have hn0 : ¬ ((n : Int) = 0) := by omega
  have hb1 := Int.emod_nonneg f (show (n : Int) ≠ 0 by omega)
  have hb2 := Int.emod_lt_of_pos f (show (0 : Int) < n by omega)
  go_wp2
  -- DRAWN
  obtain ⟨W4, HW4⟩ : ∃ W4, Hid (W3.alloc (.cells #[.slice (some ⟨g, 0, none⟩) n n] 24) = W4) := ⟨_, rfl⟩
  rw [HW4.out]
  have HB4 : Hid (Below W3.heap.size W3 W4) := by rw [← HW4.out]; exact (Below.refl _ W3).alloc (Nat.le_refl _) _
  have HC4 : Hid (W4.heap[W3.heap.size]? = some (.cells #[.slice (some ⟨g, 0, none⟩) n n] 24 (0, 0))) := by rw [← HW4.out]; exact heap_alloc_new W3 _
  have hN4 : Hid (W4.cell? ⟨w.heap.size + 1, 0, none⟩ = some (.int .i64 (n : Int))) := hid ((HB4.out.cell (show w.heap.size + 1 < W3.heap.size by omega)).trans hN3)
  have hs4 : W4.heap.size = W3.heap.size + 1 := by rw [← HW4.out]; simp
  have HS4 := hid hs4
  clear hN3 hs4
  have hnn : ¬ (n = 0) := by omega
  have HM := hid hm
  clear hm hn0
  have ht1 : Hid (-9223372036854775808 ≤ Int.tmod f n + n ∧ Int.tmod f n + n ≤ 9223372036854775807) := hid (by
    have hn : (0 : Int) < n := by omega
    have h3 : Int.tmod f n = if 0 ≤ f ∨ (n : Int) ∣ f then f % n else f % n - n := by
      rw [Int.tmod_eq_emod]
      split <;> simp
    rw [h3]
    split <;> omega)
  refine wp_region_held_drew (S := fun W' => W'.cell? ⟨w.heap.size + 1, 0, none⟩ = some (.int .i64 (n : Int))) (by kernel_rfl) hN4.out (fun hHeld => ?_)
  have HS := hid hHeld
  clear hHeld
  change wpAnyH _ _ _ _ _ _ _ _ (World.drew _)
  refine wpAnyH_take (i := 0) (v := ?_) rfl (by kernel_rfl) (by kernel_rfl) (by kernel_rfl) (fun _ _ _ h => h) (Or.inl ⟨by rfl, ?q0⟩) HS.out ?_
  case q0 => intro w hSw; go_simp; rfl
  simp only [Act.put, List.getElem_toArray, List.getElem_cons_zero, List.getElem_cons_succ, List.setIfInBounds_toArray, List.set_cons_zero, List.set_cons_succ]
  refine wpAnyH_take (i := 1) (v := ?_) rfl (by kernel_rfl) (by kernel_rfl) (by kernel_rfl) (fun _ _ _ h => h) (Or.inl ⟨by rfl, ?q1⟩) HS.out ?_
  case q1 => intro w hSw; go_simp; rfl
  simp only [Act.put, List.getElem_toArray, List.getElem_cons_zero, List.getElem_cons_succ, List.setIfInBounds_toArray, List.set_cons_zero, List.set_cons_succ]
  refine wpAnyH_take (i := 2) (v := ?_) rfl (by kernel_rfl) (by kernel_rfl) (by kernel_rfl) (fun _ _ _ h => h) (Or.inl ⟨by rfl, ?q2⟩) HS.out ?_
  case q2 => intro w hSw; go_simp; rfl
  simp only [Act.put, List.getElem_toArray, List.getElem_cons_zero, List.getElem_cons_succ, List.setIfInBounds_toArray, List.set_cons_zero, List.set_cons_succ]
  refine wpAnyH_take (i := 3) (v := ?_) rfl (by kernel_rfl) (by kernel_rfl) (by kernel_rfl) (fun _ _ _ h => h) (Or.inl ⟨by rfl, ?q3⟩) HS.out ?_
  case q3 => intro w hSw; go_simp; rfl
  simp only [Act.put, List.getElem_toArray, List.getElem_cons_zero, List.getElem_cons_succ, List.setIfInBounds_toArray, List.set_cons_zero, List.set_cons_succ]
  refine wpAnyH_take (i := 4) (v := .int .i64 (Int.tmod f n + n)) rfl (by kernel_rfl) (by kernel_rfl) (by kernel_rfl) (fun _ _ _ h => h) (Or.inl ⟨by rfl, ?q4⟩) HS.out ?_
  case q4 => intro w hSw; go_simp; rw [IntWalk.i64_in _ ht1.out]
  simp only [Act.put, List.getElem_toArray, List.getElem_cons_zero, List.getElem_cons_succ, List.setIfInBounds_toArray, List.set_cons_zero, List.set_cons_succ]
  refine wpAnyH_take (i := 5) (v := ?_) rfl (by kernel_rfl) (by kernel_rfl) (by kernel_rfl) (fun _ _ _ h => h) (Or.inl ⟨by rfl, ?q5⟩) HS.out ?_
  case q5 => intro w hSw; go_simp; rfl
  simp only [Act.put, List.getElem_toArray, List.getElem_cons_zero, List.getElem_cons_succ, List.setIfInBounds_toArray, List.set_cons_zero, List.set_cons_succ]
  refine wpAnyH_take (i := 6) (v := .int .i64 (f % (n : Int))) rfl (by kernel_rfl) (by kernel_rfl) (by kernel_rfl) (fun _ _ _ h => h) (Or.inl ⟨by rfl, ?q6⟩) HS.out ?_
  case q6 => intro w hSw; go_simp; rw [HM.out]
  simp only [Act.put, List.getElem_toArray, List.getElem_cons_zero, List.getElem_cons_succ, List.setIfInBounds_toArray, List.set_cons_zero, List.set_cons_succ]
  refine wpAnyH_ready (rs := [7]) (by kernel_rfl) (by simp) ?_
  refine AllReadyH.cons rfl (fun K hK => ?_) AllReadyH.nil
  replace hK := hid hK
  go_simp
  obtain ⟨W5, HW5⟩ : ∃ W5, Hid ((W4.alloc (.cells #[.int .i64 0] 3)).drew = W5) := ⟨_, rfl⟩
  rw [HW5.out]
  have HB5 : Hid (Below W4.heap.size W4 W5) := by rw [← HW5.out]; exact ((Below.refl _ W4).alloc (Nat.le_refl _) _).drew
  have HC5 : Hid (W5.heap[W4.heap.size]? = some (.cells #[.int .i64 0] 3 (0, 0))) := by rw [← HW5.out]; exact heap_alloc_new W4 _
  have hc5 : W5.cell? ⟨W4.heap.size, 0, none⟩ = some (.int .i64 0) := (cell_of_row _ _ _ _ _ _ HC5.out).trans rfl
  have hf5 : W5.frozen? ⟨W4.heap.size, 0, none⟩ = false := frozen_of_row _ _ _ _ _ HC5.out
  have S5 : Hid (W5.cell? ⟨w.heap.size + 1, 0, none⟩ = some (.int .i64 (n : Int))) := hid ((HB5.out.cell (show w.heap.size + 1 < W4.heap.size by rw [HS4.out]; omega)).trans hN4.out)
  refine hK.out _ _ S5.out (fun _ => ?_)
  clear hK K
  replace HS := S5
  refine wpAnyH_ready (rs := [8]) (by kernel_rfl) (by simp) ?_
  refine AllReadyH.cons rfl (fun K hK => ?_) AllReadyH.nil
  replace hK := hid hK
  go_simp
  obtain ⟨W6, HW6⟩ : ∃ W6, Hid (W5.setCell ⟨W4.heap.size, 0, none⟩ (.int .i64 (f % (n : Int))) = W6) := ⟨_, rfl⟩
  rw [HW6.out]
  have HB6 : Hid (Below W4.heap.size W4 W6) := by rw [← HW6.out]; exact HB5.out.setCell (p := ⟨W4.heap.size, 0, none⟩) (Nat.le_refl _) _
  have HC6 : Hid (W6.heap[W4.heap.size]? = some (.cells #[.int .i64 (f % (n : Int))] 3 (0, 0))) := by rw [← HW6.out]; exact heap_setCell_same W5 _ 0 _ _ _ HC5.out
  have S6 : Hid (W6.cell? ⟨w.heap.size + 1, 0, none⟩ = some (.int .i64 (n : Int))) := hid ((HB6.out.cell (show w.heap.size + 1 < W4.heap.size by rw [HS4.out]; omega)).trans hN4.out)
  refine hK.out _ _ S6.out (fun _ => ?_)
  clear hK K
  refine wpAnyH_done (by kernel_rfl) ?_ _
  clear hc5 hf5
  go_wp2
  go_ret
  have hs4 := HS4.out
  have hs0 := BL3.out.size
  have hfm : (((f % (n : Int)).toNat : Nat) : Int) = f % (n : Int) := by omega
  refine ⟨w.heap.size + 1, W4.heap.size, W3.heap.size, g, l, rfl, ⟨by omega, by omega, by omega, by have := HB1.out.size; omega⟩, HO.out, ⟨?_, ?_, ?_, ?_⟩, ?_⟩
  · rw [HB6.out.block _ (by omega), HB4.out.block _ (by omega)]; exact HN3.out
  · rw [hfm]; exact HC6.out
  · rw [HB6.out.block _ (by omega)]; exact HC4.out
  · exact (HI.out.below HB4.out).belowB HB6.out (by omega)
  · exact (BL3.out.trans (HB4.out.mono hs0)).trans (HB6.out.mono (by omega))
end Go.Proofs.YtjdfclbjmmmcfaaDoor
namespace Go.Proofs.YtjdfclbjmmmcfaaDoor
open Go.RowKit Go.Shelf
def KD (D : Nat → Prop) (A C : World) : Prop := A.heap.size ≤ C.heap.size ∧ ∀ i, D i → C.heap[i]? = A.heap[i]?
theorem KD.refl (D : Nat → Prop) (A : World) : KD D A A := ⟨Nat.le_refl _, fun _ _ => rfl⟩
theorem KD.trans {D : Nat → Prop} {A B C : World} (h : KD D A B) (k : KD D B C) : KD D A C := ⟨Nat.le_trans h.1 k.1, fun i hi => (k.2 i hi).trans (h.2 i hi)⟩
theorem KD.put {D : Nat → Prop} {A : World} {l : Nat} (hl : ¬ D l) (o : Obj) : KD D A (A.putObj l o) := ⟨by simp, fun _ hi => World.putObj_heap_other (fun e => hl (e ▸ hi))⟩
def IterF (F : Fence) (n : Nat) (P : Program) (g : Nat) (lb : Array Value) (enc : Nat → Value → Array Value) (Fit : Nat → Value → World → Prop) (D : Nat → Prop) (N : Nat) (w0 : World) : Prop :=
  ∀ (l : Nat) (J : Nat → World → Prop) (Jx : World → Prop) (W : World), KD D w0 W → (∀ k A C, J k A → A.grownBy C none → J k C) →
    (∀ k v W1, J k W1 → Fit k v W1 → k < N → YieldAt F (n - 1) P l (enc k v) W1 fun e W' => (e = .returned (.bool true) ∧ J (k + 1) W' ∧ KD D W1 W') ∨ (e = .returned (.bool false) ∧ Jx W')) →
    J 0 W → CallsIn F n P g (#[.func (.yield l) #[] #[]] ++ lb) W fun e W' => (∃ v, e = .returned v) ∧ (J N W' ∨ Jx W')
def OutF (B : Nat) (D : Nat → Prop) (I : Nat → World → Prop) (Ix : Code → World → Prop) (k : Nat) (W : World) : Exit → Act → World → Prop
  | .normal, _, W' => KeepsFrom B W W' ∧ KD D W W' ∧ I (k + 1) W'
  | .ret, _, W' => KeepsFrom B W W' ∧ Ix .ret W'
  | .exit id, _, W' => KeepsFrom B W W' ∧ Ix (.exit id) W'
  | _, _, _ => False
theorem range_fit {F : Fence} {n : Nat} {P : Program} {g : Operand} {ps : Array Tmp} {assign body : Code} {Q : Exit → Act → World → Prop} {a : Act} {w : World}
    (hro : F.round = none) (h1 : 1 ≤ n) {gf : Nat} {lb : Array Value} (hg : a.eval g = .func (.func gf) #[] lb) (hFg : F.fn gf) (eg : ∀ args w, (callFunc gf args).run P w = .ok (.enter gf args) w)
    {enc : Nat → Value → Array Value} {Fit : Nat → Value → World → Prop} {D : Nat → Prop} {N : Nat} {w0 : World} (hit : IterF F (n - 1) P gf lb enc Fit D N w0) (hw0 : KD D w0 w) (hD : ∀ i, D i → i < w.heap.size) (hps : ∀ k v, (enc k v).size = ps.size)
    (I : Nat → World → Prop) (Ix : Code → World → Prop) (hI : OwnFrom w.heap.size I) (hIx : OwnFrom w.heap.size Ix) (hFit : ∀ k v, OwnFrom w.heap.size (fun (_ : Unit) W => Fit k v W)) (h0 : I 0 w) (a₁ : Nat → Value → Act)
    (hassign : ∀ (l k : Nat) (v : Value) (W : World) (K : Act → World → Prop), K (a₁ k v) W →
      assign.wpIn (F.inRound l) (n - 1 - 1) P (Exit.then K (fun _ _ _ => False)) { tmps := (ps.zip (enc k v)).foldl (fun t (p, v) => t.setIfInBounds p v) a.tmps, defers := [] } W)
    (hbody : ∀ (l k : Nat) (v : Value) (W : World), w.heap.size ≤ l → (∃ r, W.heap[l]? = some (.loop r)) → I k W → Fit k v W → k < N → body.wpIn (F.inRound l) (n - 1 - 1) P (OutF w.heap.size D I Ix k W) (a₁ k v) W)
    (hdone : ∀ (d : Nat) (W : World), w.heap.size ≤ d → I N W → W.heap[d]? = some (.deferred (some [])) → Q .normal { a with defers := { target := .collected d, args := #[] } :: a.defers } W)
    (hstop : ∀ (d : Nat) (c : Code) (W : World), w.heap.size ≤ d → Ix c W → W.heap[d]? = some (.deferred (some [])) → c.wpIn F n P Q { a with defers := { target := .collected d, args := #[] } :: a.defers } W) :
    (Code.rangeFunc g ps assign body).wpIn F n P Q a w := by
  refine wpIn_rangeFunc fun fn hfn => ?_
  rw [hro]
  let R : LoopState → Option Code → Loop := fun st pe => { state := st, pending := pe, fn, tmps := a.tmps, params := ps, assign, body, defers := w.heap.size }
  have hds : ∀ i, D i → i ≠ w.heap.size ∧ i ≠ w.heap.size + 1 := fun i hi => by have := hD i hi; omega
  have hnd : ¬ D (w.heap.size + 1) := fun h => (hds _ h).2 rfl
  -- what of the two blocks of book-keeping: the record at st, pe, and the block for deferred calls
  let BK : LoopState → Option Code → World → Prop := fun st pe W => W.heap[w.heap.size + 1]? = some (.loop (R st pe)) ∧ W.heap[w.heap.size]? = some (.deferred (some []))
  have bk_put : ∀ {st pe W} (st' pe'), BK st pe W → BK st' pe' (W.putObj (w.heap.size + 1) (.loop (R st' pe'))) := fun st' pe' h =>
    ⟨World.putObj_heap_same (Array.getElem?_eq_some_iff.1 h.1).1, (World.putObj_heap_other (by omega)).trans h.2⟩
  have bk_kept : ∀ {st pe A C}, BK st pe A → KeepsFrom w.heap.size A C → BK st pe C := fun h k => ⟨k.same _ _ (by omega) h.1 rfl, k.same _ _ (Nat.le_refl _) h.2 rfl⟩
  have bk_grown : ∀ {st pe A C}, BK st pe A → A.grownBy C none → BK st pe C := fun h k =>
    ⟨(k.block _ (Array.getElem?_eq_some_iff.1 h.1).1 (by simp)).trans h.1, (k.block _ (Array.getElem?_eq_some_iff.1 h.2).1 (by simp)).trans h.2⟩
  obtain ⟨W1, hW1⟩ : ∃ W1, (w.alloc (.deferred (some []))).alloc (.loop (R .ready none)) = W1 := ⟨_, rfl⟩
  have hg1 : w.grownBy W1 none := by
    rw [← hW1]
    exact ⟨rfl, rfl, rfl, by simp; omega, fun i hi _ => (Below.heap_alloc _ _ _ (by simp; omega)).trans (Below.heap_alloc _ _ _ hi)⟩
  have hBK1 : BK .ready none W1 := by
    rw [← hW1]
    refine ⟨?_, (Below.heap_alloc _ _ _ (by simp)).trans (World.alloc_heap_new w _)⟩
    have := World.alloc_heap_new (w.alloc (.deferred (some []))) (.loop (R .ready none))
    rwa [World.size_alloc] at this
  refine ⟨w.heap.size + 1, [{ target := .collected w.heap.size, args := #[] }], W1, { target := .fn (.func gf) lb, args := #[.func (.yield (w.heap.size + 1)) #[] #[]] }, W1, gf, #[.func (.yield (w.heap.size + 1)) #[] #[]] ++ lb, W1, ?_, ?_, ?_, ?_, fun _ => h1, ?_⟩
  · rw [← hW1]; exact run_enterLoop_outer _ _ _ _ _
  · simp only [resolve, hg]; simp [go_sem]
  · intro f' hf'; simp [Target.leads] at hf'; subst hf'; exact hFg
  · simp [invoke, go_sem, eg]
  · refine (hit (w.heap.size + 1) (fun k W => I k W ∧ BK .ready none W) (fun W => ∃ c, Ix c W ∧ BK .done (some c) W) W1 (hw0.trans ⟨hg1.size, fun i hi => hg1.block i (hD i hi) (by simp)⟩)
      (fun k A C h hg' => ⟨hI k A C none h.1 hg' (fun r e => by cases e), bk_grown h.2 hg'⟩) ?_ ⟨hI 0 w W1 none h0 hg1 (fun r e => by cases e), hBK1⟩).mono ?_
    · rintro k v W ⟨hi, hb⟩ hf hk
      refine ⟨fn, _, assign, body, run_yield (P := P) (r := R .ready none) (args := enc k v) hb.1 (hps k v), roundIn_of_wpIn hfn (hassign _ k v W _ ⟨_, run_beginRound hb.1 rfl, ?_⟩)⟩
      have hb2 : BK .busy none (W.putObj (w.heap.size + 1) (.loop (R .busy none))) := bk_put _ _ hb
      refine wpIn_mono (hbody _ k v _ (by omega) ⟨_, hb2.1⟩ (hI.putObj _ hi (by omega) hb.1 rfl) ((hFit k v).putObj (s := ()) _ hf (by omega) hb.1 rfl) hk) ?_
      rintro e a3 W3 hp
      cases e with
      | normal =>
        obtain ⟨k1, k2, k3⟩ := hp
        have hb3 := bk_kept hb2 k1
        exact ⟨_, _, run_endRound (P := P) none hb3.1, .inl ⟨rfl, ⟨hI.putObj _ k3 (by omega) hb3.1 rfl, bk_put .ready none hb3⟩, ((KD.put hnd _).trans k2).trans (KD.put hnd _)⟩⟩
      | ret =>
        have hb3 := bk_kept hb2 hp.1
        exact ⟨_, _, run_endRound (P := P) (some .ret) hb3.1, .inr ⟨rfl, .ret, hIx.putObj _ hp.2 (by omega) hb3.1 rfl, bk_put .done (some .ret) hb3⟩⟩
      | exit id =>
        have hb3 := bk_kept hb2 hp.1
        exact ⟨_, _, run_endRound (P := P) (some (.exit id)) hb3.1, .inr ⟨rfl, .exit id, hIx.putObj _ hp.2 (by omega) hb3.1 rfl, bk_put .done (some (.exit id)) hb3⟩⟩
      | goto t => exact hp.elim
      | panic ch => exact hp.elim
      | outgrown => exact hp.elim
    · rintro e W2 ⟨⟨v, rfl⟩, ⟨hi, hb⟩ | ⟨c, hc, hb⟩⟩
      · exact ⟨none, _, run_endLoop (P := P) hb.1 (by simp [R]), hdone _ _ (Nat.le_refl _) (hI.putObj _ hi (by omega) hb.1 rfl) ((World.putObj_heap_other (by omega)).trans hb.2)⟩
      · exact ⟨some c, _, run_endLoop (P := P) hb.1 (by simp [R]), hstop _ c _ (Nat.le_refl _) (hIx.putObj _ hc (by omega) hb.1 rfl) ((World.putObj_heap_other (by omega)).trans hb.2)⟩
def noDefer (o : Oper) : Bool := match o.op with | .defer _ => false | _ => true
theorem noDefer_spec {ops : Array Oper} (h : ops.all noDefer = true) (i : Nat) (o : Oper) (ho : ops[i]? = some o) : ∀ c, o.op ≠ .defer c := fun c e => by
  obtain ⟨hi, rfl⟩ := Array.getElem?_eq_some_iff.1 ho
  have := (Array.all_eq_true.1 h) i hi
  simp [noDefer, e] at this
theorem any_round {F : Fence} {n : Nat} {P : Program} {ops : Array Oper} {Q : Exit → Act → World → Prop} {md : Region.Mode} {l : Nat} (hro : F.round = none) (hd : ops.all noDefer = true) :
    ∀ (fuel : Nat) (listed : Array Bool) (a : Act) (w : World), wpAnyIn F n P md ops Q fuel listed a w → wpAnyIn (F.inRound l) n P md ops Q fuel listed a w
  | 0, _, _, _, h => h
  | fuel + 1, listed, a, w, h => by
    refine ⟨h.1, fun i hi => ?_⟩
    have h1 := wpOpIn_mono (fun a' w' h' => any_round (l := l) hro hd fuel (listed.setIfInBounds i true) a' w' h') (h.2 i hi)
    unfold wpOpIn at h1 ⊢
    cases ho : ops[i]? with
    | none => simpa only [ho] using h1
    | some o =>
      simp only [ho] at h1 ⊢
      by_cases hw : Region.wanted o (yielded ops a.tmps) = true
      · simp only [hw, if_true] at h1 ⊢
        unfold Oper.wpIn at h1 ⊢
        refine ⟨h1.1, ?_⟩
        have h2 := h1.2
        rw [Oper.semAt_eq _ _ _ (noDefer_spec hd i o ho)] at h2 ⊢
        exact h2
      · simp only [hw] at h1 ⊢
        exact h1
theorem box_from {A C : World} {row : Option Nat} {B n : Nat} {t : TypeId} {v : Value} (h : Boxed A B t v) (hg : A.grownBy C row) (hr : ∀ r, row = some r → n ≤ r ∧ ∃ o : Obj, A.heap[r]? = some o ∧ o.isCells = false) : Boxed C B t v :=
  h.kept hg fun e => by
    obtain ⟨_, o, ho, hc⟩ := hr B e.symm
    rw [show A.heap[B]? = _ from h] at ho
    cases ho
    cases hc
theorem row_from {A C : World} {row : Option Nat} {B n k size : Nat} {e : TypeId} {v : Value} {xs : List Value} (h : A.ownsRow B e size v k xs) (hg : A.grownBy C row) (hr : ∀ r, row = some r → n ≤ r ∧ ∃ o : Obj, A.heap[r]? = some o ∧ o.isCells = false) : C.ownsRow B e size v k xs := by
  refine h.kept hg ?_
  rcases h.2 with ⟨rfl, _⟩ | ⟨g, cap, cur, rfl, _, hgb, _⟩
  · exact .inl rfl
  · refine .inr fun e' => ?_
    obtain ⟨_, o, ho, hc⟩ := hr g (by simpa [Value.ownBlock] using e'.symm)
    rw [hgb] at ho
    cases ho
    cases hc
theorem below_from {w A C : World} {row : Option Nat} {B n : Nat} (h : Below B w A) (hB : B ≤ w.heap.size) (hg : A.grownBy C row) (hr : ∀ r, row = some r → n ≤ r ∧ ∃ o : Obj, A.heap[r]? = some o ∧ o.isCells = false) (hn : B ≤ n) : Below B w C :=
  h.grown hg (Nat.le_trans hB h.size) (fun k e => by have := (hr k e).1; omega)
end Go.Proofs.YtjdfclbjmmmcfaaDoor
namespace Go.Proofs.YtjdfclbjmmmcfaaDoor
open Go Go.RowKit Go.Shelf
def rdD (a b c g : Nat) (i : Nat) : Prop := i = a ∨ i = b ∨ i = c ∨ i = g
theorem HRd.kept {w0 w : World} {a b c g n f : Nat} {l : List Nat} (h : HRd w0 a b c g n f l) (hK : KD (rdD a b c g) w0 w) : HRd w a b c g n f l :=
  ⟨(hK.2 a (.inl rfl)).trans h.ha, (hK.2 b (.inr (.inl rfl))).trans h.hb, (hK.2 c (.inr (.inr (.inl rfl)))).trans h.hc, (hK.2 g (.inr (.inr (.inr rfl)))).trans h.hg⟩
set_option maxRecDepth 100000 in
set_option maxHeartbeats 4000000 in
theorem round_iter (m : Nat) (w0 : World) (a b c g n f : Nat) (l : List Nat) (h : HRd w0 a b c g n f l) (h1 : 1 ≤ n) (h2 : n ≤ 32) (hf : f < n) (hl : l.length = n) :
    IterF Fence.wide m Tryd.prog 25 #[.pointer (some ⟨a, 0, none⟩), .pointer (some ⟨b, 0, none⟩), .pointer (some ⟨c, 0, none⟩)] (fun k v => #[.int .i64 (((f + k) % n : Nat) : Int), v])
      (fun k v W => v = .int .i64 ((l.getD ((f + k) % n) 0 : Nat) : Int)) (rdD a b c g) n w0 := fun l' J Jx W hK hJ hY h0 => by
  have HH := hid (h.kept hK)
  have HY := hid hY
  have H0 := hid h0
  have HL := hid hl
  clear h hK hJ hY h0 hl
  have ca : W.cell? ⟨a, 0, none⟩ = some (.int .i64 (n : Int)) := (cell_of_row _ _ _ _ _ _ HH.out.ha).trans rfl
  refine callsIn_of_wp Tryd.func25 rfl trivial ?_ rfl
  simp only [Tryd.ntmps25, List.size_toArray, List.length_cons, List.length_nil, Nat.reduceAdd, Nat.reduceSub, Array.replicate_succ, Array.replicate_zero, List.push_toArray, List.append_toArray, List.nil_append, List.cons_append]
  gi_wp2
  gi_loopw [8] (fun i wr => ∃ k : Nat, k ≤ n ∧ i = .int .i64 (k : Int) ∧ Hid (J k wr) ∧ Hid (KD (rdD a b c g) W wr)) (fun i _ => n - (intOf i).toNat)
  case atStart => exact ⟨0, Nat.zero_le _, rfl, H0, KD.refl _ _⟩
  case round =>
    clear ca
    obtain ⟨k, hk, rfl, HJk, HKk⟩ := hrel
    by_cases hlt : k < n
    · have HHk := hid (HH.out.kept HKk.out)
      have ca : wr.cell? ⟨a, 0, none⟩ = some (.int .i64 (n : Int)) := (cell_of_row _ _ _ _ _ _ HHk.out.ha).trans rfl
      have cb : wr.cell? ⟨b, 0, none⟩ = some (.int .i64 (f : Int)) := (cell_of_row _ _ _ _ _ _ HHk.out.hb).trans rfl
      have cc : wr.cell? ⟨c, 0, none⟩ = some (.slice (some ⟨g, 0, none⟩) n n) := (cell_of_row _ _ _ _ _ _ HHk.out.hc).trans rfl
      obtain ⟨r, HR⟩ : ∃ r, Hid ((f + k) % n = r) := ⟨_, rfl⟩
      have hr : r < n := by rw [← HR.out]; exact Nat.mod_lt _ h1
      have hti : Int.tmod ((f : Int) + (k : Int)) (n : Int) = (r : Int) := by
        rw [Int.tmod_eq_emod_of_nonneg (by omega), ← HR.out]
        simp
      have hn0 : ¬ (n = 0) := by omega
      have hcell := HHk.out.hg.cell (i := r) (by rw [HL.out]; exact hr)
      obtain ⟨fn, tmps, assign, body, hy, hR⟩ := HY.out k (.int .i64 ((l.getD ((f + k) % n) 0 : Nat) : Int)) wr HJk.out rfl hlt
      rw [HR.out] at hy
      generalize l.getD r 0 = y at hcell hy
      have HRR := hid hR
      clear hR
      gi_wp2
      refine ⟨fun h => absurd h (by simp [Fence.wide]), HRR.out.mono ?_⟩
      rintro e W3 (⟨rfl, hJ3, hk3⟩ | ⟨rfl, hJx3⟩)
      · clear HRR hy
        have HF3 := hid (And.intro hk3 hJ3)
        clear hk3 hJ3
        gi_wp2
        go_roundw
        case rel => exact ⟨k + 1, hlt, by go_num, HF3.out.2, HKk.out.trans HF3.out.1⟩
        case measure => simp [intOf]; omega
      · clear HRR hy
        have HF3 := hid hJx3
        clear hJx3
        gi_wp2
        refine bodyPost_ret (results_none rfl _ _ _) rfl ?_
        exact ⟨⟨_, rfl⟩, .inr HF3.out⟩
    · have hk' : k = n := by omega
      subst hk'
      gi_wp2
      go_end0
      exact ⟨⟨_, rfl⟩, .inl HJk.out⟩
end Go.Proofs.YtjdfclbjmmmcfaaDoor
namespace Go.Proofs.YtjdfclbjmmmcfaaDoor
open Go.RowKit Go.Shelf
structure JN {β : Type} (J : β → (Nat → Prop) → World → Prop) : Prop where
  more : ∀ s E A C, J s E A → A.grownBy C none → J s (fun i => E i ∨ (A.heap.size ≤ i ∧ i < C.heap.size)) C
  turn : ∀ s E A C r, J s E A → E r → A.grownBy C (some r) → A.heap.size = C.heap.size → J s E C
  less : ∀ s E E' A, J s E A → (∀ i, E' i → E i) → J s E' A
theorem JN.grown {β : Type} {J : β → (Nat → Prop) → World → Prop} (h : JN J) {s : β} {E : Nat → Prop} {A C : World} (hs : J s E A) (hg : A.grownBy C none) : J s E C := h.less _ _ _ _ (h.more _ _ _ _ hs hg) fun _ hi => .inl hi
theorem JN.put {β : Type} {J : β → (Nat → Prop) → World → Prop} (h : JN J) {s : β} {E : Nat → Prop} {A : World} {l : Nat} (o : Obj) (hs : J s E A) (hl : E l) : J s E (A.putObj l o) := h.turn _ _ _ _ _ hs hl (grownBy_putObj' A l o) (by simp)
def KE (E : Nat → Prop) (A C : World) : Prop := A.heap.size ≤ C.heap.size ∧ ∀ i, E i → C.heap[i]? = A.heap[i]?
def IterN (F : Fence) (n : Nat) (P : Program) (g : Nat) (lb : Array Value) (enc : Nat → Value → Array Value) (Fit : Nat → Value → Prop) (D : Nat → Prop) (N : Nat) (w0 : World) : Prop :=
  ∀ (l : Nat) (J : Nat → (Nat → Prop) → World → Prop) (Jx : Unit → (Nat → Prop) → World → Prop) (W : World), KE D w0 W → JN J → JN Jx →
    (∀ k v E W1, J k E W1 → Fit k v → k < N → KE D W W1 → YieldAt F (n - 1) P l (enc k v) W1 fun e W' => (e = .returned (.bool true) ∧ J (k + 1) E W' ∧ KE E W1 W') ∨ (e = .returned (.bool false) ∧ Jx () E W' ∧ KE E W1 W')) →
    J 0 D W → CallsIn F n P g (#[.func (.yield l) #[] #[]] ++ lb) W fun e W' => (∃ v, e = .returned v) ∧ (J N D W' ∨ Jx () D W') ∧ KE D W W'
def OutN (E : Nat → Prop) (I : Nat → (Nat → Prop) → World → Prop) (Ix : Code → (Nat → Prop) → World → Prop) (k : Nat) (W : World) : Exit → Act → World → Prop
  | .normal, _, W' => KE E W W' ∧ I (k + 1) E W'
  | .ret, _, W' => KE E W W' ∧ Ix .ret E W'
  | .exit id, _, W' => KE E W W' ∧ Ix (.exit id) E W'
  | _, _, _ => False
theorem KE.put {E : Nat → Prop} {A : World} {l : Nat} (hl : ¬ E l) (o : Obj) : KE E A (A.putObj l o) := ⟨by simp, fun _ hi => World.putObj_heap_other (fun e => hl (e ▸ hi))⟩
theorem KE.trans {E : Nat → Prop} {A B C : World} (h : KE E A B) (k : KE E B C) : KE E A C := ⟨Nat.le_trans h.1 k.1, fun i hi => (k.2 i hi).trans (h.2 i hi)⟩
theorem KE.mono {E E' : Nat → Prop} {A B : World} (h : KE E A B) (hs : ∀ i, E' i → E i) : KE E' A B := ⟨h.1, fun i hi => h.2 i (hs i hi)⟩
def Ed (E : Nat → Prop) (db : Nat) (i : Nat) : Prop := E i ∨ i = db
theorem jn_one {β : Type} {J : β → (Nat → Prop) → World → Prop} (h : JN J) (db : Nat) (o : Obj) : JN (fun s E W => J s (Ed E db) W ∧ ¬ E db ∧ W.heap[db]? = some o) where
  more := fun s E A C ⟨h1, h2, h3⟩ hg => by
    have hl := (Array.getElem?_eq_some_iff.1 h3).1
    refine ⟨h.less _ _ _ _ (h.more _ _ _ _ h1 hg) (fun i hi => ?_), fun q => ?_, (hg.block db hl (by simp)).trans h3⟩
    · rcases hi with (z | z) | z
      · exact .inl (.inl z)
      · exact .inr z
      · exact .inl (.inr z)
    · rcases q with z | z
      · exact h2 z
      · omega
  turn := fun s E A C r ⟨h1, h2, h3⟩ hr hg hs => ⟨h.turn _ _ _ _ r h1 (.inl hr) hg hs, h2, (hg.block db (Array.getElem?_eq_some_iff.1 h3).1 (fun e => h2 (by cases e; exact hr))).trans h3⟩
  less := fun s E E' A ⟨h1, h2, h3⟩ hl => ⟨h.less _ _ _ _ h1 (fun i hi => hi.imp (hl i) id), fun q => h2 (hl _ q), h3⟩
theorem IterN.one {F : Fence} {n : Nat} {P : Program} {g : Nat} {lb : Array Value} {enc : Nat → Value → Array Value} {Fit : Nat → Value → Prop} {D : Nat → Prop} {N : Nat} {w0 : World} (h : IterN F n P g lb enc Fit D N w0) {ab : Nat} {o : Obj} (hn : ¬ D ab) (ho : w0.heap[ab]? = some o) : IterN F n P g lb enc Fit (Ed D ab) N w0 := fun l J Jx W hK hJ hJx hY h0 => by
  have hoW : W.heap[ab]? = some o := (hK.2 ab (.inr rfl)).trans ho
  refine (h l (fun k E W => J k (Ed E ab) W ∧ ¬ E ab ∧ W.heap[ab]? = some o) (fun s E W => Jx s (Ed E ab) W ∧ ¬ E ab ∧ W.heap[ab]? = some o) W (hK.mono fun i hi => .inl hi) (jn_one hJ ab o) (jn_one hJx ab o) ?_ ⟨h0, hn, hoW⟩).mono ?_
  · rintro k v E W1 ⟨q1, q2, q3⟩ hf hk hke
    obtain ⟨fn, tmps, assign, body, hy, hR⟩ := hY k v (Ed E ab) W1 q1 hf hk ⟨hke.1, fun i hi => hi.elim (hke.2 i) (fun z => by rw [z]; exact q3.trans hoW.symm)⟩
    refine ⟨fn, tmps, assign, body, hy, hR.mono ?_⟩
    rintro e W' (⟨r1, r2, r3⟩ | ⟨r1, r2, r3⟩)
    · exact .inl ⟨r1, ⟨r2, q2, (r3.2 ab (.inr rfl)).trans q3⟩, r3.mono fun i hi => .inl hi⟩
    · exact .inr ⟨r1, ⟨r2, q2, (r3.2 ab (.inr rfl)).trans q3⟩, r3.mono fun i hi => .inl hi⟩
  · rintro e W' ⟨hv, hj, hke⟩
    have hab : W'.heap[ab]? = some o := by rcases hj with z | z <;> exact z.2.2
    refine ⟨hv, hj.imp (·.1) (·.1), hke.1, fun i hi => ?_⟩
    rcases hi with z | z
    · exact hke.2 i z
    · rw [z]; exact hab.trans hoW.symm
def Wi (B : Nat) (E : Nat → Prop) (i : Nat) : Prop := E i ∨ i = B ∨ i = B + 1
theorem range_fitN {F : Fence} {n : Nat} {P : Program} {g : Operand} {ps : Array Tmp} {assign body : Code} {Q : Exit → Act → World → Prop} {a : Act} {w : World}
    (hro : F.round = none) (h1 : 1 ≤ n) {gf : Nat} {lb : Array Value} (hg : a.eval g = .func (.func gf) #[] lb) (hFg : F.fn gf) (eg : ∀ args w, (callFunc gf args).run P w = .ok (.enter gf args) w)
    {enc : Nat → Value → Array Value} {Fit : Nat → Value → Prop} {D : Nat → Prop} {N : Nat} {w0 : World} (hit : IterN F (n - 1) P gf lb enc Fit D N w0) (hw0 : KE D w0 w) (hD : ∀ i, D i → i < w.heap.size) (hps : ∀ k v, (enc k v).size = ps.size)
    (I : Nat → (Nat → Prop) → World → Prop) (Ix : Code → (Nat → Prop) → World → Prop) (hI : JN I) (hIx : JN Ix) (h0 : I 0 D w) (A : Nat → Value → Act → (Nat → Prop) → World → Prop) (hA : ∀ k v, JN (A k v))
    (hassign : ∀ (l k : Nat) (v : Value) (E : Nat → Prop) (W : World), w.heap.size ≤ l → I k E W → (∀ i, D i → E i) → (∀ i, E i → i < W.heap.size) → Fit k v → k < N →
      assign.wpIn (F.inRound l) (n - 1 - 1) P (Exit.then (fun a₁ W₁ => KE E W W₁ ∧ A k v a₁ E W₁) (fun _ _ _ => False)) { tmps := (ps.zip (enc k v)).foldl (fun t (p, v) => t.setIfInBounds p v) a.tmps, defers := [] } W)
    (hbody : ∀ (l k : Nat) (v : Value) (a₁ : Act) (E : Nat → Prop) (W : World), w.heap.size ≤ l → E l → (∃ r, W.heap[l]? = some (.loop r)) → A k v a₁ E W → (∀ i, D i → E i) → (∀ i, E i → i < W.heap.size) → KE D w W → k < N → body.wpIn (F.inRound l) (n - 1 - 1) P (OutN E I Ix k W) a₁ W)
    (hdone : ∀ (d : Nat) (W : World), w.heap.size ≤ d → I N (fun i => D i ∨ i = d) W → W.heap[d]? = some (.deferred (some [])) → KE D w W → Q .normal { a with defers := { target := .collected d, args := #[] } :: a.defers } W)
    (hstop : ∀ (d : Nat) (c : Code) (W : World), w.heap.size ≤ d → Ix c (fun i => D i ∨ i = d) W → W.heap[d]? = some (.deferred (some [])) → KE D w W → c.wpIn F n P Q { a with defers := { target := .collected d, args := #[] } :: a.defers } W) :
    (Code.rangeFunc g ps assign body).wpIn F n P Q a w := by
  refine wpIn_rangeFunc fun fn hfn => ?_
  rw [hro]
  let R : LoopState → Option Code → Loop := fun st pe => { state := st, pending := pe, fn, tmps := a.tmps, params := ps, assign, body, defers := w.heap.size }
  let BK : LoopState → Option Code → World → Prop := fun st pe W => W.heap[w.heap.size + 1]? = some (.loop (R st pe)) ∧ W.heap[w.heap.size]? = some (.deferred (some []))
  have bk_put : ∀ {st pe W} (st' pe'), BK st pe W → BK st' pe' (W.putObj (w.heap.size + 1) (.loop (R st' pe'))) := fun st' pe' h =>
    ⟨World.putObj_heap_same (Array.getElem?_eq_some_iff.1 h.1).1, (World.putObj_heap_other (by omega)).trans h.2⟩
  have bk_kept : ∀ {st pe A C} {E : Nat → Prop}, BK st pe A → KE (Wi w.heap.size E) A C → BK st pe C := fun h k => ⟨(k.2 _ (.inr (.inr rfl))).trans h.1, (k.2 _ (.inr (.inl rfl))).trans h.2⟩
  have bk_grown : ∀ {st pe A C row}, BK st pe A → A.grownBy C row → (∀ r, row = some r → r ≠ w.heap.size ∧ r ≠ w.heap.size + 1) → BK st pe C := fun h k hr =>
    ⟨(k.block _ (Array.getElem?_eq_some_iff.1 h.1).1 (fun e => (hr _ e.symm).2 rfl)).trans h.1, (k.block _ (Array.getElem?_eq_some_iff.1 h.2).1 (fun e => (hr _ e.symm).1 rfl)).trans h.2⟩
  obtain ⟨W1, hW1⟩ : ∃ W1, (w.alloc (.deferred (some []))).alloc (.loop (R .ready none)) = W1 := ⟨_, rfl⟩
  have hs1 : W1.heap.size = w.heap.size + 2 := by rw [← hW1]; simp
  have hg1 : w.grownBy W1 none := by
    rw [← hW1]
    exact ⟨rfl, rfl, rfl, by simp; omega, fun i hi _ => (Below.heap_alloc _ _ _ (by simp; omega)).trans (Below.heap_alloc _ _ _ hi)⟩
  have hBK1 : BK .ready none W1 := by
    rw [← hW1]
    refine ⟨?_, (Below.heap_alloc _ _ _ (by simp)).trans (World.alloc_heap_new w _)⟩
    have := World.alloc_heap_new (w.alloc (.deferred (some []))) (.loop (R .ready none))
    rwa [World.size_alloc] at this
  -- E and the loop's own blocks
  let SD : (Nat → Prop) → Prop := fun E => (∀ i, E i → i ≠ w.heap.size ∧ i ≠ w.heap.size + 1) ∧ ∀ i, D i → E i
  have hSD : SD D := ⟨fun i hi => by have := hD i hi; omega, fun _ h => h⟩
  let JJ : Nat → (Nat → Prop) → World → Prop := fun k E W => ∃ E', (∀ i, E i → E' i) ∧ SD E' ∧ I k (Wi w.heap.size E') W ∧ BK .ready none W ∧ ∀ i, E' i → i < W.heap.size
  let JX : Unit → (Nat → Prop) → World → Prop := fun _ E W => ∃ c E', (∀ i, E i → E' i) ∧ SD E' ∧ Ix c (Wi w.heap.size E') W ∧ BK .done (some c) W ∧ ∀ i, E' i → i < W.heap.size
  have bks : ∀ {st pe W}, BK st pe W → w.heap.size + 1 < W.heap.size := fun h => (Array.getElem?_eq_some_iff.1 h.1).1
  have hJJ : JN JJ := ⟨fun k E X C ⟨E', h1, h2, h3, h4, h5⟩ hg => ⟨fun i => E' i ∨ (X.heap.size ≤ i ∧ i < C.heap.size), fun i hi => hi.imp (h1 i) id, ⟨fun i hi => by
      rcases hi with z | z
      · exact h2.1 i z
      · have := bks h4; omega, fun i hi => .inl (h2.2 i hi)⟩, hI.less _ _ _ _ (hI.more _ _ _ _ h3 hg) (fun i hi => by
      rcases hi with (z | z) | z
      · exact .inl (.inl z)
      · exact .inr z
      · exact .inl (.inr z)), bk_grown h4 hg (fun r e => by cases e), fun i hi => by
      rcases hi with z | z
      · exact Nat.lt_of_lt_of_le (h5 i z) hg.size
      · exact z.2⟩,
    fun k E X C r ⟨E', h1, h2, h3, h4, h5⟩ hr hg hs => ⟨E', h1, h2, hI.turn _ _ _ _ r h3 (.inl (h1 r hr)) hg hs, bk_grown h4 hg (fun q e => by cases e; exact h2.1 r (h1 r hr)), fun i hi => hs ▸ h5 i hi⟩,
    fun k E E2 X ⟨E', h1, h2, h3, h4, h5⟩ hl => ⟨E', fun i hi => h1 i (hl i hi), h2, h3, h4, h5⟩⟩
  have hJX : JN JX := ⟨fun k E X C ⟨c, E', h1, h2, h3, h4, h5⟩ hg => ⟨c, fun i => E' i ∨ (X.heap.size ≤ i ∧ i < C.heap.size), fun i hi => hi.imp (h1 i) id, ⟨fun i hi => by
      rcases hi with z | z
      · exact h2.1 i z
      · have := bks h4; omega, fun i hi => .inl (h2.2 i hi)⟩, hIx.less _ _ _ _ (hIx.more _ _ _ _ h3 hg) (fun i hi => by
      rcases hi with (z | z) | z
      · exact .inl (.inl z)
      · exact .inr z
      · exact .inl (.inr z)), bk_grown h4 hg (fun r e => by cases e), fun i hi => by
      rcases hi with z | z
      · exact Nat.lt_of_lt_of_le (h5 i z) hg.size
      · exact z.2⟩,
    fun k E X C r ⟨c, E', h1, h2, h3, h4, h5⟩ hr hg hs => ⟨c, E', h1, h2, hIx.turn _ _ _ _ r h3 (.inl (h1 r hr)) hg hs, bk_grown h4 hg (fun q e => by cases e; exact h2.1 r (h1 r hr)), fun i hi => hs ▸ h5 i hi⟩,
    fun k E E2 X ⟨c, E', h1, h2, h3, h4, h5⟩ hl => ⟨c, E', fun i hi => h1 i (hl i hi), h2, h3, h4, h5⟩⟩
  have hI1 : JJ 0 D W1 := ⟨D, fun _ h => h, hSD, hI.less _ _ _ _ (hI.more _ _ _ _ h0 hg1) (fun i hi => by
    rcases hi with z | z | z
    · exact .inl z
    · exact .inr (by omega)
    · exact .inr (by omega)), hBK1, fun i hi => by have := hD i hi; omega⟩
  refine ⟨w.heap.size + 1, [{ target := .collected w.heap.size, args := #[] }], W1, { target := .fn (.func gf) lb, args := #[.func (.yield (w.heap.size + 1)) #[] #[]] }, W1, gf, #[.func (.yield (w.heap.size + 1)) #[] #[]] ++ lb, W1, ?_, ?_, ?_, ?_, fun _ => h1, ?_⟩
  · rw [← hW1]; exact run_enterLoop_outer _ _ _ _ _
  · simp only [resolve, hg]; simp [go_sem]
  · intro f' hf'; simp [Target.leads] at hf'; subst hf'; exact hFg
  · simp [invoke, go_sem, eg]
  · refine (hit (w.heap.size + 1) JJ JX W1 (hw0.trans ⟨hg1.size, fun i hi => hg1.block i (hD i hi) (by simp)⟩) hJJ hJX ?_ hI1).mono ?_
    · rintro k v E W ⟨E', hE, hS, hi, hb, hz⟩ hf hk hkd
      have hzw : ∀ {A : World}, W.heap.size ≤ A.heap.size → ∀ i, Wi w.heap.size E' i → i < A.heap.size := fun hA i h => by
        have hbs := bks hb
        rcases h with h | h | h
        · exact Nat.lt_of_lt_of_le (hz i h) hA
        · omega
        · omega
      have hmem : Wi w.heap.size E' (w.heap.size + 1) := .inr (.inr rfl)
      have hDE : ∀ i, D i → Wi w.heap.size E' i := fun i hi => .inl (hS.2 i hi)
      have hnE : ¬ E (w.heap.size + 1) := fun h => (hS.1 _ (hE _ h)).2 rfl
      refine ⟨fn, _, assign, body, run_yield (P := P) (r := R .ready none) (args := enc k v) hb.1 (hps k v), roundIn_of_wpIn hfn (wpIn_mono (hassign _ k v (Wi w.heap.size E') W (by omega) hi hDE (hzw (Nat.le_refl _)) hf hk) ?_)⟩
      rintro e1 a1 Wa hp1
      have hn1 : e1 = .normal := by cases e1 <;> first | rfl | exact hp1.elim
      subst hn1
      obtain ⟨m1, m3⟩ := hp1
      have hb1 := bk_kept hb m1
      refine ⟨_, run_beginRound hb1.1 rfl, ?_⟩
      have hb2 : BK .busy none (Wa.putObj (w.heap.size + 1) (.loop (R .busy none))) := bk_put _ _ hb1
      have m1' : KE E W Wa := m1.mono fun i hi => .inl (hE i hi)
      refine wpIn_mono (hbody _ k v a1 (Wi w.heap.size E') _ (by omega) hmem ⟨_, hb2.1⟩ ((hA k v).put _ m3 hmem) hDE (hzw (by simp; exact m1.1)) (((KE.trans ⟨hg1.size, fun i hi => hg1.block i (hD i hi) (by simp)⟩ hkd).trans (m1.mono fun i hi => hDE i hi)).trans (KE.put (fun q => by have := hD _ q; omega) _)) hk) ?_
      rintro e a3 W3 hp
      cases e with
      | normal =>
        obtain ⟨k2, k3⟩ := hp
        have hb3 := bk_kept hb2 k2
        exact ⟨_, _, run_endRound (P := P) none hb3.1, .inl ⟨rfl, ⟨E', hE, hS, hI.put _ k3 hmem, bk_put .ready none hb3, fun i hi => hzw (by have := m1.1; have := k2.1; simp at this ⊢; omega) i (.inl hi)⟩, (m1'.trans ((KE.put hnE _).trans (k2.mono fun i hi => .inl (hE i hi)))).trans (KE.put hnE _)⟩⟩
      | ret =>
        have hb3 := bk_kept hb2 hp.1
        exact ⟨_, _, run_endRound (P := P) (some .ret) hb3.1, .inr ⟨rfl, ⟨.ret, E', hE, hS, hIx.put _ hp.2 hmem, bk_put .done (some .ret) hb3, fun i hi => hzw (by have := m1.1; have := hp.1.1; simp at this ⊢; omega) i (.inl hi)⟩, (m1'.trans ((KE.put hnE _).trans (hp.1.mono fun i hi => .inl (hE i hi)))).trans (KE.put hnE _)⟩⟩
      | exit id =>
        have hb3 := bk_kept hb2 hp.1
        exact ⟨_, _, run_endRound (P := P) (some (.exit id)) hb3.1, .inr ⟨rfl, ⟨.exit id, E', hE, hS, hIx.put _ hp.2 hmem, bk_put .done (some (.exit id)) hb3, fun i hi => hzw (by have := m1.1; have := hp.1.1; simp at this ⊢; omega) i (.inl hi)⟩, (m1'.trans ((KE.put hnE _).trans (hp.1.mono fun i hi => .inl (hE i hi)))).trans (KE.put hnE _)⟩⟩
      | goto t => exact hp.elim
      | panic ch => exact hp.elim
      | outgrown => exact hp.elim
    · rintro e W2 ⟨⟨v, rfl⟩, ⟨E', hE, hS, hi, hb, -⟩ | ⟨c, E', hE, hS, hc, hb, -⟩, hke⟩
      all_goals have hkf : ∀ o, KE D w (W2.putObj (w.heap.size + 1) o) := fun o => (KE.trans ⟨hg1.size, fun i hi => hg1.block i (hD i hi) (by simp)⟩ hke).trans (KE.put (fun q => by have := hD _ q; omega) o)
      · exact ⟨none, _, run_endLoop (P := P) hb.1 (by simp [R]), hdone _ _ (Nat.le_refl _) (hI.less _ _ _ _ (hI.put _ hi (.inr (.inr rfl))) fun i hi => hi.imp (hE i) .inl) ((World.putObj_heap_other (by omega)).trans hb.2) (hkf _)⟩
      · exact ⟨some c, _, run_endLoop (P := P) hb.1 (by simp [R]), hstop _ c _ (Nat.le_refl _) (hIx.less _ _ _ _ (hIx.put _ hc (.inr (.inr rfl))) fun i hi => hi.imp (hE i) .inl) ((World.putObj_heap_other (by omega)).trans hb.2) (hkf _)⟩
end Go.Proofs.YtjdfclbjmmmcfaaDoor
namespace Go.Proofs.YtjdfclbjmmmcfaaDoor.Ev
open Go Go.RowKit
def calmO (o : Oper) : Bool := match o.op with | .defer _ => false | _ => true
theorem calmO_spec {o : Oper} (h : calmO o = true) : ∀ c, o.op ≠ .defer c := fun c e => by simp [calmO, e] at h
def wideR (ro : Option Nat) : Fence := { Fence.wide with round := ro }
def Ys (Y : List Nat) (yv : Value) (tm : Array Value) : Prop := ∀ y ∈ Y, tm[y]? = some yv
def dstFree (Y : List Nat) (o : Oper) : Bool := match o.dst with | some d => !Y.contains d | none => true
theorem Ys.put {Y : List Nat} {yv : Value} {a : Act} (h : Ys Y yv a.tmps) {o : Oper} (hd : dstFree Y o = true) (v : Value) : Ys Y yv (a.put o.dst v).tmps := by
  unfold dstFree at hd
  cases ho : o.dst with
  | none => exact h
  | some d =>
    rw [ho] at hd
    intro y hy
    simp only [Act.put]
    rw [Array.getElem?_setIfInBounds]
    have : d ≠ y := fun e => by subst e; simp [hy] at hd
    rw [if_neg this]
    exact h y hy
theorem op_in {P : Program} {ro : Option Nat} {n : Nat} {o : Oper} {a : Act} {w : World} {K K' : Act → World → Prop} {Q Q' : Exit → Act → World → Prop}
    (h : o.wp P a w K Q) (hd : calmO o = true) (hQ : ∀ e a w, Q e a w → e = .normal) (hK : ∀ a' w', K a' w' → (∃ v, a'.tmps = (a.put o.dst v).tmps) → K' a' w') : o.wpIn (wideR ro) n P a w K' Q' := by
  refine ⟨fun f _ => trivial, ?_⟩
  rw [Oper.semAt_eq _ _ _ (calmO_spec hd)]
  unfold Oper.wp at h
  generalize (execOp a.eval o).run P w = r at h ⊢
  cases r with
  | ok x w' =>
    cases x with
    | value v => exact hK _ _ h ⟨v, rfl⟩
    | skip => exact hK _ _ h ⟨undef, rfl⟩
    | defer d => exact hK _ _ h ⟨undef, by cases o.dst <;> rfl⟩
    | enter f args =>
      refine ⟨(fun e => by cases e), ?_⟩
      show CallsIn Fence.wide (n - 1) P f args w' _
      refine callsIn_wide.2 (Calls.mono h ?_)
      intro e w'' he
      cases e with
      | returned v => exact hK _ _ he ⟨v, rfl⟩
      | panicked ch => cases hQ _ _ _ he
      | outgrown => obtain ⟨a0, w0, q⟩ := he; cases hQ _ _ _ q
    | row row args =>
      refine ⟨(fun e => by cases e), fun c cs _ => ?_⟩
      obtain ⟨v, w2, r, s⟩ := h c cs
      exact ⟨v, w2, hK _ _ r ⟨v, rfl⟩, stepsIn_wide.2 s⟩
    | round => exact h.elim
    | _ => exact h.elim
  | halt x w' =>
    cases x with
    | panic v => cases hQ _ _ _ h
    | _ => exact h.elim
theorem list_in {P : Program} {ro : Option Nat} {n : Nat} {ops : Array Oper} {Q : Exit → Act → World → Prop} (hQ : ∀ e a w, Q e a w → e = .normal) {Y : List Nat} {yv : Value} : ∀ (l : List Oper) (a : Act) (w : World),
    wpList P ops Q l a w → l.all (fun o => calmO o && dstFree Y o) = true → Ys Y yv a.tmps → wpListIn (wideR ro) n P ops (fun e a w => Q e a w ∧ Ys Y yv a.tmps) l a w
  | [], a, w, h, _, hy => ⟨h, hy⟩
  | o :: r, a, w, h, hc, hy => by
    simp only [List.all_cons, Bool.and_eq_true] at hc
    unfold wpList at h
    unfold wpListIn
    split at h
    · rename_i hw
      rw [if_pos hw]
      rcases h with h | ⟨_, a0, w0, q⟩
      · refine op_in h hc.1.1 hQ fun a' w' hk ⟨v, hv⟩ => ?_
        exact list_in hQ r a' w' hk hc.2 (by rw [hv]; exact hy.put hc.1.2 v)
      · cases hQ _ _ _ q
    · rename_i hw
      rw [if_neg hw]
      exact ⟨fun _ _ => trivial, list_in hQ r _ w h hc.2 (hy.put hc.1.2 _)⟩
theorem any_in {P : Program} {ro : Option Nat} {n : Nat} {md : Region.Mode} {ops : Array Oper} {Q : Exit → Act → World → Prop} (hQ : ∀ e a w, Q e a w → e = .normal) {Y : List Nat} {yv : Value} (hc : ops.all (fun o => calmO o && dstFree Y o) = true) : ∀ (fuel : Nat) (listed : Array Bool) (a : Act) (w : World),
    wpAny P md ops Q fuel listed a w → Ys Y yv a.tmps → wpAnyIn (wideR ro) n P md ops (fun e a w => Q e a w ∧ Ys Y yv a.tmps) fuel listed a w
  | 0, listed, a, w, h, hy => ⟨h.1, h.2, hy⟩
  | fuel + 1, listed, a, w, h, hy => by
    refine ⟨fun e => ⟨h.1 e, hy⟩, fun i hi => ?_⟩
    have h1 := h.2 i hi
    unfold wpOp at h1
    unfold wpOpIn
    cases ho : ops[i]? with
    | none =>
      rw [ho] at h1
      exact any_in hQ hc fuel _ a w h1 hy
    | some o =>
      rw [ho] at h1
      have hco : calmO o = true ∧ dstFree Y o = true := by
        obtain ⟨hi2, e⟩ := Array.getElem?_eq_some_iff.1 ho
        have := (Array.all_eq_true.1 hc) i hi2
        rw [e] at this
        simpa using this
      simp only at h1 ⊢
      split at h1
      · rename_i hw
        rw [if_pos hw]
        rcases h1 with h1 | ⟨_, a0, w0, q⟩
        · refine op_in h1 hco.1 hQ fun a' w' hk ⟨v, hv⟩ => ?_
          exact any_in hQ hc fuel _ a' w' hk (by rw [hv]; exact hy.put hco.2 v)
        · cases hQ _ _ _ q
      · rename_i hw
        rw [if_neg hw]
        exact ⟨fun _ _ => trivial, any_in hQ hc fuel _ _ w h1 (hy.put hco.2 _)⟩
def calm : Code → Bool
  | .skip => true
  | .region _ ops _ => ops.all fun o => calmO o && dstFree [] o
  | .seq a b => calm a && calm b
  | .cond _ x y => calm x && calm y
  | .block _ c => calm c
  | .loop c => calm c
  | .exit _ => true
  | .ret => true
  | .label _ => true
  | _ => false
def CodeOkG (P : Program) (ρ : Env) (self : CodeF) : Prop :=
  ∀ c t H o t' H', self c t H = some (o, t', H') → ∀ (ro : Option Nat), (ro = none ∨ calm c = true) → ∀ (n : Nat) (ms : List Nat) (B : Nat) (a : Act) (w : World) (Q : Exit → Act → World → Prop), RelT ρ ms t a.tmps → Holds ρ ms H B w →
    (∀ ms' a' w', ms <+: ms' → RelT ρ ms' t' a'.tmps → a'.defers = a.defers → Holds ρ ms' H' B w' → Bel B w w' → Q o.to a' w') → c.wpIn (wideR ro) n P Q a w
theorem CodeOkG.plain {P : Program} {ρ : Env} {self : CodeF} (h : CodeOkG P ρ self) : CodeOk P ρ self :=
  fun c t H o t' H' hs ms B a w Q hT hH hQ => (wpIn_wide (n := 0)).1 (h c t H o t' H' hs none (.inl rfl) 0 ms B a w Q hT hH hQ)
theorem evG_gen {P : Program} {ρ : Env} {L : Lore} (hL : LoreOk ρ L) {mk : CodeF → CallF} (hm : P.follows .mixedOrders = true) : ∀ n, (∀ k, k < n → CallOk P ρ (mk (evG P L mk k))) → CodeOkG P ρ (evG P L mk n) := by
  intro n
  induction n using Nat.strongRecOn with
  | _ n ih =>
    intro hcalls
    cases n with
    | zero => intro c t H o t' H' h; simp [evG] at h
    | succ n =>
      have ihn := ih n (by omega) (fun k hk => hcalls k (by omega))
      have hcall : CallOk P ρ (mk (evG P L mk n)) := hcalls n (by omega)
      intro c t H o t' H' h ro hro nn ms B a w Q hT hH hQ
      have sub : ∀ {c' : Code}, (calm c = true → calm c' = true) → (ro = none ∨ calm c' = true) := fun f => hro.imp id f
      rw [evG] at h
      unfold codeStep at h
      split at h
      · -- skip
        simp only [Option.some.injEq, Prod.mk.injEq] at h
        obtain ⟨rfl, rfl, rfl⟩ := h
        exact wpIn_skip (hQ ms a w (List.prefix_refl _) hT rfl hH (Bel.refl _ _))
      · -- a region
        rename_i id ops
        rw [Option.map_eq_some_iff] at h
        obtain ⟨r, h1, h2⟩ := h
        simp only [Prod.mk.injEq] at h2
        obtain ⟨rfl, rfl, rfl⟩ := h2
        have key := evOps_ok (Q := fun e a w => e = .normal ∧ Q .normal a w) hL hcall _ ms t H a w r.1 r.2 hT hH h1 fun ms' a' w' q1 q2 q3 q4 q5 => ⟨rfl, hQ ms' a' w' q1 q2 q3 q4 q5⟩
        rcases hro with rfl | hcm
        · exact wpIn_wide.2 (Code.wp_mono (fun e a w q => by rw [q.1]; exact q.2) (wp_region_list (id := id) key))
        · have hl : ops.toList.all (fun o => calmO o && dstFree [] o) = true := by simpa [calm] using hcm
          refine wpIn_mono (wpIn_region_list (list_in (Y := []) (yv := undef) (fun e a w q => q.1) _ a w key hl (fun y hy => by cases hy))) fun e a w q => ?_
          rw [q.1.1]; exact q.1.2
      · -- a region whose order is open
        rename_i id ops
        rw [Option.map_eq_some_iff] at h
        obtain ⟨r, h1, h2⟩ := h
        simp only [Prod.mk.injEq] at h2
        obtain ⟨rfl, rfl, rfl⟩ := h2
        rcases hro with rfl | hcm
        · exact wpIn_wide.2 (evPlan_ok hL hcall hm _ hT hH h1 fun ms' a' w' q1 q2 q3 q4 q5 => hQ ms' a' w' q1 q2 q3 q4 q5)
        · have key := evPlan_any (Q := Q) hL hcall hT hH h1 fun ms' a' w' q1 q2 q3 q4 q5 => hQ ms' a' w' q1 q2 q3 q4 q5
          refine wpIn_mono (wpIn_region_any hm (any_in (Y := []) (yv := undef) (fun e a w q => q.1) (by simpa [calm] using hcm) _ _ a _ key (fun y hy => by cases hy))) fun e a w q => ?_
          rw [q.1.1]; exact q.1.2
      · -- one behind the other
        rename_i x y
        have cx := sub (c' := x) (fun e => by simp only [calm, Bool.and_eq_true] at e; exact e.1)
        have cy := sub (c' := y) (fun e => by simp only [calm, Bool.and_eq_true] at e; exact e.2)
        split at h
        · rename_i t1 H1 h1
          refine wpIn_seq (ihn x t H .normal t1 H1 h1 ro cx nn ms B a w _ hT hH fun ms1 a1 w1 q1 q2 q3 q4 q5 => ?_)
          exact ihn y t1 H1 o t' H' h ro cy nn ms1 B a1 w1 Q q2 q4 fun ms2 a2 w2 r1 r2 r3 r4 r5 => hQ ms2 a2 w2 (q1.trans r1) r2 (r3.trans q3) r4 (q5.trans r5)
        · rename_i hne
          have hno : o ≠ .normal := fun e => by subst e; exact hne t' H' h
          refine wpIn_seq (ihn x t H o t' H' h ro cx nn ms B a w _ hT hH fun ms1 a1 w1 q1 q2 q3 q4 q5 => ?_)
          have := hQ ms1 a1 w1 q1 q2 q3 q4 q5
          cases o with
          | normal => exact absurd rfl hno
          | exit i => exact this
          | ret => exact this
      · -- a choice
        rename_i cc x y
        have cx := sub (c' := x) (fun e => by simp only [calm, Bool.and_eq_true] at e; exact e.1)
        have cy := sub (c' := y) (fun e => by simp only [calm, Bool.and_eq_true] at e; exact e.2)
        split at h
        · rename_i hc
          have e := evGet_ok hT hc
          simp only [AV.inst, TV.inst, SV.inst, Option.some.injEq] at e
          exact wpIn_cond_true e.symm (ihn x t H o t' H' h ro cx nn ms B a w Q hT hH hQ)
        · rename_i hc
          have e := evGet_ok hT hc
          simp only [AV.inst, TV.inst, SV.inst, Option.some.injEq] at e
          exact wpIn_cond_false e.symm (ihn y t H o t' H' h ro cy nn ms B a w Q hT hH hQ)
        · cases h
      · -- a block
        rename_i id x
        have cx := sub (c' := x) (fun e => by simpa only [calm] using e)
        split at h
        · rename_i i t1 H1 h1
          refine wpIn_block (ihn x t H (.exit i) t1 H1 h1 ro cx nn ms B a w _ hT hH fun ms1 a1 w1 q1 q2 q3 q4 q5 => ?_)
          simp only [Out.to, Exit.inBlock]
          split at h
          · rename_i e
            rw [if_pos e]
            simp only [Option.some.injEq, Prod.mk.injEq] at h
            obtain ⟨rfl, rfl, rfl⟩ := h
            exact hQ ms1 a1 w1 q1 q2 q3 q4 q5
          · rename_i e
            rw [if_neg e]
            simp only [Option.some.injEq, Prod.mk.injEq] at h
            obtain ⟨rfl, rfl, rfl⟩ := h
            exact hQ ms1 a1 w1 q1 q2 q3 q4 q5
        · rename_i hne
          refine wpIn_block (ihn x t H o t' H' h ro cx nn ms B a w _ hT hH fun ms1 a1 w1 q1 q2 q3 q4 q5 => ?_)
          have := hQ ms1 a1 w1 q1 q2 q3 q4 q5
          cases o with
          | normal => exact this
          | exit i => exact absurd h (hne i t' H')
          | ret => exact this
      · -- a loop
        rename_i x
        have cx := sub (c' := x) (fun e => by simpa only [calm] using e)
        have start : evG P L mk (n + 1) (.loop x) t H = some (o, t', H') := by rw [evG]; exact h
        let R : Nat → Act → World → Prop := fun k a1 w1 => k ≤ n + 1 ∧ ∃ ms1 t1 H1, evG P L mk k (.loop x) t1 H1 = some (o, t', H') ∧ ms <+: ms1 ∧ RelT ρ ms1 t1 a1.tmps ∧ a1.defers = a.defers ∧ Holds ρ ms1 H1 B w1 ∧ Bel B w w1
        classical
        refine wpIn_loop (fun a1 w1 => ∃ k, R k a1 w1) (fun a1 w1 => if hx : ∃ k, R k a1 w1 then Classical.choose (has_least hx) else 0) ⟨n + 1, Nat.le_refl _, ms, t, H, start, List.prefix_refl _, hT, rfl, hH, Bel.refl _ _⟩ ?_
        intro a1 w1 hI
        have hmin := (Classical.choose_spec (has_least hI)).1
        have hall := (Classical.choose_spec (has_least hI)).2
        generalize hk : Classical.choose (has_least hI) = k at hmin hall
        obtain ⟨hle, ms1, t1, H1, hev, p1, p2, p3, p4, p5⟩ := hmin
        cases k with
        | zero => simp [evG] at hev
        | succ k =>
          have ihk := ih k (by omega) (fun j hj => hcalls j (by omega))
          rw [evG] at hev
          simp only [codeStep] at hev
          split at hev
          · rename_i t2 H2 h2
            refine ihk x t1 H1 .normal t2 H2 h2 ro cx nn ms1 B a1 w1 _ p2 p4 fun ms2 a2 w2 q1 q2 q3 q4 q5 => ?_
            have hR : R k a2 w2 := ⟨by omega, ms2, t2, H2, hev, p1.trans q1, q2, q3.trans p3, q4, p5.trans q5⟩
            have hE : ∃ j, R j a2 w2 := ⟨k, hR⟩
            refine ⟨hE, ?_⟩
            rw [dif_pos hE, dif_pos hI, hk]
            exact Nat.lt_succ_of_le ((Classical.choose_spec (has_least hE)).2 k hR)
          · rename_i hne
            refine ihk x t1 H1 o t' H' hev ro cx nn ms1 B a1 w1 _ p2 p4 fun ms2 a2 w2 q1 q2 q3 q4 q5 => ?_
            have := hQ ms2 a2 w2 (p1.trans q1) q2 (q3.trans p3) q4 (p5.trans q5)
            cases o with
            | normal => exact absurd hev (hne t' H')
            | exit i => exact this
            | ret => exact this
      · simp only [Option.some.injEq, Prod.mk.injEq] at h
        obtain ⟨rfl, rfl, rfl⟩ := h
        exact wpIn_exit (hQ ms a w (List.prefix_refl _) hT rfl hH (Bel.refl _ _))
      · simp only [Option.some.injEq, Prod.mk.injEq] at h
        obtain ⟨rfl, rfl, rfl⟩ := h
        exact wpIn_ret (hQ ms a w (List.prefix_refl _) hT rfl hH (Bel.refl _ _))
      · simp only [Option.some.injEq, Prod.mk.injEq] at h
        obtain ⟨rfl, rfl, rfl⟩ := h
        exact wpIn_label (hQ ms a w (List.prefix_refl _) hT rfl hH (Bel.refl _ _))
      · rename_i x
        rcases hro with rfl | hcm
        · refine wpIn_wide.2 (wp_scope_straight ((wpIn_wide (n := nn)).1 (ihn _ t H o t' H' h none (.inl rfl) nn ms B a w _ hT hH fun ms2 a2 w2 q1 q2 q3 q4 q5 => ?_)))
          have := hQ ms2 a2 w2 q1 q2 q3 q4 q5
          cases o <;> exact this
        · simp [calm] at hcm
      · cases h
theorem evG_both {P : Program} {ρ : Env} {L : Lore} (hL : LoreOk ρ L) {mk : CodeF → CallF} (hmk : ∀ self, CodeOkG P ρ self → CallOk P ρ (mk self)) (hm : P.follows .mixedOrders = true) : ∀ n, CodeOkG P ρ (evG P L mk n) := by
  intro n
  induction n using Nat.strongRecOn with
  | _ n ih => exact evG_gen hL hm n fun k hk => hmk _ (ih k hk)
end Go.Proofs.YtjdfclbjmmmcfaaDoor.Ev
namespace Go.Proofs.YtjdfclbjmmmcfaaDoor
open Go.RowKit Go.Shelf Ev
def dAct (a : Act) (ps : Array Tmp) (vs : Array Value) (ds db : Nat) : Act := { tmps := ((ps.zip vs).foldl (fun t (p, v) => t.setIfInBounds p v) a.tmps).setIfInBounds ds (.pointer (some ⟨db, 0, none⟩)), defers := [] }
theorem range_fitD {F : Fence} {n : Nat} {P : Program} {g : Operand} {ps : Array Tmp} {assign body : Code} {Q : Exit → Act → World → Prop} {a : Act} {w : World}
    (hro : F.round = none) (h1 : 1 ≤ n) {gf : Nat} {lb : Array Value} (hg : a.eval g = .func (.func gf) #[] lb) (hFg : F.fn gf) (eg : ∀ args w, (callFunc gf args).run P w = .ok (.enter gf args) w)
    {enc : Nat → Value → Array Value} {Fit : Nat → Value → Prop} {D : Nat → Prop} {N : Nat} {w0 : World} (hit : IterN F (n - 1) P gf lb enc Fit D N w0) (hw0 : KE D w0 w) (hD : ∀ i, D i → i < w.heap.size) (hps : ∀ k v, (enc k v).size = ps.size)
    (I : Nat → (Nat → Prop) → World → Prop) (Ix : Code → (Nat → Prop) → World → Prop) (hI : JN I) (hIx : JN Ix) (h0 : I 0 D w) (ds : Nat) (B : Nat → Value → Obj)
    (hassign : ∀ (l k : Nat) (v : Value) (W : World), Fit k v → k < N →
      assign.wpIn (F.inRound l) (n - 1 - 1) P (Exit.then (fun a₁ W₁ => a₁ = dAct a ps (enc k v) ds W.heap.size ∧ W₁ = W.alloc (B k v)) (fun _ _ _ => False)) { tmps := (ps.zip (enc k v)).foldl (fun t (p, v) => t.setIfInBounds p v) a.tmps, defers := [] } W)
    (hbody : ∀ (l k : Nat) (v : Value) (db : Nat) (E : Nat → Prop) (W : World), w.heap.size ≤ l → E l → (∃ r, W.heap[l]? = some (.loop r)) → I k (Ed E db) W → ¬ E db → W.heap[db]? = some (B k v) → (∀ i, D i → E i) → (∀ i, E i → i < W.heap.size) → KE D w W → Fit k v → k < N → body.wpIn (F.inRound l) (n - 1 - 1) P (OutN E I Ix k W) (dAct a ps (enc k v) ds db) W)
    (hdone : ∀ (d : Nat) (W : World), w.heap.size ≤ d → I N (fun i => D i ∨ i = d) W → W.heap[d]? = some (.deferred (some [])) → KE D w W → Q .normal { a with defers := { target := .collected d, args := #[] } :: a.defers } W)
    (hstop : ∀ (d : Nat) (c : Code) (W : World), w.heap.size ≤ d → Ix c (fun i => D i ∨ i = d) W → W.heap[d]? = some (.deferred (some [])) → KE D w W → c.wpIn F n P Q { a with defers := { target := .collected d, args := #[] } :: a.defers } W) :
    (Code.rangeFunc g ps assign body).wpIn F n P Q a w := by
  refine range_fitN hro h1 hg hFg eg hit hw0 hD hps I Ix hI hIx h0 (fun k v a₁ E W => ∃ db, a₁ = dAct a ps (enc k v) ds db ∧ Fit k v ∧ (I k (Ed E db) W ∧ ¬ E db ∧ W.heap[db]? = some (B k v)))
    (fun k v => ⟨fun s E A C ⟨db, q1, q2, q3⟩ hg => ⟨db, q1, q2, (jn_one hI db _).more k _ _ _ q3 hg⟩, fun s E A C r ⟨db, q1, q2, q3⟩ hr hg hs => ⟨db, q1, q2, (jn_one hI db _).turn k _ _ _ r q3 hr hg hs⟩, fun s E E' A ⟨db, q1, q2, q3⟩ hl => ⟨db, q1, q2, (jn_one hI db _).less k _ _ _ q3 hl⟩⟩) ?_ ?_ hdone hstop
  · intro l k v E W hl hi hDE hEl hf hk
    refine wpIn_mono (hassign l k v W hf hk) ?_
    rintro e a1 W1 hp
    have hn1 : e = .normal := by cases e <;> first | rfl | exact hp.elim
    subst hn1
    obtain ⟨rfl, rfl⟩ := hp
    have hs : (W.alloc (B k v)).heap.size = W.heap.size + 1 := by simp
    refine ⟨⟨by omega, fun i hi => Below.heap_alloc W _ i (hEl i hi)⟩, W.heap.size, rfl, hf, hI.less _ _ _ _ (hI.more k E W (W.alloc (B k v)) hi ⟨rfl, rfl, rfl, by omega, fun i hi _ => Below.heap_alloc W _ i hi⟩) (fun i hi => ?_), fun q => by have := hEl _ q; omega, World.alloc_heap_new W _⟩
    rcases hi with z | z
    · exact .inl z
    · exact .inr (by omega)
  · rintro l k v a1 E W hl hE hr ⟨db, rfl, hf, q1, q2, q3⟩ hDE hEl hkd hk
    exact hbody l k v db E W hl hE hr q1 q2 q3 hDE hEl hkd hf hk
theorem in_region_held {P : Program} {ops : Array Oper} {K : Act → World → Prop} {Qq : Exit → Act → World → Prop} {S : World → Prop} {l n id : Nat} {a : Act} {w : World} (hm : P.follows .mixedOrders = true) (hc : ops.all (fun o => calmO o && dstFree [] o) = true) (hS : S w.drew)
    (h : S w.drew → wpAnyH P .any ops (fun e a' w' => e = .normal ∧ Exit.then K Qq e a' w') S ops.size (Array.replicate ops.size false) a w.drew) : (Code.region id ops true).wpIn (Fence.wide.inRound l) n P (Exit.then K Qq) a w :=
  wpIn_mono (wpIn_region_any hm (any_in (ro := some l) (Y := []) (yv := undef) (Q := fun e a' w' => e = .normal ∧ Exit.then K Qq e a' w') (fun e a w q => q.1) hc _ _ _ _ (wpAny_of_held _ _ _ _ (h hS)) (fun y hy => by cases hy))) (fun e a' w' q => q.1.2)
end Go.Proofs.YtjdfclbjmmmcfaaDoor
namespace Go.Proofs.YtjdfclbjmmmcfaaDoor
open Go.RowKit Go.Shelf
theorem IterN.inRound {F : Fence} {n : Nat} {P : Program} {g : Nat} {lb : Array Value} {enc : Nat → Value → Array Value} {Fit : Nat → Value → Prop} {D : Nat → Prop} {N : Nat} {w0 : World} (l : Nat) (h : IterN F n P g lb enc Fit D N w0) : IterN (F.inRound l) n P g lb enc Fit D N w0 := h
theorem range_fitR {F : Fence} {l0 : Nat} {r0 : Loop} {n : Nat} {P : Program} {g : Operand} {ps : Array Tmp} {assign body : Code} {Q : Exit → Act → World → Prop} {a : Act} {w : World}
    (hro : F.round = some l0) (hl0 : w.heap[l0]? = some (.loop r0)) (h1 : F.depth.isSome = true → 1 ≤ n) {gf : Nat} {lb : Array Value} (hg : a.eval g = .func (.func gf) #[] lb) (hFg : F.fn gf) (eg : ∀ args w, (callFunc gf args).run P w = .ok (.enter gf args) w)
    {enc : Nat → Value → Array Value} {Fit : Nat → Value → Prop} {D : Nat → Prop} {N : Nat} {w0 : World} (hit : IterN F (n - 1) P gf lb enc Fit D N w0) (hw0 : KE D w0 w) (hD : ∀ i, D i → i < w.heap.size) (hps : ∀ k v, (enc k v).size = ps.size)
    (I : Nat → (Nat → Prop) → World → Prop) (Ix : Code → (Nat → Prop) → World → Prop) (hI : JN I) (hIx : JN Ix) (h0 : I 0 D w) (A : Nat → Value → Act → (Nat → Prop) → World → Prop) (hA : ∀ k v, JN (A k v))
    (hassign : ∀ (l k : Nat) (v : Value) (E : Nat → Prop) (W : World), w.heap.size ≤ l → I k E W → (∀ i, D i → E i) → (∀ i, E i → i < W.heap.size) → Fit k v → k < N →
      assign.wpIn (F.inRound l) (n - 1 - 1) P (Exit.then (fun a₁ W₁ => KE E W W₁ ∧ A k v a₁ E W₁) (fun _ _ _ => False)) { tmps := (ps.zip (enc k v)).foldl (fun t (p, v) => t.setIfInBounds p v) a.tmps, defers := [] } W)
    (hbody : ∀ (l k : Nat) (v : Value) (a₁ : Act) (E : Nat → Prop) (W : World), w.heap.size ≤ l → E l → (∃ r, W.heap[l]? = some (.loop r)) → A k v a₁ E W → (∀ i, D i → E i) → (∀ i, E i → i < W.heap.size) → KE D w W → k < N → body.wpIn (F.inRound l) (n - 1 - 1) P (OutN E I Ix k W) a₁ W)
    (hdone : ∀ (W : World), I N D W → KE D w W → Q .normal a W)
    (hstop : ∀ (c : Code) (W : World), Ix c D W → KE D w W → c.wpIn F n P Q a W) :
    (Code.rangeFunc g ps assign body).wpIn F n P Q a w := by
  refine wpIn_rangeFunc fun fn hfn => ?_
  rw [hro]
  let R : LoopState → Option Code → Loop := fun st pe => { state := st, pending := pe, fn, tmps := a.tmps, params := ps, assign, body, defers := r0.defers }
  let BK : LoopState → Option Code → World → Prop := fun st pe W => W.heap[w.heap.size]? = some (.loop (R st pe))
  have bk_put : ∀ {st pe W} (st' pe'), BK st pe W → BK st' pe' (W.putObj w.heap.size (.loop (R st' pe'))) := fun st' pe' h =>
    World.putObj_heap_same (Array.getElem?_eq_some_iff.1 h).1
  have bk_kept : ∀ {st pe A C} {E : Nat → Prop}, BK st pe A → KE (Ed E w.heap.size) A C → BK st pe C := fun h k => (k.2 _ (.inr rfl)).trans h
  have bk_grown : ∀ {st pe A C row}, BK st pe A → A.grownBy C row → (∀ r, row = some r → r ≠ w.heap.size) → BK st pe C := fun h k hr =>
    (k.block _ (Array.getElem?_eq_some_iff.1 h).1 (fun e => hr _ e.symm rfl)).trans h
  obtain ⟨W1, hW1⟩ : ∃ W1, w.alloc (.loop (R .ready none)) = W1 := ⟨_, rfl⟩
  have hs1 : W1.heap.size = w.heap.size + 1 := by rw [← hW1]; simp
  have hg1 : w.grownBy W1 none := by
    rw [← hW1]
    exact ⟨rfl, rfl, rfl, by simp, fun i hi _ => Below.heap_alloc _ _ _ hi⟩
  have hBK1 : BK .ready none W1 := by
    rw [← hW1]
    exact World.alloc_heap_new w _
  -- E and the loop's own blocks
  let SD : (Nat → Prop) → Prop := fun E => (∀ i, E i → i ≠ w.heap.size) ∧ ∀ i, D i → E i
  have hSD : SD D := ⟨fun i hi => by have := hD i hi; omega, fun _ h => h⟩
  let JJ : Nat → (Nat → Prop) → World → Prop := fun k E W => ∃ E', (∀ i, E i → E' i) ∧ SD E' ∧ I k (Ed E' w.heap.size) W ∧ BK .ready none W ∧ ∀ i, E' i → i < W.heap.size
  let JX : Unit → (Nat → Prop) → World → Prop := fun _ E W => ∃ c E', (∀ i, E i → E' i) ∧ SD E' ∧ Ix c (Ed E' w.heap.size) W ∧ BK .done (some c) W ∧ ∀ i, E' i → i < W.heap.size
  have bks : ∀ {st pe W}, BK st pe W → w.heap.size < W.heap.size := fun h => (Array.getElem?_eq_some_iff.1 h).1
  have hJJ : JN JJ := ⟨fun k E X C ⟨E', h1, h2, h3, h4, h5⟩ hg => ⟨fun i => E' i ∨ (X.heap.size ≤ i ∧ i < C.heap.size), fun i hi => hi.imp (h1 i) id, ⟨fun i hi => by
      rcases hi with z | z
      · exact h2.1 i z
      · have := bks h4; omega, fun i hi => .inl (h2.2 i hi)⟩, hI.less _ _ _ _ (hI.more _ _ _ _ h3 hg) (fun i hi => by
      rcases hi with (z | z) | z
      · exact .inl (.inl z)
      · exact .inr z
      · exact .inl (.inr z)), bk_grown h4 hg (fun r e => by cases e), fun i hi => by
      rcases hi with z | z
      · exact Nat.lt_of_lt_of_le (h5 i z) hg.size
      · exact z.2⟩,
    fun k E X C r ⟨E', h1, h2, h3, h4, h5⟩ hr hg hs => ⟨E', h1, h2, hI.turn _ _ _ _ r h3 (.inl (h1 r hr)) hg hs, bk_grown h4 hg (fun q e => by cases e; exact h2.1 r (h1 r hr)), fun i hi => hs ▸ h5 i hi⟩,
    fun k E E2 X ⟨E', h1, h2, h3, h4, h5⟩ hl => ⟨E', fun i hi => h1 i (hl i hi), h2, h3, h4, h5⟩⟩
  have hJX : JN JX := ⟨fun k E X C ⟨c, E', h1, h2, h3, h4, h5⟩ hg => ⟨c, fun i => E' i ∨ (X.heap.size ≤ i ∧ i < C.heap.size), fun i hi => hi.imp (h1 i) id, ⟨fun i hi => by
      rcases hi with z | z
      · exact h2.1 i z
      · have := bks h4; omega, fun i hi => .inl (h2.2 i hi)⟩, hIx.less _ _ _ _ (hIx.more _ _ _ _ h3 hg) (fun i hi => by
      rcases hi with (z | z) | z
      · exact .inl (.inl z)
      · exact .inr z
      · exact .inl (.inr z)), bk_grown h4 hg (fun r e => by cases e), fun i hi => by
      rcases hi with z | z
      · exact Nat.lt_of_lt_of_le (h5 i z) hg.size
      · exact z.2⟩,
    fun k E X C r ⟨c, E', h1, h2, h3, h4, h5⟩ hr hg hs => ⟨c, E', h1, h2, hIx.turn _ _ _ _ r h3 (.inl (h1 r hr)) hg hs, bk_grown h4 hg (fun q e => by cases e; exact h2.1 r (h1 r hr)), fun i hi => hs ▸ h5 i hi⟩,
    fun k E E2 X ⟨c, E', h1, h2, h3, h4, h5⟩ hl => ⟨c, E', fun i hi => h1 i (hl i hi), h2, h3, h4, h5⟩⟩
  have hI1 : JJ 0 D W1 := ⟨D, fun _ h => h, hSD, hI.less _ _ _ _ (hI.more _ _ _ _ h0 hg1) (fun i hi => by
    rcases hi with z | z
    · exact .inl z
    · exact .inr (by omega)), hBK1, fun i hi => by have := hD i hi; omega⟩
  refine ⟨w.heap.size, [], W1, { target := .fn (.func gf) lb, args := #[.func (.yield w.heap.size) #[] #[]] }, W1, gf, #[.func (.yield w.heap.size) #[] #[]] ++ lb, W1, ?_, ?_, ?_, ?_, h1, ?_⟩
  · rw [← hW1]; exact run_enterLoop_inner hl0 _ _ _ _ _
  · simp only [resolve, hg]; simp [go_sem]
  · intro f' hf'; simp [Target.leads] at hf'; subst hf'; exact hFg
  · simp [invoke, go_sem, eg]
  · refine (hit w.heap.size JJ JX W1 (hw0.trans ⟨hg1.size, fun i hi => hg1.block i (hD i hi) (by simp)⟩) hJJ hJX ?_ hI1).mono ?_
    · rintro k v E W ⟨E', hE, hS, hi, hb, hz⟩ hf hk hkd
      have hzw : ∀ {A : World}, W.heap.size ≤ A.heap.size → ∀ i, Ed E' w.heap.size i → i < A.heap.size := fun hA i h => by
        have hbs := bks hb
        rcases h with h | h
        · exact Nat.lt_of_lt_of_le (hz i h) hA
        · omega
      have hmem : Ed E' w.heap.size w.heap.size := .inr rfl
      have hDE : ∀ i, D i → Ed E' w.heap.size i := fun i hi => .inl (hS.2 i hi)
      have hnE : ¬ E w.heap.size := fun h => hS.1 _ (hE _ h) rfl
      refine ⟨fn, _, assign, body, run_yield (P := P) (r := R .ready none) (args := enc k v) hb (hps k v), roundIn_of_wpIn hfn (wpIn_mono (hassign _ k v (Ed E' w.heap.size) W (by omega) hi hDE (hzw (Nat.le_refl _)) hf hk) ?_)⟩
      rintro e1 a1 Wa hp1
      have hn1 : e1 = .normal := by cases e1 <;> first | rfl | exact hp1.elim
      subst hn1
      obtain ⟨m1, m3⟩ := hp1
      have hb1 := bk_kept hb m1
      refine ⟨_, run_beginRound hb1 rfl, ?_⟩
      have hb2 : BK .busy none (Wa.putObj w.heap.size (.loop (R .busy none))) := bk_put _ _ hb1
      have m1' : KE E W Wa := m1.mono fun i hi => .inl (hE i hi)
      refine wpIn_mono (hbody _ k v a1 (Ed E' w.heap.size) _ (by omega) hmem ⟨_, hb2⟩ ((hA k v).put _ m3 hmem) hDE (hzw (by simp; exact m1.1)) (((KE.trans ⟨hg1.size, fun i hi => hg1.block i (hD i hi) (by simp)⟩ hkd).trans (m1.mono fun i hi => hDE i hi)).trans (KE.put (fun q => by have := hD _ q; omega) _)) hk) ?_
      rintro e a3 W3 hp
      cases e with
      | normal =>
        obtain ⟨k2, k3⟩ := hp
        have hb3 := bk_kept hb2 k2
        exact ⟨_, _, run_endRound (P := P) none hb3, .inl ⟨rfl, ⟨E', hE, hS, hI.put _ k3 hmem, bk_put .ready none hb3, fun i hi => hzw (by have := m1.1; have := k2.1; simp at this ⊢; omega) i (.inl hi)⟩, (m1'.trans ((KE.put hnE _).trans (k2.mono fun i hi => .inl (hE i hi)))).trans (KE.put hnE _)⟩⟩
      | ret =>
        have hb3 := bk_kept hb2 hp.1
        exact ⟨_, _, run_endRound (P := P) (some .ret) hb3, .inr ⟨rfl, ⟨.ret, E', hE, hS, hIx.put _ hp.2 hmem, bk_put .done (some .ret) hb3, fun i hi => hzw (by have := m1.1; have := hp.1.1; simp at this ⊢; omega) i (.inl hi)⟩, (m1'.trans ((KE.put hnE _).trans (hp.1.mono fun i hi => .inl (hE i hi)))).trans (KE.put hnE _)⟩⟩
      | exit id =>
        have hb3 := bk_kept hb2 hp.1
        exact ⟨_, _, run_endRound (P := P) (some (.exit id)) hb3, .inr ⟨rfl, ⟨.exit id, E', hE, hS, hIx.put _ hp.2 hmem, bk_put .done (some (.exit id)) hb3, fun i hi => hzw (by have := m1.1; have := hp.1.1; simp at this ⊢; omega) i (.inl hi)⟩, (m1'.trans ((KE.put hnE _).trans (hp.1.mono fun i hi => .inl (hE i hi)))).trans (KE.put hnE _)⟩⟩
      | goto t => exact hp.elim
      | panic ch => exact hp.elim
      | outgrown => exact hp.elim
    · rintro e W2 ⟨⟨v, rfl⟩, ⟨E', hE, hS, hi, hb, -⟩ | ⟨c, E', hE, hS, hc, hb, -⟩, hke⟩
      all_goals have hkf : ∀ o, KE D w (W2.putObj w.heap.size o) := fun o => (KE.trans ⟨hg1.size, fun i hi => hg1.block i (hD i hi) (by simp)⟩ hke).trans (KE.put (fun q => by have := hD _ q; omega) o)
      · exact ⟨none, _, run_endLoop (P := P) hb (by simp [R]), hdone _ (hI.less _ _ _ _ (hI.put _ hi (.inr rfl)) fun i hi => .inl (hE i hi)) (hkf _)⟩
      · exact ⟨some c, _, run_endLoop (P := P) hb (by simp [R]), hstop c _ (hIx.less _ _ _ _ (hIx.put _ hc (.inr rfl)) fun i hi => .inl (hE i hi)) (hkf _)⟩
theorem range_fitRD {F : Fence} {l0 : Nat} {r0 : Loop} {n : Nat} {P : Program} {g : Operand} {ps : Array Tmp} {assign body : Code} {Q : Exit → Act → World → Prop} {a : Act} {w : World}
    (hro : F.round = some l0) (hl0 : w.heap[l0]? = some (.loop r0)) (h1 : F.depth.isSome = true → 1 ≤ n) {gf : Nat} {lb : Array Value} (hg : a.eval g = .func (.func gf) #[] lb) (hFg : F.fn gf) (eg : ∀ args w, (callFunc gf args).run P w = .ok (.enter gf args) w)
    {enc : Nat → Value → Array Value} {Fit : Nat → Value → Prop} {D : Nat → Prop} {N : Nat} {w0 : World} (hit : IterN F (n - 1) P gf lb enc Fit D N w0) (hw0 : KE D w0 w) (hD : ∀ i, D i → i < w.heap.size) (hps : ∀ k v, (enc k v).size = ps.size)
    (I : Nat → (Nat → Prop) → World → Prop) (Ix : Code → (Nat → Prop) → World → Prop) (hI : JN I) (hIx : JN Ix) (h0 : I 0 D w) (ds : Nat) (B : Nat → Value → Obj)
    (hassign : ∀ (l k : Nat) (v : Value) (W : World), Fit k v → k < N →
      assign.wpIn (F.inRound l) (n - 1 - 1) P (Exit.then (fun a₁ W₁ => a₁ = dAct a ps (enc k v) ds W.heap.size ∧ W₁ = W.alloc (B k v)) (fun _ _ _ => False)) { tmps := (ps.zip (enc k v)).foldl (fun t (p, v) => t.setIfInBounds p v) a.tmps, defers := [] } W)
    (hbody : ∀ (l k : Nat) (v : Value) (db : Nat) (E : Nat → Prop) (W : World), w.heap.size ≤ l → E l → (∃ r, W.heap[l]? = some (.loop r)) → I k (Ed E db) W → ¬ E db → W.heap[db]? = some (B k v) → (∀ i, D i → E i) → (∀ i, E i → i < W.heap.size) → KE D w W → Fit k v → k < N → body.wpIn (F.inRound l) (n - 1 - 1) P (OutN E I Ix k W) (dAct a ps (enc k v) ds db) W)
    (hdone : ∀ (W : World), I N D W → KE D w W → Q .normal a W)
    (hstop : ∀ (c : Code) (W : World), Ix c D W → KE D w W → c.wpIn F n P Q a W) :
    (Code.rangeFunc g ps assign body).wpIn F n P Q a w := by
  refine range_fitR hro hl0 h1 hg hFg eg hit hw0 hD hps I Ix hI hIx h0 (fun k v a₁ E W => ∃ db, a₁ = dAct a ps (enc k v) ds db ∧ Fit k v ∧ (I k (Ed E db) W ∧ ¬ E db ∧ W.heap[db]? = some (B k v)))
    (fun k v => ⟨fun s E A C ⟨db, q1, q2, q3⟩ hg => ⟨db, q1, q2, (jn_one hI db _).more k _ _ _ q3 hg⟩, fun s E A C r ⟨db, q1, q2, q3⟩ hr hg hs => ⟨db, q1, q2, (jn_one hI db _).turn k _ _ _ r q3 hr hg hs⟩, fun s E E' A ⟨db, q1, q2, q3⟩ hl => ⟨db, q1, q2, (jn_one hI db _).less k _ _ _ q3 hl⟩⟩) ?_ ?_ hdone hstop
  · intro l k v E W hl hi hDE hEl hf hk
    refine wpIn_mono (hassign l k v W hf hk) ?_
    rintro e a1 W1 hp
    have hn1 : e = .normal := by cases e <;> first | rfl | exact hp.elim
    subst hn1
    obtain ⟨rfl, rfl⟩ := hp
    have hs : (W.alloc (B k v)).heap.size = W.heap.size + 1 := by simp
    refine ⟨⟨by omega, fun i hi => Below.heap_alloc W _ i (hEl i hi)⟩, W.heap.size, rfl, hf, hI.less _ _ _ _ (hI.more k E W (W.alloc (B k v)) hi ⟨rfl, rfl, rfl, by omega, fun i hi _ => Below.heap_alloc W _ i hi⟩) (fun i hi => ?_), fun q => by have := hEl _ q; omega, World.alloc_heap_new W _⟩
    rcases hi with z | z
    · exact .inl z
    · exact .inr (by omega)
  · rintro l k v a1 E W hl hE hr ⟨db, rfl, hf, q1, q2, q3⟩ hDE hEl hkd hk
    exact hbody l k v db E W hl hE hr q1 q2 q3 hDE hEl hkd hf hk
theorem jn_more {β : Type} {J : β → (Nat → Prop) → World → Prop} (h : JN J) (X : Nat → Prop) (w0 : World) (hX : ∀ i, X i → i < w0.heap.size) : JN (fun s E W => J s (fun i => E i ∨ X i) W ∧ (∀ i, X i → ¬ E i) ∧ ∀ i, X i → W.heap[i]? = w0.heap[i]?) where
  more := fun s E A C ⟨h1, h2, h3⟩ hg => by
    have hl : ∀ i, X i → i < A.heap.size := fun i hi => by
      have e := h3 i hi
      rw [Array.getElem?_eq_getElem (hX i hi)] at e
      exact (Array.getElem?_eq_some_iff.1 e).1
    refine ⟨h.less _ _ _ _ (h.more _ _ _ _ h1 hg) (fun i hi => ?_), fun i hi q => ?_, fun i hi => (hg.block i (hl i hi) (by simp)).trans (h3 i hi)⟩
    · rcases hi with (z | z) | z
      · exact .inl (.inl z)
      · exact .inr z
      · exact .inl (.inr z)
    · rcases q with z | z
      · exact h2 i hi z
      · have := hl i hi; omega
  turn := fun s E A C r ⟨h1, h2, h3⟩ hr hg hs => by
    have hl : ∀ i, X i → i < A.heap.size := fun i hi => by
      have e := h3 i hi
      rw [Array.getElem?_eq_getElem (hX i hi)] at e
      exact (Array.getElem?_eq_some_iff.1 e).1
    exact ⟨h.turn _ _ _ _ r h1 (.inl hr) hg hs, h2, fun i hi => (hg.block i (hl i hi) (fun e => h2 i hi (by cases e; exact hr))).trans (h3 i hi)⟩
  less := fun s E E' A ⟨h1, h2, h3⟩ hl => ⟨h.less _ _ _ _ h1 (fun i hi => hi.imp (hl i) id), fun i hi q => h2 i hi (hl _ q), h3⟩
theorem IterN.more {F : Fence} {n : Nat} {P : Program} {g : Nat} {lb : Array Value} {enc : Nat → Value → Array Value} {Fit : Nat → Value → Prop} {D : Nat → Prop} {N : Nat} {w0 : World} (h : IterN F n P g lb enc Fit D N w0) (X : Nat → Prop) (hn : ∀ i, X i → ¬ D i) (hX : ∀ i, X i → i < w0.heap.size) : IterN F n P g lb enc Fit (fun i => D i ∨ X i) N w0 := fun l J Jx W hK hJ hJx hY h0 => by
  refine (h l (fun k E W => J k (fun i => E i ∨ X i) W ∧ (∀ i, X i → ¬ E i) ∧ ∀ i, X i → W.heap[i]? = w0.heap[i]?) (fun s E W => Jx s (fun i => E i ∨ X i) W ∧ (∀ i, X i → ¬ E i) ∧ ∀ i, X i → W.heap[i]? = w0.heap[i]?) W (hK.mono fun i hi => .inl hi) (jn_more hJ X w0 hX) (jn_more hJx X w0 hX) ?_ ⟨h0, hn, fun i hi => hK.2 i (.inr hi)⟩).mono ?_
  · rintro k v E W1 ⟨q1, q2, q3⟩ hf hk hke
    obtain ⟨fn, tmps, assign, body, hy, hR⟩ := hY k v (fun i => E i ∨ X i) W1 q1 hf hk ⟨hke.1, fun i hi => hi.elim (hke.2 i) (fun z => (q3 i z).trans (hK.2 i (.inr z)).symm)⟩
    refine ⟨fn, tmps, assign, body, hy, hR.mono ?_⟩
    rintro e W' (⟨r1, r2, r3⟩ | ⟨r1, r2, r3⟩)
    · exact .inl ⟨r1, ⟨r2, q2, fun i hi => (r3.2 i (.inr hi)).trans (q3 i hi)⟩, r3.mono fun i hi => .inl hi⟩
    · exact .inr ⟨r1, ⟨r2, q2, fun i hi => (r3.2 i (.inr hi)).trans (q3 i hi)⟩, r3.mono fun i hi => .inl hi⟩
  · rintro e W' ⟨hv, hj, hke⟩
    have hab : ∀ i, X i → W'.heap[i]? = w0.heap[i]? := by rcases hj with z | z <;> exact z.2.2
    refine ⟨hv, hj.imp (·.1) (·.1), hke.1, fun i hi => ?_⟩
    rcases hi with z | z
    · exact hke.2 i z
    · exact (hab i z).trans (hK.2 i (.inr z)).symm
end Go.Proofs.YtjdfclbjmmmcfaaDoor
namespace Go.Proofs.YtjdfclbjmmmcfaaDoor
open Go Go.RowKit Go.Shelf
theorem HRd.keptE {w0 w : World} {a b c g n f : Nat} {l : List Nat} (h : HRd w0 a b c g n f l) (hK : KE (rdD a b c g) w0 w) : HRd w a b c g n f l :=
  ⟨(hK.2 a (.inl rfl)).trans h.ha, (hK.2 b (.inr (.inl rfl))).trans h.hb, (hK.2 c (.inr (.inr (.inl rfl)))).trans h.hc, (hK.2 g (.inr (.inr (.inr rfl)))).trans h.hg⟩
set_option maxRecDepth 100000 in
set_option maxHeartbeats 4000000 in
theorem round_iterN (m : Nat) (w0 : World) (a b c g n f : Nat) (l : List Nat) (h : HRd w0 a b c g n f l) (h1 : 1 ≤ n) (h2 : n ≤ 32) (hf : f < n) (hl : l.length = n) :
    IterN Fence.wide m Tryd.prog 25 #[.pointer (some ⟨a, 0, none⟩), .pointer (some ⟨b, 0, none⟩), .pointer (some ⟨c, 0, none⟩)] (fun k v => #[.int .i64 (((f + k) % n : Nat) : Int), v])
      (fun k v => v = .int .i64 ((l.getD ((f + k) % n) 0 : Nat) : Int)) (rdD a b c g) n w0 := fun l' J Jx W hK hJ hJx hY h0 => by
  have HH := hid (h.keptE hK)
  have HY := hid hY
  have H0 := hid h0
  have HL := hid hl
  clear h hK hJ hJx hY h0 hl
  have ca : W.cell? ⟨a, 0, none⟩ = some (.int .i64 (n : Int)) := (cell_of_row _ _ _ _ _ _ HH.out.ha).trans rfl
  refine callsIn_of_wp Tryd.func25 rfl trivial ?_ rfl
  simp only [Tryd.ntmps25, List.size_toArray, List.length_cons, List.length_nil, Nat.reduceAdd, Nat.reduceSub, Array.replicate_succ, Array.replicate_zero, List.push_toArray, List.append_toArray, List.nil_append, List.cons_append]
  gi_wp2
  gi_loopw [8] (fun i wr => ∃ k : Nat, k ≤ n ∧ i = .int .i64 (k : Int) ∧ Hid (J k (rdD a b c g) wr) ∧ Hid (KE (rdD a b c g) W wr)) (fun i _ => n - (intOf i).toNat)
  case atStart => exact ⟨0, Nat.zero_le _, rfl, H0, ⟨Nat.le_refl _, fun _ _ => rfl⟩⟩
  case round =>
    clear ca
    obtain ⟨k, hk, rfl, HJk, HKk⟩ := hrel
    by_cases hlt : k < n
    · have HHk := hid (HH.out.keptE HKk.out)
      have ca : wr.cell? ⟨a, 0, none⟩ = some (.int .i64 (n : Int)) := (cell_of_row _ _ _ _ _ _ HHk.out.ha).trans rfl
      have cb : wr.cell? ⟨b, 0, none⟩ = some (.int .i64 (f : Int)) := (cell_of_row _ _ _ _ _ _ HHk.out.hb).trans rfl
      have cc : wr.cell? ⟨c, 0, none⟩ = some (.slice (some ⟨g, 0, none⟩) n n) := (cell_of_row _ _ _ _ _ _ HHk.out.hc).trans rfl
      obtain ⟨r, HR⟩ : ∃ r, Hid ((f + k) % n = r) := ⟨_, rfl⟩
      have hr : r < n := by rw [← HR.out]; exact Nat.mod_lt _ h1
      have hti : Int.tmod ((f : Int) + (k : Int)) (n : Int) = (r : Int) := by
        rw [Int.tmod_eq_emod_of_nonneg (by omega), ← HR.out]
        simp
      have hn0 : ¬ (n = 0) := by omega
      have hcell := HHk.out.hg.cell (i := r) (by rw [HL.out]; exact hr)
      obtain ⟨fn, tmps, assign, body, hy, hR⟩ := HY.out k (.int .i64 ((l.getD ((f + k) % n) 0 : Nat) : Int)) (rdD a b c g) wr HJk.out rfl hlt HKk.out
      rw [HR.out] at hy
      generalize l.getD r 0 = y at hcell hy
      have HRR := hid hR
      clear hR
      gi_wp2
      refine ⟨fun h => absurd h (by simp [Fence.wide]), HRR.out.mono ?_⟩
      rintro e W3 (⟨rfl, hJ3, hk3⟩ | ⟨rfl, hJx3, hk3⟩)
      · clear HRR hy
        have HF3 := hid (And.intro hk3 hJ3)
        clear hk3 hJ3
        gi_wp2
        go_roundw
        case rel => exact ⟨k + 1, hlt, by go_num, HF3.out.2, HKk.out.trans HF3.out.1⟩
        case measure => simp [intOf]; omega
      · clear HRR hy
        have HF3 := hid (And.intro hJx3 hk3)
        clear hJx3 hk3
        gi_wp2
        refine bodyPost_ret (results_none rfl _ _ _) rfl ?_
        exact ⟨⟨_, rfl⟩, .inr HF3.out.1, HKk.out.trans HF3.out.2⟩
    · have hk' : k = n := by omega
      subst hk'
      gi_wp2
      go_end0
      exact ⟨⟨_, rfl⟩, .inl HJk.out, HKk.out⟩
theorem wp_range_none {P : Program} {g : Operand} {ps : Array Tmp} {assign body : Code} {Q : Exit → Act → World → Prop} {a : Act} {w : World} {gf : Nat} {lb : Array Value}
    (hg : a.eval g = .func (.func gf) #[] lb) (eg : ∀ args w, (callFunc gf args).run P w = .ok (.enter gf args) w) (hc : ∀ args w, Calls P gf args w fun e w' => (∃ v, e = .returned v) ∧ w' = w)
    (hQ : ∀ W, w.grownBy W none → W.heap[w.heap.size]? = some (.deferred (some [])) → Q .normal { a with defers := { target := .collected w.heap.size, args := #[] } :: a.defers } W) :
    (Code.rangeFunc g ps assign body).wp P Q a w := by
  refine (wpIn_wide (n := 1)).1 (wpIn_rangeFunc fun fn hfn => ?_)
  let R : LoopState → Option Code → Loop := fun st pe => { state := st, pending := pe, fn, tmps := a.tmps, params := ps, assign, body, defers := w.heap.size }
  obtain ⟨W1, hW1⟩ : ∃ W1, (w.alloc (.deferred (some []))).alloc (.loop (R .ready none)) = W1 := ⟨_, rfl⟩
  have hg1 : w.grownBy W1 none := by
    rw [← hW1]
    exact ⟨rfl, rfl, rfl, by simp; omega, fun i hi _ => (Below.heap_alloc _ _ _ (by simp; omega)).trans (Below.heap_alloc _ _ _ hi)⟩
  have hl : W1.heap[w.heap.size + 1]? = some (.loop (R .ready none)) := by
    rw [← hW1]
    have := World.alloc_heap_new (w.alloc (.deferred (some []))) (.loop (R .ready none))
    rwa [World.size_alloc] at this
  have hd : W1.heap[w.heap.size]? = some (.deferred (some [])) := by
    rw [← hW1]
    exact (Below.heap_alloc _ _ _ (by simp)).trans (World.alloc_heap_new w _)
  refine ⟨w.heap.size + 1, [{ target := .collected w.heap.size, args := #[] }], W1, { target := .fn (.func gf) lb, args := #[.func (.yield (w.heap.size + 1)) #[] #[]] }, W1, gf, #[.func (.yield (w.heap.size + 1)) #[] #[]] ++ lb, W1, ?_, ?_, ?_, ?_, fun _ => Nat.le_refl _, ?_⟩
  · rw [← hW1]; exact run_enterLoop_outer _ _ _ _ _
  · simp only [resolve, hg]; simp [go_sem]
  · intro f' hf'; trivial
  · simp [invoke, go_sem, eg]
  · refine callsIn_wide.2 ((hc _ W1).mono ?_)
    rintro e W2 ⟨⟨v, rfl⟩, rfl⟩
    refine ⟨none, _, run_endLoop (P := P) hl (by simp [R]), hQ _ ?_ ?_⟩
    · exact ⟨hg1.os, hg1.tape, hg1.output, by simpa using hg1.size, fun i hi hr => (World.putObj_heap_other (by omega)).trans (hg1.block i hi hr)⟩
    · rw [World.putObj_heap_other (by omega)]
      exact hd
def x123 : List Int := 1 :: 2 :: 3 :: List.replicate 13 0
theorem x123_X : X16 x123 := ⟨rfl, fun x hx => by
  have : x = 1 ∨ x = 2 ∨ x = 3 ∨ x = 0 := by
    rcases List.mem_cons.1 hx with h | h
    · exact .inl h
    rcases List.mem_cons.1 h with h | h
    · exact .inr (.inl h)
    rcases List.mem_cons.1 h with h | h
    · exact .inr (.inr (.inl h))
    · exact .inr (.inr (.inr (List.mem_replicate.1 h).2))
  omega⟩
theorem built_x123 : Tryd.prog.built 23 [(0, .int .u8 1), (1, .int .u8 2), (2, .int .u8 3)] = some (cellsB x123) := by kernel_rfl
theorem zero_ix : (Tryd.prog.info? 23).map (·.zero) = some (some (.agg (cellsB (List.replicate 16 0)))) := by kernel_rfl
theorem wpList_alloc_ix {cs : Array Value} (hz : (Tryd.prog.info? 23).map (·.zero) = some (some (.agg cs))) {ops : Array Oper} {rest : List Oper} {o : Oper} {a : Act} {w : World} {Q : Exit → Act → World → Prop} (hgd : o.guard = none) (ho : o.op = .alloc 23)
    (h : wpList Tryd.prog ops Q rest (a.put o.dst (.pointer (some ⟨w.heap.size, 0, none⟩))) (w.alloc (.cells cs 23))) : wpList Tryd.prog ops Q (o :: rest) a w :=
  wpList_plain hgd fun _ hK => by
    have hr : (Instr.alloc 23 true (.tuple #[])).run Tryd.prog w = .ok (.pointer (some ⟨w.heap.size, 0, none⟩)) (w.alloc (.cells cs 23)) := by
      cases hi : Tryd.prog.info? 23 with
      | none => simp [hi] at hz
      | some i0 =>
        simp [hi] at hz
        simp [Instr.alloc, zeroValue, typeInfo, hi, hz, newVar, newRow, Value.cells]
    unfold Oper.wp
    simp only [execOp, ho, Sem.run_bind, hr, Result.andThen_ok]
    exact hK _ _ h
theorem wpList_build_x {T : TypeId} (cs : Array Value) {ps : Array (Nat × Operand)} {ops : Array Oper} {rest : List Oper} {o : Oper} {a : Act} {w : World} {Q : Exit → Act → World → Prop} (hgd : o.guard = none) (ho : o.op = .build T ps) (hb : Tryd.prog.built T (ps.map fun (i, x) => (i, a.eval x)).toList = some cs)
    (h : wpList Tryd.prog ops Q rest (a.put o.dst (.agg cs)) w) : wpList Tryd.prog ops Q (o :: rest) a w := by
  refine wpList_build hgd T ps ho (by rw [hb]; rfl) ?_
  rw [hb]
  exact h
theorem eql_seq2_nil : ∀ (w : World) (f : Fn) (a b : Array Value), (binOp .eql 37 (.func f a b) .nilFunc).run Tryd.prog w = .ok (.bool false) w := fun w f a b => by
  have h : ∀ d : Nat, (Op.equalIn (d + 1) 37 (.func f a b) .nilFunc).run Tryd.prog w = .ok false w := fun d => by
    simp [Op.equalIn, run_underlying Tryd.underlying37]
  simp only [binOp]
  simp [Op.equal, Op.maxDepth, h 9999]
theorem rd1_enter (args : Array Value) (w : World) : (callFunc 24 args).run Tryd.prog w = .ok (.enter 24 args) w := by
  simp only [callFunc, program, Sem.run_bind, Result.andThen_ok, Sem.run, Tryd.func24]
  rfl
theorem rd1_any (args : Array Value) (w : World) : Calls Tryd.prog 24 args w fun e w' => (∃ v, e = .returned v) ∧ w' = w := by
  refine calls_of_wp Tryd.func24 (c := .skip) (by kernel_rfl) (wp_skip ?_)
  exact ⟨rfl, _, results_none rfl _ _ _, ⟨_, rfl⟩, rfl⟩
theorem rbool_res {fn : Func} {p : Tmp} (h : fn.results = #[.cell p 4]) (tmps : Array Value) (w : World) (g : Nat) (b : Bool) (hp : tmps.getD p undef = .pointer (some ⟨g, 0, none⟩)) (hc : w.cell? ⟨g, 0, none⟩ = some (.bool b)) : (results fn tmps).run Tryd.prog w = .ok (.bool b) w := by
  have hp' : tmps[p]?.getD undef = .pointer (some ⟨g, 0, none⟩) := by simpa using hp
  simp only [results, h]
  simp [hp', asAddr]
  simp [go_sem, hc]
theorem rbel_put {B b : Nat} {w W : World} (h : Below B w W) (hb : B ≤ b) (o : Obj) : Below B w (W.putObj b o) := h.trans ⟨rfl, rfl, rfl, by simp, fun k hk => World.putObj_heap_other (by omega)⟩
theorem rcell_put {b : Nat} {W : World} {a : Addr} (h : a.block ≠ b) (o : Obj) : (W.putObj b o).cell? a = W.cell? a := by simp [World.cell?, World.putObj_heap_other h]
set_option maxRecDepth 100000 in
set_option maxHeartbeats 4000000 in
theorem known_walk (w : World) (hk : KC w) : Calls Tryd.prog 7 #[] w fun e w' => e = .returned (.bool true) ∧ Below w.heap.size w w' := by
  obtain ⟨cl, HCL⟩ : ∃ c, Hid (cellsB x123 = c) := ⟨_, rfl⟩
  obtain ⟨zl, HZL⟩ : ∃ c, Hid (cellsB (List.replicate 16 0) = c) := ⟨_, rfl⟩
  have HBt := built_x123
  have HZt := zero_ix
  have HIx := hid (size_ix x123_X)
  rw [HCL.out] at HBt HIx
  rw [HZL.out] at HZt
  have HBT := hid HBt
  have HZT := hid HZt
  have H1c : Hid (cl.all (·.oneCell') = true) := by rw [← HCL.out]; exact cellsB_one _
  have HZc : Hid (zl.size = cl.size) := by rw [← HCL.out, ← HZL.out]; exact rfl
  have HX := hid x123_X
  have HK := hid hk
  obtain ⟨W0, HW0⟩ : ∃ W0, Hid ((w.alloc (.cells #[.bool false] 4)).alloc (.cells zl 23) = W0) := ⟨_, rfl⟩
  have e0 : (w.alloc (.cells #[.bool false] 4)).heap.size = w.heap.size + 1 := by simp
  have HB0 : Hid (Below w.heap.size w W0) := by rw [← HW0.out]; exact ((Below.refl _ w).alloc (Nat.le_refl _) _).alloc (by simp) _
  have HT0 : Hid (W0.heap[w.heap.size]? = some (.cells #[.bool false] 4 (0, 0))) := by rw [← HW0.out]; refine hid ?_; rw [heap_alloc_old _ _ (by simp)]; exact heap_alloc_new w _
  have HR0 : Hid (W0.heap[w.heap.size + 1]? = some (.cells zl 23 (0, 0))) := by
    rw [← HW0.out]
    have := heap_alloc_new (w.alloc (.cells #[.bool false] 4)) (.cells zl 23)
    rw [e0] at this
    exact this
  obtain ⟨W1, HW1⟩ : ∃ W1, Hid (W0.setRow (w.heap.size + 1) cl = W1) := ⟨_, rfl⟩
  have HB1 : Hid (Below w.heap.size w W1) := by rw [← HW1.out]; exact below_setRow HB0.out (by omega) _
  have HR1 : Hid (W1.heap[w.heap.size + 1]? = some (.cells cl 23 (0, 0))) := by rw [← HW1.out]; exact setRow_heap _ _ _ _ _ _ HR0.out
  have HT1 : Hid (W1.heap[w.heap.size]? = some (.cells #[.bool false] 4 (0, 0))) := by rw [← HW1.out]; exact (setRow_other _ _ _ _ (by omega)).trans HT0.out
  have hs1 : w.heap.size + 1 < W1.heap.size := (Array.getElem?_eq_some_iff.1 HR1.out).1
  clear HBt HZt hk
  refine (callsIn_wide (n := 3)).1 ?_
  refine callsIn_of_wp_marks Tryd.func7 rfl trivial (wpIn_wide.2 ?_) rfl
  simp only [Tryd.ntmps7, List.size_toArray, List.length_cons, List.length_nil, Nat.reduceAdd, Nat.reduceSub, Array.replicate_succ, Array.replicate_zero, List.push_toArray, List.append_toArray, List.nil_append, List.cons_append]
  go_wp2_with (first
    | (refine wpList_build_x cl rfl rfl (by simp [Act.eval, HBT.out]) ?_)
    | (refine wpList_alloc_ix HZT.out rfl rfl ?_; rw [HW0.out, e0])
    | (refine wpList_store_row rfl 23 _ _ rfl (w.heap.size + 1) cl rfl rfl 23 _ HR0.out HIx.out HZc.out H1c.out ?_; rw [HW1.out])
    | (refine wpList_load_row rfl 23 _ rfl (w.heap.size + 1) rfl 23 cl (0, 0) _ HR1.out Tryd.underlying23 rfl HIx.out ?_))
  have C1 := hid (order_bad W1 x123 0 HX.out (by omega))
  rw [HCL.out] at C1
  refine C1.out.mono ?_
  rintro e W2 ⟨rfl, hB2⟩
  have HB2 : Hid (Below w.heap.size w W2) := HB1.out.trans (hB2.mono HB1.out.size)
  have HR2 : Hid (W2.heap[w.heap.size + 1]? = some (.cells cl 23 (0, 0))) := (hB2.block _ hs1).trans HR1.out
  have HT2 : Hid (W2.heap[w.heap.size]? = some (.cells #[.bool false] 4 (0, 0))) := (hB2.block _ (by omega)).trans HT1.out
  have hs2 : w.heap.size + 1 < W2.heap.size := (Array.getElem?_eq_some_iff.1 HR2.out).1
  clear hB2 C1 HR1 HT1
  go_wp2_with (refine wpList_load_row rfl 23 _ rfl (w.heap.size + 1) rfl 23 cl (0, 0) _ HR2.out Tryd.underlying23 rfl HIx.out ?_)
  have C2 := hid (order_bad W2 x123 33 HX.out (by omega))
  rw [HCL.out] at C2
  refine C2.out.mono ?_
  rintro e W3 ⟨rfl, hB3⟩
  have HB3 : Hid (Below w.heap.size w W3) := HB2.out.trans (hB3.mono HB2.out.size)
  have HR3 : Hid (W3.heap[w.heap.size + 1]? = some (.cells cl 23 (0, 0))) := (hB3.block _ hs2).trans HR2.out
  have HT3 : Hid (W3.heap[w.heap.size]? = some (.cells #[.bool false] 4 (0, 0))) := (hB3.block _ (by omega)).trans HT2.out
  have hs3 : w.heap.size + 1 < W3.heap.size := (Array.getElem?_eq_some_iff.1 HR3.out).1
  clear hB3 C2 HR2 HT2
  go_wp2_with (refine wpList_load_row rfl 23 _ rfl (w.heap.size + 1) rfl 23 cl (0, 0) _ HR3.out Tryd.underlying23 rfl HIx.out ?_)
  have C3 := hid (rank_bad W3 x123 3 3 HX.out (by omega))
  rw [HCL.out] at C3
  refine C3.out.mono ?_
  rintro e W4 ⟨rfl, hB4⟩
  have HB4 : Hid (Below w.heap.size w W4) := HB3.out.trans (hB4.mono HB3.out.size)
  have HR4 : Hid (W4.heap[w.heap.size + 1]? = some (.cells cl 23 (0, 0))) := (hB4.block _ hs3).trans HR3.out
  have HT4 : Hid (W4.heap[w.heap.size]? = some (.cells #[.bool false] 4 (0, 0))) := (hB4.block _ (by omega)).trans HT3.out
  have hs4 : w.heap.size + 1 < W4.heap.size := (Array.getElem?_eq_some_iff.1 HR4.out).1
  clear hB4 C3 HR3 HT3
  go_wp2_with (refine wpList_load_row rfl 23 _ rfl (w.heap.size + 1) rfl 23 cl (0, 0) _ HR4.out Tryd.underlying23 rfl HIx.out ?_)
  have C4 := hid (rank_bad W4 x123 3 (-1) HX.out (by omega))
  rw [HCL.out] at C4
  refine C4.out.mono ?_
  rintro e W5 ⟨rfl, hB5⟩
  have HB5 : Hid (Below w.heap.size w W5) := HB4.out.trans (hB5.mono HB4.out.size)
  have HR5 : Hid (W5.heap[w.heap.size + 1]? = some (.cells cl 23 (0, 0))) := (hB5.block _ hs4).trans HR4.out
  have HT5 : Hid (W5.heap[w.heap.size]? = some (.cells #[.bool false] 4 (0, 0))) := (hB5.block _ (by omega)).trans HT4.out
  have hs5 : w.heap.size + 1 < W5.heap.size := (Array.getElem?_eq_some_iff.1 HR5.out).1
  clear hB5 C4 HR4 HT4
  go_wp2_with (refine wpList_load_row rfl 23 _ rfl (w.heap.size + 1) rfl 23 cl (0, 0) _ HR5.out Tryd.underlying23 rfl HIx.out ?_)
  have C5 := hid (round_bad W5 x123 0 5 HX.out (by omega))
  rw [HCL.out] at C5
  refine C5.out.mono ?_
  rintro e W6 ⟨rfl, hB6⟩
  have HB6 : Hid (Below w.heap.size w W6) := HB5.out.trans (hB6.mono HB5.out.size)
  have HR6 : Hid (W6.heap[w.heap.size + 1]? = some (.cells cl 23 (0, 0))) := (hB6.block _ hs5).trans HR5.out
  have HT6 : Hid (W6.heap[w.heap.size]? = some (.cells #[.bool false] 4 (0, 0))) := (hB6.block _ (by omega)).trans HT5.out
  have hs6 : w.heap.size + 1 < W6.heap.size := (Array.getElem?_eq_some_iff.1 HR6.out).1
  clear hB6 C5 HR5 HT5
  go_wp2_with (refine wpList_load_row rfl 23 _ rfl (w.heap.size + 1) rfl 23 cl (0, 0) _ HR6.out Tryd.underlying23 rfl HIx.out ?_)
  refine (awake_any W6 (HK.out.below HB6.out)).mono ?_
  rintro e W7 ⟨rfl, hB7⟩
  have HB7 : Hid (Below w.heap.size w W7) := HB6.out.trans (hB7.mono HB6.out.size)
  have HT7 : Hid (W7.heap[w.heap.size]? = some (.cells #[.bool false] 4 (0, 0))) := (hB7.block _ (by omega)).trans HT6.out
  have hs7 : w.heap.size < W7.heap.size := (Array.getElem?_eq_some_iff.1 HT7.out).1
  clear hB7 HT6 HR6
  have hnil := eql_seq2_nil
  go_wp2
  clear hnil
  refine wp_range_none rfl rd1_enter rd1_any fun W hg hd => ?_
  have HT8 : Hid (W.heap[w.heap.size]? = some (.cells #[.bool false] 4 (0, 0))) := (hg.block _ hs7 (by simp)).trans HT7.out
  have HD8 := hid hd
  have HB8 : Hid (Below w.heap.size w W) := HB7.out.trans (Below.mono (by exact ⟨hg.os, hg.tape, hg.output, hg.size, fun i hi => hg.block i hi (by simp)⟩ : Below W7.heap.size W7 W) HB7.out.size)
  have c8 : W.cell? ⟨w.heap.size, 0, none⟩ = some (.bool false) := (cell_of_row _ _ _ _ _ _ HT8.out).trans rfl
  have f8 : W.frozen? ⟨w.heap.size, 0, none⟩ = false := frozen_of_row _ _ _ _ _ HT8.out
  have HM8 : Hid ((W.setCell ⟨w.heap.size, 0, none⟩ (.bool true)).heap[W7.heap.size]? = some (.deferred (some []))) := hid ((heap_setCell_other _ _ _ _ (fun e => by simp at e; omega)).trans hd)
  have CX : Hid ((W.setCell ⟨w.heap.size, 0, none⟩ (.bool true)).cell? ⟨w.heap.size, 0, none⟩ = some (.bool true)) := hid (World.cell?_setCell_same _ _ _ c8)
  have B8 : Hid (Below w.heap.size w (W.setCell ⟨w.heap.size, 0, none⟩ (.bool true))) := hid (HB8.out.setCell (p := ⟨w.heap.size, 0, none⟩) (Nat.le_refl _) _)
  clear hg hd
  go_wp2
  refine ⟨by simp, .inl ⟨_, _, rfl, run_takeDeferred HM8.out, ?_⟩⟩
  exact ⟨_, rbool_res rfl _ _ w.heap.size true rfl ((rcell_put (by show w.heap.size ≠ W7.heap.size; omega) _).trans CX.out), rfl, rbel_put B8.out (by omega) _⟩
end Go.Proofs.YtjdfclbjmmmcfaaDoor
namespace Go.Proofs.YtjdfclbjmmmcfaaDoor
open Go.RowKit
def toB (l : List Int) : List UInt8 := l.map fun x => x.toNat.toUInt8
def ltL : List Int → List Int → Bool
  | [], [] => false
  | [], _ :: _ => true
  | _ :: _, [] => false
  | a :: la, b :: lb => if a < b then true else if b < a then false else ltL la lb
theorem byte_lt {a b : Int} (ha : 0 ≤ a ∧ a < 256) (hb : 0 ≤ b ∧ b < 256) : (a.toNat.toUInt8 < b.toNat.toUInt8) ↔ a < b := by
  rw [UInt8.lt_iff_toNat_lt]
  have e1 : a.toNat.toUInt8.toNat = a.toNat := by simp; omega
  have e2 : b.toNat.toUInt8.toNat = b.toNat := by simp; omega
  rw [e1, e2]
  omega
theorem cmp_ltL : ∀ (la lb : List Int), (∀ x ∈ la, 0 ≤ x ∧ x < 256) → (∀ x ∈ lb, 0 ≤ x ∧ x < 256) → decide (Lib.compareBytes (toB la) (toB lb) < 0) = ltL la lb
  | [], [], _, _ => rfl
  | [], _ :: _, _, _ => rfl
  | _ :: _, [], _, _ => rfl
  | a :: la, b :: lb, h1, h2 => by
    have ih := cmp_ltL la lb (fun x hx => h1 x (List.mem_cons_of_mem _ hx)) (fun x hx => h2 x (List.mem_cons_of_mem _ hx))
    have ha := h1 a (by simp)
    have hb := h2 b (by simp)
    simp only [toB, List.map_cons, Lib.compareBytes, ltL]
    by_cases hab : a < b
    · rw [if_pos ((byte_lt ha hb).2 hab), if_pos hab]; rfl
    · rw [if_neg (fun h => hab ((byte_lt ha hb).1 h)), if_neg hab]
      by_cases hba : b < a
      · rw [if_pos ((byte_lt hb ha).2 hba), if_pos hba]; rfl
      · rw [if_neg (fun h => hba ((byte_lt hb ha).1 h)), if_neg hba]
        exact ih
theorem run_loadOwn {P : Program} {w : World} : ∀ (xs : List Int) (a : Addr) (acc : ByteArray), (∀ (j : Nat) x, xs[j]? = some x → w.cell? (a.add j) = some (.int .u8 x)) →
    (Extern.Bytes.loadBytes a xs.length acc).run P w = .ok ⟨acc.data ++ (toB xs).toArray⟩ w
  | [], a, acc, _ => by simp [Extern.Bytes.loadBytes, toB]
  | x :: l, a, acc, h => by
    have h0 : w.cell? a = some (.int .u8 x) := by
      have := h 0 x rfl
      simpa [Addr.add] using this
    have ih := run_loadOwn (P := P) (w := w) l (a.add 1) (acc.push x.toNat.toUInt8) (fun j y hy => by
      have := h (j + 1) y (by simpa using hy)
      have e : (a.add 1).add j = a.add (j + 1) := by
        unfold Addr.add
        by_cases hj : j = 0
        · subst hj; simp
        · simp [hj]; omega
      rw [e]; exact this)
    simp only [List.length_cons, Extern.Bytes.loadBytes, Sem.run_bind, run_load, h0, Result.andThen]
    rw [ih]
    congr 1
    apply ByteArray.ext
    simp [ByteArray.push, toB]
theorem run_bytesOf_HB {P : Program} {w : World} {v : Value} {l : List Int} (h : HB w v l) : (Extern.Bytes.bytesOf v).run P w = .ok ⟨(toB l).toArray⟩ w := by
  obtain ⟨⟨p, c, rfl, _, _, _, h4⟩, _⟩ := h
  cases p with
  | none =>
    have e : l = [] := by
      apply Classical.byContradiction
      intro hne
      obtain ⟨b, off, e, _⟩ := h4 hne
      cases e
    subst e
    rfl
  | some a =>
    have := run_loadOwn (P := P) (w := w) l a .empty (fun j x hj => by
      have hjl : j < l.length := (List.getElem?_eq_some_iff.1 hj).1
      obtain ⟨b, off, e, hh⟩ := h4 (by intro e; subst e; simp at hjl)
      cases e
      rw [Go.WideShapes.add_plain, hh j hjl]
      simp [List.getD, hj])
    show (Extern.Bytes.loadBytes a l.length .empty).run P w = _
    rw [this]
    congr 1
    apply ByteArray.ext
    show (#[] : Array UInt8) ++ (toB l).toArray = (toB l).toArray
    simp
theorem run_compare_HB {P : Program} {w : World} {va vb : Value} {la lb : List Int} (ha : HB w va la) (hb : HB w vb lb) :
    (Extern.BytealgCompare.compare #[va, vb]).run P w = .ok (.int .i64 (Lib.compareBytes (toB la) (toB lb))) w := by
  change Sem.run P (do pure (goInt (Extern.BytealgCompare.cmp (← Extern.Bytes.bytesOf va) (← Extern.Bytes.bytesOf vb)))) w = _
  simp only [Sem.run_bind, Sem.run_pure, run_bytesOf_HB ha, run_bytesOf_HB hb, Result.andThen]
  rw [Lib.cmp_eq]
  rfl
set_option maxHeartbeats 1000000 in
set_option maxRecDepth 100000 in
theorem compare_any (w : World) (va vb : Value) (la lb : List Int) (ha : HB w va la) (hb : HB w vb lb) :
    Calls Tryd.prog 28 #[va, vb] w fun e w' => e = .returned (.int .i64 (Lib.compareBytes (toB la) (toB lb))) ∧ w' = w := by
  have hrun := run_compare_HB (P := Tryd.prog) ha hb
  obtain ⟨p1, c1, rfl, _, _⟩ := ha.open
  obtain ⟨p2, c2, rfl, _, _⟩ := hb.open
  go_enter Tryd.func28, Tryd.ntmps28
  go_wp2
  rw [run_callFunc_extern Tryd.func36 (by kernel_rfl) (by kernel_rfl) (by kernel_rfl) (e := Extern.BytealgCompare.compare) (by kernel_rfl), hrun]
  simp only [Result.andThen]
  rw [Oper.upon_value]
  go_wp2
  go_ret
  exact ⟨rfl, rfl⟩
set_option maxHeartbeats 1000000 in
theorem less_any (w : World) (va vb : Value) (la lb : List Int) (ha : HB w va la) (hb : HB w vb lb) :
    Calls Tryd.prog 18 #[va, vb] w fun e w' => e = .returned (.bool (ltL la lb)) ∧ w' = w := by
  have hd := cmp_ltL la lb ha.2 hb.2
  obtain ⟨z, HZ⟩ : ∃ z, Hid (ltL la lb = z) := ⟨_, rfl⟩
  rw [HZ.out] at hd ⊢
  have HA := hid ha
  have HBb := hid hb
  obtain ⟨p1, c1, rfl, _, _⟩ := ha.open
  obtain ⟨p2, c2, rfl, _, _⟩ := hb.open
  clear ha hb
  obtain ⟨y, HY⟩ : ∃ y, Hid (Lib.compareBytes (toB la) (toB lb) = y) := ⟨_, rfl⟩
  rw [HY.out] at hd
  have hc := compare_any w _ _ la lb HA.out HBb.out
  rw [HY.out] at hc
  have HC := hid hc
  clear hc
  go_enter Tryd.func18, Tryd.ntmps18
  go_wp2_with fail
  refine HC.out.mono ?_
  rintro e w' ⟨rfl, hw⟩
  have hw' := hw.symm
  subst hw'
  clear hw
  go_wp2
  go_ret
  exact ⟨by rfl, rfl⟩
theorem rot_bits2 (x n : Nat) (hx : x < 4294967296) : bits .or .u32 ((x : Int) / 2 ^ n) (IntKind.u32.wrap ((x : Int) * 2 ^ (32 - n))) = ((rot x n : Nat) : Int) := by
  have e1 : IntKind.u32.wrap ((x : Int) * 2 ^ (32 - n)) = ((x * 2 ^ (32 - n) % 4294967296 : Nat) : Int) := by
    rw [IntKind.wrap_u32, Int.natCast_emod, Int.natCast_mul, Int.natCast_pow]
    rfl
  have e2 : (x : Int) / 2 ^ n = ((x / 2 ^ n : Nat) : Int) := by rw [Int.natCast_ediv, Int.natCast_pow]; rfl
  rw [e1, e2, u32_or_nat _ _ (Nat.lt_of_le_of_lt (Nat.div_le_self _ _) hx) (Nat.mod_lt _ (by decide)), Nat.or_comm]
  rfl
set_option maxRecDepth 100000 in
set_option maxHeartbeats 1000000 in
theorem rturn_6 (w : World) (x : Nat) (hx : x < 4294967296) : Calls Tryd.prog 83 #[.int .u32 (x : Int), .int .u64 6] w fun e w' => e = .returned (.int .u32 ((rot x 6 : Nat) : Int)) ∧ w' = w := by
  have HR := hid (rot_bits2 x 6 hx)
  go_enter Tryd.func83, Tryd.ntmps83
  go_wp2
  go_ret
  refine ⟨?_, rfl⟩
  rw [← HR.out]
  rfl
set_option maxRecDepth 100000 in
set_option maxHeartbeats 1000000 in
theorem rturn_11 (w : World) (x : Nat) (hx : x < 4294967296) : Calls Tryd.prog 83 #[.int .u32 (x : Int), .int .u64 11] w fun e w' => e = .returned (.int .u32 ((rot x 11 : Nat) : Int)) ∧ w' = w := by
  have HR := hid (rot_bits2 x 11 hx)
  go_enter Tryd.func83, Tryd.ntmps83
  go_wp2
  go_ret
  refine ⟨?_, rfl⟩
  rw [← HR.out]
  rfl
set_option maxRecDepth 100000 in
set_option maxHeartbeats 1000000 in
theorem rturn_25 (w : World) (x : Nat) (hx : x < 4294967296) : Calls Tryd.prog 83 #[.int .u32 (x : Int), .int .u64 25] w fun e w' => e = .returned (.int .u32 ((rot x 25 : Nat) : Int)) ∧ w' = w := by
  have HR := hid (rot_bits2 x 25 hx)
  go_enter Tryd.func83, Tryd.ntmps83
  go_wp2
  go_ret
  refine ⟨?_, rfl⟩
  rw [← HR.out]
  rfl
set_option maxRecDepth 100000 in
set_option maxHeartbeats 1000000 in
theorem rturn_2 (w : World) (x : Nat) (hx : x < 4294967296) : Calls Tryd.prog 83 #[.int .u32 (x : Int), .int .u64 2] w fun e w' => e = .returned (.int .u32 ((rot x 2 : Nat) : Int)) ∧ w' = w := by
  have HR := hid (rot_bits2 x 2 hx)
  go_enter Tryd.func83, Tryd.ntmps83
  go_wp2
  go_ret
  refine ⟨?_, rfl⟩
  rw [← HR.out]
  rfl
set_option maxRecDepth 100000 in
set_option maxHeartbeats 1000000 in
theorem rturn_13 (w : World) (x : Nat) (hx : x < 4294967296) : Calls Tryd.prog 83 #[.int .u32 (x : Int), .int .u64 13] w fun e w' => e = .returned (.int .u32 ((rot x 13 : Nat) : Int)) ∧ w' = w := by
  have HR := hid (rot_bits2 x 13 hx)
  go_enter Tryd.func83, Tryd.ntmps83
  go_wp2
  go_ret
  refine ⟨?_, rfl⟩
  rw [← HR.out]
  rfl
set_option maxRecDepth 100000 in
set_option maxHeartbeats 1000000 in
theorem rturn_22 (w : World) (x : Nat) (hx : x < 4294967296) : Calls Tryd.prog 83 #[.int .u32 (x : Int), .int .u64 22] w fun e w' => e = .returned (.int .u32 ((rot x 22 : Nat) : Int)) ∧ w' = w := by
  have HR := hid (rot_bits2 x 22 hx)
  go_enter Tryd.func83, Tryd.ntmps83
  go_wp2
  go_ret
  refine ⟨?_, rfl⟩
  rw [← HR.out]
  rfl
set_option maxRecDepth 100000 in
set_option maxHeartbeats 1000000 in
theorem rturn_7 (w : World) (x : Nat) (hx : x < 4294967296) : Calls Tryd.prog 83 #[.int .u32 (x : Int), .int .u64 7] w fun e w' => e = .returned (.int .u32 ((rot x 7 : Nat) : Int)) ∧ w' = w := by
  have HR := hid (rot_bits2 x 7 hx)
  go_enter Tryd.func83, Tryd.ntmps83
  go_wp2
  go_ret
  refine ⟨?_, rfl⟩
  rw [← HR.out]
  rfl
set_option maxRecDepth 100000 in
set_option maxHeartbeats 1000000 in
theorem rturn_18 (w : World) (x : Nat) (hx : x < 4294967296) : Calls Tryd.prog 83 #[.int .u32 (x : Int), .int .u64 18] w fun e w' => e = .returned (.int .u32 ((rot x 18 : Nat) : Int)) ∧ w' = w := by
  have HR := hid (rot_bits2 x 18 hx)
  go_enter Tryd.func83, Tryd.ntmps83
  go_wp2
  go_ret
  refine ⟨?_, rfl⟩
  rw [← HR.out]
  rfl
set_option maxRecDepth 100000 in
set_option maxHeartbeats 1000000 in
theorem rturn_17 (w : World) (x : Nat) (hx : x < 4294967296) : Calls Tryd.prog 83 #[.int .u32 (x : Int), .int .u64 17] w fun e w' => e = .returned (.int .u32 ((rot x 17 : Nat) : Int)) ∧ w' = w := by
  have HR := hid (rot_bits2 x 17 hx)
  go_enter Tryd.func83, Tryd.ntmps83
  go_wp2
  go_ret
  refine ⟨?_, rfl⟩
  rw [← HR.out]
  rfl
set_option maxRecDepth 100000 in
set_option maxHeartbeats 1000000 in
theorem rturn_19 (w : World) (x : Nat) (hx : x < 4294967296) : Calls Tryd.prog 83 #[.int .u32 (x : Int), .int .u64 19] w fun e w' => e = .returned (.int .u32 ((rot x 19 : Nat) : Int)) ∧ w' = w := by
  have HR := hid (rot_bits2 x 19 hx)
  go_enter Tryd.func83, Tryd.ntmps83
  go_wp2
  go_ret
  refine ⟨?_, rfl⟩
  rw [← HR.out]
  rfl
end Go.Proofs.YtjdfclbjmmmcfaaDoor
