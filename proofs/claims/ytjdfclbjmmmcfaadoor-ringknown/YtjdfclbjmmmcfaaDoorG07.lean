/- Of the road to ringKnownCard_holds: RgRound, Range, RangeNone, RgKnW, ShaLaid. -/
import Derived.Test.YtjdfclbjmmmcfaaDoorG06
import Derived.Deep.MidRow
import Derived.RangeFuncNested
import Derived.RangeFuncBound
import Derived.RangeFuncCalls
import Derived.RangeFuncBox
import Derived.RangeFuncLeaves
import Derived.Shelf.Abstract
import Derived.Shelf.RegionOpen
import Derived.WalkKit
import Derived.OwnWalkIn
import Derived.TacticsInMore
import Derived.LoopNIn
import Derived.LoopIn
import Derived.Test.YtjdfclbjmmmcfaaDoorG00
import Derived.Test.YtjdfclbjmmmcfaaDoorRows
import Derived.ProofKit
import Derived.OpenShut
import Derived.LaidLaws
import Derived.Lay
import Derived.MakeChecks
set_option linter.unusedVariables false
set_option linter.unusedSimpArgs false
namespace Go.Proofs.YtjdfclbjmmmcfaaDoor
open Go Go.RowKit
set_option maxRecDepth 100000 in
theorem size_ix {x : List Int} (hx : X16 x) : (Tryd.prog.info? 23).map (·.size) = some (cellsB x).size := by
  have e : (cellsB x).size = 16 := by rw [cellsB_size, hx.1]
  rw [e]
  exact (by kernel_rfl : (Tryd.prog.info? 23).map (·.size) = some 16)
set_option maxRecDepth 100000 in
set_option maxHeartbeats 2000000 in
theorem round_bad (w : World) (x : List Int) (n f : Int) (hx : X16 x) (h : n < 1 ∨ 32 < n) :
    Calls Tryd.prog 15 #[.agg (cellsB x), .int .i64 n, .int .i64 f] w fun e w' => e = .returned (.func (.func 24) #[] #[]) ∧ Below w.heap.size w w' := by
  have HIx := hid (size_ix hx)
  obtain ⟨cl, HCL⟩ : ∃ c, Hid (cellsB x = c) := ⟨_, rfl⟩
  rw [HCL.out] at HIx
  rw [HCL.out]
  obtain ⟨W1, HW1⟩ : ∃ W1, Hid ((w.alloc (.cells cl 23)).alloc (.cells #[.int .i64 n] 3) = W1) := ⟨_, rfl⟩
  have HB1 : Hid (Below w.heap.size w W1) := by rw [← HW1.out]; exact ((Below.refl _ w).alloc (Nat.le_refl _) _).alloc (by simp) _
  have HC1 : Hid (W1.heap[w.heap.size]? = some (.cells cl 23 (0, 0))) := by rw [← HW1.out]; refine hid ?_; rw [heap_alloc_old _ _ (by simp)]; exact heap_alloc_new w _
  have hN1 : W1.cell? ⟨w.heap.size + 1, 0, none⟩ = some (.int .i64 n) := by
    rw [← HW1.out]
    have := heap_alloc_new (w.alloc (.cells cl 23)) (.cells #[.int .i64 n] 3)
    rw [show (w.alloc (.cells cl 23)).heap.size = w.heap.size + 1 by simp] at this
    exact (cell_of_row _ _ _ _ _ _ this).trans rfl
  have e1 : (w.alloc (.cells cl 23)).heap.size = w.heap.size + 1 := by simp
  have C1 := hid (order_bad W1 x n hx h)
  rw [HCL.out] at C1
  clear h hx
  go_enter Tryd.func15, Tryd.ntmps15
  go_wp2_with (first | (refine wpList_load_row rfl 23 _ rfl w.heap.size rfl 23 cl (0, 0) _ (by rw [HW1.out]; exact HC1.out) Tryd.underlying23 rfl HIx.out ?_; rw [HW1.out]))
  refine C1.out.mono ?_
  rintro e W3 ⟨rfl, hB3⟩
  have BL3 : Hid (Below w.heap.size w (W3.alloc (.cells #[.slice none 0 0] 24))) := (HB1.out.trans (hB3.mono HB1.out.size)).alloc (Nat.le_trans HB1.out.size hB3.size) _
  clear hB3 C1
  go_wp2
  go_ret
  exact ⟨rfl, BL3.out⟩
theorem first_mod (f : Int) (n : Nat) (h : 1 ≤ n) : Int.tmod (Int.tmod f n + n) n = f % (n : Int) := by
  have hn : (0 : Int) < n := by omega
  have h1 : Int.tmod f n = if 0 ≤ f ∨ (n : Int) ∣ f then f % n else f % n - n := by
    rw [Int.tmod_eq_emod]
    split
    · simp
    · simp
  have h2 := Int.emod_nonneg f (show (n : Int) ≠ 0 by omega)
  have h3 := Int.emod_lt_of_pos f hn
  rw [h1]
  split
  · rw [Int.tmod_eq_emod_of_nonneg (by omega), Int.add_emod_right, Int.emod_emod_of_dvd _ (Int.dvd_refl _)]
  · rw [show f % (n : Int) - n + n = f % n by omega, Int.tmod_eq_emod_of_nonneg (by omega), Int.emod_emod_of_dvd _ (Int.dvd_refl _)]
structure HRd (w : World) (a b c g n f : Nat) (l : List Nat) : Prop where
  ha : w.heap[a]? = some (.cells #[.int .i64 (n : Int)] 3 (0, 0))
  hb : w.heap[b]? = some (.cells #[.int .i64 (f : Int)] 3 (0, 0))
  hc : w.heap[c]? = some (.cells #[.slice (some ⟨g, 0, none⟩) n n] 24 (0, 0))
  hg : OI w g l
set_option maxRecDepth 100000 in
set_option maxHeartbeats 2000000 in
theorem round_ok (w : World) (x : List Int) (n : Nat) (f : Int) (hx : X16 x) (h1 : 1 ≤ n) (h2 : n ≤ 32) (hf : -9223372036854775808 ≤ f ∧ f < 9223372036854775808) (hk : KC w) :
    Calls Tryd.prog 15 #[.agg (cellsB x), .int .i64 (n : Int), .int .i64 f] w fun e w' => ∃ a b c g l, e = .returned (.func (.func 25) #[] #[.pointer (some ⟨a, 0, none⟩), .pointer (some ⟨b, 0, none⟩), .pointer (some ⟨c, 0, none⟩)]) ∧ (w.heap.size ≤ a ∧ w.heap.size ≤ b ∧ w.heap.size ≤ c ∧ w.heap.size ≤ g) ∧ IsO (rgL x) n l ∧ HRd w' a b c g n (f % (n : Int)).toNat l ∧ Below w.heap.size w w' := by
  have HIx := hid (size_ix hx)
  obtain ⟨cl, HCL⟩ : ∃ c, Hid (cellsB x = c) := ⟨_, rfl⟩
  rw [HCL.out] at HIx
  obtain ⟨W1, HW1⟩ : ∃ W1, Hid ((w.alloc (.cells cl 23)).alloc (.cells #[.int .i64 (n : Int)] 3) = W1) := ⟨_, rfl⟩
  have HB1 : Hid (Below w.heap.size w W1) := by rw [← HW1.out]; exact ((Below.refl _ w).alloc (Nat.le_refl _) _).alloc (by simp) _
  have HC1 : Hid (W1.heap[w.heap.size]? = some (.cells cl 23 (0, 0))) := by rw [← HW1.out]; refine hid ?_; rw [heap_alloc_old _ _ (by simp)]; exact heap_alloc_new w _
  have HN1 : Hid (W1.heap[w.heap.size + 1]? = some (.cells #[.int .i64 (n : Int)] 3 (0, 0))) := by
    rw [← HW1.out]
    have := heap_alloc_new (w.alloc (.cells cl 23)) (.cells #[.int .i64 (n : Int)] 3)
    rw [show (w.alloc (.cells cl 23)).heap.size = w.heap.size + 1 by simp] at this
    exact this
  have hN1 : W1.cell? ⟨w.heap.size + 1, 0, none⟩ = some (.int .i64 (n : Int)) := (cell_of_row _ _ _ _ _ _ HN1.out).trans rfl
  have e1 : (w.alloc (.cells cl 23)).heap.size = w.heap.size + 1 := by simp
  have hS1 : w.heap.size + 2 ≤ W1.heap.size := by rw [← HW1.out]; simp
  have C1 := hid (order_ok W1 x n hx h1 h2 (hk.below HB1.out))
  rw [HCL.out] at C1
  rw [HCL.out]
  clear hx hk
  go_enter Tryd.func15, Tryd.ntmps15
  go_wp2_with (first | (refine wpList_load_row rfl 23 _ rfl w.heap.size rfl 23 cl (0, 0) _ (by rw [HW1.out]; exact HC1.out) Tryd.underlying23 rfl HIx.out ?_; rw [HW1.out]))
  refine C1.out.mono ?_
  rintro e W3 ⟨g, l, rfl, hg, hO, hI, hB3⟩
  have BL3 : Hid (Below w.heap.size w W3) := HB1.out.trans (hB3.mono HB1.out.size)
  have HO := hid hO
  have HI := hid hI
  have hs3 := hB3.size
  have HN3 : Hid (W3.heap[w.heap.size + 1]? = some (.cells #[.int .i64 (n : Int)] 3 (0, 0))) := (hB3.block _ (by omega)).trans HN1.out
  have hN3 : W3.cell? ⟨w.heap.size + 1, 0, none⟩ = some (.int .i64 (n : Int)) := (cell_of_row _ _ _ _ _ _ HN3.out).trans rfl
  have hgl := hI.lt
  clear hN1 hO hI hB3 C1
  have hm := first_mod f n h1
  have hn0 : ¬ ((n : Int) = 0) := by omega
  have hb1 := Int.emod_nonneg f (show (n : Int) ≠ 0 by omega)
  have hb2 := Int.emod_lt_of_pos f (show (0 : Int) < n by omega)
  go_wp2
  -- DRAWN
  obtain ⟨W4, HW4⟩ : ∃ W4, Hid (W3.alloc (.cells #[.slice (some ⟨g, 0, none⟩) n n] 24) = W4) := ⟨_, rfl⟩
  rw [HW4.out]
  have HB4 : Hid (Below W3.heap.size W3 W4) := by rw [← HW4.out]; exact (Below.refl _ W3).alloc (Nat.le_refl _) _
  have HC4 : Hid (W4.heap[W3.heap.size]? = some (.cells #[.slice (some ⟨g, 0, none⟩) n n] 24 (0, 0))) := by rw [← HW4.out]; exact heap_alloc_new W3 _
  have hN4 : Hid (W4.cell? ⟨w.heap.size + 1, 0, none⟩ = some (.int .i64 (n : Int))) := hid ((HB4.out.cell (show w.heap.size + 1 < W3.heap.size by omega)).trans hN3)
  have hs4 : W4.heap.size = W3.heap.size + 1 := by rw [← HW4.out]; simp
  have HS4 := hid hs4
  clear hN3 hs4
  have hnn : ¬ (n = 0) := by omega
  have HM := hid hm
  clear hm hn0
  have ht1 : Hid (-9223372036854775808 ≤ Int.tmod f n + n ∧ Int.tmod f n + n ≤ 9223372036854775807) := hid (by
    have hn : (0 : Int) < n := by omega
    have h3 : Int.tmod f n = if 0 ≤ f ∨ (n : Int) ∣ f then f % n else f % n - n := by
      rw [Int.tmod_eq_emod]
      split <;> simp
    rw [h3]
    split <;> omega)
  refine wp_region_held_drew (S := fun W' => W'.cell? ⟨w.heap.size + 1, 0, none⟩ = some (.int .i64 (n : Int))) (by kernel_rfl) hN4.out (fun hHeld => ?_)
  have HS := hid hHeld
  clear hHeld
  change wpAnyH _ _ _ _ _ _ _ _ (World.drew _)
  refine wpAnyH_take (i := 0) (v := ?_) rfl (by kernel_rfl) (by kernel_rfl) (by kernel_rfl) (fun _ _ _ h => h) (Or.inl ⟨by rfl, ?q0⟩) HS.out ?_
  case q0 => intro w hSw; go_simp; rfl
  simp only [Act.put, List.getElem_toArray, List.getElem_cons_zero, List.getElem_cons_succ, List.setIfInBounds_toArray, List.set_cons_zero, List.set_cons_succ]
  refine wpAnyH_take (i := 1) (v := ?_) rfl (by kernel_rfl) (by kernel_rfl) (by kernel_rfl) (fun _ _ _ h => h) (Or.inl ⟨by rfl, ?q1⟩) HS.out ?_
  case q1 => intro w hSw; go_simp; rfl
  simp only [Act.put, List.getElem_toArray, List.getElem_cons_zero, List.getElem_cons_succ, List.setIfInBounds_toArray, List.set_cons_zero, List.set_cons_succ]
  refine wpAnyH_take (i := 2) (v := ?_) rfl (by kernel_rfl) (by kernel_rfl) (by kernel_rfl) (fun _ _ _ h => h) (Or.inl ⟨by rfl, ?q2⟩) HS.out ?_
  case q2 => intro w hSw; go_simp; rfl
  simp only [Act.put, List.getElem_toArray, List.getElem_cons_zero, List.getElem_cons_succ, List.setIfInBounds_toArray, List.set_cons_zero, List.set_cons_succ]
  refine wpAnyH_take (i := 3) (v := ?_) rfl (by kernel_rfl) (by kernel_rfl) (by kernel_rfl) (fun _ _ _ h => h) (Or.inl ⟨by rfl, ?q3⟩) HS.out ?_
  case q3 => intro w hSw; go_simp; rfl
  simp only [Act.put, List.getElem_toArray, List.getElem_cons_zero, List.getElem_cons_succ, List.setIfInBounds_toArray, List.set_cons_zero, List.set_cons_succ]
  refine wpAnyH_take (i := 4) (v := .int .i64 (Int.tmod f n + n)) rfl (by kernel_rfl) (by kernel_rfl) (by kernel_rfl) (fun _ _ _ h => h) (Or.inl ⟨by rfl, ?q4⟩) HS.out ?_
  case q4 => intro w hSw; go_simp; rw [IntWalk.i64_in _ ht1.out]
  simp only [Act.put, List.getElem_toArray, List.getElem_cons_zero, List.getElem_cons_succ, List.setIfInBounds_toArray, List.set_cons_zero, List.set_cons_succ]
  refine wpAnyH_take (i := 5) (v := ?_) rfl (by kernel_rfl) (by kernel_rfl) (by kernel_rfl) (fun _ _ _ h => h) (Or.inl ⟨by rfl, ?q5⟩) HS.out ?_
  case q5 => intro w hSw; go_simp; rfl
  simp only [Act.put, List.getElem_toArray, List.getElem_cons_zero, List.getElem_cons_succ, List.setIfInBounds_toArray, List.set_cons_zero, List.set_cons_succ]
  refine wpAnyH_take (i := 6) (v := .int .i64 (f % (n : Int))) rfl (by kernel_rfl) (by kernel_rfl) (by kernel_rfl) (fun _ _ _ h => h) (Or.inl ⟨by rfl, ?q6⟩) HS.out ?_
  case q6 => intro w hSw; go_simp; rw [HM.out]
  simp only [Act.put, List.getElem_toArray, List.getElem_cons_zero, List.getElem_cons_succ, List.setIfInBounds_toArray, List.set_cons_zero, List.set_cons_succ]
  refine wpAnyH_ready (rs := [7]) (by kernel_rfl) (by simp) ?_
  refine AllReadyH.cons rfl (fun K hK => ?_) AllReadyH.nil
  replace hK := hid hK
  go_simp
  obtain ⟨W5, HW5⟩ : ∃ W5, Hid ((W4.alloc (.cells #[.int .i64 0] 3)).drew = W5) := ⟨_, rfl⟩
  rw [HW5.out]
  have HB5 : Hid (Below W4.heap.size W4 W5) := by rw [← HW5.out]; exact ((Below.refl _ W4).alloc (Nat.le_refl _) _).drew
  have HC5 : Hid (W5.heap[W4.heap.size]? = some (.cells #[.int .i64 0] 3 (0, 0))) := by rw [← HW5.out]; exact heap_alloc_new W4 _
  have hc5 : W5.cell? ⟨W4.heap.size, 0, none⟩ = some (.int .i64 0) := (cell_of_row _ _ _ _ _ _ HC5.out).trans rfl
  have hf5 : W5.frozen? ⟨W4.heap.size, 0, none⟩ = false := frozen_of_row _ _ _ _ _ HC5.out
  have S5 : Hid (W5.cell? ⟨w.heap.size + 1, 0, none⟩ = some (.int .i64 (n : Int))) := hid ((HB5.out.cell (show w.heap.size + 1 < W4.heap.size by rw [HS4.out]; omega)).trans hN4.out)
  refine hK.out _ _ S5.out (fun _ => ?_)
  clear hK K
  replace HS := S5
  refine wpAnyH_ready (rs := [8]) (by kernel_rfl) (by simp) ?_
  refine AllReadyH.cons rfl (fun K hK => ?_) AllReadyH.nil
  replace hK := hid hK
  go_simp
  obtain ⟨W6, HW6⟩ : ∃ W6, Hid (W5.setCell ⟨W4.heap.size, 0, none⟩ (.int .i64 (f % (n : Int))) = W6) := ⟨_, rfl⟩
  rw [HW6.out]
  have HB6 : Hid (Below W4.heap.size W4 W6) := by rw [← HW6.out]; exact HB5.out.setCell (p := ⟨W4.heap.size, 0, none⟩) (Nat.le_refl _) _
  have HC6 : Hid (W6.heap[W4.heap.size]? = some (.cells #[.int .i64 (f % (n : Int))] 3 (0, 0))) := by rw [← HW6.out]; exact heap_setCell_same W5 _ 0 _ _ _ HC5.out
  have S6 : Hid (W6.cell? ⟨w.heap.size + 1, 0, none⟩ = some (.int .i64 (n : Int))) := hid ((HB6.out.cell (show w.heap.size + 1 < W4.heap.size by rw [HS4.out]; omega)).trans hN4.out)
  refine hK.out _ _ S6.out (fun _ => ?_)
  clear hK K
  refine wpAnyH_done (by kernel_rfl) ?_ _
  clear hc5 hf5
  go_wp2
  go_ret
  have hs4 := HS4.out
  have hs0 := BL3.out.size
  have hfm : (((f % (n : Int)).toNat : Nat) : Int) = f % (n : Int) := by omega
  refine ⟨w.heap.size + 1, W4.heap.size, W3.heap.size, g, l, rfl, ⟨by omega, by omega, by omega, by have := HB1.out.size; omega⟩, HO.out, ⟨?_, ?_, ?_, ?_⟩, ?_⟩
  · rw [HB6.out.block _ (by omega), HB4.out.block _ (by omega)]; exact HN3.out
  · rw [hfm]; exact HC6.out
  · rw [HB6.out.block _ (by omega)]; exact HC4.out
  · exact (HI.out.below HB4.out).belowB HB6.out (by omega)
  · exact (BL3.out.trans (HB4.out.mono hs0)).trans (HB6.out.mono (by omega))
end Go.Proofs.YtjdfclbjmmmcfaaDoor
namespace Go.Proofs.YtjdfclbjmmmcfaaDoor
open Go.RowKit Go.Shelf
def KD (D : Nat → Prop) (A C : World) : Prop := A.heap.size ≤ C.heap.size ∧ ∀ i, D i → C.heap[i]? = A.heap[i]?
theorem KD.refl (D : Nat → Prop) (A : World) : KD D A A := ⟨Nat.le_refl _, fun _ _ => rfl⟩
theorem KD.trans {D : Nat → Prop} {A B C : World} (h : KD D A B) (k : KD D B C) : KD D A C := ⟨Nat.le_trans h.1 k.1, fun i hi => (k.2 i hi).trans (h.2 i hi)⟩
theorem KD.put {D : Nat → Prop} {A : World} {l : Nat} (hl : ¬ D l) (o : Obj) : KD D A (A.putObj l o) := ⟨by simp, fun _ hi => World.putObj_heap_other (fun e => hl (e ▸ hi))⟩
def IterF (F : Fence) (n : Nat) (P : Program) (g : Nat) (lb : Array Value) (enc : Nat → Value → Array Value) (Fit : Nat → Value → World → Prop) (D : Nat → Prop) (N : Nat) (w0 : World) : Prop :=
  ∀ (l : Nat) (J : Nat → World → Prop) (Jx : World → Prop) (W : World), KD D w0 W → (∀ k A C, J k A → A.grownBy C none → J k C) →
    (∀ k v W1, J k W1 → Fit k v W1 → k < N → YieldAt F (n - 1) P l (enc k v) W1 fun e W' => (e = .returned (.bool true) ∧ J (k + 1) W' ∧ KD D W1 W') ∨ (e = .returned (.bool false) ∧ Jx W')) →
    J 0 W → CallsIn F n P g (#[.func (.yield l) #[] #[]] ++ lb) W fun e W' => (∃ v, e = .returned v) ∧ (J N W' ∨ Jx W')
def OutF (B : Nat) (D : Nat → Prop) (I : Nat → World → Prop) (Ix : Code → World → Prop) (k : Nat) (W : World) : Exit → Act → World → Prop
  | .normal, _, W' => KeepsFrom B W W' ∧ KD D W W' ∧ I (k + 1) W'
  | .ret, _, W' => KeepsFrom B W W' ∧ Ix .ret W'
  | .exit id, _, W' => KeepsFrom B W W' ∧ Ix (.exit id) W'
  | _, _, _ => False
theorem range_fit {F : Fence} {n : Nat} {P : Program} {g : Operand} {ps : Array Tmp} {assign body : Code} {Q : Exit → Act → World → Prop} {a : Act} {w : World}
    (hro : F.round = none) (h1 : 1 ≤ n) {gf : Nat} {lb : Array Value} (hg : a.eval g = .func (.func gf) #[] lb) (hFg : F.fn gf) (eg : ∀ args w, (callFunc gf args).run P w = .ok (.enter gf args) w)
    {enc : Nat → Value → Array Value} {Fit : Nat → Value → World → Prop} {D : Nat → Prop} {N : Nat} {w0 : World} (hit : IterF F (n - 1) P gf lb enc Fit D N w0) (hw0 : KD D w0 w) (hD : ∀ i, D i → i < w.heap.size) (hps : ∀ k v, (enc k v).size = ps.size)
    (I : Nat → World → Prop) (Ix : Code → World → Prop) (hI : OwnFrom w.heap.size I) (hIx : OwnFrom w.heap.size Ix) (hFit : ∀ k v, OwnFrom w.heap.size (fun (_ : Unit) W => Fit k v W)) (h0 : I 0 w) (a₁ : Nat → Value → Act)
    (hassign : ∀ (l k : Nat) (v : Value) (W : World) (K : Act → World → Prop), K (a₁ k v) W →
      assign.wpIn (F.inRound l) (n - 1 - 1) P (Exit.then K (fun _ _ _ => False)) { tmps := (ps.zip (enc k v)).foldl (fun t (p, v) => t.setIfInBounds p v) a.tmps, defers := [] } W)
    (hbody : ∀ (l k : Nat) (v : Value) (W : World), w.heap.size ≤ l → (∃ r, W.heap[l]? = some (.loop r)) → I k W → Fit k v W → k < N → body.wpIn (F.inRound l) (n - 1 - 1) P (OutF w.heap.size D I Ix k W) (a₁ k v) W)
    (hdone : ∀ (d : Nat) (W : World), w.heap.size ≤ d → I N W → W.heap[d]? = some (.deferred (some [])) → Q .normal { a with defers := { target := .collected d, args := #[] } :: a.defers } W)
    (hstop : ∀ (d : Nat) (c : Code) (W : World), w.heap.size ≤ d → Ix c W → W.heap[d]? = some (.deferred (some [])) → c.wpIn F n P Q { a with defers := { target := .collected d, args := #[] } :: a.defers } W) :
    (Code.rangeFunc g ps assign body).wpIn F n P Q a w := by
  refine wpIn_rangeFunc fun fn hfn => ?_
  rw [hro]
  let R : LoopState → Option Code → Loop := fun st pe => { state := st, pending := pe, fn, tmps := a.tmps, params := ps, assign, body, defers := w.heap.size }
  have hds : ∀ i, D i → i ≠ w.heap.size ∧ i ≠ w.heap.size + 1 := fun i hi => by have := hD i hi; omega
  have hnd : ¬ D (w.heap.size + 1) := fun h => (hds _ h).2 rfl
  -- what of the two blocks of book-keeping: the record at st, pe, and the block for deferred calls
  let BK : LoopState → Option Code → World → Prop := fun st pe W => W.heap[w.heap.size + 1]? = some (.loop (R st pe)) ∧ W.heap[w.heap.size]? = some (.deferred (some []))
  have bk_put : ∀ {st pe W} (st' pe'), BK st pe W → BK st' pe' (W.putObj (w.heap.size + 1) (.loop (R st' pe'))) := fun st' pe' h =>
    ⟨World.putObj_heap_same (Array.getElem?_eq_some_iff.1 h.1).1, (World.putObj_heap_other (by omega)).trans h.2⟩
  have bk_kept : ∀ {st pe A C}, BK st pe A → KeepsFrom w.heap.size A C → BK st pe C := fun h k => ⟨k.same _ _ (by omega) h.1 rfl, k.same _ _ (Nat.le_refl _) h.2 rfl⟩
  have bk_grown : ∀ {st pe A C}, BK st pe A → A.grownBy C none → BK st pe C := fun h k =>
    ⟨(k.block _ (Array.getElem?_eq_some_iff.1 h.1).1 (by simp)).trans h.1, (k.block _ (Array.getElem?_eq_some_iff.1 h.2).1 (by simp)).trans h.2⟩
  obtain ⟨W1, hW1⟩ : ∃ W1, (w.alloc (.deferred (some []))).alloc (.loop (R .ready none)) = W1 := ⟨_, rfl⟩
  have hg1 : w.grownBy W1 none := by
    rw [← hW1]
    exact ⟨rfl, rfl, rfl, by simp; omega, fun i hi _ => (Below.heap_alloc _ _ _ (by simp; omega)).trans (Below.heap_alloc _ _ _ hi)⟩
  have hBK1 : BK .ready none W1 := by
    rw [← hW1]
    refine ⟨?_, (Below.heap_alloc _ _ _ (by simp)).trans (World.alloc_heap_new w _)⟩
    have := World.alloc_heap_new (w.alloc (.deferred (some []))) (.loop (R .ready none))
    rwa [World.size_alloc] at this
  refine ⟨w.heap.size + 1, [{ target := .collected w.heap.size, args := #[] }], W1, { target := .fn (.func gf) lb, args := #[.func (.yield (w.heap.size + 1)) #[] #[]] }, W1, gf, #[.func (.yield (w.heap.size + 1)) #[] #[]] ++ lb, W1, ?_, ?_, ?_, ?_, fun _ => h1, ?_⟩
  · rw [← hW1]; exact run_enterLoop_outer _ _ _ _ _
  · simp only [resolve, hg]; simp [go_sem]
  · intro f' hf'; simp [Target.leads] at hf'; subst hf'; exact hFg
  · simp [invoke, go_sem, eg]
  · refine (hit (w.heap.size + 1) (fun k W => I k W ∧ BK .ready none W) (fun W => ∃ c, Ix c W ∧ BK .done (some c) W) W1 (hw0.trans ⟨hg1.size, fun i hi => hg1.block i (hD i hi) (by simp)⟩)
      (fun k A C h hg' => ⟨hI k A C none h.1 hg' (fun r e => by cases e), bk_grown h.2 hg'⟩) ?_ ⟨hI 0 w W1 none h0 hg1 (fun r e => by cases e), hBK1⟩).mono ?_
    · rintro k v W ⟨hi, hb⟩ hf hk
      refine ⟨fn, _, assign, body, run_yield (P := P) (r := R .ready none) (args := enc k v) hb.1 (hps k v), roundIn_of_wpIn hfn (hassign _ k v W _ ⟨_, run_beginRound hb.1 rfl, ?_⟩)⟩
      have hb2 : BK .busy none (W.putObj (w.heap.size + 1) (.loop (R .busy none))) := bk_put _ _ hb
      refine wpIn_mono (hbody _ k v _ (by omega) ⟨_, hb2.1⟩ (hI.putObj _ hi (by omega) hb.1 rfl) ((hFit k v).putObj (s := ()) _ hf (by omega) hb.1 rfl) hk) ?_
      rintro e a3 W3 hp
      cases e with
      | normal =>
        obtain ⟨k1, k2, k3⟩ := hp
        have hb3 := bk_kept hb2 k1
        exact ⟨_, _, run_endRound (P := P) none hb3.1, .inl ⟨rfl, ⟨hI.putObj _ k3 (by omega) hb3.1 rfl, bk_put .ready none hb3⟩, ((KD.put hnd _).trans k2).trans (KD.put hnd _)⟩⟩
      | ret =>
        have hb3 := bk_kept hb2 hp.1
        exact ⟨_, _, run_endRound (P := P) (some .ret) hb3.1, .inr ⟨rfl, .ret, hIx.putObj _ hp.2 (by omega) hb3.1 rfl, bk_put .done (some .ret) hb3⟩⟩
      | exit id =>
        have hb3 := bk_kept hb2 hp.1
        exact ⟨_, _, run_endRound (P := P) (some (.exit id)) hb3.1, .inr ⟨rfl, .exit id, hIx.putObj _ hp.2 (by omega) hb3.1 rfl, bk_put .done (some (.exit id)) hb3⟩⟩
      | goto t => exact hp.elim
      | panic ch => exact hp.elim
      | outgrown => exact hp.elim
    · rintro e W2 ⟨⟨v, rfl⟩, ⟨hi, hb⟩ | ⟨c, hc, hb⟩⟩
      · exact ⟨none, _, run_endLoop (P := P) hb.1 (by simp [R]), hdone _ _ (Nat.le_refl _) (hI.putObj _ hi (by omega) hb.1 rfl) ((World.putObj_heap_other (by omega)).trans hb.2)⟩
      · exact ⟨some c, _, run_endLoop (P := P) hb.1 (by simp [R]), hstop _ c _ (Nat.le_refl _) (hIx.putObj _ hc (by omega) hb.1 rfl) ((World.putObj_heap_other (by omega)).trans hb.2)⟩
def noDefer (o : Oper) : Bool := match o.op with | .defer _ => false | _ => true
theorem noDefer_spec {ops : Array Oper} (h : ops.all noDefer = true) (i : Nat) (o : Oper) (ho : ops[i]? = some o) : ∀ c, o.op ≠ .defer c := fun c e => by
  obtain ⟨hi, rfl⟩ := Array.getElem?_eq_some_iff.1 ho
  have := (Array.all_eq_true.1 h) i hi
  simp [noDefer, e] at this
theorem any_round {F : Fence} {n : Nat} {P : Program} {ops : Array Oper} {Q : Exit → Act → World → Prop} {md : Region.Mode} {l : Nat} (hro : F.round = none) (hd : ops.all noDefer = true) :
    ∀ (fuel : Nat) (listed : Array Bool) (a : Act) (w : World), wpAnyIn F n P md ops Q fuel listed a w → wpAnyIn (F.inRound l) n P md ops Q fuel listed a w
  | 0, _, _, _, h => h
  | fuel + 1, listed, a, w, h => by
    refine ⟨h.1, fun i hi => ?_⟩
    have h1 := wpOpIn_mono (fun a' w' h' => any_round (l := l) hro hd fuel (listed.setIfInBounds i true) a' w' h') (h.2 i hi)
    unfold wpOpIn at h1 ⊢
    cases ho : ops[i]? with
    | none => simpa only [ho] using h1
    | some o =>
      simp only [ho] at h1 ⊢
      by_cases hw : Region.wanted o (yielded ops a.tmps) = true
      · simp only [hw, if_true] at h1 ⊢
        unfold Oper.wpIn at h1 ⊢
        refine ⟨h1.1, ?_⟩
        have h2 := h1.2
        rw [Oper.semAt_eq _ _ _ (noDefer_spec hd i o ho)] at h2 ⊢
        exact h2
      · simp only [hw] at h1 ⊢
        exact h1
theorem box_from {A C : World} {row : Option Nat} {B n : Nat} {t : TypeId} {v : Value} (h : Boxed A B t v) (hg : A.grownBy C row) (hr : ∀ r, row = some r → n ≤ r ∧ ∃ o : Obj, A.heap[r]? = some o ∧ o.isCells = false) : Boxed C B t v :=
  h.kept hg fun e => by
    obtain ⟨_, o, ho, hc⟩ := hr B e.symm
    rw [show A.heap[B]? = _ from h] at ho
    cases ho
    cases hc
theorem row_from {A C : World} {row : Option Nat} {B n k size : Nat} {e : TypeId} {v : Value} {xs : List Value} (h : A.ownsRow B e size v k xs) (hg : A.grownBy C row) (hr : ∀ r, row = some r → n ≤ r ∧ ∃ o : Obj, A.heap[r]? = some o ∧ o.isCells = false) : C.ownsRow B e size v k xs := by
  refine h.kept hg ?_
  rcases h.2 with ⟨rfl, _⟩ | ⟨g, cap, cur, rfl, _, hgb, _⟩
  · exact .inl rfl
  · refine .inr fun e' => ?_
    obtain ⟨_, o, ho, hc⟩ := hr g (by simpa [Value.ownBlock] using e'.symm)
    rw [hgb] at ho
    cases ho
    cases hc
theorem below_from {w A C : World} {row : Option Nat} {B n : Nat} (h : Below B w A) (hB : B ≤ w.heap.size) (hg : A.grownBy C row) (hr : ∀ r, row = some r → n ≤ r ∧ ∃ o : Obj, A.heap[r]? = some o ∧ o.isCells = false) (hn : B ≤ n) : Below B w C :=
  h.grown hg (Nat.le_trans hB h.size) (fun k e => by have := (hr k e).1; omega)
end Go.Proofs.YtjdfclbjmmmcfaaDoor
namespace Go.Proofs.YtjdfclbjmmmcfaaDoor
open Go Go.RowKit Go.Shelf
theorem wp_range_none {P : Program} {g : Operand} {ps : Array Tmp} {assign body : Code} {Q : Exit → Act → World → Prop} {a : Act} {w : World} {gf : Nat} {lb : Array Value}
    (hg : a.eval g = .func (.func gf) #[] lb) (eg : ∀ args w, (callFunc gf args).run P w = .ok (.enter gf args) w) (hc : ∀ args w, Calls P gf args w fun e w' => (∃ v, e = .returned v) ∧ w' = w)
    (hQ : ∀ W, w.grownBy W none → W.heap[w.heap.size]? = some (.deferred (some [])) → Q .normal { a with defers := { target := .collected w.heap.size, args := #[] } :: a.defers } W) :
    (Code.rangeFunc g ps assign body).wp P Q a w := by
  refine (wpIn_wide (n := 1)).1 (wpIn_rangeFunc fun fn hfn => ?_)
  let R : LoopState → Option Code → Loop := fun st pe => { state := st, pending := pe, fn, tmps := a.tmps, params := ps, assign, body, defers := w.heap.size }
  obtain ⟨W1, hW1⟩ : ∃ W1, (w.alloc (.deferred (some []))).alloc (.loop (R .ready none)) = W1 := ⟨_, rfl⟩
  have hg1 : w.grownBy W1 none := by
    rw [← hW1]
    exact ⟨rfl, rfl, rfl, by simp; omega, fun i hi _ => (Below.heap_alloc _ _ _ (by simp; omega)).trans (Below.heap_alloc _ _ _ hi)⟩
  have hl : W1.heap[w.heap.size + 1]? = some (.loop (R .ready none)) := by
    rw [← hW1]
    have := World.alloc_heap_new (w.alloc (.deferred (some []))) (.loop (R .ready none))
    rwa [World.size_alloc] at this
  have hd : W1.heap[w.heap.size]? = some (.deferred (some [])) := by
    rw [← hW1]
    exact (Below.heap_alloc _ _ _ (by simp)).trans (World.alloc_heap_new w _)
  refine ⟨w.heap.size + 1, [{ target := .collected w.heap.size, args := #[] }], W1, { target := .fn (.func gf) lb, args := #[.func (.yield (w.heap.size + 1)) #[] #[]] }, W1, gf, #[.func (.yield (w.heap.size + 1)) #[] #[]] ++ lb, W1, ?_, ?_, ?_, ?_, fun _ => Nat.le_refl _, ?_⟩
  · rw [← hW1]; exact run_enterLoop_outer _ _ _ _ _
  · simp only [resolve, hg]; simp [go_sem]
  · intro f' hf'; trivial
  · simp [invoke, go_sem, eg]
  · refine callsIn_wide.2 ((hc _ W1).mono ?_)
    rintro e W2 ⟨⟨v, rfl⟩, rfl⟩
    refine ⟨none, _, run_endLoop (P := P) hl (by simp [R]), hQ _ ?_ ?_⟩
    · exact ⟨hg1.os, hg1.tape, hg1.output, by simpa using hg1.size, fun i hi hr => (World.putObj_heap_other (by omega)).trans (hg1.block i hi hr)⟩
    · rw [World.putObj_heap_other (by omega)]
      exact hd
def x123 : List Int := 1 :: 2 :: 3 :: List.replicate 13 0
theorem x123_X : X16 x123 := ⟨rfl, fun x hx => by
  have : x = 1 ∨ x = 2 ∨ x = 3 ∨ x = 0 := by
    rcases List.mem_cons.1 hx with h | h
    · exact .inl h
    rcases List.mem_cons.1 h with h | h
    · exact .inr (.inl h)
    rcases List.mem_cons.1 h with h | h
    · exact .inr (.inr (.inl h))
    · exact .inr (.inr (.inr (List.mem_replicate.1 h).2))
  omega⟩
theorem built_x123 : Tryd.prog.built 23 [(0, .int .u8 1), (1, .int .u8 2), (2, .int .u8 3)] = some (cellsB x123) := by kernel_rfl
theorem zero_ix : (Tryd.prog.info? 23).map (·.zero) = some (some (.agg (cellsB (List.replicate 16 0)))) := by kernel_rfl
theorem wpList_alloc_ix {cs : Array Value} (hz : (Tryd.prog.info? 23).map (·.zero) = some (some (.agg cs))) {ops : Array Oper} {rest : List Oper} {o : Oper} {a : Act} {w : World} {Q : Exit → Act → World → Prop} (hgd : o.guard = none) (ho : o.op = .alloc 23)
    (h : wpList Tryd.prog ops Q rest (a.put o.dst (.pointer (some ⟨w.heap.size, 0, none⟩))) (w.alloc (.cells cs 23))) : wpList Tryd.prog ops Q (o :: rest) a w :=
  wpList_plain hgd fun _ hK => by
    have hr : (Instr.alloc 23 true (.tuple #[])).run Tryd.prog w = .ok (.pointer (some ⟨w.heap.size, 0, none⟩)) (w.alloc (.cells cs 23)) := by
      cases hi : Tryd.prog.info? 23 with
      | none => simp [hi] at hz
      | some i0 =>
        simp [hi] at hz
        simp [Instr.alloc, zeroValue, typeInfo, hi, hz, newVar, newRow, Value.cells]
    unfold Oper.wp
    simp only [execOp, ho, Sem.run_bind, hr, Result.andThen_ok]
    exact hK _ _ h
theorem wpList_build_x {T : TypeId} (cs : Array Value) {ps : Array (Nat × Operand)} {ops : Array Oper} {rest : List Oper} {o : Oper} {a : Act} {w : World} {Q : Exit → Act → World → Prop} (hgd : o.guard = none) (ho : o.op = .build T ps) (hb : Tryd.prog.built T (ps.map fun (i, x) => (i, a.eval x)).toList = some cs)
    (h : wpList Tryd.prog ops Q rest (a.put o.dst (.agg cs)) w) : wpList Tryd.prog ops Q (o :: rest) a w := by
  refine wpList_build hgd T ps ho (by rw [hb]; rfl) ?_
  rw [hb]
  exact h
theorem eql_seq2_nil : ∀ (w : World) (f : Fn) (a b : Array Value), (binOp .eql 37 (.func f a b) .nilFunc).run Tryd.prog w = .ok (.bool false) w := fun w f a b => by
  have h : ∀ d : Nat, (Op.equalIn (d + 1) 37 (.func f a b) .nilFunc).run Tryd.prog w = .ok false w := fun d => by
    simp [Op.equalIn, run_underlying Tryd.underlying37]
  simp only [binOp]
  simp [Op.equal, Op.maxDepth, h 9999]
theorem rd1_enter (args : Array Value) (w : World) : (callFunc 24 args).run Tryd.prog w = .ok (.enter 24 args) w := by
  simp only [callFunc, program, Sem.run_bind, Result.andThen_ok, Sem.run, Tryd.func24]
  rfl
theorem rd1_any (args : Array Value) (w : World) : Calls Tryd.prog 24 args w fun e w' => (∃ v, e = .returned v) ∧ w' = w := by
  refine calls_of_wp Tryd.func24 (c := .skip) (by kernel_rfl) (wp_skip ?_)
  exact ⟨rfl, _, results_none rfl _ _ _, ⟨_, rfl⟩, rfl⟩
theorem rbool_res {fn : Func} {p : Tmp} (h : fn.results = #[.cell p 4]) (tmps : Array Value) (w : World) (g : Nat) (b : Bool) (hp : tmps.getD p undef = .pointer (some ⟨g, 0, none⟩)) (hc : w.cell? ⟨g, 0, none⟩ = some (.bool b)) : (results fn tmps).run Tryd.prog w = .ok (.bool b) w := by
  have hp' : tmps[p]?.getD undef = .pointer (some ⟨g, 0, none⟩) := by simpa using hp
  simp only [results, h]
  simp [hp', asAddr]
  simp [go_sem, hc]
theorem rbel_put {B b : Nat} {w W : World} (h : Below B w W) (hb : B ≤ b) (o : Obj) : Below B w (W.putObj b o) := h.trans ⟨rfl, rfl, rfl, by simp, fun k hk => World.putObj_heap_other (by omega)⟩
theorem rcell_put {b : Nat} {W : World} {a : Addr} (h : a.block ≠ b) (o : Obj) : (W.putObj b o).cell? a = W.cell? a := by simp [World.cell?, World.putObj_heap_other h]
set_option maxRecDepth 100000 in
set_option maxHeartbeats 4000000 in
theorem known_walk (w : World) (hk : KC w) : Calls Tryd.prog 7 #[] w fun e w' => e = .returned (.bool true) ∧ Below w.heap.size w w' := by
  obtain ⟨cl, HCL⟩ : ∃ c, Hid (cellsB x123 = c) := ⟨_, rfl⟩
  obtain ⟨zl, HZL⟩ : ∃ c, Hid (cellsB (List.replicate 16 0) = c) := ⟨_, rfl⟩
  have HBt := built_x123
  have HZt := zero_ix
  have HIx := hid (size_ix x123_X)
  rw [HCL.out] at HBt HIx
  rw [HZL.out] at HZt
  have HBT := hid HBt
  have HZT := hid HZt
  have H1c : Hid (cl.all (·.oneCell') = true) := by rw [← HCL.out]; exact cellsB_one _
  have HZc : Hid (zl.size = cl.size) := by rw [← HCL.out, ← HZL.out]; exact rfl
  have HX := hid x123_X
  have HK := hid hk
  obtain ⟨W0, HW0⟩ : ∃ W0, Hid ((w.alloc (.cells #[.bool false] 4)).alloc (.cells zl 23) = W0) := ⟨_, rfl⟩
  have e0 : (w.alloc (.cells #[.bool false] 4)).heap.size = w.heap.size + 1 := by simp
  have HB0 : Hid (Below w.heap.size w W0) := by rw [← HW0.out]; exact ((Below.refl _ w).alloc (Nat.le_refl _) _).alloc (by simp) _
  have HT0 : Hid (W0.heap[w.heap.size]? = some (.cells #[.bool false] 4 (0, 0))) := by rw [← HW0.out]; refine hid ?_; rw [heap_alloc_old _ _ (by simp)]; exact heap_alloc_new w _
  have HR0 : Hid (W0.heap[w.heap.size + 1]? = some (.cells zl 23 (0, 0))) := by
    rw [← HW0.out]
    have := heap_alloc_new (w.alloc (.cells #[.bool false] 4)) (.cells zl 23)
    rw [e0] at this
    exact this
  obtain ⟨W1, HW1⟩ : ∃ W1, Hid (W0.setRow (w.heap.size + 1) cl = W1) := ⟨_, rfl⟩
  have HB1 : Hid (Below w.heap.size w W1) := by rw [← HW1.out]; exact below_setRow HB0.out (by omega) _
  have HR1 : Hid (W1.heap[w.heap.size + 1]? = some (.cells cl 23 (0, 0))) := by rw [← HW1.out]; exact setRow_heap _ _ _ _ _ _ HR0.out
  have HT1 : Hid (W1.heap[w.heap.size]? = some (.cells #[.bool false] 4 (0, 0))) := by rw [← HW1.out]; exact (setRow_other _ _ _ _ (by omega)).trans HT0.out
  have hs1 : w.heap.size + 1 < W1.heap.size := (Array.getElem?_eq_some_iff.1 HR1.out).1
  clear HBt HZt hk
  refine (callsIn_wide (n := 3)).1 ?_
  refine callsIn_of_wp_marks Tryd.func7 rfl trivial (wpIn_wide.2 ?_) rfl
  simp only [Tryd.ntmps7, List.size_toArray, List.length_cons, List.length_nil, Nat.reduceAdd, Nat.reduceSub, Array.replicate_succ, Array.replicate_zero, List.push_toArray, List.append_toArray, List.nil_append, List.cons_append]
  go_wp2_with (first
    | (refine wpList_build_x cl rfl rfl (by simp [Act.eval, HBT.out]) ?_)
    | (refine wpList_alloc_ix HZT.out rfl rfl ?_; rw [HW0.out, e0])
    | (refine wpList_store_row rfl 23 _ _ rfl (w.heap.size + 1) cl rfl rfl 23 _ HR0.out HIx.out HZc.out H1c.out ?_; rw [HW1.out])
    | (refine wpList_load_row rfl 23 _ rfl (w.heap.size + 1) rfl 23 cl (0, 0) _ HR1.out Tryd.underlying23 rfl HIx.out ?_))
  have C1 := hid (order_bad W1 x123 0 HX.out (by omega))
  rw [HCL.out] at C1
  refine C1.out.mono ?_
  rintro e W2 ⟨rfl, hB2⟩
  have HB2 : Hid (Below w.heap.size w W2) := HB1.out.trans (hB2.mono HB1.out.size)
  have HR2 : Hid (W2.heap[w.heap.size + 1]? = some (.cells cl 23 (0, 0))) := (hB2.block _ hs1).trans HR1.out
  have HT2 : Hid (W2.heap[w.heap.size]? = some (.cells #[.bool false] 4 (0, 0))) := (hB2.block _ (by omega)).trans HT1.out
  have hs2 : w.heap.size + 1 < W2.heap.size := (Array.getElem?_eq_some_iff.1 HR2.out).1
  clear hB2 C1 HR1 HT1
  go_wp2_with (refine wpList_load_row rfl 23 _ rfl (w.heap.size + 1) rfl 23 cl (0, 0) _ HR2.out Tryd.underlying23 rfl HIx.out ?_)
  have C2 := hid (order_bad W2 x123 33 HX.out (by omega))
  rw [HCL.out] at C2
  refine C2.out.mono ?_
  rintro e W3 ⟨rfl, hB3⟩
  have HB3 : Hid (Below w.heap.size w W3) := HB2.out.trans (hB3.mono HB2.out.size)
  have HR3 : Hid (W3.heap[w.heap.size + 1]? = some (.cells cl 23 (0, 0))) := (hB3.block _ hs2).trans HR2.out
  have HT3 : Hid (W3.heap[w.heap.size]? = some (.cells #[.bool false] 4 (0, 0))) := (hB3.block _ (by omega)).trans HT2.out
  have hs3 : w.heap.size + 1 < W3.heap.size := (Array.getElem?_eq_some_iff.1 HR3.out).1
  clear hB3 C2 HR2 HT2
  go_wp2_with (refine wpList_load_row rfl 23 _ rfl (w.heap.size + 1) rfl 23 cl (0, 0) _ HR3.out Tryd.underlying23 rfl HIx.out ?_)
  have C3 := hid (rank_bad W3 x123 3 3 HX.out (by omega))
  rw [HCL.out] at C3
  refine C3.out.mono ?_
  rintro e W4 ⟨rfl, hB4⟩
  have HB4 : Hid (Below w.heap.size w W4) := HB3.out.trans (hB4.mono HB3.out.size)
  have HR4 : Hid (W4.heap[w.heap.size + 1]? = some (.cells cl 23 (0, 0))) := (hB4.block _ hs3).trans HR3.out
  have HT4 : Hid (W4.heap[w.heap.size]? = some (.cells #[.bool false] 4 (0, 0))) := (hB4.block _ (by omega)).trans HT3.out
  have hs4 : w.heap.size + 1 < W4.heap.size := (Array.getElem?_eq_some_iff.1 HR4.out).1
  clear hB4 C3 HR3 HT3
  go_wp2_with (refine wpList_load_row rfl 23 _ rfl (w.heap.size + 1) rfl 23 cl (0, 0) _ HR4.out Tryd.underlying23 rfl HIx.out ?_)
  have C4 := hid (rank_bad W4 x123 3 (-1) HX.out (by omega))
  rw [HCL.out] at C4
  refine C4.out.mono ?_
  rintro e W5 ⟨rfl, hB5⟩
  have HB5 : Hid (Below w.heap.size w W5) := HB4.out.trans (hB5.mono HB4.out.size)
  have HR5 : Hid (W5.heap[w.heap.size + 1]? = some (.cells cl 23 (0, 0))) := (hB5.block _ hs4).trans HR4.out
  have HT5 : Hid (W5.heap[w.heap.size]? = some (.cells #[.bool false] 4 (0, 0))) := (hB5.block _ (by omega)).trans HT4.out
  have hs5 : w.heap.size + 1 < W5.heap.size := (Array.getElem?_eq_some_iff.1 HR5.out).1
  clear hB5 C4 HR4 HT4
  go_wp2_with (refine wpList_load_row rfl 23 _ rfl (w.heap.size + 1) rfl 23 cl (0, 0) _ HR5.out Tryd.underlying23 rfl HIx.out ?_)
  have C5 := hid (round_bad W5 x123 0 5 HX.out (by omega))
  rw [HCL.out] at C5
  refine C5.out.mono ?_
  rintro e W6 ⟨rfl, hB6⟩
  have HB6 : Hid (Below w.heap.size w W6) := HB5.out.trans (hB6.mono HB5.out.size)
  have HR6 : Hid (W6.heap[w.heap.size + 1]? = some (.cells cl 23 (0, 0))) := (hB6.block _ hs5).trans HR5.out
  have HT6 : Hid (W6.heap[w.heap.size]? = some (.cells #[.bool false] 4 (0, 0))) := (hB6.block _ (by omega)).trans HT5.out
  have hs6 : w.heap.size + 1 < W6.heap.size := (Array.getElem?_eq_some_iff.1 HR6.out).1
  clear hB6 C5 HR5 HT5
  go_wp2_with (refine wpList_load_row rfl 23 _ rfl (w.heap.size + 1) rfl 23 cl (0, 0) _ HR6.out Tryd.underlying23 rfl HIx.out ?_)
  refine (awake_any W6 (HK.out.below HB6.out)).mono ?_
  rintro e W7 ⟨rfl, hB7⟩
  have HB7 : Hid (Below w.heap.size w W7) := HB6.out.trans (hB7.mono HB6.out.size)
  have HT7 : Hid (W7.heap[w.heap.size]? = some (.cells #[.bool false] 4 (0, 0))) := (hB7.block _ (by omega)).trans HT6.out
  have hs7 : w.heap.size < W7.heap.size := (Array.getElem?_eq_some_iff.1 HT7.out).1
  clear hB7 HT6 HR6
  have hnil := eql_seq2_nil
  go_wp2
  clear hnil
  refine wp_range_none rfl rd1_enter rd1_any fun W hg hd => ?_
  have HT8 : Hid (W.heap[w.heap.size]? = some (.cells #[.bool false] 4 (0, 0))) := (hg.block _ hs7 (by simp)).trans HT7.out
  have HD8 := hid hd
  have HB8 : Hid (Below w.heap.size w W) := HB7.out.trans (Below.mono (by exact ⟨hg.os, hg.tape, hg.output, hg.size, fun i hi => hg.block i hi (by simp)⟩ : Below W7.heap.size W7 W) HB7.out.size)
  have c8 : W.cell? ⟨w.heap.size, 0, none⟩ = some (.bool false) := (cell_of_row _ _ _ _ _ _ HT8.out).trans rfl
  have f8 : W.frozen? ⟨w.heap.size, 0, none⟩ = false := frozen_of_row _ _ _ _ _ HT8.out
  have HM8 : Hid ((W.setCell ⟨w.heap.size, 0, none⟩ (.bool true)).heap[W7.heap.size]? = some (.deferred (some []))) := hid ((heap_setCell_other _ _ _ _ (fun e => by simp at e; omega)).trans hd)
  have CX : Hid ((W.setCell ⟨w.heap.size, 0, none⟩ (.bool true)).cell? ⟨w.heap.size, 0, none⟩ = some (.bool true)) := hid (World.cell?_setCell_same _ _ _ c8)
  have B8 : Hid (Below w.heap.size w (W.setCell ⟨w.heap.size, 0, none⟩ (.bool true))) := hid (HB8.out.setCell (p := ⟨w.heap.size, 0, none⟩) (Nat.le_refl _) _)
  clear hg hd
  go_wp2
  refine ⟨by simp, .inl ⟨_, _, rfl, run_takeDeferred HM8.out, ?_⟩⟩
  exact ⟨_, rbool_res rfl _ _ w.heap.size true rfl ((rcell_put (by show w.heap.size ≠ W7.heap.size; omega) _).trans CX.out), rfl, rbel_put B8.out (by omega) _⟩
end Go.Proofs.YtjdfclbjmmmcfaaDoor
namespace Go.Proofs.YtjdfclbjmmmcfaaDoor
open Go Go.RowKit Go.ChangeShapes Go.WideShapes Go.ChangeAt
def shaLaid : List (String × DataW Unit) := [("strongroom/sha.constants", Rows.laid_strongroom_sha_constants)]
theorem gK : Tryd.prog.globalNamed "strongroom/sha.constants" = some 1 := by kernel_rfl
theorem tK : (Tryd.prog.globals[1]?).map (·.type) = some 115 := by kernel_rfl
theorem cK : Tryd.prog.cellsOf 45 = 1 := by kernel_rfl
theorem dK : (Rows.laid_strongroom_sha_constants : DataW Unit) = .agg (kW.map fun x : Nat => .lit (.int .u32 (x : Int))) := by kernel_rfl
theorem kc_of_laid {W : World} (h : laidMetH Tryd.prog shaLaid W) : KC W := by
  rw [MakeChecks.laidMetH_plain _ _ _ (by kernel_rfl)] at h
  obtain ⟨ps, ⟨g0, t0, cs0, f0, p0, q0, hg0, ht0, hv0, hd0, _, _⟩, _, _⟩ := h
  obtain rfl := Option.some.inj (gK.symm.trans hg0)
  obtain rfl := Option.some.inj (tK.symm.trans ht0)
  obtain ⟨xs, m, rfl, hx, hlen, hn, hel⟩ := DataW.trod_array Tryd.underlying115 hd0
  intro t ht
  have h1 := hel t ht
  have hxt : xs[t]? = some xs[t] := List.getElem?_eq_getElem (by omega)
  rw [cK, hxt] at h1
  obtain ⟨k, e1, e2, _⟩ := DataW.trod_int Tryd.underlying45 h1
  simp only [Prod.mk.injEq] at hx
  have hd := hx.1
  rw [dK] at hd
  simp only [DataW.agg.injEq] at hd
  have hd2 : (kW.map fun x : Nat => (DataW.lit (.int .u32 (x : Int)) : DataW Unit))[t]? = (xs.map (·.1))[t]? := by rw [hd]
  have hkt : t < kW.length := by rw [kW_length]; exact ht
  rw [List.getElem?_map, List.getElem?_map, hxt, List.getElem?_eq_getElem hkt] at hd2
  simp only [Option.map_some, Option.some.injEq, e2, DataW.lit.injEq, Lit.int.injEq, true_and] at hd2
  have hv := World.var?_cell hg0 hv0 t
  have hcs : cs0[t]? = some (.int .u32 k) := by
    have : ((cs0.toList.drop (t * 1)).take 1)[0]? = some (.int .u32 k) := by rw [e1]; rfl
    simpa using this
  rw [hv, hcs, ← hd2]
  simp [List.getD, List.getElem?_eq_getElem hkt]
end Go.Proofs.YtjdfclbjmmmcfaaDoor
