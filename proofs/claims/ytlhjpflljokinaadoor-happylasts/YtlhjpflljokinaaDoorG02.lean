/- Of the road to happyLastsCard_holds: HzK, FlM, FlN, FlO, FlP, FlQ, FlR, FlS, FlT, FlU, HzF, HzC. -/
import Derived.Test.YtlhjpflljokinaaDoorG01
import Derived.Test.YtlhjpflljokinaaDoorProg
import Derived.Laws.FloatArith
import Derived.Test.YtlhjpflljokinaaDoorG00
import Derived.Laws.MakeOwn
import Derived.BigRegion
set_option linter.unusedVariables false
set_option linter.unusedSimpArgs false
namespace Go.Proofs.YtlhjpflljokinaaDoor.Hz
open Go Go.RowKit Go.Proofs.YtlhjpflljokinaaDoor Go.Maps
theorem none_at (s : Nat) : (List.replicate 32 (-1 : Int)).getD s (-1) = -1 := by
  rw [List.getD_eq_getElem?_getD, List.getElem?_replicate]
  split <;> rfl
theorem oL_none : oL (List.replicate 32 (-1)) = fun _ => none := by
  funext s
  unfold oL
  rw [if_pos (none_at s)]
theorem ok_none : OkA (List.replicate 32 (-1)) := ⟨by simp, fun x hx => .inl (List.eq_of_mem_replicate hx)⟩
theorem okM_none (Q : List (Nat × Nat)) : Hy.OkM Q (oL (List.replicate 32 (-1))) := by
  rw [oL_none]
  exact ⟨(fun a b t h => by cases h), (fun s n h => by cases h)⟩
theorem bt_zero : bt 0 = fun _ => false := by funext s; unfold bt; exact Nat.zero_testBit s
theorem most_of {Q : List (Nat × Nat)} {o o' : Nat → Option Nat} (h : Hy.Gwn Q 32 (bt 0) o o') : Hy.Most Q 32 o' := fun m hm => h.most m hm fun s n hs => by rw [bt_zero] at hs; cases hs
theorem tab_below {w w' : World} (h : TabAt 0 Lib.deBruijn32tab w) (hb : Below w.heap.size w w') : TabAt 0 Lib.deBruijn32tab w' := fun j hj => (hb.cell (World.block_lt_of_cell? w _ (h j hj))).trans (h j hj)
set_option maxRecDepth 100000 in
set_option maxHeartbeats 4000000 in
theorem greatest_any (w : World) (b : Nat) (v : Value) (Q : List (Nat × Nat)) (hL : Lay w b v Q) (hT : TabAt 0 Lib.deBruijn32tab w) (h1 : ∀ p ∈ Q, p.1 < 32) (h2 : ∀ p ∈ Q, p.2 < 255) :
    Calls Tryd.prog 31 #[.agg #[.map (some b), v]] w fun e w' => ∃ l, e = .returned (.agg (ca l)) ∧ OkA l ∧ Hy.OkM Q (oL l) ∧ Hy.Most Q 32 (oL l) ∧ Below w.heap.size w w' := by
  obtain ⟨p, c, ev, -, -⟩ := hL.nums.open
  generalize (ks Q).length = nn at ev
  subst ev
  obtain ⟨W1, HW1⟩ : ∃ W1, Hid ((w.alloc (.cells #[.map (some b), .slice p nn c] 59)).alloc (.cells (ca (List.replicate 32 0)) 64) = W1) := ⟨_, rfl⟩
  have HB1 : Hid (Below w.heap.size w W1) := by rw [← HW1.out]; exact hid (((Below.refl _ w).alloc (Nat.le_refl _) _).alloc (by simp) _)
  have HC1 : Hid (W1.heap[w.heap.size]? = some (.cells #[.map (some b), .slice p nn c] 59 (0, 0))) := by
    rw [← HW1.out]
    exact hid ((Below.heap_alloc _ _ _ (by simp)).trans (heap_alloc_new w _))
  have HR1 : Hid (OA W1 (w.heap.size + 1) (List.replicate 32 0)) := by
    rw [← HW1.out]
    have := heap_alloc_new (w.alloc (.cells #[.map (some b), .slice p nn c] 59)) (.cells (ca (List.replicate 32 0)) 64)
    rw [show (w.alloc (.cells #[.map (some b), .slice p nn c] 59)).heap.size = w.heap.size + 1 by simp] at this
    exact hid this
  have HL1 := hid (hL.below HB1.out)
  have HT1 := hid (tab_below hT HB1.out)
  have HQ1 := hid h1
  have HQ2 := hid h2
  have CU := hid (unmatched_any W1.drew)
  clear hL hT h1 h2
  go_enter Tryd.func31, Tryd.ntmps31
  go_wp2_with fail
  change Code.wp _ _ _ _ ((w.alloc (.cells #[.map (some b), .slice p nn c] 59)).alloc (.cells (ca (List.replicate 32 0)) 64))
  rw [HW1.out]
  have HS0 : Hid (W1.drew.cell? ⟨w.heap.size, 0, none⟩ = some (.map (some b)) ∧ W1.drew.cell? ⟨w.heap.size, 1, none⟩ = some (.slice p nn c)) := hid ⟨(cell_of_row W1 _ _ _ _ _ HC1.out).trans rfl, (cell_of_row W1 _ _ _ _ _ HC1.out).trans rfl⟩
  refine wp_region_held_drew (S := fun W => W.cell? ⟨w.heap.size, 0, none⟩ = some (.map (some b)) ∧ W.cell? ⟨w.heap.size, 1, none⟩ = some (.slice p nn c)) (by kernel_rfl) HS0.out (fun hHeld => ?_)
  have HS := hid hHeld
  clear hHeld
  change wpAnyH _ _ _ _ _ _ _ _ (World.drew _)
  refine wpAnyH_take (i := 0) (v := ?_) rfl (by kernel_rfl) (by kernel_rfl) (by kernel_rfl) (fun _ _ _ h => h) (Or.inl ⟨by rfl, ?q0⟩) HS.out ?_
  case q0 => intro w hSw; obtain ⟨z1, z2⟩ := hSw; go_simp; rfl
  simp only [Act.put, List.getElem_toArray, List.getElem_cons_zero, List.getElem_cons_succ, List.setIfInBounds_toArray, List.set_cons_zero, List.set_cons_succ]
  refine wpAnyH_ready (rs := [1]) (by kernel_rfl) (by simp) ?_
  refine AllReadyH.cons rfl (fun K hK => ?_) AllReadyH.nil
  replace hK := hid hK
  go_simp
  refine CU.out.mono ?_
  rintro y W2 ⟨rfl, hb2⟩
  have HB2 : Hid (Below W1.heap.size W1 W2) := hid ⟨hb2.os, hb2.tape, hb2.output, hb2.size, hb2.block⟩
  have HBW2 : Hid (Below w.heap.size w W2) := hid (HB1.out.trans (HB2.out.mono HB1.out.size))
  have HCW2 : Hid (W2.heap[w.heap.size]? = some (.cells #[.map (some b), .slice p nn c] 59 (0, 0))) := hid ((HB2.out.block _ (Array.getElem?_eq_some_iff.1 HC1.out).1).trans HC1.out)
  have HRW2 : Hid (OA W2 (w.heap.size + 1) (List.replicate 32 0)) := hid (HR1.out.below HB2.out)
  have HLW2 := hid (HL1.out.below HB2.out)
  have HTW2 := hid (tab_below HT1.out HB2.out)
  clear hb2 HS CU
  have CG := hid (grown_any W2 b (.slice p nn c) Q (List.replicate 32 (-1)) 0 HLW2.out HTW2.out HQ1.out HQ2.out ok_none (okM_none Q) (by decide))
  obtain ⟨cm, HCM⟩ : ∃ cm, Hid (ca (List.replicate 32 (-1)) = cm) := ⟨_, rfl⟩
  rw [HCM.out] at CG ⊢
  have HS := hid (show W2.cell? ⟨w.heap.size, 0, none⟩ = some (.map (some b)) ∧ W2.cell? ⟨w.heap.size, 1, none⟩ = some (.slice p nn c) from ⟨(cell_of_row _ _ _ _ _ _ HCW2.out).trans rfl, (cell_of_row _ _ _ _ _ _ HCW2.out).trans rfl⟩)
  refine hK.out _ _ HS.out (fun _ => ?_)
  clear hK K
  refine wpAnyH_ready (rs := [2]) (by kernel_rfl) (by simp) ?_
  refine AllReadyH.cons rfl (fun K hK => ?_) AllReadyH.nil
  replace hK := hid hK
  go_simp
  refine CG.out.mono ?_
  rintro y W3 ⟨l, rfl, hok, hG, hb3⟩
  have HOKl := hid hok
  have HGl := hid hG
  have HBW3 : Hid (Below w.heap.size w W3) := hid (HBW2.out.trans (hb3.mono HBW2.out.size))
  have HCW3 : Hid (W3.heap[w.heap.size]? = some (.cells #[.map (some b), .slice p nn c] 59 (0, 0))) := hid ((hb3.block _ (Array.getElem?_eq_some_iff.1 HCW2.out).1).trans HCW2.out)
  have HRW3 : Hid (OA W3 (w.heap.size + 1) (List.replicate 32 0)) := hid (HRW2.out.below hb3)
  clear hok hG hb3 HS CG
  have HZ : Hid ((Tryd.prog.info? 64).map (·.size) = some (ca l).size) := hid (size_mt HOKl.out.1)
  have H1 : Hid ((ca l).all (·.oneCell') = true) := hid (ca_one _)
  have H2 : Hid ((ca (List.replicate 32 0)).size = (ca l).size) := by rw [ca_size, ca_size, HOKl.out.1]; exact hid rfl
  unfold OA at HRW3
  obtain ⟨cx, HCX⟩ : ∃ cx, Hid (ca l = cx) := ⟨_, rfl⟩
  rw [HCX.out] at HZ H1 H2 ⊢
  generalize ca (List.replicate 32 0) = c0 at HRW3 H2
  have HS := hid (show W3.cell? ⟨w.heap.size, 0, none⟩ = some (.map (some b)) ∧ W3.cell? ⟨w.heap.size, 1, none⟩ = some (.slice p nn c) from ⟨(cell_of_row _ _ _ _ _ _ HCW3.out).trans rfl, (cell_of_row _ _ _ _ _ _ HCW3.out).trans rfl⟩)
  refine hK.out _ _ HS.out (fun _ => ?_)
  clear hK K
  refine wpAnyH_ready (rs := [3]) (by kernel_rfl) (by simp) ?_
  refine AllReadyH.cons rfl (fun K hK => ?_) AllReadyH.nil
  replace hK := hid hK
  refine wp_store_row 64 _ _ rfl (w.heap.size + 1) cx rfl rfl 64 c0 HRW3.out HZ.out H2.out H1.out ?_
  clear HS
  have HCW4 : Hid ((W3.setRow (w.heap.size + 1) cx).heap[w.heap.size]? = some (.cells #[.map (some b), .slice p nn c] 59 (0, 0))) := hid ((setRow_other _ _ _ _ (by omega)).trans HCW3.out)
  have HS := hid (show (W3.setRow (w.heap.size + 1) cx).cell? ⟨w.heap.size, 0, none⟩ = some (.map (some b)) ∧ (W3.setRow (w.heap.size + 1) cx).cell? ⟨w.heap.size, 1, none⟩ = some (.slice p nn c) from ⟨(cell_of_row _ _ _ _ _ _ HCW4.out).trans rfl, (cell_of_row _ _ _ _ _ _ HCW4.out).trans rfl⟩)
  refine hK.out _ _ HS.out (fun _ => ?_)
  clear hK K
  refine wpAnyH_done (by kernel_rfl) ?_ _
  go_wp2
  refine bodyPost_ret (v := .agg cx) (results_cell1 (p := 2) (ty := 64) rfl _ _ (w.heap.size + 1) 64 cx (0, 0) _ rfl (setRow_heap W3 (w.heap.size + 1) c0 cx _ _ HRW3.out) Tryd.underlying64 rfl HZ.out) rfl ?_
  exact ⟨l, by rw [HCX.out], HOKl.out, HGl.out.ok, most_of HGl.out, below_setRow HBW3.out (Nat.le_succ _) _⟩
def LoQ (ps : List Pr) (e : Ending) : Prop :=
  (mayL ps = true → ∃ m, Hy.MaxM (ps.map natP) m ∧ e = .returned (.tuple #[.agg #[.int .i64 ((Hy.places Prod.fst 32 (ps.map natP) : Nat) : Int), .int .i64 ((Hy.places Prod.snd 255 (ps.map natP) : Nat) : Int), .int .i64 ((m.length : Nat) : Int)], .int .i64 0])) ∧
  (mayL ps = false → e = .returned (.tuple #[.agg #[.int .i64 0, .int .i64 0, .int .i64 0], .int .i64 230]))
theorem mayL_all {ps : List Pr} (h : mayL ps = true) : ps.all mayP = true := by
  unfold mayL at h
  rw [Bool.and_eq_true] at h
  exact h.2
set_option maxRecDepth 100000 in
set_option maxHeartbeats 8000000 in
theorem look_any (w : World) (v : Value) (ps : List Pr) (hP : HP w v ps) (hT : TabAt 0 Lib.deBruijn32tab w) :
    Calls Tryd.prog 11 #[v] w fun e w' => LoQ ps e ∧ Below w.heap.size w w' := by
  obtain ⟨W1, HW1⟩ : ∃ W1, Hid (w.alloc (.cells #[.int .i64 0, .int .i64 0, .int .i64 0] 32) = W1) := ⟨_, rfl⟩
  have HB1 : Hid (Below w.heap.size w W1) := by rw [← HW1.out]; exact (Below.refl _ w).alloc (Nat.le_refl _) _
  have HR1 : Hid (W1.heap[w.heap.size]? = some (.cells #[.int .i64 0, .int .i64 0, .int .i64 0] 32 (0, 0))) := by rw [← HW1.out]; exact heap_alloc_new w _
  have CL := hid (lay_any W1 v ps (hP.below HB1.out))
  have HT1 := hid (tab_below hT HB1.out)
  obtain ⟨p0, c0, ev, -, -⟩ := hP.open
  generalize ps.length = n0 at ev
  subst ev
  clear hP hT
  go_enter Tryd.func11, Tryd.ntmps11
  go_wp2_with fail
  rw [HW1.out]
  refine CL.out.mono ?_
  rintro e W2 ⟨hg, hbd, hb2⟩
  have HB2 := hid hb2
  have HR2 : Hid (W2.heap[w.heap.size]? = some (.cells #[.int .i64 0, .int .i64 0, .int .i64 0] 32 (0, 0))) := hid ((hb2.block _ (Array.getElem?_eq_some_iff.1 HR1.out).1).trans HR1.out)
  have HBW2 : Hid (Below w.heap.size w W2) := hid (HB1.out.trans (hb2.mono HB1.out.size))
  have HT2 := hid (tab_below HT1.out hb2)
  have HRL : Hid (w.heap.size < W2.heap.size) := hid (Array.getElem?_eq_some_iff.1 HR2.out).1
  clear hb2 CL
  cases hm : mayL ps with
  | false =>
    have hbd' := hbd hm
    subst hbd'
    clear hg hbd
    obtain ⟨W3, HW3⟩ : ∃ W3, Hid (W2.alloc (.cells #[.map none, .slice none 0 0] 59) = W3) := ⟨_, rfl⟩
    have HB3 : Hid (Below w.heap.size w W3) := by rw [← HW3.out]; exact hid (HBW2.out.alloc (Nat.le_of_lt HRL.out) _)
    have HR3 : Hid (W3.heap[w.heap.size]? = some (.cells #[.int .i64 0, .int .i64 0, .int .i64 0] 32 (0, 0))) := by
      rw [← HW3.out]
      exact hid ((Below.heap_alloc _ _ _ HRL.out).trans HR2.out)
    have HM := hid hm
    clear hm
    have HZ : Hid ((Tryd.prog.info? 32).map (·.size) = some (#[Value.int .i64 0, .int .i64 0, .int .i64 0] : Array Value).size) := hid (by kernel_rfl)
    go_wp2_with (refine wpList_store_row rfl 32 _ _ rfl w.heap.size #[.int .i64 0, .int .i64 0, .int .i64 0] rfl rfl 32 #[.int .i64 0, .int .i64 0, .int .i64 0] (by rw [HW3.out]; exact HR3.out) HZ.out rfl (ca_one [0, 0, 0]) ?_)
    rw [HW3.out]
    refine bodyPost_ret (v := .tuple #[.agg #[.int .i64 0, .int .i64 0, .int .i64 0], .int .i64 230]) (results_cellt (p := 2) (u := 3) (ty := 32) rfl _ _ w.heap.size 32 _ (0, 0) _ rfl (setRow_heap W3 w.heap.size _ _ _ _ HR3.out) Tryd.underlying32 rfl HZ.out _ rfl) rfl ?_
    exact ⟨⟨(fun z => by rw [HM.out] at z; cases z), fun _ => rfl⟩, below_setRow HB3.out (Nat.le_refl _) _⟩
  | true =>
    obtain ⟨b, vs, hey, hL⟩ := hg hm
    subst hey
    obtain ⟨p, c, ev, -, -⟩ := hL.nums.open
    obtain ⟨nn, HNN⟩ : ∃ nn, Hid ((ks (ps.map natP)).length = nn) := ⟨_, rfl⟩
    rw [HNN.out] at ev
    subst ev
    have HALL := hid (mayL_all hm)
    have HM := hid hm
    have HL := hid hL
    clear hg hbd hm hL
    obtain ⟨W3, HW3⟩ : ∃ W3, Hid (W2.alloc (.cells #[.map (some b), .slice p nn c] 59) = W3) := ⟨_, rfl⟩
    have HB3 : Hid (Below W2.heap.size W2 W3) := by rw [← HW3.out]; exact hid ((Below.refl _ W2).alloc (Nat.le_refl _) _)
    have HC3 : Hid (W3.heap[W2.heap.size]? = some (.cells #[.map (some b), .slice p nn c] 59 (0, 0))) := by rw [← HW3.out]; exact heap_alloc_new W2 _
    have HBW3 : Hid (Below w.heap.size w W3) := hid (HBW2.out.trans (HB3.out.mono HBW2.out.size))
    have HR3 : Hid (W3.heap[w.heap.size]? = some (.cells #[.int .i64 0, .int .i64 0, .int .i64 0] 32 (0, 0))) := hid ((HB3.out.block _ HRL.out).trans HR2.out)
    have HL3 := hid (HL.out.below HB3.out)
    have HT3 := hid (tab_below HT2.out HB3.out)
    obtain ⟨g, HG⟩ : ∃ g, Hid (W2.heap.size = g) := ⟨_, rfl⟩
    go_wp2_with fail
    rw [HW3.out, HG.out]
    rw [HG.out] at HC3
    go_wp2_with fail
    have CU := hid (used_any W3.drew b (.slice p nn c) (ps.map natP) (HL3.out.below (show Below W3.heap.size W3 W3.drew from below_drew (Below.refl _ _))) (mayL_lt HALL.out).1 (mayL_lt HALL.out).2)
    have HS0 : Hid (W3.drew.cell? ⟨g, 0, none⟩ = some (.map (some b)) ∧ W3.drew.cell? ⟨g, 1, none⟩ = some (.slice p nn c)) := hid ⟨(cell_of_row W3 _ _ _ _ _ HC3.out).trans rfl, (cell_of_row W3 _ _ _ _ _ HC3.out).trans rfl⟩
    refine wp_region_held_drew (S := fun W => W.cell? ⟨g, 0, none⟩ = some (.map (some b)) ∧ W.cell? ⟨g, 1, none⟩ = some (.slice p nn c)) (by kernel_rfl) HS0.out (fun hHeld => ?_)
    have HS := hid hHeld
    clear hHeld
    change wpAnyH _ _ _ _ _ _ _ _ (World.drew _)
    refine wpAnyH_take (i := 0) (v := ?_) rfl (by kernel_rfl) (by kernel_rfl) (by kernel_rfl) (fun _ _ _ h => h) (Or.inl ⟨by rfl, ?q0⟩) HS.out ?_
    case q0 => intro w hSw; obtain ⟨z1, z2⟩ := hSw; go_simp; rfl
    simp only [Act.put, List.getElem_toArray, List.getElem_cons_zero, List.getElem_cons_succ, List.setIfInBounds_toArray, List.set_cons_zero, List.set_cons_succ]
    refine wpAnyH_take (i := 2) (v := ?_) rfl (by kernel_rfl) (by kernel_rfl) (by kernel_rfl) (fun _ _ _ h => h) (Or.inl ⟨by rfl, ?q2⟩) HS.out ?_
    case q2 => intro w hSw; obtain ⟨z1, z2⟩ := hSw; go_simp; rfl
    simp only [Act.put, List.getElem_toArray, List.getElem_cons_zero, List.getElem_cons_succ, List.setIfInBounds_toArray, List.set_cons_zero, List.set_cons_succ]
    refine wpAnyH_take (i := 3) (v := ?_) rfl (by kernel_rfl) (by kernel_rfl) (by kernel_rfl) (fun _ _ _ h => h) (Or.inl ⟨by rfl, ?q3⟩) HS.out ?_
    case q3 => intro w hSw; obtain ⟨z1, z2⟩ := hSw; go_simp; rfl
    simp only [Act.put, List.getElem_toArray, List.getElem_cons_zero, List.getElem_cons_succ, List.setIfInBounds_toArray, List.set_cons_zero, List.set_cons_succ]
    refine wpAnyH_take (i := 4) (v := ?_) rfl (by kernel_rfl) (by kernel_rfl) (by kernel_rfl) (fun _ _ _ h => h) (Or.inl ⟨by rfl, ?q4⟩) HS.out ?_
    case q4 => intro w hSw; obtain ⟨z1, z2⟩ := hSw; go_simp; rfl
    simp only [Act.put, List.getElem_toArray, List.getElem_cons_zero, List.getElem_cons_succ, List.setIfInBounds_toArray, List.set_cons_zero, List.set_cons_succ]
    refine wpAnyH_take (i := 5) (v := ?_) rfl (by kernel_rfl) (by kernel_rfl) (by kernel_rfl) (fun _ _ _ h => h) (Or.inl ⟨by rfl, ?q5⟩) HS.out ?_
    case q5 => intro w hSw; obtain ⟨z1, z2⟩ := hSw; go_simp; rfl
    simp only [Act.put, List.getElem_toArray, List.getElem_cons_zero, List.getElem_cons_succ, List.setIfInBounds_toArray, List.set_cons_zero, List.set_cons_succ]
    refine wpAnyH_ready (rs := [1]) (by kernel_rfl) (by simp) ?_
    refine AllReadyH.cons rfl (fun K hK => ?_) AllReadyH.nil
    replace hK := hid hK
    go_simp
    refine CU.out.mono ?_
    rintro y W4 ⟨rfl, hb4⟩
    have HB4 : Hid (Below W3.heap.size W3 W4) := hid ⟨hb4.os, hb4.tape, hb4.output, hb4.size, hb4.block⟩
    have HBW4 : Hid (Below w.heap.size w W4) := hid (HBW3.out.trans (HB4.out.mono HBW3.out.size))
    have HC4 : Hid (W4.heap[g]? = some (.cells #[.map (some b), .slice p nn c] 59 (0, 0))) := hid ((HB4.out.block _ (Array.getElem?_eq_some_iff.1 HC3.out).1).trans HC3.out)
    have HR4 : Hid (W4.heap[w.heap.size]? = some (.cells #[.int .i64 0, .int .i64 0, .int .i64 0] 32 (0, 0))) := hid ((HB4.out.block _ (Array.getElem?_eq_some_iff.1 HR3.out).1).trans HR3.out)
    have HL4 := hid (HL3.out.below HB4.out)
    have HT4 := hid (tab_below HT3.out HB4.out)
    clear hb4 HS
    clear CU
    obtain ⟨us, HUS⟩ : ∃ us, Hid (Hy.places Prod.fst 32 (ps.map natP) = us) := ⟨_, rfl⟩
    rw [HUS.out]
    have CG := hid (greatest_any W4 b (.slice p nn c) (ps.map natP) HL4.out HT4.out (mayL_lt HALL.out).1 (mayL_lt HALL.out).2)
    have HS := hid (show W4.cell? ⟨g, 0, none⟩ = some (.map (some b)) ∧ W4.cell? ⟨g, 1, none⟩ = some (.slice p nn c) from ⟨(cell_of_row _ _ _ _ _ _ HC4.out).trans rfl, (cell_of_row _ _ _ _ _ _ HC4.out).trans rfl⟩)
    refine hK.out _ _ HS.out (fun _ => ?_)
    clear hK K
    refine wpAnyH_ready (rs := [6]) (by kernel_rfl) (by simp) ?_
    refine AllReadyH.cons rfl (fun K hK => ?_) AllReadyH.nil
    replace hK := hid hK
    go_simp
    refine CG.out.mono ?_
    rintro y W5 ⟨l, rfl, hok, hM, hmo, hb5⟩
    have HB5 : Hid (Below W4.heap.size W4 W5) := hid ⟨hb5.os, hb5.tape, hb5.output, hb5.size, hb5.block⟩
    have HBW5 : Hid (Below w.heap.size w W5) := hid (HBW4.out.trans (HB5.out.mono HBW4.out.size))
    have HC5 : Hid (W5.heap[g]? = some (.cells #[.map (some b), .slice p nn c] 59 (0, 0))) := hid ((HB5.out.block _ (Array.getElem?_eq_some_iff.1 HC4.out).1).trans HC4.out)
    have HR5 : Hid (W5.heap[w.heap.size]? = some (.cells #[.int .i64 0, .int .i64 0, .int .i64 0] 32 (0, 0))) := hid ((HB5.out.block _ (Array.getElem?_eq_some_iff.1 HR4.out).1).trans HR4.out)
    have HL5 := hid (HL4.out.below HB5.out)
    have HT5 := hid (tab_below HT4.out HB5.out)
    clear hb5 HS
    clear CG
    have HMX : Hid (Hy.MaxM (ps.map natP) (Hy.ml 32 (oL l))) := hid (Hy.most_max hM hmo)
    have HLN : Hid ((Hy.ml 32 (oL l)).length = cnt l) := hid (by rw [Hy.ml_len, cnt_sz hok])
    have CS := hid (size_any W5 l hok.1)
    clear hok hM hmo
    obtain ⟨cx, HCX⟩ : ∃ cx, Hid (ca l = cx) := ⟨_, rfl⟩
    rw [HCX.out] at CS ⊢
    have HS := hid (show W5.cell? ⟨g, 0, none⟩ = some (.map (some b)) ∧ W5.cell? ⟨g, 1, none⟩ = some (.slice p nn c) from ⟨(cell_of_row _ _ _ _ _ _ HC5.out).trans rfl, (cell_of_row _ _ _ _ _ _ HC5.out).trans rfl⟩)
    refine hK.out _ _ HS.out (fun _ => ?_)
    clear hK K
    refine wpAnyH_ready (rs := [7]) (by kernel_rfl) (by simp) ?_
    refine AllReadyH.cons rfl (fun K hK => ?_) AllReadyH.nil
    replace hK := hid hK
    go_simp
    refine CS.out.mono ?_
    rintro y W6 ⟨rfl, hb6⟩
    have HB6 : Hid (Below W5.heap.size W5 W6) := hid ⟨hb6.os, hb6.tape, hb6.output, hb6.size, hb6.block⟩
    have HBW6 : Hid (Below w.heap.size w W6) := hid (HBW5.out.trans (HB6.out.mono HBW5.out.size))
    have HC6 : Hid (W6.heap[g]? = some (.cells #[.map (some b), .slice p nn c] 59 (0, 0))) := hid ((HB6.out.block _ (Array.getElem?_eq_some_iff.1 HC5.out).1).trans HC5.out)
    have HR6 : Hid (W6.heap[w.heap.size]? = some (.cells #[.int .i64 0, .int .i64 0, .int .i64 0] 32 (0, 0))) := hid ((HB6.out.block _ (Array.getElem?_eq_some_iff.1 HR5.out).1).trans HR5.out)
    have HL6 := hid (HL5.out.below HB6.out)
    have HT6 := hid (tab_below HT5.out HB6.out)
    clear hb6 HS
    clear CS
    obtain ⟨hn, HHN⟩ : ∃ hn, Hid (cnt l = hn) := ⟨_, rfl⟩
    rw [HHN.out]
    have HS := hid (show W6.cell? ⟨g, 0, none⟩ = some (.map (some b)) ∧ W6.cell? ⟨g, 1, none⟩ = some (.slice p nn c) from ⟨(cell_of_row _ _ _ _ _ _ HC6.out).trans rfl, (cell_of_row _ _ _ _ _ _ HC6.out).trans rfl⟩)
    refine hK.out _ _ HS.out (fun _ => ?_)
    clear hK K
    refine wpAnyH_take (i := 8) (v := ?_) rfl (by kernel_rfl) (by kernel_rfl) (by kernel_rfl) (fun _ _ _ h => h) (Or.inl ⟨by rfl, ?q8⟩) HS.out ?_
    case q8 => intro w hSw; obtain ⟨z1, z2⟩ := hSw; go_simp; rfl
    simp only [Act.put, List.getElem_toArray, List.getElem_cons_zero, List.getElem_cons_succ, List.setIfInBounds_toArray, List.set_cons_zero, List.set_cons_succ]
    refine wpAnyH_ready (rs := [9]) (by kernel_rfl) (by simp) ?_
    refine AllReadyH.cons rfl (fun K hK => ?_) AllReadyH.nil
    replace hK := hid hK
    have HZ : Hid ((Tryd.prog.info? 32).map (·.size) = some (#[Value.int .i64 (us : Int), .int .i64 (nn : Int), .int .i64 (hn : Int)] : Array Value).size) := hid (by kernel_rfl)
    refine wp_store_row 32 _ _ rfl w.heap.size #[.int .i64 (us : Int), .int .i64 (nn : Int), .int .i64 (hn : Int)] rfl rfl 32 #[.int .i64 0, .int .i64 0, .int .i64 0] HR6.out HZ.out rfl (ca_one [(us : Int), (nn : Int), (hn : Int)]) ?_
    clear HS
    obtain ⟨W7, HW7⟩ : ∃ W7, Hid (W6.setRow w.heap.size #[.int .i64 (us : Int), .int .i64 (nn : Int), .int .i64 (hn : Int)] = W7) := ⟨_, rfl⟩
    have HR7 : Hid (W7.heap[w.heap.size]? = some (.cells #[.int .i64 (us : Int), .int .i64 (nn : Int), .int .i64 (hn : Int)] 32 (0, 0))) := by rw [← HW7.out]; exact setRow_heap W6 w.heap.size _ _ _ _ HR6.out
    have HC7 : Hid (W7.heap[g]? = some (.cells #[.map (some b), .slice p nn c] 59 (0, 0))) := by
      rw [← HW7.out]
      exact hid ((setRow_other _ _ _ _ (by have := HG.out; have := HRL.out; omega)).trans HC6.out)
    have HBW7 : Hid (Below w.heap.size w W7) := by rw [← HW7.out]; exact below_setRow HBW6.out (Nat.le_refl _) _
    rw [HW7.out]
    have HS := hid (show W7.cell? ⟨g, 0, none⟩ = some (.map (some b)) ∧ W7.cell? ⟨g, 1, none⟩ = some (.slice p nn c) from ⟨(cell_of_row _ _ _ _ _ _ HC7.out).trans rfl, (cell_of_row _ _ _ _ _ _ HC7.out).trans rfl⟩)
    refine hK.out _ _ HS.out (fun _ => ?_)
    clear hK K
    refine wpAnyH_take (i := 10) (v := ?_) rfl (by kernel_rfl) (by kernel_rfl) (by kernel_rfl) (fun _ _ _ h => h) (Or.inl ⟨by rfl, ?q10⟩) HS.out ?_
    case q10 => intro w hSw; obtain ⟨z1, z2⟩ := hSw; go_simp; rfl
    simp only [Act.put, List.getElem_toArray, List.getElem_cons_zero, List.getElem_cons_succ, List.setIfInBounds_toArray, List.set_cons_zero, List.set_cons_succ]
    refine wpAnyH_done (by kernel_rfl) ?_ _
    go_wp2
    refine bodyPost_ret (v := .tuple #[.agg #[.int .i64 (us : Int), .int .i64 (nn : Int), .int .i64 (hn : Int)], .int .i64 0]) (results_cellt (p := 2) (u := 3) (ty := 32) rfl _ _ w.heap.size 32 _ (0, 0) _ rfl HR7.out Tryd.underlying32 rfl HZ.out _ rfl) rfl ?_
    refine ⟨⟨fun _ => ⟨_, HMX.out, ?_⟩, (fun z => by rw [HM.out] at z; cases z)⟩, HBW7.out⟩
    rw [HLN.out, HHN.out, HUS.out, ← ks_places, HNN.out]
end Go.Proofs.YtlhjpflljokinaaDoor.Hz
namespace Go.Proofs.YtlhjpflljokinaaDoor.Fl
open Ieee
def RK (K : Nat) : Nat := (K + 1023) * 4503599627370496
def Sm (K w : Nat) : Prop := w ≤ RK K
theorem Sm.mono {K L w : Nat} (h : Sm K w) (hl : K ≤ L) : Sm L w := by
  unfold Sm RK at *
  exact Nat.le_trans h (Nat.mul_le_mul_right _ (by omega))
theorem bin_d : double.binade = 4503599627370496 := by simp only [Format.binade, double, Nat.reducePow]
theorem inf_d : double.infRung = 9218868437227405312 := by simp only [Format.infRung, Format.binade, double, Nat.reducePow, Nat.reduceSub, Nat.reduceMul]
theorem sgn_d : double.signWeight = 9223372036854775808 := by simp only [Format.signWeight, double, Nat.reduceAdd, Nat.reducePow]
theorem lp_d : double.leastPlace = -1074 := by
  simp only [Format.leastPlace, double]
  omega
theorem read_sm {K w : Nat} (h : Sm K w) (hK : K ≤ 1000) : ∃ (mag : Nat) (place : Int), double.read w = .number false mag place ∧ -1074 ≤ place ∧ mag * 2 ^ (place + 1074).toNat ≤ 2 ^ (K + 1074) := by
  unfold Sm RK at h
  have hw : w < 9218868437227405312 := by
    have : (K + 1023) * 4503599627370496 ≤ 2023 * 4503599627370496 := Nat.mul_le_mul_right _ (by omega)
    omega
  unfold Format.read
  simp only [sgn_d, bin_d, inf_d, lp_d]
  have e1 : (w / 9223372036854775808 % 2 == 1) = false := by
    have : w / 9223372036854775808 = 0 := Nat.div_eq_of_lt (by omega)
    rw [this]; rfl
  have e2 : w % 9223372036854775808 = w := Nat.mod_eq_of_lt (by omega)
  rw [e2, e1]
  by_cases q : w < 4503599627370496
  · rw [if_pos q]
    refine ⟨w, -1074, rfl, by omega, ?_⟩
    have : (4503599627370496 : Nat) = 2 ^ 52 := by simp only [Nat.reducePow]
    have h2 : (2 : Nat) ^ 52 ≤ 2 ^ (K + 1074) := Nat.pow_le_pow_right (by omega) (by omega)
    simp only [Int.reduceNeg, Int.reduceAdd, Int.toNat_zero, Nat.pow_zero, Nat.mul_one]
    omega
  · rw [if_neg q, if_pos hw]
    obtain ⟨Q, hQ⟩ : ∃ Q, Q = w / 4503599627370496 := ⟨_, rfl⟩
    obtain ⟨R, hR⟩ : ∃ R, R = w % 4503599627370496 := ⟨_, rfl⟩
    rw [← hQ, ← hR]
    have hQ1 : 1 ≤ Q := by omega
    have hQR : w = 4503599627370496 * Q + R := by omega
    have hR2 : R < 4503599627370496 := by omega
    refine ⟨_, _, rfl, by omega, ?_⟩
    have e3 : (-1074 + ((Q - 1 : Nat) : Int) + 1074).toNat = Q - 1 := by omega
    rw [e3]
    have c52 : (4503599627370496 : Nat) = 2 ^ 52 := by simp only [Nat.reducePow]
    by_cases hq : Q = K + 1023
    · have hR0 : R = 0 := by
        rw [hq] at hQR
        omega
      rw [hR0, Nat.add_zero, hq, c52, ← Nat.pow_add]
      exact Nat.pow_le_pow_right (by omega) (by omega)
    · have hQ2 : Q ≤ K + 1022 := by
        have : 4503599627370496 * Q ≤ (K + 1023) * 4503599627370496 := by omega
        have : Q ≤ K + 1023 := by omega
        omega
      have h53 : 4503599627370496 + R ≤ 2 ^ 53 := by
        have : (2 : Nat) ^ 53 = 9007199254740992 := by simp only [Nat.reducePow]
        omega
      refine Nat.le_trans (Nat.mul_le_mul_right _ h53) ?_
      rw [← Nat.pow_add]
      exact Nat.pow_le_pow_right (by omega) (by omega)
theorem cut_le (mag drop : Nat) (h0 : mag ≠ 0) : Toward.even.cut false mag drop ≤ 2 ^ (mag.log2 + 1 - drop) := by
  unfold Toward.cut
  have hm : mag < 2 ^ (mag.log2 + 1) := Nat.lt_log2_self
  generalize mag.log2 = L at *
  simp only [Nat.shiftLeft_eq, Nat.one_mul]
  by_cases hd : drop ≤ L + 1
  · rw [Nat.min_eq_left (by omega)]
    have h1 : mag / 2 ^ drop < 2 ^ (L + 1 - drop) := by
      rw [Nat.div_lt_iff_lt_mul (Nat.two_pow_pos _), ← Nat.pow_add, show L + 1 - drop + drop = L + 1 by omega]
      exact hm
    have h2 : ∀ b : Bool, b.toNat ≤ 1 := fun b => by cases b <;> decide
    have := h2 (decide (2 ^ drop < 2 * (mag % 2 ^ drop)) || (2 ^ drop == 2 * (mag % 2 ^ drop) && mag / 2 ^ drop % 2 == 1))
    omega
  · rw [Nat.min_eq_right (by omega), show L + 1 - drop = 0 by omega]
    have hs : (2 : Nat) ^ (L + 2) = 2 * 2 ^ (L + 1) := by rw [Nat.pow_succ]; omega
    have h1 : mag / 2 ^ (L + 2) = 0 := Nat.div_eq_of_lt (by omega)
    have h3 : mag % 2 ^ (L + 2) = mag := Nat.mod_eq_of_lt (by omega)
    rw [h1, h3]
    have a1 : decide (2 ^ (L + 2) < 2 * mag) = false := decide_eq_false (by omega)
    have a2 : (2 ^ (L + 2) == 2 * mag) = false := by rw [beq_eq_false_iff_ne]; omega
    rw [a1, a2]
    decide
theorem cut_none (mag : Nat) : Toward.even.cut false mag 0 = mag := by
  unfold Toward.cut
  simp [Nat.shiftLeft_eq, Nat.mod_one]
theorem cut_pow (L d : Nat) (hd : d ≤ L) : Toward.even.cut false (2 ^ L) d = 2 ^ (L - d) := by
  unfold Toward.cut
  simp only [Nat.shiftLeft_eq, Nat.one_mul, Nat.log2_two_pow]
  rw [Nat.min_eq_left (by omega)]
  have e : (2 : Nat) ^ L = 2 ^ d * 2 ^ (L - d) := by rw [← Nat.pow_add, show d + (L - d) = L by omega]
  have h1 : 2 ^ L / 2 ^ d = 2 ^ (L - d) := by rw [e, Nat.mul_div_cancel_left _ (Nat.two_pow_pos _)]
  have h2 : 2 ^ L % 2 ^ d = 0 := by rw [e, Nat.mul_mod_right]
  have hp := Nat.two_pow_pos d
  rw [h1, h2]
  have a1 : decide (2 ^ d < 2 * 0) = false := decide_eq_false (by omega)
  have a2 : (2 ^ d == 2 * 0) = false := by rw [beq_eq_false_iff_ne]; omega
  rw [a1, a2]
  rfl
theorem over_two (a K c k : Nat) (h : a ≤ K + 1021) (hk : k ≤ 2 * c) : a * c + k ≤ (K + 1023) * c := by
  have h1 := Nat.mul_le_mul_right c h
  have h2 : (K + 1023) * c = (K + 1021) * c + 2 * c := by rw [← Nat.add_mul]
  rw [h2]
  exact Nat.add_le_add h1 hk
theorem near_sm (K mag : Nat) (place : Int) (hK : K ≤ 1000) (hp : -2148 ≤ place) (hv : mag * 2 ^ (place + 2148).toNat ≤ 2 ^ (K + 2148)) : Sm K (double.nearest false mag place) := by
  unfold Format.nearest Sm
  by_cases h0 : mag = 0
  · rw [if_pos h0]
    exact Nat.zero_le _
  rw [if_neg h0]
  simp only [lp_d, bin_d, Format.word, Bool.false_eq_true, if_false, show (double.fractionBits : Int) = 52 from rfl]
  refine Nat.le_trans (Nat.min_le_left _ _) ?_
  have hlo : 2 ^ mag.log2 ≤ mag := Nat.log2_self_le h0
  obtain ⟨L, hL⟩ : ∃ L, mag.log2 = L := ⟨_, rfl⟩
  have heK : place + (L : Int) ≤ (K : Int) := by
    have h1 : 2 ^ L * 2 ^ (place + 2148).toNat ≤ 2 ^ (K + 2148) := Nat.le_trans (Nat.mul_le_mul_right _ (hL ▸ hlo)) hv
    rw [← Nat.pow_add] at h1
    have := (Nat.pow_le_pow_iff_right (by omega : 1 < 2)).1 h1
    omega
  rw [hL]
  have c52 : (2 : Nat) ^ 52 = 4503599627370496 := by simp only [Nat.reducePow]
  have c53 : (2 : Nat) ^ 53 = 9007199254740992 := by simp only [Nat.reducePow]
  unfold RK
  by_cases hE : place + (L : Int) = (K : Int)
  · -- the number is 2^K itself
    have hpow : mag = 2 ^ L := by
      have e1 : K + 2148 = L + (place + 2148).toNat := by omega
      rw [e1, Nat.pow_add] at hv
      have := Nat.le_of_mul_le_mul_right hv (Nat.two_pow_pos _)
      rw [hL] at hlo
      omega
    have hlast : max (place + (L : Int) - 52) (-1074) = (K : Int) - 52 := by omega
    rw [hlast]
    have hk : Toward.even.cut false (mag <<< (place - ((K : Int) - 52)).toNat) ((K : Int) - 52 - place).toNat = 4503599627370496 := by
      by_cases hs : (K : Int) - 52 ≤ place
      · rw [show ((K : Int) - 52 - place).toNat = 0 by omega, cut_none, Nat.shiftLeft_eq, hpow, ← Nat.pow_add, ← c52]
        congr 1
        omega
      · rw [show (place - ((K : Int) - 52)).toNat = 0 by omega, Nat.shiftLeft_eq, Nat.pow_zero, Nat.mul_one, hpow, cut_pow L _ (by omega), ← c52]
        congr 1
        omega
    rw [hk]
    have : ((K : Int) - 52 - -1074).toNat = K + 1022 := by omega
    rw [this]
    omega
  · have hk : Toward.even.cut false (mag <<< (place - max (place + (L : Int) - 52) (-1074)).toNat) (max (place + (L : Int) - 52) (-1074) - place).toNat ≤ 2 ^ (place + (L : Int) + 1 - max (place + (L : Int) - 52) (-1074)).toNat := by
      obtain ⟨la, hla⟩ : ∃ la, max (place + (L : Int) - 52) (-1074) = la := ⟨_, rfl⟩
      rw [hla]
      by_cases hs : la ≤ place
      · rw [show (la - place).toNat = 0 by omega, cut_none, Nat.shiftLeft_eq]
        have hlt : mag < 2 ^ (L + 1) := hL ▸ Nat.lt_log2_self
        have : mag * 2 ^ (place - la).toNat ≤ 2 ^ (L + 1) * 2 ^ (place - la).toNat := Nat.mul_le_mul_right _ (by omega)
        rw [← Nat.pow_add] at this
        rw [show (place + (L : Int) + 1 - la).toNat = L + 1 + (place - la).toNat by omega]
        exact this
      · rw [show (place - la).toNat = 0 by omega, Nat.shiftLeft_eq, Nat.pow_zero, Nat.mul_one]
        refine Nat.le_trans (cut_le mag _ h0) ?_
        rw [hL]
        exact Nat.pow_le_pow_right (by omega) (by omega)
    by_cases hn : -1074 ≤ place + (L : Int) - 52
    · rw [Int.max_eq_left hn] at hk ⊢
      rw [show (place + (L : Int) + 1 - (place + (L : Int) - 52)).toNat = 53 by omega, c53] at hk
      have hle : (place + (L : Int) - 52 - -1074).toNat ≤ K + 1021 := by omega
      exact over_two _ _ _ _ hle (Nat.le_trans hk (by simp only [Nat.reduceMul, Nat.le_refl]))
    · rw [Int.max_eq_right (by omega)] at hk ⊢
      have h5 : (2 : Nat) ^ (place + (L : Int) + 1 - -1074).toNat ≤ 2 ^ 53 := Nat.pow_le_pow_right (by omega) (by omega)
      simp only [Int.sub_self, Int.toNat_zero, Nat.zero_mul, Nat.zero_add]
      omega
theorem pow_mul_add (m n a b : Nat) : m * n * 2 ^ (a + b) = (m * 2 ^ a) * (n * 2 ^ b) := by
  rw [Nat.pow_add, Nat.mul_mul_mul_comm]
theorem mul_sm {a b x y : Nat} (hx : Sm a x) (hy : Sm b y) (hab : a + b ≤ 1000) : ∃ r, double.mul x y = some r ∧ Sm (a + b) r := by
  obtain ⟨m, i, e1, hi, hm⟩ := read_sm hx (by omega)
  obtain ⟨n, j, e2, hj, hn⟩ := read_sm hy (by omega)
  refine ⟨double.nearest false (m * n) (i + j), ?_, ?_⟩
  · unfold Format.mul
    rw [e1, e2]
    rfl
  · refine near_sm (a + b) (m * n) (i + j) hab (by omega) ?_
    rw [show (i + j + 2148).toNat = (i + 1074).toNat + (j + 1074).toNat by omega, pow_mul_add, show a + b + 2148 = (a + 1074) + (b + 1074) by omega, Nat.pow_add]
    exact Nat.mul_le_mul hm hn
theorem signed_pos (m u : Nat) : signed false m u = ((m * 2 ^ u : Nat) : Int) := by
  unfold signed
  rw [if_neg (by decide), Nat.shiftLeft_eq]
theorem signed_neg (m u : Nat) : signed true m u = -((m * 2 ^ u : Nat) : Int) := by
  unfold signed
  rw [if_pos rfl, Nat.shiftLeft_eq]
theorem shift_up (m : Nat) (i base : Int) (h : base ≤ i) (hb : -1074 ≤ base) : m * 2 ^ (i - base).toNat * 2 ^ (base + 1074).toNat = m * 2 ^ (i + 1074).toNat := by
  rw [Nat.mul_assoc, ← Nat.pow_add, show (i - base).toNat + (base + 1074).toNat = (i + 1074).toNat by omega]
theorem up_sm (t K : Nat) (base : Int) (hb : -1074 ≤ base) (h : t * 2 ^ (base + 1074).toNat ≤ 2 ^ (K + 1074)) : t * 2 ^ (base + 2148).toNat ≤ 2 ^ (K + 2148) := by
  rw [show (base + 2148).toNat = (base + 1074).toNat + 1074 by omega, show K + 2148 = K + 1074 + 1074 by omega, Nat.pow_add, Nat.pow_add 2 (K + 1074) 1074, ← Nat.mul_assoc]
  exact Nat.mul_le_mul_right _ h
theorem add_sm {K x y : Nat} (hx : Sm K x) (hy : Sm K y) (hK : K + 1 ≤ 1000) : ∃ r, double.add x y = some r ∧ Sm (K + 1) r := by
  obtain ⟨m, i, e1, hi, hm⟩ := read_sm hx (by omega)
  obtain ⟨n, j, e2, hj, hn⟩ := read_sm hy (by omega)
  obtain ⟨base, hb⟩ : ∃ base, min i j = base := ⟨_, rfl⟩
  obtain ⟨t, ht⟩ : ∃ t, m * 2 ^ (i - base).toNat + n * 2 ^ (j - base).toNat = t := ⟨_, rfl⟩
  refine ⟨double.nearest false t base, ?_, ?_⟩
  · unfold Format.add
    rw [e1, e2]
    simp only [Datum.sum, hb, signed_pos]
    rw [← Int.natCast_add, ht]
    have h1 : (if ((t : Nat) : Int) = 0 then (false && false) else decide (((t : Nat) : Int) < 0)) = false := by
      split
      · rfl
      · exact decide_eq_false (by omega)
    rw [h1, Int.natAbs_natCast]
    rfl
  · have hb1 : -1074 ≤ base := by omega
    refine near_sm (K + 1) t base hK (by omega) (up_sm t (K + 1) base hb1 ?_)
    rw [← ht, Nat.add_mul, shift_up m i base (by omega) hb1, shift_up n j base (by omega) hb1, show K + 1 + 1074 = K + 1074 + 1 by omega, Nat.pow_succ]
    omega
theorem read_one : double.read 4607182418800017408 = .number false 4503599627370496 (-52) := by
  unfold Format.read
  simp only [sgn_d, bin_d, inf_d, lp_d, Nat.reduceDiv, Nat.reduceMod, Nat.reduceLT, Nat.reduceSub, if_true, if_false, Nat.reduceAdd, Nat.reduceBEq]
  rfl
theorem one_sub {y : Nat} (hy : Sm 0 y) : ∃ r, double.sub 4607182418800017408 y = some r ∧ Sm 0 r := by
  obtain ⟨n, j, e2, hj, hn⟩ := read_sm hy (by omega)
  obtain ⟨base, hb⟩ : ∃ base, min (-52) j = base := ⟨_, rfl⟩
  have hb1 : -1074 ≤ base := by omega
  have c52 : (4503599627370496 : Nat) = 2 ^ 52 := by simp only [Nat.reducePow]
  obtain ⟨o, ho⟩ : ∃ o, 4503599627370496 * 2 ^ (-52 - base).toNat = o := ⟨_, rfl⟩
  obtain ⟨p, hp⟩ : ∃ p, n * 2 ^ (j - base).toNat = p := ⟨_, rfl⟩
  have ho2 : o * 2 ^ (base + 1074).toNat = 2 ^ (0 + 1074) := by
    rw [← ho, shift_up _ (-52) base (by omega) hb1, c52, ← Nat.pow_add]
    congr 1
  have hp2 : p * 2 ^ (base + 1074).toNat ≤ o * 2 ^ (base + 1074).toNat := by
    rw [← hp, shift_up _ j base (by omega) hb1, ho2]
    exact hn
  have hpo : p ≤ o := Nat.le_of_mul_le_mul_right hp2 (Nat.two_pow_pos _)
  refine ⟨double.nearest false (o - p) base, ?_, ?_⟩
  · unfold Format.sub
    rw [read_one, e2]
    simp only [Datum.opposite, Datum.sum, hb, signed_pos, signed_neg, Bool.not_false]
    rw [ho, hp]
    have h0 : ((o : Nat) : Int) + -((p : Nat) : Int) = ((o - p : Nat) : Int) := by omega
    rw [h0]
    have h1 : (if ((o - p : Nat) : Int) = 0 then (false && true) else decide (((o - p : Nat) : Int) < 0)) = false := by
      split
      · rfl
      · exact decide_eq_false (by omega)
    rw [h1, Int.natAbs_natCast]
    rfl
  · refine near_sm 0 (o - p) base (by omega) (by omega) (up_sm (o - p) 0 base hb1 ?_)
    rw [← ho2]
    exact Nat.mul_le_mul_right _ (Nat.sub_le _ _)
def INF : Nat := 9218868437227405312
structure Ru (c w A M : Nat) : Prop where
  e : w = A * c + M
  n : A = 0 ∨ c ≤ M
  m : M < 2 * c
theorem Ru.mono {c w A M w' A' M' : Nat} (h : Ru c w A M) (h' : Ru c w' A' M') (hw : w ≤ w') : M * 2 ^ A ≤ M' * 2 ^ A' := by
  obtain ⟨e, n, m⟩ := h
  obtain ⟨e', n', m'⟩ := h'
  rcases Nat.lt_trichotomy A A' with q | q | q
  · obtain ⟨t, rfl⟩ : ∃ t, A' = A + 1 + t := ⟨A' - A - 1, by omega⟩
    have hm' : c ≤ M' := n'.resolve_left (by omega)
    have h1 : M * 2 ^ A ≤ 2 * c * 2 ^ A := Nat.mul_le_mul_right _ (Nat.le_of_lt m)
    have h2 : 2 * c * 2 ^ A = c * 2 ^ (A + 1) := by rw [Nat.pow_succ, Nat.mul_comm 2 c, Nat.mul_assoc, Nat.mul_comm 2]
    have h3 : c * 2 ^ (A + 1) ≤ M' * 2 ^ (A + 1 + t) := Nat.mul_le_mul hm' (Nat.pow_le_pow_right (by omega) (by omega))
    omega
  · subst q
    exact Nat.mul_le_mul_right _ (by omega)
  · exfalso
    obtain ⟨t, rfl⟩ : ∃ t, A = A' + 1 + t := ⟨A - A' - 1, by omega⟩
    have hm : c ≤ M := n.resolve_left (by omega)
    rw [Nat.add_mul, Nat.add_mul, Nat.one_mul] at e
    omega
theorem Ru.val {c w A M a k : Nat} (h : Ru c w A M) (he : w = a * c + k) (hn : a = 0 ∨ c ≤ k) (hk : k ≤ 2 * c) (hc : 0 < c) : M * 2 ^ A = k * 2 ^ a := by
  by_cases q : k < 2 * c
  · have h' : Ru c w a k := ⟨he, hn, q⟩
    exact Nat.le_antisymm (h.mono h' (Nat.le_refl _)) (h'.mono h (Nat.le_refl _))
  · have hk2 : k = 2 * c := by omega
    have h' : Ru c w (a + 1) c := ⟨by rw [he, hk2, Nat.add_mul, Nat.one_mul]; omega, .inr (Nat.le_refl _), by omega⟩
    have := Nat.le_antisymm (h.mono h' (Nat.le_refl _)) (h'.mono h (Nat.le_refl _))
    rw [this, hk2, Nat.pow_succ, Nat.mul_comm 2 c, Nat.mul_assoc, Nat.mul_comm 2]
def val (w : Nat) : Nat := if w < 4503599627370496 then w else (4503599627370496 + w % 4503599627370496) * 2 ^ (w / 4503599627370496 - 1)
theorem read_fin {w : Nat} (hw : w < INF) : ∃ (M : Nat) (E : Int), double.read w = .number false M E ∧ -1074 ≤ E ∧ Ru 4503599627370496 w (E + 1074).toNat M ∧ M * 2 ^ (E + 1074).toNat = val w := by
  unfold INF at hw
  unfold Format.read val
  simp only [sgn_d, bin_d, inf_d, lp_d]
  have e1 : (w / 9223372036854775808 % 2 == 1) = false := by
    have : w / 9223372036854775808 = 0 := Nat.div_eq_of_lt (by omega)
    rw [this]; rfl
  have e2 : w % 9223372036854775808 = w := Nat.mod_eq_of_lt (by omega)
  rw [e2, e1]
  by_cases q : w < 4503599627370496
  · rw [if_pos q, if_pos q]
    refine ⟨w, -1074, rfl, by omega, ⟨?_, ?_, ?_⟩, ?_⟩
    · simp only [Int.reduceNeg, Int.reduceAdd, Int.toNat_zero, Nat.zero_mul, Nat.zero_add]
    · exact .inl (by omega)
    · omega
    · simp only [Int.reduceNeg, Int.reduceAdd, Int.toNat_zero, Nat.pow_zero, Nat.mul_one]
  · rw [if_neg q, if_pos hw, if_neg q]
    obtain ⟨Q, hQ⟩ : ∃ Q, Q = w / 4503599627370496 := ⟨_, rfl⟩
    obtain ⟨R, hR⟩ : ∃ R, R = w % 4503599627370496 := ⟨_, rfl⟩
    rw [← hQ, ← hR]
    have hQ1 : 1 ≤ Q := by omega
    have hQR : w = 4503599627370496 * Q + R := by omega
    have hR2 : R < 4503599627370496 := by omega
    have e3 : (-1074 + ((Q - 1 : Nat) : Int) + 1074).toNat = Q - 1 := by omega
    refine ⟨_, _, rfl, by omega, ⟨?_, .inr (by omega), by omega⟩, by rw [e3]⟩
    rw [e3]
    omega
theorem val_mono {w w' : Nat} (hw' : w' < INF) (h : w ≤ w') : val w ≤ val w' := by
  obtain ⟨M, E, e1, e2, e3, e4⟩ := read_fin (Nat.lt_of_le_of_lt h hw')
  obtain ⟨M', E', d1, d2, d3, d4⟩ := read_fin hw'
  rw [← e4, ← d4]
  exact e3.mono d3 h
theorem Sm.fin {K w : Nat} (h : Sm K w) (hK : K ≤ 1000) : w < INF := by
  unfold Sm RK at h
  unfold INF
  have : (K + 1023) * 4503599627370496 ≤ 2023 * 4503599627370496 := Nat.mul_le_mul_right _ (by omega)
  omega
theorem Sm.val {K w : Nat} (h : Sm K w) (hK : K ≤ 1000) : val w ≤ 2 ^ (K + 1074) := by
  obtain ⟨m, i, e1, hi, hm⟩ := read_sm h hK
  obtain ⟨M, E, d1, d2, d3, d4⟩ := read_fin (h.fin hK)
  rw [e1] at d1
  injection d1 with _ q1 q2
  subst q1 q2
  rw [← d4]
  exact hm
theorem cut_fit (mag d M : Nat) (h : mag ≤ M * 2 ^ d) : Toward.even.cut false mag d ≤ M := by
  by_cases h0 : mag = 0
  · subst h0
    unfold Toward.cut
    simp
  unfold Toward.cut
  have hm : mag < 2 ^ (mag.log2 + 1) := Nat.lt_log2_self
  generalize mag.log2 = L at *
  simp only [Nat.shiftLeft_eq, Nat.one_mul]
  by_cases hd : d ≤ L + 2
  · rw [Nat.min_eq_left hd]
    have hp := Nat.two_pow_pos d
    have h1 : mag / 2 ^ d ≤ M := by
      have := Nat.div_le_div_right (c := 2 ^ d) h
      rwa [Nat.mul_div_cancel _ hp] at this
    by_cases q : mag / 2 ^ d = M
    · have h2 := Nat.div_add_mod mag (2 ^ d)
      rw [q, Nat.mul_comm] at h2
      have h3 : mag % 2 ^ d = 0 := by omega
      rw [h3, q]
      have a1 : decide (2 ^ d < 2 * 0) = false := decide_eq_false (by omega)
      have a2 : (2 ^ d == 2 * 0) = false := by rw [beq_eq_false_iff_ne]; omega
      rw [a1, a2]
      exact Nat.le_refl _
    · have h2 : ∀ b : Bool, b.toNat ≤ 1 := fun b => by cases b <;> decide
      have := h2 (decide (2 ^ d < 2 * (mag % 2 ^ d)) || (2 ^ d == 2 * (mag % 2 ^ d) && mag / 2 ^ d % 2 == 1))
      omega
  · rw [Nat.min_eq_right (by omega)]
    have hs : (2 : Nat) ^ (L + 2) = 2 * 2 ^ (L + 1) := by rw [Nat.pow_succ]; omega
    have h1 : mag / 2 ^ (L + 2) = 0 := Nat.div_eq_of_lt (by omega)
    have h3 : mag % 2 ^ (L + 2) = mag := Nat.mod_eq_of_lt (by omega)
    rw [h1, h3]
    have a1 : decide (2 ^ (L + 2) < 2 * mag) = false := decide_eq_false (by omega)
    have a2 : (2 ^ (L + 2) == 2 * mag) = false := by rw [beq_eq_false_iff_ne]; omega
    rw [a1, a2]
    exact Nat.zero_le _
theorem cut_err (mag d : Nat) : 2 * (Toward.even.cut false mag d * 2 ^ d) ≤ 2 * mag + 2 ^ d := by
  by_cases h0 : mag = 0
  · subst h0
    unfold Toward.cut
    simp
  unfold Toward.cut
  have hm : mag < 2 ^ (mag.log2 + 1) := Nat.lt_log2_self
  generalize mag.log2 = L at *
  simp only [Nat.shiftLeft_eq, Nat.one_mul]
  by_cases hd : d ≤ L + 2
  · rw [Nat.min_eq_left hd]
    have h2 := Nat.div_add_mod mag (2 ^ d)
    rw [Nat.mul_comm] at h2
    rw [Nat.add_mul]
    cases hb : (decide (2 ^ d < 2 * (mag % 2 ^ d)) || (2 ^ d == 2 * (mag % 2 ^ d) && mag / 2 ^ d % 2 == 1))
    · simp only [Bool.toNat_false, Nat.zero_mul]
      omega
    · have h3 : 2 ^ d ≤ 2 * (mag % 2 ^ d) := by
        rcases Bool.or_eq_true_iff.1 hb with q | q
        · exact Nat.le_of_lt (of_decide_eq_true q)
        · exact Nat.le_of_eq (beq_iff_eq.1 (Bool.and_eq_true_iff.1 q).1)
      simp only [Bool.toNat_true, Nat.one_mul]
      omega
  · rw [Nat.min_eq_right (by omega)]
    have hs : (2 : Nat) ^ (L + 2) = 2 * 2 ^ (L + 1) := by rw [Nat.pow_succ]; omega
    have h1 : mag / 2 ^ (L + 2) = 0 := Nat.div_eq_of_lt (by omega)
    have h3 : mag % 2 ^ (L + 2) = mag := Nat.mod_eq_of_lt (by omega)
    rw [h1, h3]
    have a1 : decide (2 ^ (L + 2) < 2 * mag) = false := decide_eq_false (by omega)
    have a2 : (2 ^ (L + 2) == 2 * mag) = false := by rw [beq_eq_false_iff_ne]; omega
    rw [a1, a2]
    simp only [Bool.false_and, Bool.or_false, Bool.toNat_false, Nat.zero_add, Nat.zero_mul, Nat.mul_zero]
    exact Nat.zero_le _
def kep (mag : Nat) (place la : Int) : Nat := Toward.even.cut false (mag <<< (place - la).toNat) (la - place).toNat
def las (mag : Nat) (place : Int) : Int := max (place + (mag.log2 : Int) - 52) (-1074)
theorem near_eq (mag : Nat) (place : Int) (h0 : mag ≠ 0) : double.nearest false mag place = min ((las mag place + 1074).toNat * 4503599627370496 + kep mag place (las mag place)) INF := by
  unfold Format.nearest
  rw [if_neg h0]
  simp only [lp_d, bin_d, inf_d, Format.word, Bool.false_eq_true, if_false, show (double.fractionBits : Int) = 52 from rfl]
  unfold las kep INF
  rw [show max (place + (mag.log2 : Int) - 52) (-1074) - -1074 = max (place + (mag.log2 : Int) - 52) (-1074) + 1074 by omega]
theorem kep_le (mag : Nat) (place : Int) (h0 : mag ≠ 0) : kep mag place (las mag place) ≤ 9007199254740992 := by
  have c53 : (2 : Nat) ^ 53 = 9007199254740992 := by simp only [Nat.reducePow]
  obtain ⟨L, hL⟩ : ∃ L, mag.log2 = L := ⟨_, rfl⟩
  have hla0 : las mag place = max (place + (L : Int) - 52) (-1074) := by unfold las; rw [hL]
  obtain ⟨la, hla⟩ : ∃ la, las mag place = la := ⟨_, rfl⟩
  rw [hla] at hla0 ⊢
  rw [← c53]
  unfold kep
  have hlt : mag < 2 ^ (L + 1) := hL ▸ Nat.lt_log2_self
  by_cases hs : la ≤ place
  · rw [show (la - place).toNat = 0 by omega, cut_none, Nat.shiftLeft_eq]
    have : mag * 2 ^ (place - la).toNat ≤ 2 ^ (L + 1) * 2 ^ (place - la).toNat := Nat.mul_le_mul_right _ (by omega)
    rw [← Nat.pow_add] at this
    exact Nat.le_trans this (Nat.pow_le_pow_right (by omega) (by omega))
  · rw [show (place - la).toNat = 0 by omega, Nat.shiftLeft_eq, Nat.pow_zero, Nat.mul_one]
    refine Nat.le_trans (cut_le mag _ h0) ?_
    rw [hL]
    exact Nat.pow_le_pow_right (by omega) (by omega)
theorem rung_below (c la A k M : Nat) (h : la < A) (hk : k ≤ 2 * c) (hM : c ≤ M) : la * c + k ≤ A * c + M := by
  obtain ⟨t, rfl⟩ : ∃ t, A = la + 1 + t := ⟨A - la - 1, by omega⟩
  rw [Nat.add_mul, Nat.add_mul, Nat.one_mul]
  omega
theorem near_le (mag w J : Nat) (hJ : J = 1074) (place : Int) (hp : -2148 ≤ place) (hw : w < INF) (hv : mag * 2 ^ (place + 2148).toNat ≤ val w * 2 ^ J) : double.nearest false mag place ≤ w := by
  by_cases h0 : mag = 0
  · unfold Format.nearest
    rw [if_pos h0]
    exact Nat.zero_le _
  rw [near_eq mag place h0]
  refine Nat.le_trans (Nat.min_le_left _ _) ?_
  obtain ⟨M, E, e1, e2, ⟨e3, e4, e5⟩, e6⟩ := read_fin hw
  have hlo : 2 ^ mag.log2 ≤ mag := Nat.log2_self_le h0
  have hkl := kep_le mag place h0
  obtain ⟨L, hL⟩ : ∃ L, mag.log2 = L := ⟨_, rfl⟩
  have hla0 : las mag place = max (place + (L : Int) - 52) (-1074) := by unfold las; rw [hL]
  obtain ⟨la, hla⟩ : ∃ la, las mag place = la := ⟨_, rfl⟩
  rw [hla] at hla0 hkl ⊢
  rw [hL] at hlo
  rw [← e6, Nat.mul_assoc, ← Nat.pow_add] at hv
  have hle : la ≤ E := by
    apply Classical.byContradiction
    intro hc
    have h1 : la = place + (L : Int) - 52 := by omega
    have h2 : 2 ^ L * 2 ^ (place + 2148).toNat ≤ M * 2 ^ ((E + 1074).toNat + J) := Nat.le_trans (Nat.mul_le_mul_right _ hlo) hv
    have c53 : (2 : Nat) ^ 53 = 9007199254740992 := by simp only [Nat.reducePow]
    have h3 : M < 2 ^ 53 := by omega
    have h4 : M * 2 ^ ((E + 1074).toNat + J) < 2 ^ 53 * 2 ^ ((E + 1074).toNat + J) := Nat.mul_lt_mul_of_pos_right h3 (Nat.two_pow_pos _)
    have h5 := Nat.lt_of_le_of_lt h2 h4
    rw [← Nat.pow_add, ← Nat.pow_add] at h5
    have := (Nat.pow_lt_pow_iff_right (by omega : 1 < 2)).1 h5
    omega
  by_cases hE : la = E
  · subst hE
    have hkM : kep mag place la ≤ M := by
      unfold kep
      by_cases hs : la ≤ place
      · rw [show (la - place).toNat = 0 by omega, cut_none, Nat.shiftLeft_eq]
        rw [show (place + 2148).toNat = (place - la).toNat + ((la + 1074).toNat + J) by omega, Nat.pow_add, ← Nat.mul_assoc] at hv
        exact Nat.le_of_mul_le_mul_right hv (Nat.two_pow_pos _)
      · rw [show (place - la).toNat = 0 by omega, Nat.shiftLeft_eq, Nat.pow_zero, Nat.mul_one]
        refine cut_fit mag _ M ?_
        rw [show (la + 1074).toNat + J = (la - place).toNat + (place + 2148).toNat by omega, Nat.pow_add, ← Nat.mul_assoc] at hv
        exact Nat.le_of_mul_le_mul_right hv (Nat.two_pow_pos _)
    rw [e3]
    exact Nat.add_le_add_left hkM _
  · have hM : 4503599627370496 ≤ M := e4.resolve_left (by omega)
    rw [e3]
    exact rung_below 4503599627370496 _ _ _ _ (by omega) (Nat.le_trans hkl (by simp only [Nat.reduceMul, Nat.le_refl])) hM
theorem near_over (K mag : Nat) (place : Int) (hK : K ≤ 1000) (hp : -2148 ≤ place) (hv : mag * 2 ^ (place + 2148).toNat ≤ 2 ^ (K + 2148) + 2 ^ (K + 2094)) : Sm K (double.nearest false mag place) := by
  by_cases hv1 : mag * 2 ^ (place + 2148).toNat ≤ 2 ^ (K + 2148)
  · exact near_sm K mag place hK hp hv1
  have h0 : mag ≠ 0 := fun e => hv1 (by rw [e, Nat.zero_mul]; exact Nat.zero_le _)
  rw [near_eq mag place h0]
  unfold Sm
  refine Nat.le_trans (Nat.min_le_left _ _) ?_
  have hlo : 2 ^ mag.log2 ≤ mag := Nat.log2_self_le h0
  have hhi : mag < 2 ^ (mag.log2 + 1) := Nat.lt_log2_self
  obtain ⟨L, hL⟩ : ∃ L, mag.log2 = L := ⟨_, rfl⟩
  have hla0 : las mag place = max (place + (L : Int) - 52) (-1074) := by unfold las; rw [hL]
  rw [hL] at hlo hhi
  have hs1 : (2 : Nat) ^ (K + 2094) < 2 ^ (K + 2148) := Nat.pow_lt_pow_right (by omega) (by omega)
  have heK : place + (L : Int) = (K : Int) := by
    have h1 : 2 ^ L * 2 ^ (place + 2148).toNat < 2 ^ (K + 2149) := by
      refine Nat.lt_of_le_of_lt (Nat.le_trans (Nat.mul_le_mul_right _ hlo) hv) ?_
      rw [show K + 2149 = K + 2148 + 1 by omega, Nat.pow_add 2 (K + 2148) 1, Nat.pow_one]
      have : ∀ T d : Nat, d < T → T + d < T * 2 := fun T d q => by omega
      exact this _ _ hs1
    have h2 : 2 ^ (K + 2148) < 2 ^ (L + 1) * 2 ^ (place + 2148).toNat := Nat.lt_trans (by omega) (Nat.mul_lt_mul_of_pos_right hhi (Nat.two_pow_pos _))
    rw [← Nat.pow_add] at h1 h2
    have := (Nat.pow_lt_pow_iff_right (by omega : 1 < 2)).1 h1
    have := (Nat.pow_lt_pow_iff_right (by omega : 1 < 2)).1 h2
    omega
  rw [hla0, show max (place + (L : Int) - 52) (-1074) = (K : Int) - 52 by omega]
  have c52 : (2 : Nat) ^ 52 = 4503599627370496 := by simp only [Nat.reducePow]
  obtain ⟨r, hr⟩ : ∃ r, mag = 2 ^ L + r := ⟨mag - 2 ^ L, by omega⟩
  have hrv : r * 2 ^ (place + 2148).toNat ≤ 2 ^ (K + 2094) := by
    rw [hr, Nat.add_mul, ← Nat.pow_add, show L + (place + 2148).toNat = K + 2148 by omega] at hv
    omega
  have hkk : kep mag place ((K : Int) - 52) = 4503599627370496 := by
    unfold kep
    by_cases hs : (K : Int) - 52 ≤ place
    · exfalso
      have hr1 : 1 ≤ r := by
        apply Classical.byContradiction
        intro hc
        have : r = 0 := by omega
        subst this
        apply hv1
        rw [hr, Nat.add_zero, ← Nat.pow_add]
        exact Nat.pow_le_pow_right (by omega) (by omega)
      have h1 : (2 : Nat) ^ (place + 2148).toNat ≤ 2 ^ (K + 2094) := Nat.le_trans (by rw [← Nat.one_mul (2 ^ (place + 2148).toNat)]; exact Nat.mul_le_mul hr1 (by rw [Nat.one_mul]; exact Nat.le_refl _)) hrv
      have := (Nat.pow_le_pow_iff_right (by omega : 1 < 2)).1 h1
      omega
    · rw [show (place - ((K : Int) - 52)).toNat = 0 by omega, Nat.shiftLeft_eq, Nat.pow_zero, Nat.mul_one]
      obtain ⟨d, hd⟩ : ∃ d, ((K : Int) - 52 - place).toNat = d := ⟨_, rfl⟩
      rw [hd]
      have hLd : L = 52 + d := by omega
      have h2r : 2 * r < 2 ^ d := by
        apply Classical.byContradiction
        intro hc
        have h1 : 2 ^ d * 2 ^ (place + 2148).toNat ≤ 2 * r * 2 ^ (place + 2148).toNat := Nat.mul_le_mul_right _ (by omega)
        rw [← Nat.pow_add, show d + (place + 2148).toNat = K + 2094 + 2 by omega, Nat.pow_add, Nat.mul_assoc] at h1
        have := Nat.two_pow_pos (K + 2094)
        omega
      unfold Toward.cut
      rw [hL]
      simp only [Nat.shiftLeft_eq, Nat.one_mul]
      rw [Nat.min_eq_left (by omega)]
      have e : mag = 2 ^ d * 4503599627370496 + r := by rw [hr, hLd, Nat.pow_add, c52, Nat.mul_comm]
      have h1 : mag / 2 ^ d = 4503599627370496 := by
        rw [e, Nat.mul_add_div (Nat.two_pow_pos _), Nat.div_eq_of_lt (by omega), Nat.add_zero]
      have h2 : mag % 2 ^ d = r := by rw [e, Nat.mul_add_mod, Nat.mod_eq_of_lt (by omega)]
      rw [h1, h2]
      have a1 : decide (2 ^ d < 2 * r) = false := decide_eq_false (by omega)
      have a2 : (2 ^ d == 2 * r) = false := by rw [beq_eq_false_iff_ne]; omega
      rw [a1, a2]
      rfl
  rw [hkk]
  unfold RK
  rw [show K + 1023 = K + 1022 + 1 by omega, Nat.add_mul (K + 1022) 1, Nat.one_mul, show ((K : Int) - 52 + 1074).toNat = K + 1022 by omega]
  exact Nat.le_refl _
theorem near_err (mag J I : Nat) (hJ : J = 1074) (hI : I = 1020) (place : Int) (hp : -1074 ≤ place) (hv : mag * 2 ^ (place + 1074).toNat ≤ 2 ^ J) : val (double.nearest false mag place) ≤ mag * 2 ^ (place + 1074).toNat + 2 ^ I := by
  have hsm : Sm 0 (double.nearest false mag place) := near_sm 0 mag place (by omega) (by omega) (up_sm mag 0 place hp (by rw [Nat.zero_add, ← hJ]; exact hv))
  have hfin := hsm.fin (by omega)
  by_cases h0 : mag = 0
  · have : double.nearest false mag place = 0 := by
      unfold Format.nearest
      rw [if_pos h0]
      rfl
    rw [this]
    unfold val
    rw [if_pos (by omega)]
    exact Nat.zero_le _
  by_cases hone : mag * 2 ^ (place + 1074).toNat = 2 ^ J
  · have := hsm.val (by omega)
    rw [hone]
    rw [Nat.zero_add, ← hJ] at this
    exact Nat.le_trans this (Nat.le_add_right _ _)
  obtain ⟨M, E, e1, e2, e3, e6⟩ := read_fin hfin
  rw [near_eq mag place h0] at hfin e3
  have hlo : 2 ^ mag.log2 ≤ mag := Nat.log2_self_le h0
  have hkl := kep_le mag place h0
  obtain ⟨L, hL⟩ : ∃ L, mag.log2 = L := ⟨_, rfl⟩
  have hla0 : las mag place = max (place + (L : Int) - 52) (-1074) := by unfold las; rw [hL]
  obtain ⟨la, hla⟩ : ∃ la, las mag place = la := ⟨_, rfl⟩
  rw [hla] at hla0 hkl hfin e3
  rw [hL] at hlo
  have heK : place + (L : Int) ≤ -1 := by
    have h1 : 2 ^ L * 2 ^ (place + 1074).toNat < 2 ^ J := Nat.lt_of_le_of_lt (Nat.mul_le_mul_right _ hlo) (Nat.lt_of_le_of_ne hv hone)
    rw [← Nat.pow_add] at h1
    have := (Nat.pow_lt_pow_iff_right (by omega : 1 < 2)).1 h1
    omega
  have hmin : min ((la + 1074).toNat * 4503599627370496 + kep mag place la) INF = (la + 1074).toNat * 4503599627370496 + kep mag place la := by
    rcases Nat.le_total ((la + 1074).toNat * 4503599627370496 + kep mag place la) INF with q | q
    · exact Nat.min_eq_left q
    · rw [Nat.min_eq_right q] at hfin
      exact absurd hfin (Nat.lt_irrefl _)
  rw [hmin] at e3
  have c52 : (2 : Nat) ^ 52 = 4503599627370496 := by simp only [Nat.reducePow]
  have hn : (la + 1074).toNat = 0 ∨ 4503599627370496 ≤ kep mag place la := by
    by_cases q : la = -1074
    · exact .inl (by omega)
    · right
      unfold kep
      rw [← c52]
      by_cases hs : la ≤ place
      · rw [show (la - place).toNat = 0 by omega, cut_none, Nat.shiftLeft_eq]
        refine Nat.le_trans ?_ (Nat.mul_le_mul_right _ hlo)
        rw [← Nat.pow_add]
        exact Nat.pow_le_pow_right (by omega) (by omega)
      · rw [show (place - la).toNat = 0 by omega, Nat.shiftLeft_eq, Nat.pow_zero, Nat.mul_one]
        unfold Toward.cut
        rw [hL]
        simp only [Nat.shiftLeft_eq, Nat.one_mul]
        rw [Nat.min_eq_left (by omega)]
        refine Nat.le_trans ?_ (Nat.le_add_right _ _)
        rw [Nat.le_div_iff_mul_le (Nat.two_pow_pos _), ← Nat.pow_add]
        exact Nat.le_trans (Nat.pow_le_pow_right (by omega) (by omega)) hlo
  have hval := e3.val rfl hn (Nat.le_trans hkl (by simp only [Nat.reduceMul, Nat.le_refl])) (by omega)
  rw [← e6, hval]
  unfold kep
  by_cases hs : la ≤ place
  · rw [show (la - place).toNat = 0 by omega, cut_none, Nat.shiftLeft_eq, Nat.mul_assoc, ← Nat.pow_add, show (place - la).toNat + (la + 1074).toNat = (place + 1074).toNat by omega]
    exact Nat.le_add_right _ _
  · rw [show (place - la).toNat = 0 by omega, Nat.shiftLeft_eq, Nat.pow_zero, Nat.mul_one]
    have herr := Nat.mul_le_mul_right (2 ^ (place + 1074).toNat) (cut_err mag (la - place).toNat)
    rw [Nat.add_mul, ← Nat.pow_add, Nat.mul_assoc, Nat.mul_assoc, ← Nat.pow_add, Nat.mul_assoc, show (la - place).toNat + (place + 1074).toNat = (la + 1074).toNat by omega] at herr
    have h5 : (2 : Nat) ^ (la + 1074).toNat ≤ 2 ^ (I + 1) := Nat.pow_le_pow_right (by omega) (by omega)
    have h6 : (2 : Nat) ^ (I + 1) = 2 * 2 ^ I := by rw [Nat.pow_succ, Nat.mul_comm]
    rw [h6] at h5
    generalize (2 : Nat) ^ I = T at h5 ⊢
    omega
def ONE : Nat := 4607182418800017408
def NZ : Nat := 9223372036854775808
def Sz (w : Nat) : Prop := Sm 0 w ∨ w = NZ
def vz (w : Nat) : Nat := if w = NZ then 0 else val w
theorem read_nz : double.read NZ = .number true 0 (-1074) := by
  unfold Format.read NZ
  simp only [sgn_d, bin_d, inf_d, lp_d, Nat.reduceDiv, Nat.reduceMod, Nat.reduceLT, if_true]
  rfl
theorem near_zero (neg : Bool) (place : Int) : double.nearest neg 0 place = double.word neg 0 := by
  unfold Format.nearest
  rw [if_pos rfl]
theorem word_nz : double.word true 0 = NZ := by
  unfold Format.word NZ
  rw [if_pos rfl, sgn_d]
theorem comp {x J I : Nat} (hx : Sz x) (hJ : J = 1074) (hI : I = 1020) : ∃ y, double.sub ONE x = some y ∧ Sm 0 y ∧ val y + vz x ≤ 2 ^ J + 2 ^ I := by
  have key : ∀ (s : Bool) (n : Nat) (j : Int), double.read x = .number s n j → (s = true → n = 0) → -1074 ≤ j → n * 2 ^ (j + 1074).toNat ≤ 2 ^ J → ∃ y, double.sub ONE x = some y ∧ Sm 0 y ∧ val y + n * 2 ^ (j + 1074).toNat ≤ 2 ^ J + 2 ^ I := by
    intro s n j e2 hs hj hn
    obtain ⟨base, hb⟩ : ∃ base, min (-52) j = base := ⟨_, rfl⟩
    have hb1 : -1074 ≤ base := by omega
    have c52 : (4503599627370496 : Nat) = 2 ^ 52 := by simp only [Nat.reducePow]
    obtain ⟨o, ho⟩ : ∃ o, 4503599627370496 * 2 ^ (-52 - base).toNat = o := ⟨_, rfl⟩
    obtain ⟨p, hp⟩ : ∃ p, n * 2 ^ (j - base).toNat = p := ⟨_, rfl⟩
    have ho2 : o * 2 ^ (base + 1074).toNat = 2 ^ J := by
      rw [← ho, shift_up _ (-52) base (by omega) hb1, c52, ← Nat.pow_add]
      congr 1
      rw [hJ]
      omega
    have hp3 : p * 2 ^ (base + 1074).toNat = n * 2 ^ (j + 1074).toNat := by
      rw [← hp, shift_up _ j base (by omega) hb1]
    have hp2 : p * 2 ^ (base + 1074).toNat ≤ o * 2 ^ (base + 1074).toNat := by
      rw [hp3, ho2]
      exact hn
    have hpo : p ≤ o := Nat.le_of_mul_le_mul_right hp2 (Nat.two_pow_pos _)
    have hv : (o - p) * 2 ^ (base + 1074).toNat ≤ 2 ^ J := by
      rw [← ho2]
      exact Nat.mul_le_mul_right _ (Nat.sub_le _ _)
    refine ⟨double.nearest false (o - p) base, ?_, ?_, ?_⟩
    · unfold Format.sub ONE
      rw [read_one, e2]
      have hsg : signed (!s) n (j - base).toNat = -((p : Nat) : Int) := by
        cases s
        · rw [Bool.not_false, signed_neg, hp]
        · rw [Bool.not_true, signed_pos, hp]
          have : p = 0 := by rw [← hp, hs rfl, Nat.zero_mul]
          rw [this]
          rfl
      simp only [Datum.opposite, Datum.sum, hb, signed_pos]
      rw [ho, hsg]
      have h0 : ((o : Nat) : Int) + -((p : Nat) : Int) = ((o - p : Nat) : Int) := by omega
      rw [h0]
      have h1 : (if ((o - p : Nat) : Int) = 0 then (false && !s) else decide (((o - p : Nat) : Int) < 0)) = false := by
        split
        · rfl
        · exact decide_eq_false (by omega)
      rw [h1, Int.natAbs_natCast]
      rfl
    · exact near_sm 0 (o - p) base (by omega) (by omega) (up_sm (o - p) 0 base hb1 (by rw [Nat.zero_add, ← hJ]; exact hv))
    · have := near_err (o - p) J I hJ hI base hb1 hv
      have h3 : (o - p) * 2 ^ (base + 1074).toNat + p * 2 ^ (base + 1074).toNat = o * 2 ^ (base + 1074).toNat := by
        rw [← Nat.add_mul, Nat.sub_add_cancel hpo]
      rw [ho2, hp3] at h3
      omega
  rcases hx with hx | rfl
  · obtain ⟨n, j, e2, hj, hr, hn⟩ := read_fin (hx.fin (by omega))
    have hv := hx.val (by omega)
    rw [Nat.zero_add, ← hJ, ← hn] at hv
    obtain ⟨y, h1, h2, h3⟩ := key false n j e2 (fun e => by cases e) hj hv
    refine ⟨y, h1, h2, ?_⟩
    unfold vz
    rw [if_neg (fun e => ?_), ← hn]
    · exact h3
    · subst e
      rw [read_nz] at e2
      injection e2 with q
      cases q
  · obtain ⟨y, h1, h2, h3⟩ := key true 0 (-1074) read_nz (fun _ => rfl) (by omega) (by rw [Nat.zero_mul]; exact Nat.zero_le _)
    refine ⟨y, h1, h2, ?_⟩
    unfold vz
    rw [if_pos rfl]
    rw [Nat.zero_mul] at h3
    exact h3
theorem mul_fit {p y : Nat} (hp : Sm 0 p) (hy : y < INF) : ∃ a, double.mul p y = some a ∧ a ≤ y := by
  obtain ⟨m, i, e1, hi, hm⟩ := read_sm hp (by omega)
  obtain ⟨n, j, e2, hj, hr, hn⟩ := read_fin hy
  obtain ⟨J, hJ⟩ : ∃ J : Nat, J = 1074 := ⟨_, rfl⟩
  refine ⟨double.nearest false (m * n) (i + j), ?_, ?_⟩
  · unfold Format.mul
    rw [e1, e2]
    rfl
  · refine near_le (m * n) y J hJ (i + j) (by omega) hy ?_
    rw [show (i + j + 2148).toNat = (i + 1074).toNat + (j + 1074).toNat by omega, pow_mul_add, hn, Nat.mul_comm (val y)]
    rw [Nat.zero_add, ← hJ] at hm
    exact Nat.mul_le_mul_right _ hm
theorem mul_nz {p : Nat} (hp : Sm 0 p) : double.mul p NZ = some NZ := by
  obtain ⟨m, i, e1, hi, hm⟩ := read_sm hp (by omega)
  unfold Format.mul
  rw [e1, read_nz]
  simp only [Datum.product, Nat.mul_zero, Bool.false_xor, Option.map_some, Format.write, near_zero, word_nz]
theorem add_over {K x y J I : Nat} (hJ : J = 1074) (hI : I = 1020) (hx : x < INF) (hy : y < INF) (hK : K ≤ 1000) (hv : val x + val y ≤ 2 ^ (K + J) + 2 ^ (K + I)) : ∃ r, double.add x y = some r ∧ Sm K r := by
  obtain ⟨m, i, e1, hi, _, hm⟩ := read_fin hx
  obtain ⟨n, j, e2, hj, _, hn⟩ := read_fin hy
  obtain ⟨base, hb⟩ : ∃ base, min i j = base := ⟨_, rfl⟩
  obtain ⟨t, ht⟩ : ∃ t, m * 2 ^ (i - base).toNat + n * 2 ^ (j - base).toNat = t := ⟨_, rfl⟩
  refine ⟨double.nearest false t base, ?_, ?_⟩
  · unfold Format.add
    rw [e1, e2]
    simp only [Datum.sum, hb, signed_pos]
    rw [← Int.natCast_add, ht]
    have h1 : (if ((t : Nat) : Int) = 0 then (false && false) else decide (((t : Nat) : Int) < 0)) = false := by
      split
      · rfl
      · exact decide_eq_false (by omega)
    rw [h1, Int.natAbs_natCast]
    rfl
  · have hb1 : -1074 ≤ base := by omega
    refine near_over K t base hK (by omega) ?_
    have h2 : t * 2 ^ (base + 1074).toNat = val x + val y := by
      rw [← ht, Nat.add_mul, shift_up m i base (by omega) hb1, shift_up n j base (by omega) hb1, hm, hn]
    rw [show (base + 2148).toNat = (base + 1074).toNat + J by omega, Nat.pow_add, ← Nat.mul_assoc, h2, show K + 2148 = K + J + J by omega, show K + 2094 = K + I + J by omega, Nat.pow_add 2 (K + J) J, Nat.pow_add 2 (K + I) J, ← Nat.add_mul]
    exact Nat.mul_le_mul_right _ hv
theorem add_nz {K x : Nat} (hx : Sm K x) (hK : K ≤ 1000) : ∃ r, double.add x NZ = some r ∧ Sm K r := by
  obtain ⟨m, i, e1, hi, hm⟩ := read_sm hx hK
  obtain ⟨base, hb⟩ : ∃ base, min i (-1074) = base := ⟨_, rfl⟩
  obtain ⟨t, ht⟩ : ∃ t, m * 2 ^ (i - base).toNat = t := ⟨_, rfl⟩
  refine ⟨double.nearest false t base, ?_, ?_⟩
  · unfold Format.add
    rw [e1, read_nz]
    simp only [Datum.sum, hb, signed_pos, signed_neg, Nat.zero_mul]
    rw [ht, show ((t : Nat) : Int) + -((0 : Nat) : Int) = ((t : Nat) : Int) by omega]
    have h1 : (if ((t : Nat) : Int) = 0 then (false && true) else decide (((t : Nat) : Int) < 0)) = false := by
      split
      · rfl
      · exact decide_eq_false (by omega)
    rw [h1, Int.natAbs_natCast]
    rfl
  · have hb1 : -1074 ≤ base := by omega
    refine near_sm K t base hK (by omega) (up_sm t K base hb1 ?_)
    rw [← ht, shift_up m i base (by omega) hb1]
    exact hm
theorem odds_step {p q x y : Nat} (hp : Sm 0 p) (hq : Sm 0 q) (hx : Sz x) (hy : double.sub ONE x = some y) : ∃ a b r, double.mul p y = some a ∧ double.mul q x = some b ∧ double.add a b = some r ∧ Sm 0 r := by
  obtain ⟨J, hJ⟩ : ∃ J : Nat, J = 1074 := ⟨_, rfl⟩
  obtain ⟨I, hI⟩ : ∃ I : Nat, I = 1020 := ⟨_, rfl⟩
  obtain ⟨y', h1, h2, h3⟩ := comp hx hJ hI
  obtain rfl : y' = y := Option.some.inj (h1.symm.trans hy)
  have hyf := h2.fin (by omega)
  obtain ⟨a, a1, a2⟩ := mul_fit hp hyf
  have ha : Sm 0 a := Nat.le_trans a2 h2
  rcases hx with hx | rfl
  · have hxf := hx.fin (by omega)
    obtain ⟨b, b1, b2⟩ := mul_fit hq hxf
    have hne : x ≠ NZ := fun e => by subst e; unfold INF NZ at hxf; omega
    unfold vz at h3
    rw [if_neg hne] at h3
    have v1 := val_mono hyf a2
    have v2 := val_mono hxf b2
    obtain ⟨r, r1, r2⟩ := add_over (K := 0) hJ hI (Nat.lt_of_le_of_lt a2 hyf) (Nat.lt_of_le_of_lt b2 hxf) (by omega) (by rw [Nat.zero_add, Nat.zero_add]; omega)
    exact ⟨a, b, r, a1, b1, r1, r2⟩
  · obtain ⟨r, r1, r2⟩ := add_nz ha (by omega)
    exact ⟨a, NZ, r, a1, mul_nz hq, r1, r2⟩
theorem odds_one {p y : Nat} (hp : Sm 0 p) (hy : Sm 0 y) : ∃ a, double.mul p y = some a ∧ Sm 0 a := by
  obtain ⟨a, a1, a2⟩ := mul_fit hp (hy.fin (by omega))
  exact ⟨a, a1, Nat.le_trans a2 hy⟩
theorem odds_sum {s p : Nat} (hs : Sm 60 s) (hp : Sm 0 p) : ∃ r, double.add s p = some r ∧ Sm 60 r := by
  obtain ⟨J, hJ⟩ : ∃ J : Nat, J = 1074 := ⟨_, rfl⟩
  obtain ⟨I, hI⟩ : ∃ I : Nat, I = 1020 := ⟨_, rfl⟩
  refine add_over hJ hI (hs.fin (by omega)) (hp.fin (by omega)) (by omega) (Nat.add_le_add ?_ ?_)
  · rw [hJ]
    exact hs.val (by omega)
  · have h := hp.val (by omega)
    rw [← hJ] at h
    refine Nat.le_trans h (Nat.pow_le_pow_right (by omega) ?_)
    omega
theorem read_zero : double.read 0 = .number false 0 (-1074) := by
  unfold Format.read
  simp only [sgn_d, bin_d, inf_d, lp_d, Nat.zero_div, Nat.zero_mod, Nat.reduceLT, if_true]
  rfl
theorem cmp_nat (a b : Nat) : compare (a : Int) (b : Int) = compare a b := by
  simp only [compare, compareOfLessAndEq]
  by_cases q : a < b
  · rw [if_pos q, if_pos (by omega)]
  · rw [if_neg q, if_neg (by omega)]
    by_cases e : a = b
    · rw [if_pos e, if_pos (by omega)]
    · rw [if_neg e, if_neg (by omega)]
theorem cmp_scale (a b T : Nat) (hT : 0 < T) : compare a b = compare (a * T) (b * T) := by
  simp only [compare, compareOfLessAndEq]
  by_cases q : a < b
  · rw [if_pos q, if_pos (Nat.mul_lt_mul_of_pos_right q hT)]
  · rw [if_neg q, if_neg (fun z => q (Nat.lt_of_mul_lt_mul_right z))]
    by_cases e : a = b
    · rw [if_pos e, if_pos (by rw [e])]
    · rw [if_neg e, if_neg (fun z => e (Nat.eq_of_mul_eq_mul_right hT z))]
theorem order_fin {x y : Nat} (hx : x < INF) (hy : y < INF) : double.order x y = some (compare (val x) (val y)) := by
  obtain ⟨m, i, e1, hi, _, hm⟩ := read_fin hx
  obtain ⟨n, j, e2, hj, _, hn⟩ := read_fin hy
  obtain ⟨base, hb⟩ : ∃ base, min i j = base := ⟨_, rfl⟩
  have hb1 : -1074 ≤ base := by omega
  unfold Format.order
  rw [e1, e2]
  simp only [Datum.order, hb, signed_pos]
  rw [cmp_nat, cmp_scale _ _ (2 ^ (base + 1074).toNat) (Nat.two_pow_pos _), shift_up m i base (by omega) hb1, shift_up n j base (by omega) hb1, hm, hn]
theorem val_zero : val 0 = 0 := by
  unfold val
  rw [if_pos (by omega)]
theorem one_fin : ONE < INF := by unfold ONE INF; omega
theorem val_one {J : Nat} (hJ : J = 1074) : val ONE = 2 ^ J := by
  obtain ⟨n, j, e2, hj, _, hn⟩ := read_fin one_fin
  have := read_one
  unfold ONE at e2
  rw [this] at e2
  obtain ⟨_, q1, q2⟩ := Datum.number.inj e2
  have c52 : (4503599627370496 : Nat) = 2 ^ 52 := by simp only [Nat.reducePow]
  have hj2 : 52 + (j + 1074).toNat = J := by omega
  rw [← hn, ← q1, c52, ← Nat.pow_add, hj2]
theorem ge_zero {w : Nat} (h : Sz w) : double.order w 0 = some .gt ∨ double.order w 0 = some .eq := by
  rcases h with h | rfl
  · rw [order_fin (h.fin (by omega)) (by unfold INF; omega), val_zero]
    by_cases q : val w = 0
    · right; rw [q]; rfl
    · left
      congr 1
      exact Nat.compare_eq_gt.2 (by omega)
  · right
    unfold Format.order
    rw [read_nz, read_zero]
    rfl
theorem le_one {w : Nat} (h : Sz w) : double.order w ONE = some .lt ∨ double.order w ONE = some .eq := by
  rcases h with h | rfl
  · obtain ⟨J, hJ⟩ : ∃ J : Nat, J = 1074 := ⟨_, rfl⟩
    rw [order_fin (h.fin (by omega)) one_fin, val_one hJ]
    have hv := h.val (by omega)
    rw [Nat.zero_add, ← hJ] at hv
    by_cases q : val w = 2 ^ J
    · right; rw [q]; congr 1; exact Nat.compare_eq_eq.2 rfl
    · left
      congr 1
      exact Nat.compare_eq_lt.2 (by omega)
  · left
    unfold Format.order ONE
    rw [read_nz, read_one]
    simp only [Datum.order, signed_pos, signed_neg, Nat.zero_mul]
    have h1 : min (-1074 : Int) (-52) = -1074 := by omega
    rw [h1]
    have h2 := Nat.two_pow_pos (-52 - -1074 : Int).toNat
    generalize (2 : Nat) ^ (-52 - -1074 : Int).toNat = T at h2 ⊢
    congr 1
    simp only [compare, compareOfLessAndEq]
    rw [if_pos]
    omega
theorem Ru.lt {c w A M w' A' M' : Nat} (h : Ru c w A M) (h' : Ru c w' A' M') (hw : w < w') : M * 2 ^ A < M' * 2 ^ A' := by
  obtain ⟨e, n, m⟩ := h
  obtain ⟨e', n', m'⟩ := h'
  rcases Nat.lt_trichotomy A A' with q | q | q
  · obtain ⟨t, rfl⟩ : ∃ t, A' = A + 1 + t := ⟨A' - A - 1, by omega⟩
    have hm' : c ≤ M' := n'.resolve_left (by omega)
    have h1 : M * 2 ^ A < 2 * c * 2 ^ A := Nat.mul_lt_mul_of_pos_right m (Nat.two_pow_pos _)
    have h2 : 2 * c * 2 ^ A = c * 2 ^ (A + 1) := by rw [Nat.pow_succ, Nat.mul_comm 2 c, Nat.mul_assoc, Nat.mul_comm 2]
    have h3 : c * 2 ^ (A + 1) ≤ M' * 2 ^ (A + 1 + t) := Nat.mul_le_mul hm' (Nat.pow_le_pow_right (by omega) (by omega))
    omega
  · subst q
    exact Nat.mul_lt_mul_of_pos_right (by omega) (Nat.two_pow_pos _)
  · exfalso
    obtain ⟨t, rfl⟩ : ∃ t, A = A' + 1 + t := ⟨A - A' - 1, by omega⟩
    have hm : c ≤ M := n.resolve_left (by omega)
    rw [Nat.add_mul, Nat.add_mul, Nat.one_mul] at e
    omega
theorem val_lt {w w' : Nat} (hw' : w' < INF) (h : w < w') : val w < val w' := by
  obtain ⟨M, E, e1, e2, e3, e4⟩ := read_fin (Nat.lt_trans h hw')
  obtain ⟨M', E', d1, d2, d3, d4⟩ := read_fin hw'
  rw [← e4, ← d4]
  exact e3.lt d3 h
theorem read_big {w : Nat} (h1 : INF ≤ w) (h2 : w < NZ) : double.read w = .infinity false ∨ ∃ t, double.read w = .nan false t := by
  unfold INF at h1
  unfold NZ at h2
  unfold Format.read
  simp only [sgn_d, bin_d, inf_d, lp_d]
  have e1 : (w / 9223372036854775808 % 2 == 1) = false := by
    have : w / 9223372036854775808 = 0 := Nat.div_eq_of_lt (by omega)
    rw [this]; rfl
  have e2 : w % 9223372036854775808 = w := Nat.mod_eq_of_lt (by omega)
  rw [e2, e1, if_neg (by omega), if_neg (by omega)]
  by_cases q : w = 9218868437227405312
  · rw [if_pos q]; exact .inl rfl
  · rw [if_neg q]; exact .inr ⟨_, rfl⟩
theorem read_neg {w : Nat} (h1 : NZ < w) (h2 : w < 18446744073709551616) : (∃ m i, double.read w = .number true m i ∧ 0 < m) ∨ double.read w = .infinity true ∨ ∃ t, double.read w = .nan true t := by
  unfold NZ at h1
  unfold Format.read
  simp only [sgn_d, bin_d, inf_d, lp_d]
  have e0 : w / 9223372036854775808 = 1 := by omega
  have e1 : (w / 9223372036854775808 % 2 == 1) = true := by rw [e0]; rfl
  obtain ⟨v, hv⟩ : ∃ v, w % 9223372036854775808 = v := ⟨_, rfl⟩
  have hv0 : 0 < v := by omega
  rw [hv, e1]
  by_cases q1 : v < 4503599627370496
  · rw [if_pos q1]; exact .inl ⟨_, _, rfl, hv0⟩
  rw [if_neg q1]
  by_cases q2 : v < 9218868437227405312
  · rw [if_pos q2]; exact .inl ⟨_, _, rfl, by omega⟩
  rw [if_neg q2]
  by_cases q : v = 9218868437227405312
  · rw [if_pos q]; exact .inr (.inl rfl)
  · rw [if_neg q]; exact .inr (.inr ⟨_, rfl⟩)
theorem rk_one : RK 0 = ONE := by
  unfold RK ONE
  simp only [Nat.zero_add, Nat.reduceMul]
theorem sz_of {w : Nat} (hw : w < 18446744073709551616) (h1 : double.order w 0 = some .gt ∨ double.order w 0 = some .eq) (h2 : double.order w ONE = some .lt ∨ double.order w ONE = some .eq) : Sz w := by
  by_cases hn : w < NZ
  · left
    unfold Sm
    rw [rk_one]
    by_cases hf : w < INF
    · apply Classical.byContradiction
      intro hc
      have h3 := val_lt hf (Nat.lt_of_not_le hc)
      rw [order_fin hf one_fin] at h2
      have h4 : compare (val w) (val ONE) = .gt := Nat.compare_eq_gt.2 h3
      rw [h4] at h2
      rcases h2 with q | q <;> cases q
    · exfalso
      unfold Format.order ONE at h2
      rw [read_one] at h2
      rcases read_big (Nat.le_of_not_lt hf) hn with q | ⟨t, q⟩
      · rw [q] at h2
        rcases h2 with q | q <;> cases q
      · rw [q] at h2
        rcases h2 with q | q <;> cases q
  · by_cases he : w = NZ
    · exact .inr he
    · exfalso
      unfold Format.order at h1
      rw [read_zero] at h1
      rcases read_neg (by omega) hw with ⟨m, i, q, hm⟩ | q | ⟨t, q⟩
      · rw [q] at h1
        simp only [Datum.order, signed_pos, signed_neg, Nat.zero_mul] at h1
        obtain ⟨T, hT⟩ : ∃ T, m * 2 ^ (i - min i (-1074)).toNat = T := ⟨_, rfl⟩
        have hT0 : 0 < T := by rw [← hT]; exact Nat.mul_pos hm (Nat.two_pow_pos _)
        rw [hT] at h1
        have h4 : compare (-(T : Int)) ((0 : Nat) : Int) = .lt := by
          simp only [compare, compareOfLessAndEq]
          rw [if_pos]
          omega
        rw [h4] at h1
        rcases h1 with q | q <;> cases q
      · rw [q] at h1
        rcases h1 with q | q <;> cases q
      · rw [q] at h1
        rcases h1 with q | q <;> cases q
theorem sz_iff {w : Nat} (hw : w < 18446744073709551616) : Sz w ↔ (double.order w 0 = some .gt ∨ double.order w 0 = some .eq) ∧ (double.order w ONE = some .lt ∨ double.order w ONE = some .eq) :=
  ⟨fun h => ⟨ge_zero h, le_one h⟩, fun h => sz_of hw h.1 h.2⟩
theorem mul_11 : double.mul ONE ONE = some ONE := by decide +kernel
theorem mul_10 : double.mul ONE 0 = some 0 := by decide +kernel
theorem mul_01 : double.mul 0 ONE = some 0 := by decide +kernel
theorem mul_00 : double.mul 0 0 = some 0 := by decide +kernel
theorem mul_1n : double.mul ONE NZ = some NZ := by decide +kernel
theorem mul_0n : double.mul 0 NZ = some NZ := by decide +kernel
theorem add_00 : double.add 0 0 = some 0 := by decide +kernel
theorem add_10 : double.add ONE 0 = some ONE := by decide +kernel
theorem add_01 : double.add 0 ONE = some ONE := by decide +kernel
theorem add_1n : double.add ONE NZ = some ONE := by decide +kernel
theorem add_0n : double.add 0 NZ = some 0 := by decide +kernel
theorem sub_0 : double.sub ONE 0 = some ONE := by decide +kernel
theorem sub_1 : double.sub ONE ONE = some 0 := by decide +kernel
theorem sub_n : double.sub ONE NZ = some ONE := by decide +kernel
theorem sm_0 (K : Nat) : Sm K 0 := Nat.zero_le _
theorem sm_1 (K : Nat) : Sm K ONE := by
  refine Sm.mono (K := 0) ?_ (Nat.zero_le K)
  unfold Sm
  rw [rk_one]
  exact Nat.le_refl _
theorem sz_0 : Sz 0 := .inl (sm_0 0)
theorem sz_1 : Sz ONE := .inl (sm_1 0)
theorem sz_n : Sz NZ := .inr rfl
theorem eq_zero {w : Nat} (h : Sz w) (he : double.order w 0 = some .eq) : w = 0 ∨ w = NZ := by
  rcases h with h | h
  · left
    rw [order_fin (h.fin (by omega)) (by unfold INF; omega), val_zero] at he
    have h1 : val w = 0 := Nat.compare_eq_eq.1 (Option.some.inj he)
    apply Classical.byContradiction
    intro hc
    have := val_lt (h.fin (by omega)) (Nat.pos_of_ne_zero hc)
    rw [val_zero] at this
    omega
  · exact .inr h
theorem eq_one {w : Nat} (h : Sz w) (he : double.order w ONE = some .eq) : w = ONE := by
  rcases h with h | rfl
  · rw [order_fin (h.fin (by omega)) one_fin] at he
    have h1 : val w = val ONE := Nat.compare_eq_eq.1 (Option.some.inj he)
    unfold Sm at h
    rw [rk_one] at h
    apply Classical.byContradiction
    intro hc
    have := val_lt one_fin (Nat.lt_of_le_of_ne h hc)
    omega
  · exact absurd he (by decide +kernel)
def fm (a b : Nat) : Nat := (double.mul a b).getD 0
def fa (a b : Nat) : Nat := (double.add a b).getD 0
def fs (x : Nat) : Nat := (double.sub ONE x).getD 0
def ent (c x : Nat) (p : List Nat) (j : Nat) : Nat := if c ≤ j then fa (fm (p.getD j 0) (fs x)) (fm (p.getD (j - c) 0) x) else fm (p.getD j 0) (fs x)
def rowOf (c x : Nat) (p : List Nat) : List Nat := (List.range p.length).map (ent c x p)
def tab (n : Nat) (l : List (Nat × Nat)) : List Nat := l.foldl (fun p e => rowOf e.1 e.2 p) (ONE :: List.replicate n 0)
def tot (k : Nat) (p : List Nat) : Nat := (p.drop k).foldr (fun v s => fa s v) 0
def AllSm (p : List Nat) : Prop := ∀ v ∈ p, Sm 0 v
theorem AllSm.getD {p : List Nat} (h : AllSm p) (j : Nat) : Sm 0 (p.getD j 0) := by
  rw [List.getD_eq_getElem?_getD]
  rcases Nat.lt_or_ge j p.length with q | q
  · rw [List.getElem?_eq_getElem q]
    exact h _ (List.getElem_mem q)
  · rw [List.getElem?_eq_none q]
    exact sm_0 0
theorem fs_ok {x : Nat} (hx : Sz x) : double.sub ONE x = some (fs x) ∧ Sm 0 (fs x) := by
  obtain ⟨y, h1, h2, _⟩ := comp hx rfl rfl
  unfold fs
  rw [h1]
  exact ⟨rfl, h2⟩
theorem fm_ok {p y : Nat} (hp : Sm 0 p) (hy : Sm 0 y) : double.mul p y = some (fm p y) ∧ Sm 0 (fm p y) := by
  obtain ⟨a, h1, h2⟩ := odds_one hp hy
  unfold fm
  rw [h1]
  exact ⟨rfl, h2⟩
theorem step_ok {p q x : Nat} (hp : Sm 0 p) (hq : Sm 0 q) (hx : Sz x) : double.mul p (fs x) = some (fm p (fs x)) ∧ double.mul q x = some (fm q x) ∧ double.add (fm p (fs x)) (fm q x) = some (fa (fm p (fs x)) (fm q x)) ∧ Sm 0 (fa (fm p (fs x)) (fm q x)) := by
  obtain ⟨a, b, r, h1, h2, h3, h4⟩ := odds_step hp hq hx (fs_ok hx).1
  have e1 : fm p (fs x) = a := by unfold fm; rw [h1]; rfl
  have e2 : fm q x = b := by unfold fm; rw [h2]; rfl
  have e3 : fa a b = r := by unfold fa; rw [h3]; rfl
  rw [e1, e2, e3]
  exact ⟨h1, h2, h3, h4⟩
theorem ent_sm {c x : Nat} {p : List Nat} (h : AllSm p) (hx : Sz x) (j : Nat) : Sm 0 (ent c x p j) := by
  unfold ent
  split
  · exact (step_ok (h.getD j) (h.getD (j - c)) hx).2.2.2
  · exact (fm_ok (h.getD j) (fs_ok hx).2).2
theorem rowOf_len (c x : Nat) (p : List Nat) : (rowOf c x p).length = p.length := by simp [rowOf]
theorem rowOf_sm {c x : Nat} {p : List Nat} (h : AllSm p) (hx : Sz x) : AllSm (rowOf c x p) := fun v hv => by
  obtain ⟨j, _, rfl⟩ := List.mem_map.1 hv
  exact ent_sm h hx j
theorem start_sm (n : Nat) : AllSm (ONE :: List.replicate n 0) := fun v hv => by
  rcases List.mem_cons.1 hv with rfl | q
  · exact sm_1 0
  · rw [List.eq_of_mem_replicate q]
    exact sm_0 0
theorem fold_sm : ∀ (l : List (Nat × Nat)) (p : List Nat), AllSm p → (∀ e ∈ l, Sz e.2) → AllSm (l.foldl (fun p e => rowOf e.1 e.2 p) p)
  | [], p, h, _ => h
  | e :: l, p, h, hl => fold_sm l _ (rowOf_sm h (hl e (List.mem_cons_self ..))) fun x hx => hl x (List.mem_cons_of_mem _ hx)
theorem tab_sm (n : Nat) (l : List (Nat × Nat)) (h : ∀ e ∈ l, Sz e.2) : AllSm (tab n l) := fold_sm l _ (start_sm n) h
theorem fold_len : ∀ (l : List (Nat × Nat)) (p : List Nat), (l.foldl (fun p e => rowOf e.1 e.2 p) p).length = p.length
  | [], p => rfl
  | e :: l, p => by rw [List.foldl_cons, fold_len l, rowOf_len]
theorem tab_len (n : Nat) (l : List (Nat × Nat)) : (tab n l).length = n + 1 := by
  unfold tab
  rw [fold_len]
  simp
theorem sum_ok {s p : Nat} (hs : Sm 60 s) (hp : Sm 0 p) : double.add s p = some (fa s p) ∧ Sm 60 (fa s p) := by
  obtain ⟨r, h1, h2⟩ := odds_sum hs hp
  unfold fa
  rw [h1]
  exact ⟨rfl, h2⟩
theorem foldr_sm : ∀ (p : List Nat), AllSm p → Sm 60 (p.foldr (fun v s => fa s v) 0)
  | [], _ => sm_0 60
  | v :: p, h => (sum_ok (foldr_sm p fun x hx => h x (List.mem_cons_of_mem _ hx)) (h v (List.mem_cons_self ..))).2
theorem tot_sm (k : Nat) (p : List Nat) (h : AllSm p) : Sm 60 (tot k p) := foldr_sm _ fun v hv => h v (List.mem_of_mem_drop hv)
theorem tot_at {p : List Nat} {k : Nat} (hk : k < p.length) : tot k p = fa (tot (k + 1) p) (p.getD k 0) := by
  unfold tot
  rw [List.drop_eq_getElem_cons hk, List.foldr_cons, List.getD_eq_getElem?_getD, List.getElem?_eq_getElem hk]
  rfl
theorem tot_end {p : List Nat} {k : Nat} (hk : p.length ≤ k) : tot k p = 0 := by
  unfold tot
  rw [List.drop_eq_nil_of_le hk]
  rfl
def hot (n h : Nat) : List Nat := (List.range n).map fun j => if j = h then ONE else 0
theorem hot_len (n h : Nat) : (hot n h).length = n := by simp [hot]
theorem hot_at (n h j : Nat) (hj : j < n) : (hot n h).getD j 0 = if j = h then ONE else 0 := by
  rw [List.getD_eq_getElem?_getD]
  unfold hot
  rw [List.getElem?_map, List.getElem?_range hj]
  rfl
theorem hot_start (n : Nat) : ONE :: List.replicate n 0 = hot (n + 1) 0 := by
  refine List.ext_getElem? fun j => ?_
  unfold hot
  rw [List.getElem?_map]
  rcases Nat.lt_or_ge j (n + 1) with q | q
  · rw [List.getElem?_range q]
    cases j with
    | zero => rfl
    | succ j =>
      rw [List.getElem?_cons_succ, List.getElem?_replicate, if_pos (by omega)]
      rfl
  · rw [List.getElem?_eq_none (by simp; omega), List.getElem?_eq_none (by simp; omega)]
    rfl
def B01 (b : Nat) : Prop := b = 0 ∨ b = ONE
theorem b01 (c : Prop) [Decidable c] : B01 (if c then ONE else 0) := by
  by_cases q : c
  · rw [if_pos q]; exact .inr rfl
  · rw [if_neg q]; exact .inl rfl
theorem keepB {b d x : Nat} (hb : B01 b) (hd : B01 d) (hx : x = 0 ∨ x = NZ) : fa (fm b ONE) (fm d x) = b := by
  rcases hb with rfl | rfl <;> rcases hd with rfl | rfl <;> rcases hx with rfl | rfl <;> decide +kernel
theorem keepB1 {b : Nat} (hb : B01 b) : fm b ONE = b := by
  rcases hb with rfl | rfl <;> decide +kernel
theorem shiftB {b d : Nat} (hb : B01 b) (hd : B01 d) : fa (fm b 0) (fm d ONE) = d := by
  rcases hb with rfl | rfl <;> rcases hd with rfl | rfl <;> decide +kernel
theorem shiftB0 {b : Nat} (hb : B01 b) : fm b 0 = 0 := by
  rcases hb with rfl | rfl <;> decide +kernel
theorem hot_keep (n h c x : Nat) (hx : x = 0 ∨ x = NZ) : rowOf c x (hot n h) = hot n h := by
  have hy : fs x = ONE := by rcases hx with rfl | rfl <;> decide +kernel
  unfold rowOf
  rw [hot_len]
  refine List.map_congr_left fun j hj => ?_
  have hj := List.mem_range.1 hj
  unfold ent
  rw [hy, hot_at n h j hj]
  by_cases hc : c ≤ j
  · rw [if_pos hc, hot_at n h (j - c) (by omega)]
    exact keepB (b01 _) (b01 _) hx
  · rw [if_neg hc]
    exact keepB1 (b01 _)
theorem hot_shift (n h c : Nat) : rowOf c ONE (hot n h) = hot n (h + c) := by
  have hy : fs ONE = 0 := by decide +kernel
  unfold rowOf
  rw [hot_len]
  refine List.map_congr_left fun j hj => ?_
  have hj := List.mem_range.1 hj
  unfold ent
  rw [hy, hot_at n h j hj]
  by_cases hc : c ≤ j
  · rw [if_pos hc, hot_at n h (j - c) (by omega), shiftB (b01 _) (b01 _)]
    by_cases q : j - c = h
    · rw [if_pos q, if_pos (show j = h + c by omega)]
    · rw [if_neg q, if_neg (show ¬ j = h + c by omega)]
  · rw [if_neg hc, shiftB0 (b01 _), if_neg (show ¬ j = h + c by omega)]
theorem fold_hot (n : Nat) : ∀ (l : List (Nat × Nat)) (h : Nat), (∀ e ∈ l, e.2 = 0 ∨ e.2 = NZ ∨ e.2 = ONE) → ∃ h', l.foldl (fun p e => rowOf e.1 e.2 p) (hot n h) = hot n h'
  | [], h, _ => ⟨h, rfl⟩
  | e :: l, h, hl => by
    rw [List.foldl_cons]
    rcases hl e (List.mem_cons_self ..) with q | q | q
    · rw [hot_keep n h e.1 e.2 (.inl q)]
      exact fold_hot n l h fun x hx => hl x (List.mem_cons_of_mem _ hx)
    · rw [hot_keep n h e.1 e.2 (.inr q)]
      exact fold_hot n l h fun x hx => hl x (List.mem_cons_of_mem _ hx)
    · rw [q, hot_shift]
      exact fold_hot n l _ fun x hx => hl x (List.mem_cons_of_mem _ hx)
theorem hot_tot (n h : Nat) : ∀ (d k : Nat), n ≤ k + d → tot k (hot n h) = if k ≤ h ∧ h < n then ONE else 0
  | 0, k, hd => by
    rw [tot_end (by rw [hot_len]; omega), if_neg (by omega)]
  | d + 1, k, hd => by
    by_cases q : k < n
    · rw [tot_at (by rw [hot_len]; exact q), hot_tot n h d (k + 1) (by omega), hot_at n h k q]
      by_cases e : k = h
      · rw [if_neg (by omega), if_pos e, if_pos (by omega)]
        decide +kernel
      · by_cases e2 : k + 1 ≤ h ∧ h < n
        · rw [if_pos e2, if_neg e, if_pos (by omega)]
          decide +kernel
        · rw [if_neg e2, if_neg e, if_neg (by omega)]
          decide +kernel
    · rw [tot_end (by rw [hot_len]; omega), if_neg (by omega)]
theorem odds_01 (n k : Nat) (l : List (Nat × Nat)) (hl : ∀ e ∈ l, e.2 = 0 ∨ e.2 = NZ ∨ e.2 = ONE) : tot k (tab n l) = 0 ∨ tot k (tab n l) = ONE := by
  unfold tab
  rw [hot_start]
  obtain ⟨h', e⟩ := fold_hot (n + 1) l 0 hl
  rw [e, hot_tot (n + 1) h' (n + 1) k (by omega)]
  split
  · exact .inr rfl
  · exact .inl rfl
end Go.Proofs.YtlhjpflljokinaaDoor.Fl
namespace Go.Proofs.YtlhjpflljokinaaDoor.Hz
open Go Go.RowKit Go.Proofs.YtlhjpflljokinaaDoor Go.Proofs.YtlhjpflljokinaaDoor.Fl
def HF (w : World) (v : Value) (l : List Nat) : Prop :=
  (∃ (p : Option Addr) (c : Nat), v = .slice p l.length c ∧ l.length ≤ c ∧ c ≤ maxLen ∧ (p = none → c = 0) ∧
    (l ≠ [] → ∃ b off, p = some ⟨b, off, none⟩ ∧ ∀ j, j < l.length → w.cell? ⟨b, off + j, none⟩ = some (.float .f64 (l.getD j 0)))) ∧ ∀ x ∈ l, x < 18446744073709551616
theorem HF.open {w : World} {v : Value} {l : List Nat} (h : HF w v l) : ∃ (p : Option Addr) (c : Nat), v = .slice p l.length c ∧ l.length ≤ c ∧ c ≤ maxLen := by
  obtain ⟨⟨p, c, h1, h2, h3, _⟩, _⟩ := h
  exact ⟨p, c, h1, h2, h3⟩
theorem HF.ne {w : World} {v : Value} {l : List Nat} (h : HF w v l) (hl : 0 < l.length) :
    ∃ b off c, v = .slice (some ⟨b, off, none⟩) l.length c ∧ l.length ≤ c ∧ c ≤ maxLen ∧ ∀ j, j < l.length → w.cell? ⟨b, off + j, none⟩ = some (.float .f64 (l.getD j 0)) := by
  obtain ⟨⟨p, c, h1, h2, h3, _, h4⟩, _⟩ := h
  obtain ⟨b, off, rfl, hc⟩ := h4 (by intro e; subst e; simp at hl)
  exact ⟨b, off, c, h1, h2, h3, hc⟩
theorem HF.word {w : World} {v : Value} {l : List Nat} (h : HF w v l) (j : Nat) : l.getD j 0 < 18446744073709551616 := by
  by_cases hj : j < l.length
  · have e : l.getD j 0 = l[j] := by simp [List.getD, List.getElem?_eq_getElem hj]
    rw [e]
    exact h.2 _ (List.getElem_mem hj)
  · have e : l.getD j 0 = 0 := by simp [List.getD, List.getElem?_eq_none (by omega : l.length ≤ j)]
    rw [e]; omega
theorem HF.later {w w' : World} {v : Value} {l : List Nat} (h : HF w v l) (hc : ∀ a n, w.cell? a = some (.float .f64 n) → w'.cell? a = some (.float .f64 n)) : HF w' v l := by
  obtain ⟨⟨p, c, h1, h2, h3, h6, h4⟩, h5⟩ := h
  refine ⟨⟨p, c, h1, h2, h3, h6, fun hl => ?_⟩, h5⟩
  obtain ⟨b, off, e, hh⟩ := h4 hl
  exact ⟨b, off, e, fun j hj => hc _ _ (hh j hj)⟩
theorem HF.below {w w' : World} {v : Value} {l : List Nat} (h : HF w v l) (hb : Below w.heap.size w w') : HF w' v l :=
  h.later fun a _ hx => (hb.cell (World.block_lt_of_cell? w a hx)).trans hx
theorem HF.dr {w w' : World} {v : Value} {l : List Nat} (h : HF w v l) (d : Dr w w') : HF w' v l := h.later fun a _ hx => (d.cell a).trans hx
def fv (l : List Nat) : Array Value := (List.map (fun x : Nat => Value.float .f64 x) l).toArray
theorem fv_size (l : List Nat) : (fv l).size = l.length := by simp [fv]
theorem fv_at (l : List Nat) (i : Nat) (hi : i < l.length) : (fv l)[i]? = some (.float .f64 (l.getD i 0)) := by simp [fv, List.getD, List.getElem?_eq_getElem hi]
theorem fv_set (l : List Nat) (i x : Nat) : (fv l).setIfInBounds i (.float .f64 x) = fv (l.set i x) := by simp [fv]
def OF (w : World) (g : Nat) (l : List Nat) : Prop := w.heap[g]? = some (.cells (fv l) 40 (0, 0))
theorem OF.lt {w : World} {g : Nat} {l : List Nat} (h : OF w g l) : g < w.heap.size := (Array.getElem?_eq_some_iff.1 h).1
theorem OF.below {w w' : World} {g : Nat} {l : List Nat} (h : OF w g l) (hB : Below w.heap.size w w') : OF w' g l := (hB.block _ h.lt).trans h
theorem OF.cell {w : World} {g : Nat} {l : List Nat} (h : OF w g l) {i : Nat} (hi : i < l.length) : w.cell? ⟨g, i, none⟩ = some (.float .f64 (l.getD i 0)) := by
  rw [cell_of_row w g i _ _ _ h]
  exact fv_at l i hi
theorem OF.free {w : World} {g : Nat} {l : List Nat} (h : OF w g l) (i : Nat) : w.frozen? ⟨g, i, none⟩ = false := frozen_of_row w g _ _ _ h
theorem OF.set {w : World} {g : Nat} {l : List Nat} (h : OF w g l) (i x : Nat) : OF (w.setCell ⟨g, i, none⟩ (.float .f64 x)) g (l.set i x) := by
  have := heap_setCell_same w g i (fv l) 40 (.float .f64 x) h
  rw [fv_set] at this
  exact this
theorem run_store_float (P : Program) (w : World) (a : Addr) (m : Mode) (k : FloatKind) (n : Nat) : (store a (.float k n) m).run P w = stored P w a (.float k n) m := run_store P w a _ m rfl
attribute [local go_sem] run_store_float
theorem info_f64 : (Tryd.prog.info? 40).map (fun i => (i.zero, i.size, i.bytes)) = some (some (.float .f64 0), 1, 8) := by kernel_rfl
theorem run_make_f64 (w : World) (n : Nat) (hn : n ≤ 17592186044416) : (Instr.makeSlice 74 (.int .i64 (n : Int)) (.int .i64 (n : Int))).run Tryd.prog w = .ok (.slice (some ⟨w.heap.size, 0, none⟩) n n) (w.alloc (.cells (fv (List.replicate n 0)) 40)) := by
  obtain ⟨i0, hi, hz0, hz1, hz2⟩ := info_parts info_f64
  have hr := run_make (P := Tryd.prog) w 74 40 i0 _ Tryd.underlying74 hi hz0 .i64 .i64 n n (by omega) (Int.le_refl _) (by rw [hz2]; omega) (by omega)
  simp only [Int.toNat_natCast] at hr
  have e : madeCells (Value.float .f64 0).cells (n * i0.size) = fv (List.replicate n 0) := by
    unfold madeCells
    apply Array.ext_getElem?
    intro j
    rw [Array.getElem?_map, hz1]
    by_cases hj : j < n
    · rw [fv_at _ _ (by simpa using hj), Array.getElem?_range, if_pos (by omega)]
      simp [List.getD, hj, Nat.mod_one, Value.cells]
    · rw [Array.getElem?_range, if_neg (by omega)]
      rw [Array.getElem?_eq_none (by rw [fv_size, List.length_replicate]; omega)]
      rfl
  rw [e] at hr
  exact hr
def szB (x : Nat) : Bool := (FloatKind.f64.format.order x 0 == some .gt || FloatKind.f64.format.order x 0 == some .eq) && (FloatKind.f64.format.order x 4607182418800017408 == some .lt || FloatKind.f64.format.order x 4607182418800017408 == some .eq)
theorem szB_iff {x : Nat} (hx : x < 18446744073709551616) : szB x = true ↔ Sz x := by
  rw [sz_iff hx]
  unfold szB
  rw [Bool.and_eq_true, Bool.or_eq_true, Bool.or_eq_true]
  simp only [beq_iff_eq]
  exact Iff.rfl
def azB (l : List Nat) : Bool := l.all szB
theorem azB_take (l : List Nat) (k : Nat) (hk : k < l.length) (h : azB (l.take k) = true) (h1 : szB (l.getD k 0) = true) : azB (l.take (k + 1)) = true := by
  unfold azB at *
  rw [List.take_succ_eq_append_getElem hk, List.all_append, h]
  simpa [List.getD, List.getElem?_eq_getElem hk] using h1
theorem azB_false (l : List Nat) (k : Nat) (hk : k < l.length) (h1 : szB (l.getD k 0) = false) : azB l = false := by
  unfold azB
  rw [List.all_eq_false]
  refine ⟨l[k], List.getElem_mem hk, ?_⟩
  have e : l.getD k 0 = l[k] := by simp [List.getD, List.getElem?_eq_getElem hk]
  rw [← e, h1]
  decide
set_option maxRecDepth 100000 in
set_option maxHeartbeats 2000000 in
theorem areOdds_any (w : World) (v : Value) (l : List Nat) (hF : HF w v l) :
    Calls Tryd.prog 38 #[v] w fun e w' => e = .returned (.bool (azB l)) ∧ w' = w := by
  by_cases h0 : 0 < l.length
  · obtain ⟨b, off, c, rfl, hc1, hc2, hc⟩ := hF.ne h0
    unfold maxLen at hc2
    have HC := hid hc
    obtain ⟨n, HN⟩ : ∃ n, Hid (l.length = n) := ⟨_, rfl⟩
    rw [HN.out] at hc1 h0 ⊢
    clear hc hF
    go_enter Tryd.func38, Tryd.ntmps38
    go_wp2
    go_loopw [8] (fun x wr => ∃ k : Nat, k ≤ n ∧ x = .int .i64 k ∧ Hid (azB (l.take k) = true) ∧ Hid (wr = w)) (fun x _ => n - (intOf x).toNat)
    case atStart => exact ⟨0, Nat.zero_le _, rfl, hid rfl, rfl⟩
    case round =>
      obtain ⟨k, hk, rfl, HA, hwr⟩ := hrel
      have hwo := hwr.out
      rw [hwo]
      clear hwo hwr
      by_cases hkn : k < n
      · have hcell := HC.out k (by rw [HN.out]; exact hkn)
        obtain ⟨y, HY⟩ : ∃ y, Hid (l.getD k 0 = y) := ⟨_, rfl⟩
        rw [HY.out] at hcell
        cases hz : szB y with
        | true =>
          have HS : Hid (azB (l.take (k + 1)) = true) := hid (azB_take l k (by rw [HN.out]; exact hkn) HA.out (by rw [HY.out]; exact hz))
          have hz' := hz
          unfold szB at hz'
          rw [Bool.and_eq_true] at hz'
          obtain ⟨z1, z2⟩ := hz'
          clear hz
          go_wp2
          exact ⟨⟨k + 1, by omega, by go_num, HS, trivial⟩, by simp [intOf]; omega⟩
        | false =>
          have HS : Hid (azB l = false) := hid (azB_false l k (by rw [HN.out]; exact hkn) (by rw [HY.out]; exact hz))
          have hz' := hz
          unfold szB at hz'
          rw [Bool.and_eq_false_iff] at hz'
          clear hz
          rcases hz' with z1 | z2
          · go_wp2
            go_ret
            exact ⟨by rw [HS.out]; rfl, rfl⟩
          · cases z1 : (FloatKind.f64.format.order y 0 == some .gt || FloatKind.f64.format.order y 0 == some .eq) with
            | true =>
              go_wp2
              go_ret
              exact ⟨by rw [HS.out]; rfl, rfl⟩
            | false =>
              go_wp2
              go_ret
              exact ⟨by rw [HS.out]; rfl, rfl⟩
      · have HE : Hid (azB l = true) := by
          have := HA.out
          rw [List.take_of_length_le (by rw [HN.out]; omega)] at this
          exact this
        go_wp2
        go_ret
        exact ⟨by rw [HE.out]; rfl, rfl⟩
  · have e : l = [] := List.length_eq_zero_iff.1 (by omega)
    subst e
    obtain ⟨p, c, rfl, hc1, hc2⟩ := hF.open
    clear hF
    go_enter Tryd.func38, Tryd.ntmps38
    go_wp2
    go_loopw [8] (fun x wr => x = .int .i64 0 ∧ Hid (wr = w)) (fun x _ => 0)
    case atStart => exact ⟨rfl, rfl⟩
    case round =>
      obtain ⟨rfl, hwr⟩ := hrel
      have hwo := hwr.out
      rw [hwo]
      clear hwo hwr
      go_wp2
      go_ret
      exact ⟨rfl, rfl⟩
set_option maxRecDepth 100000 in
set_option maxHeartbeats 2000000 in
theorem newTally_any (w : World) (n : Nat) (hn : n < 17592186044416) :
    Calls Tryd.prog 39 #[.int .i64 (n : Int)] w fun e w' => e = .returned (.slice (some ⟨w.heap.size, 0, none⟩) (n + 1) (n + 1)) ∧ OF w' w.heap.size (ONE :: List.replicate n 0) ∧ Below w.heap.size w w' := by
  have hmk := run_make_f64 w (n + 1) (by omega)
  rw [show ((n + 1 : Nat) : Int) = (n : Int) + 1 by omega] at hmk
  obtain ⟨W1, HW1⟩ : ∃ W1, Hid (w.alloc (.cells (fv (List.replicate (n + 1) 0)) 40) = W1) := ⟨_, rfl⟩
  have HO1 : Hid (OF W1 w.heap.size (List.replicate (n + 1) 0)) := by rw [← HW1.out]; exact heap_alloc_new w _
  have HB1 : Hid (Below w.heap.size w W1) := by rw [← HW1.out]; exact (Below.refl _ w).alloc (Nat.le_refl _) _
  have hc0 := HO1.out.cell (i := 0) (by simp)
  have hf0 := HO1.out.free 0
  rw [HW1.out] at hmk
  go_enter Tryd.func39, Tryd.ntmps39
  go_wp2
  go_ret
  refine ⟨rfl, ?_, ?_⟩
  · have := HO1.out.set 0 ONE
    rw [List.replicate_succ, List.set_cons_zero] at this
    exact this
  · exact HB1.out.setCell (p := ⟨w.heap.size, 0, none⟩) (Nat.le_refl _) _
attribute [local go_sem] run_store_float
theorem run_mul {x y : Nat} (h : Ieee.double.mul x y = some (fm x y)) (w : World) (t : TypeId) : (binOp .mul t (.float .f64 x) (.float .f64 y)).run Tryd.prog w = .ok (.float .f64 (fm x y)) w := run_float_arith w .mul t .f64 x y _ h
theorem run_add {x y : Nat} (h : Ieee.double.add x y = some (fa x y)) (w : World) (t : TypeId) : (binOp .add t (.float .f64 x) (.float .f64 y)).run Tryd.prog w = .ok (.float .f64 (fa x y)) w := run_float_arith w .add t .f64 x y _ h
theorem run_sub1 {x : Nat} (h : Ieee.double.sub ONE x = some (fs x)) (w : World) (t : TypeId) : (binOp .sub t (.float .f64 4607182418800017408) (.float .f64 x)).run Tryd.prog w = .ok (.float .f64 (fs x)) w := run_float_arith w .sub t .f64 ONE x _ h
def mixL (c x : Nat) (p : List Nat) (k : Nat) : List Nat := (List.range p.length).map fun i => if k ≤ i then ent c x p i else p.getD i 0
theorem mixL_len (c x : Nat) (p : List Nat) (k : Nat) : (mixL c x p k).length = p.length := by simp [mixL]
theorem mixL_at (c x : Nat) (p : List Nat) (k i : Nat) (hi : i < p.length) : (mixL c x p k).getD i 0 = if k ≤ i then ent c x p i else p.getD i 0 := by
  unfold mixL
  rw [List.getD_eq_getElem?_getD, List.getElem?_map, List.getElem?_range hi]
  rfl
theorem mixL_top (c x : Nat) (p : List Nat) : mixL c x p p.length = p := by
  refine List.ext_getElem? fun i => ?_
  by_cases hi : i < p.length
  · unfold mixL
    rw [List.getElem?_map, List.getElem?_range hi, List.getElem?_eq_getElem hi]
    simp only [Option.map_some]
    rw [if_neg (by omega), List.getD_eq_getElem?_getD, List.getElem?_eq_getElem hi]
    rfl
  · rw [List.getElem?_eq_none (by rw [mixL_len]; omega), List.getElem?_eq_none (by omega)]
theorem mixL_end (c x : Nat) (p : List Nat) : mixL c x p 0 = rowOf c x p := by
  unfold mixL rowOf
  refine List.map_congr_left fun i _ => ?_
  rw [if_pos (Nat.zero_le _)]
theorem mixL_step (c x : Nat) (p : List Nat) (k : Nat) (hk : k < p.length) : (mixL c x p (k + 1)).set k (ent c x p k) = mixL c x p k := by
  refine List.ext_getElem? fun i => ?_
  rw [List.getElem?_set]
  by_cases hik : k = i
  · subst hik
    rw [if_pos rfl, if_pos (by rw [mixL_len]; exact hk)]
    unfold mixL
    rw [List.getElem?_map, List.getElem?_range hk]
    simp only [Option.map_some]
    rw [if_pos (Nat.le_refl _)]
  · rw [if_neg hik]
    unfold mixL
    rw [List.getElem?_map, List.getElem?_map]
    by_cases hij : i < p.length
    · rw [List.getElem?_range hij]
      simp only [Option.map_some]
      by_cases q : k ≤ i
      · rw [if_pos q, if_pos (by omega)]
      · rw [if_neg q, if_neg (by omega)]
    · rw [List.getElem?_eq_none (by simp; omega)]
      rfl
set_option maxRecDepth 100000 in
set_option maxHeartbeats 4000000 in
theorem countIn_any (w : World) (g : Nat) (p : List Nat) (c x : Nat) (hO : OF w g p) (hA : AllSm p) (hx : Sz x) (h1 : 1 ≤ c) (h2 : c ≤ p.length) (hl : p.length ≤ 17592186044417) {B : Nat} (hB : B ≤ g) :
    Calls Tryd.prog 40 #[.slice (some ⟨g, 0, none⟩) p.length p.length, .int .i64 (c : Int), .float .f64 x] w fun e w' => e = .returned (.tuple #[]) ∧ OF w' g (rowOf c x p) ∧ Below B w w' := by
  have hs := run_sub1 (fs_ok hx).1
  have HX := hid hx
  have HA := hid hA
  have HO := hid hO
  obtain ⟨n, HN⟩ : ∃ n, Hid (p.length = n) := ⟨_, rfl⟩
  rw [HN.out] at h2 hl ⊢
  obtain ⟨y, HY⟩ : ∃ y, Hid (fs x = y) := ⟨_, rfl⟩
  rw [HY.out] at hs
  clear hO hA hx
  go_enter Tryd.func40, Tryd.ntmps40
  go_wp2
  go_loopw [7] (fun v wr => ∃ k : Nat, c ≤ k ∧ k ≤ n ∧ v = .int .i64 ((k : Int) - 1) ∧ Hid (OF wr g (mixL c x p k)) ∧ Hid (Below B w wr)) (fun v _ => (intOf v + 1).toNat)
  case atStart => exact ⟨n, h2, Nat.le_refl _, rfl, by rw [← HN.out, mixL_top]; exact HO, hid (Below.refl _ _)⟩
  case round =>
    obtain ⟨k, hk1, hk2, rfl, HOr, HBr⟩ := hrel
    by_cases hlt : c < k
    · obtain ⟨j, rfl⟩ : ∃ j, k = j + 1 := ⟨k - 1, by omega⟩
      obtain ⟨d, rfl⟩ : ∃ d, j = d + c := ⟨j - c, by omega⟩
      have hc1 := HOr.out.cell (i := d + c) (by rw [mixL_len, HN.out]; omega)
      have hc2 := HOr.out.cell (i := d) (by rw [mixL_len, HN.out]; omega)
      have hf := HOr.out.free (d + c)
      rw [mixL_at _ _ _ _ _ (by rw [HN.out]; omega), if_neg (by omega)] at hc1 hc2
      have HE : Hid (ent c x p (d + c) = fa (fm (p.getD (d + c) 0) y) (fm (p.getD d 0) x)) := hid (by
        unfold ent
        rw [if_pos (by omega), Nat.add_sub_cancel, HY.out])
      obtain ⟨s1, s2, s3, s4⟩ := step_ok (HA.out.getD (d + c)) (HA.out.getD d) HX.out
      rw [HY.out] at s1 s3 s4
      obtain ⟨a, HQ1⟩ : ∃ a, Hid (p.getD (d + c) 0 = a) := ⟨_, rfl⟩
      obtain ⟨b, HQ2⟩ : ∃ b, Hid (p.getD d 0 = b) := ⟨_, rfl⟩
      rw [HQ1.out] at hc1 s1 s3 s4 HE
      rw [HQ2.out] at hc2 s2 s3 s4 HE
      have m1 := run_mul s1
      have m2 := run_mul s2
      have m3 := run_add s3
      generalize fm a y = u1 at m1 m3 HE
      generalize fm b x = u2 at m2 m3 HE
      generalize fa u1 u2 = u3 at m3 HE
      have HO2 := HOr.out.set (d + c) u3
      rw [← HE.out, mixL_step c x p (d + c) (by rw [HN.out]; omega)] at HO2
      have HO3 := hid HO2
      have BL3 := hid (below_drew (HBr.out.setCell (p := ⟨g, d + c, none⟩) hB (.float .f64 u3)))
      rw [HE.out] at HO3
      clear s1 s2 s3 s4 HO2 HE
      have e1 : ((d + c + 1 : Nat) : Int) - 1 = ((d + c : Nat) : Int) := by omega
      rw [e1]
      go_wp2_with fail
      go_region
      go_wp2
      exact ⟨⟨d + c, by omega, by omega, by go_num, HO3, BL3⟩, by simp [intOf]; omega⟩
    · obtain rfl : k = c := by omega
      go_wp2
      go_loopw [8] (fun v wq => ∃ j : Nat, j ≤ k ∧ v = .int .i64 ((j : Int) - 1) ∧ Hid (OF wq g (mixL k x p j)) ∧ Hid (Below B w wq)) (fun v _ => (intOf v + 1).toNat)
      case atStart => exact ⟨k, Nat.le_refl _, rfl, HOr, HBr⟩
      case round =>
        clear HOr HBr
        obtain ⟨j, hj, rfl, HOr, HBr⟩ := hrel
        by_cases hj0 : 0 < j
        · obtain ⟨i, rfl⟩ : ∃ i, j = i + 1 := ⟨j - 1, by omega⟩
          have hc1 := HOr.out.cell (i := i) (by rw [mixL_len, HN.out]; omega)
          have hf := HOr.out.free i
          rw [mixL_at _ _ _ _ _ (by rw [HN.out]; omega), if_neg (by omega)] at hc1
          have HE : Hid (ent k x p i = fm (p.getD i 0) y) := hid (by
            unfold ent
            rw [if_neg (by omega), HY.out])
          obtain ⟨s1, s2⟩ := fm_ok (HA.out.getD i) (fs_ok HX.out).2
          rw [HY.out] at s1 s2
          obtain ⟨a, HQ1⟩ : ∃ a, Hid (p.getD i 0 = a) := ⟨_, rfl⟩
          rw [HQ1.out] at hc1 s1 s2 HE
          have m1 := run_mul s1
          generalize fm a y = u1 at m1 HE
          have HO2 := HOr.out.set i u1
          rw [← HE.out, mixL_step k x p i (by rw [HN.out]; omega)] at HO2
          have HO3 := hid HO2
          have BL3 := hid (HBr.out.setCell (p := ⟨g, i, none⟩) hB (.float .f64 u1))
          rw [HE.out] at HO3
          clear s1 s2 HO2 HE
          have e1 : ((i + 1 : Nat) : Int) - 1 = (i : Int) := by omega
          rw [e1]
          go_wp2
          exact ⟨⟨i, by omega, by go_num, HO3, BL3⟩, by simp [intOf]⟩
        · obtain rfl : j = 0 := by omega
          have HO3 := HOr.out
          rw [mixL_end] at HO3
          have HO4 := hid HO3
          clear HO3
          go_wp2
          go_end0
          exact ⟨rfl, HO4.out, HBr.out⟩
set_option maxRecDepth 100000 in
set_option maxHeartbeats 4000000 in
theorem atLeast_any (w : World) (g : Nat) (p : List Nat) (k : Int) (hO : OF w g p) (hA : AllSm p) (h2 : 1 ≤ p.length) (hl : p.length ≤ 17592186044417) :
    Calls Tryd.prog 41 #[.slice (some ⟨g, 0, none⟩) p.length p.length, .int .i64 k] w fun e w' => e = .returned (.float .f64 (tot k.toNat p)) ∧ w' = w := by
  have HA := hid hA
  have HO := hid hO
  obtain ⟨n, HN⟩ : ∃ n, Hid (p.length = n) := ⟨_, rfl⟩
  rw [HN.out] at h2 hl ⊢
  obtain ⟨m, HM⟩ : ∃ m : Nat, Hid (k.toNat = m) := ⟨_, rfl⟩
  rw [HM.out]
  clear hO hA
  have hmx : max k 0 = (m : Int) := by have := HM.out; omega
  have HMX := hid hmx
  clear hmx
  go_enter Tryd.func41, Tryd.ntmps41
  go_wp2
  go_loopw [5, 6] (fun s v wr => ∃ j : Nat, j ≤ n ∧ v = .int .i64 ((j : Int) - 1) ∧ Hid (m ≤ j ∨ j = n) ∧ s = .float .f64 (tot j p) ∧ Hid (wr = w)) (fun _ v _ => (intOf v + 1).toNat)
  case atStart => exact ⟨n, Nat.le_refl _, rfl, hid (.inr rfl), by rw [← HN.out, tot_end (Nat.le_refl _)], rfl⟩
  case round =>
    obtain ⟨j, hj, rfl, HJ, rfl, hwr⟩ := hrel
    have hwo := hwr.out
    rw [hwo]
    clear hwo hwr
    by_cases hmj : m < j
    · obtain ⟨i, rfl⟩ : ∃ i, j = i + 1 := ⟨j - 1, by omega⟩
      have hc1 := HO.out.cell (i := i) (by rw [HN.out]; omega)
      obtain ⟨s1, s2⟩ := sum_ok (tot_sm (i + 1) p HA.out) (HA.out.getD i)
      have HT : Hid (tot i p = fa (tot (i + 1) p) (p.getD i 0)) := hid (tot_at (by rw [HN.out]; omega))
      obtain ⟨a, HQ1⟩ : ∃ a, Hid (p.getD i 0 = a) := ⟨_, rfl⟩
      rw [HQ1.out] at hc1 s1 s2 HT
      generalize tot (i + 1) p = q at s1 s2 HT
      have m1 := run_add s1
      rw [← HT.out] at m1
      clear s1 s2 HT
      obtain ⟨r, HR⟩ : ∃ r, Hid (tot i p = r) := ⟨_, rfl⟩
      rw [HR.out] at m1
      have e1 : ((i + 1 : Nat) : Int) - 1 = (i : Int) := by omega
      rw [e1]
      have hcmp : ¬ ((i : Int) < max k 0) := by have := HMX.out; omega
      go_wp2
      all_goals exact ⟨⟨i, by omega, rfl, hid (.inl (by omega)), by rw [HR.out], trivial⟩, by simp [intOf]⟩
    · have HE : Hid (tot j p = tot m p) := by
        rcases HJ.out with q | q
        · rw [show j = m by omega]; exact rfl
        · by_cases z : j = m
          · rw [z]; exact rfl
          · rw [tot_end (by rw [HN.out]; omega), tot_end (by rw [HN.out]; omega)]; exact rfl
      have hcmp : ((j : Int) - 1) < max k 0 := by have := HMX.out; omega
      go_wp2
      all_goals (
        go_ret
        exact ⟨by rw [← HE.out]; rfl, rfl⟩)
set_option maxRecDepth 100000 in
set_option maxHeartbeats 4000000 in
theorem odds_any (w : World) (v : Value) (l : List Nat) (k : Int) (hF : HF w v l) (hl : l.length < 17592186044416) :
    Calls Tryd.prog 16 #[v, .int .i64 k] w fun e w' => e = .returned (.tuple #[.float .f64 (if azB l = true then tot k.toNat (tab l.length (l.map fun x => (1, x))) else 0), .int .i64 (if azB l = true then 0 else 231)]) ∧ Below w.heap.size w w' := by
  have CA := areOdds_any w v l hF
  obtain ⟨p, c, rfl, hc1, hc2⟩ := hF.open
  unfold maxLen at hc2
  cases hz : azB l with
  | false =>
    rw [hz] at CA
    have CX := hid CA
    clear CA hF
    rw [if_neg (by decide), if_neg (by decide)]
    obtain ⟨n, HN⟩ : ∃ n, Hid (l.length = n) := ⟨_, rfl⟩
    rw [HN.out] at CX hc1 ⊢
    go_enter Tryd.func16, Tryd.ntmps16
    go_wp2_with fail
    refine CX.out.mono ?_
    rintro e W2 ⟨rfl, hw2⟩
    rw [hw2]
    clear hw2
    go_wp2
    go_ret2
    exact ⟨rfl, Below.refl _ _⟩
  | true =>
    rw [hz] at CA
    have CX := hid CA
    have HZ : Hid (∀ x ∈ l, Sz x) := fun x hx => (szB_iff (hF.2 x hx)).1 (List.all_eq_true.1 hz x hx)
    have HFH := hid hF
    clear CA hF hz
    rw [if_pos rfl, if_pos rfl]
    obtain ⟨n, HN⟩ : ∃ n, Hid (l.length = n) := ⟨_, rfl⟩
    rw [HN.out] at CX hc1 hl HFH ⊢
    have CT := hid (newTally_any w n hl)
    go_enter Tryd.func16, Tryd.ntmps16
    go_wp2_with fail
    refine CX.out.mono ?_
    rintro e W2 ⟨rfl, hw2⟩
    rw [hw2]
    clear hw2
    go_wp2_with fail
    refine CT.out.mono ?_
    rintro e W3 ⟨rfl, hO3, hB3⟩
    have HO3 := hid hO3
    have HB3 := hid hB3
    clear hO3 hB3 CX CT
    go_wp2
    go_loopw [17] (fun v wr => ∃ i : Nat, i ≤ n ∧ v = .int .i64 (i : Int) ∧ Hid (OF wr w.heap.size (tab n ((l.take i).map fun x => (1, x)))) ∧ Hid (Below w.heap.size w wr)) (fun v _ => n - (intOf v).toNat)
    case atStart => exact ⟨0, Nat.zero_le _, rfl, HO3, HB3⟩
    case round =>
      clear HO3 HB3
      obtain ⟨i, hi, rfl, HOr, HBr⟩ := hrel
      by_cases hin : i < n
      · obtain ⟨b, off, c', ev, hq1, hq2, hcl⟩ := HFH.out.ne (by rw [HN.out]; omega)
        simp only [Value.slice.injEq] at ev
        obtain ⟨rfl, e2, rfl⟩ := ev
        have hcell := (HBr.out.cell (World.block_lt_of_cell? w _ (hcl i (by rw [HN.out]; exact hin)))).trans (hcl i (by rw [HN.out]; exact hin))
        obtain ⟨x, HX⟩ : ∃ x, Hid (l.getD i 0 = x) := ⟨_, rfl⟩
        rw [HX.out] at hcell
        have hxl : x ∈ l := by
          rw [← HX.out, List.getD_eq_getElem?_getD, List.getElem?_eq_getElem (by rw [HN.out]; exact hin)]
          exact List.getElem_mem _
        have HS : Hid (rowOf 1 x (tab n ((l.take i).map fun x => (1, x))) = tab n ((l.take (i + 1)).map fun x => (1, x))) := hid (by
          rw [List.take_succ_eq_append_getElem (by rw [HN.out]; exact hin), List.map_append]
          unfold tab
          rw [List.foldl_append]
          have : l[i]'(by rw [HN.out]; exact hin) = x := by
            rw [← HX.out, List.getD_eq_getElem?_getD, List.getElem?_eq_getElem (by rw [HN.out]; exact hin)]
            rfl
          rw [this]
          rfl)
        have CC := countIn_any wr w.heap.size _ 1 x HOr.out (tab_sm n _ (fun e he => by
          obtain ⟨z, hz, rfl⟩ := List.mem_map.1 he
          exact HZ.out z (List.mem_of_mem_take hz))) (HZ.out x hxl) (Nat.le_refl _) (by rw [tab_len]; omega) (by rw [tab_len]; omega) (B := w.heap.size) (Nat.le_refl _)
        rw [HS.out, tab_len] at CC
        have CX := hid CC
        clear CC hcl e2 hq1 hq2 hxl HS
        go_wp2_with fail
        refine CX.out.mono ?_
        rintro e W4 ⟨rfl, hO4, hB4⟩
        have HO4 := hid hO4
        have HB4 := hid (HBr.out.trans hB4)
        clear hO4 hB4 CX
        go_wp2
        exact ⟨⟨i + 1, by omega, by go_num, HO4, HB4⟩, by simp [intOf]; omega⟩
      · obtain rfl : i = n := by omega
        have CL := atLeast_any wr w.heap.size _ k HOr.out (tab_sm i _ (fun e he => by
          obtain ⟨z, hz, rfl⟩ := List.mem_map.1 he
          exact HZ.out z (List.mem_of_mem_take hz))) (by rw [tab_len]; omega) (by rw [tab_len]; omega)
        rw [tab_len, List.take_of_length_le (by rw [HN.out]; exact Nat.le_refl _)] at CL
        have CX := hid CL
        clear CL
        go_wp2_with fail
        refine CX.out.mono ?_
        rintro e W4 ⟨rfl, hw4⟩
        rw [hw4]
        clear hw4 CX
        go_wp2
        go_ret2
        exact ⟨rfl, HBr.out⟩
end Go.Proofs.YtlhjpflljokinaaDoor.Hz
