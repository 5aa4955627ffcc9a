/- New of proof, walked. -/
import Derived.Test.YtjmlpkemjafifaaDoorGrPfB
import Derived.Test.YtjmlpkemjafifaaDoorTrWid
import Derived.Test.YtjmlpkemjafifaaDoorTgPad
set_option linter.unusedVariables false
set_option linter.unusedSimpArgs false
namespace Go.Proofs.YtjmlpkemjafifaaDoor
open Go.RowKit

/-- What a new proof knows behind some of the pads. -/
def newK (L W : Nat) (root : List Int) (k : Nat) : Kn := fun x => if x = 1 then Option.some root else if W + L ≤ x ∧ x < W + k then Option.some (pdL (x - W)) else none
theorem newK_first (L W : Nat) (root : List Int) : newK L W root L = kset (fun _ => none) 1 root := by
  funext x
  unfold newK kset
  dsimp only
  by_cases e : x = 1
  · rw [if_pos e, if_pos e]
  · rw [if_neg e, if_neg e, if_neg (by omega)]
theorem newK_step (L W : Nat) (root : List Int) (k : Nat) (h : L ≤ k) (h1 : 1 ≤ L) (h2 : 1 ≤ W) : kset (newK L W root k) (W + k) (pdL k) = newK L W root (k + 1) := by
  funext x
  unfold newK kset
  dsimp only
  by_cases e : x = W + k
  · subst e
    rw [if_pos rfl, if_neg (by omega), if_pos (by omega), Nat.add_sub_cancel_left]
  · rw [if_neg e]
    by_cases e1 : x = 1
    · rw [if_pos e1, if_pos e1]
    · rw [if_neg e1, if_neg e1]
      by_cases q : W + L ≤ x ∧ x < W + k
      · rw [if_pos q, if_pos (by omega)]
      · rw [if_neg q, if_neg (by omega)]
theorem newK_none (L W : Nat) (root : List Int) (k : Nat) (h1 : 1 ≤ L) (h2 : 1 ≤ W) (h : L ≤ k) : newK L W root k (W + k) = none := by
  unfold newK
  rw [if_neg (by omega), if_neg (by omega)]
theorem newK_last (L W : Nat) (root : List Int) : newK L W root W = new0 L W root := by
  funext x
  unfold newK new0
  rw [show W + W = 2 * W by omega]
/-- What New answers. -/
def NewQ (w : World) (n : Int) (root : List Int) (e : Ending) (w' : World) : Prop :=
  (¬ (1 ≤ n ∧ n ≤ 512) ∧ e = .returned (.tuple #[.pointer none, .int .i64 110]) ∧ Below w.heap.size w w') ∨
  (∃ L g b : Nat, n = (L : Int) ∧ 1 ≤ L ∧ L ≤ 512 ∧ e = .returned (.tuple #[.pointer (some ⟨g, 0, none⟩), .int .i64 0]) ∧ w.heap.size ≤ g ∧ w.heap.size ≤ b ∧ HPf w' g b L (wdN L) (newF L (wdN L) root) ∧ Below w.heap.size w w')
set_option maxRecDepth 100000 in
set_option maxHeartbeats 4000000 in
theorem pnew_bad (w : World) (n : Int) (root : List Int) (hd : D32 root) (hn : ¬ (1 ≤ n ∧ n ≤ 512)) :
    Calls Tryd.prog 22 #[.int .i64 n, .agg (cellsB root)] w fun e w' => NewQ w n root e w' := by
  obtain ⟨cd, HCD⟩ : ∃ c, Hid (cellsB root = c) := ⟨_, rfl⟩
  obtain ⟨W0, hW0⟩ : ∃ W0, Hid (w.alloc (.cells cd 28) = W0) := ⟨_, rfl⟩
  have HB0 : Hid (Below w.heap.size w W0) := by rw [← hW0.out]; exact (Below.refl _ w).alloc (Nat.le_refl _) _
  have CW := hid (width_bad W0 n (by omega))
  have HN := hid hn
  rw [HCD.out]
  clear hn
  go_enter Tryd.func22, Tryd.ntmps22
  go_wp2_with fail
  rw [hW0.out]
  refine CW.out.mono ?_
  rintro e w1 ⟨rfl, rfl⟩
  go_wp2
  go_ret2
  exact Or.inl ⟨HN.out, rfl, HB0.out⟩
set_option maxRecDepth 100000 in
set_option maxHeartbeats 8000000 in
theorem pnew_ok (w : World) (L : Nat) (root : List Int) (hd : D32 root) (h1 : 1 ≤ L) (h2 : L ≤ 512) (hkc : KC w) :
    Calls Tryd.prog 22 #[.int .i64 (L : Int), .agg (cellsB root)] w fun e w' => NewQ w (L : Int) root e w' := by
  obtain ⟨cd, HCD⟩ : ∃ c, Hid (cellsB root = c) := ⟨_, rfl⟩
  obtain ⟨W0, hW0⟩ : ∃ W0, Hid (w.alloc (.cells cd 28) = W0) := ⟨_, rfl⟩
  have HB0 : Hid (Below w.heap.size w W0) := by rw [← hW0.out]; exact (Below.refl _ w).alloc (Nat.le_refl _) _
  have HR0 : Hid (W0.heap[w.heap.size]? = some (.cells cd 28 (0, 0))) := by rw [← hW0.out]; exact heap_alloc_new w _
  have CW := hid (width_ok W0 L h1 h2)
  have hWg := wdN_ge L h2
  have hWl := wdN_le L
  obtain ⟨W, HWD⟩ : ∃ W, Hid (wdN L = W) := ⟨_, rfl⟩
  rw [HWD.out] at CW hWg hWl
  obtain ⟨hW5, hW1⟩ := hWl
  have HKC := hid hkc
  have HD := hid hd
  have hcs : cd.size = 32 := by rw [← HCD.out, cellsB_size, hd.1]
  have SD : Hid ((Tryd.prog.info? 28).map (·.size) = some cd.size) := by rw [hcs]; exact size_digest
  rw [HCD.out]
  clear hkc hd hcs
  go_enter Tryd.func22, Tryd.ntmps22
  go_wp2_with fail
  rw [hW0.out]
  refine CW.out.mono ?_
  rintro e w1 ⟨rfl, hB1⟩
  have BL1 := hid (HB0.out.trans (hB1.mono HB0.out.size))
  have HR1 : Hid (w1.heap[w.heap.size]? = some (.cells cd 28 (0, 0))) := (hB1.block _ (Array.getElem?_eq_some_iff.1 HR0.out).1).trans HR0.out
  clear hB1 CW
  obtain ⟨w2, hst, hM2, hG2, hz2⟩ := run_store_new (HMp.made w1) (k := 1) HD.out rfl
  rw [HCD.out, show ((1 : Nat) : Int) = (1 : Int) from rfl] at hst
  have HM2 := hid hM2
  have HG2 := hid hG2
  obtain ⟨b, HB⟩ : ∃ b, Hid (w1.heap.size = b) := ⟨_, rfl⟩
  have hmm := run_makeMap (P := Tryd.prog) 61 w1
  rw [HB.out] at hst hmm HM2 HG2
  have HR1' : Hid ((w1.alloc (.map #[] 0)).heap[w.heap.size]? = some (.cells cd 28 (0, 0))) := by
    rw [heap_alloc_old _ _ (Array.getElem?_eq_some_iff.1 HR1.out).1]; exact HR1
  obtain ⟨W1, hW1'⟩ : ∃ W1, w1.alloc (.map #[] 0) = W1 := ⟨_, rfl⟩
  rw [hW1'] at hst hmm HG2 HR1'
  have hz2' : Hid (w2.heap.size = b + 1) := by rw [hz2, ← HB.out]; refine hid ?_; simp
  obtain ⟨g, HG⟩ : ∃ g, Hid (w2.heap.size = g) := ⟨_, rfl⟩
  have hbg : b < g := by have := hz2'.out; have := HG.out; omega
  obtain ⟨W3, hW3⟩ : ∃ W3, Hid (w2.alloc (.cells #[.int .i64 (L : Int), .int .i64 (W : Int), .map (some b)] 63) = W3) := ⟨_, rfl⟩
  have HP3 : Hid (HPf W3 g b L W (newK L W root L)) := by
    rw [← hW3.out, ← HG.out, newK_first]
    refine hid ⟨heap_alloc_new w2 _, HM2.out.of ?_⟩
    rw [heap_alloc_old _ _ HM2.out.lt]
  have hwb : w.heap.size < b := by have := (Array.getElem?_eq_some_iff.1 HR1.out).1; have := HB.out; omega
  have BL3 : Hid (Below w.heap.size w W3) := by
    rw [← hW3.out]
    have q1 : Below w.heap.size w W1 := by rw [← hW1']; exact BL1.out.alloc (by rw [HB.out]; omega) _
    have q2 : Below w.heap.size W1 w2 := ⟨HG2.out.os, HG2.out.tape, HG2.out.output, HG2.out.size, fun k hk => HG2.out.block k (by have := q1.size; omega) (fun e => by cases e; omega)⟩
    exact (q1.trans q2).alloc (by rw [HG.out]; omega) _
  clear hM2 hG2 hz2
  go_wp2_with (refine wpList_load_row rfl 28 _ rfl w.heap.size rfl 28 cd (0, 0) _ HR1'.out Tryd.underlying28 rfl SD.out ?_)
  rw [HG.out, hW3.out]
  clear hst hmm hW1'
  go_loopw [9] (fun i wr => ∃ k : Nat, L ≤ k ∧ k ≤ W ∧ i = .int .i64 k ∧ Hid (HPf wr g b L W (newK L W root k)) ∧ Hid (Below w.heap.size w wr)) (fun i _ => W - (intOf i).toNat)
  case atStart => exact ⟨L, Nat.le_refl _, hWg, rfl, HP3, BL3⟩
  case round =>
    clear HP3 BL3
    obtain ⟨k, hk1, hk2, rfl, HP, HBel⟩ := hrel
    have hsz := HBel.out.size
    by_cases hlt : k < W
    · have ew : IntKind.i64.wrap ((W : Int) + (k : Int)) = (W : Int) + (k : Int) := by rw [IntKind.wrap_i64]; omega
      have ew32 : IntKind.u32.wrap (k : Int) = (k : Int) := by rw [IntKind.wrap_u32]; omega
      have CP := hid (fun (w' : World) (h : Below w.heap.size w w') => tpad_any w' k (by omega) (HKC.out.below h))
      go_wp2
      refine wp_region_held_drew (S := fun W' => W'.cell? ⟨g, 2, none⟩ = some (.map (some b))) (by kernel_rfl) HP.out.c2 (fun hHeld => ?_)
      have HS := hid hHeld
      clear hHeld
      change wpAnyH _ _ _ _ _ _ _ _ (World.drew _)
      refine wpAnyH_take (i := 0) (v := ?_) rfl (by kernel_rfl) (by kernel_rfl) (by kernel_rfl) (fun _ _ _ h => h) (Or.inl ⟨by rfl, ?q0⟩) HS.out ?_
      case q0 => intro w hSw; have s1 : w.cell? ⟨g, 2, none⟩ = some (.map (some b)) := hSw; go_simp; rfl
      simp only [Act.put, List.getElem_toArray, List.getElem_cons_zero, List.getElem_cons_succ, List.setIfInBounds_toArray, List.set_cons_zero, List.set_cons_succ]
      refine wpAnyH_take (i := 1) (v := ?_) rfl (by kernel_rfl) (by kernel_rfl) (by kernel_rfl) (fun _ _ _ h => h) (Or.inl ⟨by rfl, ?q1⟩) HS.out ?_
      case q1 => intro w hSw; have s1 : w.cell? ⟨g, 2, none⟩ = some (.map (some b)) := hSw; go_simp; rfl
      simp only [Act.put, List.getElem_toArray, List.getElem_cons_zero, List.getElem_cons_succ, List.setIfInBounds_toArray, List.set_cons_zero, List.set_cons_succ]
      refine wpAnyH_take (i := 2) (v := ?_) rfl (by kernel_rfl) (by kernel_rfl) (by kernel_rfl) (fun _ _ _ h => h) (Or.inl ⟨by rfl, ?q2⟩) HS.out ?_
      case q2 => intro w hSw; have s1 : w.cell? ⟨g, 2, none⟩ = some (.map (some b)) := hSw; go_simp; rfl
      simp only [Act.put, List.getElem_toArray, List.getElem_cons_zero, List.getElem_cons_succ, List.setIfInBounds_toArray, List.set_cons_zero, List.set_cons_succ]
      refine wpAnyH_take (i := 3) (v := .map (some b)) rfl (by kernel_rfl) (by kernel_rfl) (by kernel_rfl) (fun _ _ _ h => h) (Or.inl ⟨by rfl, ?q3⟩) HS.out ?_
      case q3 => intro w hSw; have s1 : w.cell? ⟨g, 2, none⟩ = some (.map (some b)) := hSw; go_simp
      simp only [Act.put, List.getElem_toArray, List.getElem_cons_zero, List.getElem_cons_succ, List.setIfInBounds_toArray, List.set_cons_zero, List.set_cons_succ]
      refine wpAnyH_take (i := 4) (v := ?_) rfl (by kernel_rfl) (by kernel_rfl) (by kernel_rfl) (fun _ _ _ h => h) (Or.inl ⟨by rfl, ?q4⟩) HS.out ?_
      case q4 => intro w hSw; have s1 : w.cell? ⟨g, 2, none⟩ = some (.map (some b)) := hSw; go_simp; rfl
      simp only [Act.put, List.getElem_toArray, List.getElem_cons_zero, List.getElem_cons_succ, List.setIfInBounds_toArray, List.set_cons_zero, List.set_cons_succ]
      refine wpAnyH_take (i := 5) (v := ?_) rfl (by kernel_rfl) (by kernel_rfl) (by kernel_rfl) (fun _ _ _ h => h) (Or.inl ⟨by rfl, ?q5⟩) HS.out ?_
      case q5 => intro w hSw; have s1 : w.cell? ⟨g, 2, none⟩ = some (.map (some b)) := hSw; go_simp; rfl
      simp only [Act.put, List.getElem_toArray, List.getElem_cons_zero, List.getElem_cons_succ, List.setIfInBounds_toArray, List.set_cons_zero, List.set_cons_succ]
      refine wpAnyH_take (i := 6) (v := .int .i64 ((W : Int) + (k : Int))) rfl (by kernel_rfl) (by kernel_rfl) (by kernel_rfl) (fun _ _ _ h => h) (Or.inl ⟨by rfl, ?q6⟩) HS.out ?_
      case q6 => intro w hSw; have s1 : w.cell? ⟨g, 2, none⟩ = some (.map (some b)) := hSw; go_simp
      simp only [Act.put, List.getElem_toArray, List.getElem_cons_zero, List.getElem_cons_succ, List.setIfInBounds_toArray, List.set_cons_zero, List.set_cons_succ]
      refine wpAnyH_take (i := 7) (v := ?_) rfl (by kernel_rfl) (by kernel_rfl) (by kernel_rfl) (fun _ _ _ h => h) (Or.inl ⟨by rfl, ?q7⟩) HS.out ?_
      case q7 => intro w hSw; have s1 : w.cell? ⟨g, 2, none⟩ = some (.map (some b)) := hSw; go_simp; rfl
      simp only [Act.put, List.getElem_toArray, List.getElem_cons_zero, List.getElem_cons_succ, List.setIfInBounds_toArray, List.set_cons_zero, List.set_cons_succ]
      refine wpAnyH_take (i := 8) (v := .int .u32 (k : Int)) rfl (by kernel_rfl) (by kernel_rfl) (by kernel_rfl) (fun _ _ _ h => h) (Or.inl ⟨by rfl, ?q8⟩) HS.out ?_
      case q8 => intro w hSw; have s1 : w.cell? ⟨g, 2, none⟩ = some (.map (some b)) := hSw; go_simp
      simp only [Act.put, List.getElem_toArray, List.getElem_cons_zero, List.getElem_cons_succ, List.setIfInBounds_toArray, List.set_cons_zero, List.set_cons_succ]
      refine wpAnyH_ready (rs := [9]) (by kernel_rfl) (by simp) ?_
      refine AllReadyH.cons rfl (fun K hK => ?_) AllReadyH.nil
      go_simp
      refine (CP.out _ HBel.out.drew).mono ?_
      rintro e w5 ⟨rfl, hB5⟩
      have HP5 := hid ((show HPf wr.drew g b L W (newK L W root k) from HP.out.of rfl rfl).below hB5)
      have BL5 := hid (HBel.out.drew.trans (hB5.mono hsz))
      clear hB5
      refine hK.out _ _ HP5.out.c2 (fun _ => ?_)
      clear hK K
      clear HS
      obtain ⟨w6, hst, hM6, hG6, hz6⟩ := run_store_new HP5.out.2 (k := W + k) (pdL_D k) (newK_none L W root k h1 hW1 hk1)
      rw [show ((W + k : Nat) : Int) = (W : Int) + (k : Int) by omega] at hst
      refine wpAnyH_ready (rs := [10]) (by kernel_rfl) (by simp) ?_
      refine AllReadyH.cons rfl (fun K hK => ?_) AllReadyH.nil
      go_simp
      have HP6 : Hid (HPf w6 g b L W (newK L W root (k + 1))) := ⟨(hG6.block g HP5.out.lt (fun e => by cases e; omega)).trans HP5.out.1, by rw [← newK_step L W root k hk1 h1 hW1]; exact hM6⟩
      have BL6 : Hid (Below w.heap.size w w6) := BL5.out.trans ⟨hG6.os, hG6.tape, hG6.output, hG6.size, fun q hq => hG6.block q (by have := BL5.out.size; omega) (fun e => by cases e; omega)⟩
      refine hK.out _ _ HP6.out.c2 (fun _ => ?_)
      clear hK K
      refine wpAnyH_done (by kernel_rfl) ?_ _
      clear hst hM6 hG6 hz6
      go_wp2
      exact ⟨⟨k + 1, by omega, by omega, by go_num, HP6, BL6⟩, by simp [intOf]; omega⟩
    · have hkW : k = W := by omega
      subst hkW
      have HP' : Hid (HPf wr g b L k (new0 L k root)) := by rw [← newK_last]; exact HP
      have CN := hid (none_any wr g b L k _ HP'.out hW5)
      clear HP
      go_wp2_with fail
      refine CN.out.mono ?_
      rintro e w5 ⟨rfl, hI5, hB5, _⟩
      have HP5 := hid (HP'.out.below hB5)
      have BL5 := hid (HBel.out.trans (hB5.mono hsz))
      have CR := hid (rise_any w5 g b L k wr.heap.size ⟨new0 L k root, emptyI⟩ HP5.out hI5 hW5 hW1 (HKC.out.below BL5.out))
      clear hI5 hB5 CN
      go_wp2_with fail
      refine CR.out.mono ?_
      rintro e w6 ⟨rfl, hP6, hI6, hG6⟩
      have HP6 := hid hP6
      have BL6 : Hid (Below w.heap.size w w6) := BL5.out.trans (hG6.below (by omega) (by omega) BL5.out.size)
      clear hP6 hI6 hG6 CR
      go_wp2
      go_ret2
      exact Or.inr ⟨L, g, b, rfl, h1, h2, rfl, by omega, by omega, by rw [HWD.out]; exact HP6.out, BL6.out⟩
theorem pnew_any (w : World) (n : Int) (root : List Int) (hd : D32 root) (hkc : KC w) :
    Calls Tryd.prog 22 #[.int .i64 n, .agg (cellsB root)] w fun e w' => NewQ w n root e w' := by
  by_cases h : 1 ≤ n ∧ n ≤ 512
  · obtain ⟨L, rfl⟩ := Int.eq_ofNat_of_zero_le (show 0 ≤ n by omega)
    exact pnew_ok w L root hd (by omega) (by omega) hkc
  · exact pnew_bad w n root hd h
end Go.Proofs.YtjmlpkemjafifaaDoor
