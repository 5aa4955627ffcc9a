/- shaped and Again of cut, and Check of ueb, walked. -/
import Derived.Test.YtfaojnnpekpomaaDoorCutLeaf
import Derived.Laws.Rows
import Derived.RegionTactic
import Derived.Deep.RegionHeld
import Derived.Deep.MidRow
set_option linter.unusedSimpArgs false
set_option linter.unusedVariables false
namespace Go.Proofs.YtfaojnnpekpomaaDoor
open Go Go.RowKit

def ShS (w W : World) : Prop := Below w.heap.size w W ∧ ∃ cs, W.heap[w.heap.size]? = some (.cells cs 24 (0, 0)) ∧ cs.size = 8
theorem bel_setRow {B : Nat} {w W : World} {g : Nat} (h : Below B w W) (hg : B ≤ g) (cs : Array Value) : Below B w (W.setRow g cs) := ⟨h.os, h.tape, h.output, by simp [World.setRow]; exact h.size, fun k hk => by rw [← h.block k hk]; simp [World.setRow, Array.getElem?_modify, show g ≠ k by omega]⟩
def shA (l : List Int) : Array Value := (l.map (Value.int .i64)).toArray
theorem size_shape : (Tryd.prog.info? 24).map (·.size) = some 8 := by kernel_rfl
theorem zero_shape : (Tryd.prog.info? 24).map (·.zero) = some (some (.agg (shA sh0))) := by kernel_rfl
set_option maxRecDepth 100000 in
set_option maxHeartbeats 4000000 in
theorem shapedH_any (w : World) (k n g z : Int) (h1 : 1 ≤ k) (h2 : k ≤ 255) (hg : 1 ≤ g) (hg2 : g ≤ 65790) (hz : 1 ≤ z) (hz2 : z ≤ 16777216) : Calls Tryd.prog 37 #[.int .i64 k, .int .i64 n, .int .i64 g, .int .i64 z] w fun e w' => e = .returned (.agg (shA (shR k n g z))) ∧ Below w.heap.size w w' := by
  have C1 := hid fun w => upward_any w z g hz (by omega) hg
  have t1 := tlI_pos (x := z) hg
  have t2 := tlI_le (x := z) hg
  have u1 := upI_pos hz hg
  have u2 := upI_le hz hg
  have hsp := up_split z g
  have C2 := hid fun w => upward_any w (tlI z g) k t1 (by omega) h1
  have hq : g.tdiv k = g / k := Int.tdiv_eq_ediv_of_nonneg (by omega)
  have hq2 : 0 ≤ g / k ∧ g / k ≤ g := ⟨Int.ediv_nonneg (by omega) (by omega), Int.ediv_le_self _ (by omega)⟩
  have HR : Hid (shR k n g z = [k, n, g, z, upI z g, tlI z g, g / k, upI (tlI z g) k]) := rfl
  rw [HR.out]
  obtain ⟨U, HU⟩ : ∃ x, Hid (upI z g = x) := ⟨_, rfl⟩
  obtain ⟨T, HT⟩ : ∃ x, Hid (tlI z g = x) := ⟨_, rfl⟩
  rw [HT.out] at C2 t1 t2 hsp ⊢
  obtain ⟨V, HV⟩ : ∃ x, Hid (upI T k = x) := ⟨_, rfl⟩
  obtain ⟨D, HD⟩ : ∃ x, Hid (g / k = x) := ⟨_, rfl⟩
  rw [HU.out] at C1 u1 u2 hsp ⊢
  rw [HV.out] at C2 ⊢
  rw [HD.out] at hq hq2 ⊢
  have k1 : IntKind.i64.wrap (U - 1) = U - 1 := by rw [IntKind.wrap_i64]; omega
  have hp : (U - 1) * g = z - T := by omega
  have k2 : IntKind.i64.wrap (z - T) = z - T := by rw [IntKind.wrap_i64]; omega
  have k3 : IntKind.i64.wrap (z - (z - T)) = T := by rw [IntKind.wrap_i64]; omega
  have k4 : IntKind.i64.wrap D = D := by rw [IntKind.wrap_i64]; omega
  have hk0 : ¬ k = 0 := by omega
  clear HR hsp
  obtain ⟨zz, HZ⟩ : ∃ x, Hid (shA sh0 = x) := ⟨_, rfl⟩
  obtain ⟨yy, HY⟩ : ∃ x, Hid (shA [k, n, g, z, U, T, D, V] = x) := ⟨_, rfl⟩
  have HYs : Hid (yy.size = 8) := by rw [← HY.out]; rfl
  have HY1 : Hid (yy.all (·.oneCell') = true) := by refine hid ?_; rw [← HY.out]; simp [shA, Value.oneCell']
  rw [HY.out]
  go_enter Tryd.func37, Tryd.ntmps37
  go_wp2_with fail
  refine (C1.out _).mono ?_
  rintro e w1 ⟨rfl, rfl⟩
  go_wp2
  refine wp_region_held_drew (S := ShS w) (by kernel_rfl) ⟨((Below.refl _ w).alloc (Nat.le_refl _) _).drew, _, heap_alloc_new w _, rfl⟩ (fun hHeld => ?_)
  have HS := hid hHeld
  clear hHeld
  change wpAnyH _ _ _ _ _ _ _ _ (World.drew _)
  refine wpAnyH_take (i := 0) (v := ?_) rfl (by kernel_rfl) (by kernel_rfl) (by kernel_rfl) (fun _ _ _ h => h) (Or.inl ⟨by rfl, ?q0⟩) HS.out ?_
  case q0 => intro w hSw; go_simp; rfl
  simp only [Act.put, List.getElem_toArray, List.getElem_cons_zero, List.getElem_cons_succ, List.setIfInBounds_toArray, List.set_cons_zero, List.set_cons_succ]
  refine wpAnyH_take (i := 1) (v := ?_) rfl (by kernel_rfl) (by kernel_rfl) (by kernel_rfl) (fun _ _ _ h => h) (Or.inl ⟨by rfl, ?q1⟩) HS.out ?_
  case q1 => intro w hSw; go_simp; rfl
  simp only [Act.put, List.getElem_toArray, List.getElem_cons_zero, List.getElem_cons_succ, List.setIfInBounds_toArray, List.set_cons_zero, List.set_cons_succ]
  refine wpAnyH_take (i := 2) (v := ?_) rfl (by kernel_rfl) (by kernel_rfl) (by kernel_rfl) (fun _ _ _ h => h) (Or.inl ⟨by rfl, ?q2⟩) HS.out ?_
  case q2 => intro w hSw; go_simp; rfl
  simp only [Act.put, List.getElem_toArray, List.getElem_cons_zero, List.getElem_cons_succ, List.setIfInBounds_toArray, List.set_cons_zero, List.set_cons_succ]
  refine wpAnyH_take (i := 3) (v := ?_) rfl (by kernel_rfl) (by kernel_rfl) (by kernel_rfl) (fun _ _ _ h => h) (Or.inl ⟨by rfl, ?q3⟩) HS.out ?_
  case q3 => intro w hSw; go_simp; rfl
  simp only [Act.put, List.getElem_toArray, List.getElem_cons_zero, List.getElem_cons_succ, List.setIfInBounds_toArray, List.set_cons_zero, List.set_cons_succ]
  refine wpAnyH_take (i := 4) (v := ?_) rfl (by kernel_rfl) (by kernel_rfl) (by kernel_rfl) (fun _ _ _ h => h) (Or.inl ⟨by rfl, ?q4⟩) HS.out ?_
  case q4 => intro w hSw; go_simp; rfl
  simp only [Act.put, List.getElem_toArray, List.getElem_cons_zero, List.getElem_cons_succ, List.setIfInBounds_toArray, List.set_cons_zero, List.set_cons_succ]
  refine wpAnyH_take (i := 5) (v := ?_) rfl (by kernel_rfl) (by kernel_rfl) (by kernel_rfl) (fun _ _ _ h => h) (Or.inl ⟨by rfl, ?q5⟩) HS.out ?_
  case q5 => intro w hSw; go_simp; rfl
  simp only [Act.put, List.getElem_toArray, List.getElem_cons_zero, List.getElem_cons_succ, List.setIfInBounds_toArray, List.set_cons_zero, List.set_cons_succ]
  refine wpAnyH_take (i := 6) (v := ?_) rfl (by kernel_rfl) (by kernel_rfl) (by kernel_rfl) (fun _ _ _ h => h) (Or.inl ⟨by rfl, ?q6⟩) HS.out ?_
  case q6 => intro w hSw; go_simp; rfl
  simp only [Act.put, List.getElem_toArray, List.getElem_cons_zero, List.getElem_cons_succ, List.setIfInBounds_toArray, List.set_cons_zero, List.set_cons_succ]
  refine wpAnyH_take (i := 7) (v := ?_) rfl (by kernel_rfl) (by kernel_rfl) (by kernel_rfl) (fun _ _ _ h => h) (Or.inl ⟨by rfl, ?q7⟩) HS.out ?_
  case q7 => intro w hSw; go_simp; rfl
  simp only [Act.put, List.getElem_toArray, List.getElem_cons_zero, List.getElem_cons_succ, List.setIfInBounds_toArray, List.set_cons_zero, List.set_cons_succ]
  refine wpAnyH_take (i := 8) (v := .int .i64 D) rfl (by kernel_rfl) (by kernel_rfl) (by kernel_rfl) (fun _ _ _ h => h) (Or.inl ⟨by rfl, ?q8⟩) HS.out ?_
  case q8 => intro w hSw; go_simp
  simp only [Act.put, List.getElem_toArray, List.getElem_cons_zero, List.getElem_cons_succ, List.setIfInBounds_toArray, List.set_cons_zero, List.set_cons_succ]
  refine wpAnyH_take (i := 9) (v := ?_) rfl (by kernel_rfl) (by kernel_rfl) (by kernel_rfl) (fun _ _ _ h => h) (Or.inl ⟨by rfl, ?q9⟩) HS.out ?_
  case q9 => intro w hSw; go_simp; rfl
  simp only [Act.put, List.getElem_toArray, List.getElem_cons_zero, List.getElem_cons_succ, List.setIfInBounds_toArray, List.set_cons_zero, List.set_cons_succ]
  refine wpAnyH_take (i := 10) (v := ?_) rfl (by kernel_rfl) (by kernel_rfl) (by kernel_rfl) (fun _ _ _ h => h) (Or.inl ⟨by rfl, ?q10⟩) HS.out ?_
  case q10 => intro w hSw; go_simp; rfl
  simp only [Act.put, List.getElem_toArray, List.getElem_cons_zero, List.getElem_cons_succ, List.setIfInBounds_toArray, List.set_cons_zero, List.set_cons_succ]
  refine wpAnyH_ready (rs := [11]) (by kernel_rfl) (by simp) ?_
  refine AllReadyH.cons rfl (fun K hK => ?_) AllReadyH.nil
  go_simp
  refine (C2.out _).mono ?_
  rintro e v9 ⟨rfl, rfl⟩
  refine hK.out _ _ HS.out (fun _ => ?_)
  clear hK K
  refine wpAnyH_take (i := 12) (v := .agg (shA [k, n, g, z, U, T, D, V])) rfl (by kernel_rfl) (by kernel_rfl) (by kernel_rfl) (fun _ _ _ h => h) (Or.inl ⟨by rfl, ?q12⟩) HS.out ?_
  case q12 => intro w hSw; go_simp; rfl
  simp only [Act.put, List.getElem_toArray, List.getElem_cons_zero, List.getElem_cons_succ, List.setIfInBounds_toArray, List.set_cons_zero, List.set_cons_succ]
  rw [HY.out]
  refine wpAnyH_ready (rs := [13]) (by kernel_rfl) (by simp) ?_
  refine AllReadyH.cons rfl (fun K hK => ?_) AllReadyH.nil
  obtain ⟨hB5, cs, hc5, hs5⟩ := HS.out
  refine wp_store_row 24 _ _ rfl w.heap.size yy rfl rfl 24 cs hc5 (by rw [HYs.out]; exact size_shape) (by rw [hs5, HYs.out]) HY1.out ?_
  have hS6 : ShS w (World.setRow _ w.heap.size yy) := ⟨bel_setRow hB5 (Nat.le_refl _) _, yy, setRow_heap _ _ _ _ _ _ hc5, HYs.out⟩
  refine hK.out _ _ hS6 (fun _ => ?_)
  clear hK K
  simp only [Act.put]
  refine wpAnyH_done (by kernel_rfl) ?_ _
  go_wp2
  refine bodyPost_ret (v := .agg yy) (results_cell_row (p := 8) (ty := 24) rfl _ _ w.heap.size 24 yy (0, 0) _ rfl (setRow_heap _ _ _ _ _ _ hc5) Tryd.underlying24 rfl (by rw [HYs.out]; exact size_shape)) rfl ?_
  exact ⟨rfl, hS6.1⟩
end Go.Proofs.YtfaojnnpekpomaaDoor
