/- Of the road to serverTicksUpto_holds: SvAw, UbPick, SvTi. -/
import Derived.Test.YthmhpenjegfbcaaG06
import Derived.Lib.SlBytesConst
import Derived.Test.YthmhpenjegfbcaaG00
import Derived.Test.YthmhpenjegfbcaaChecked
set_option linter.unusedVariables false
set_option linter.unusedSimpArgs false
namespace Go.Proofs.Ythmhpenjegfbcaa
open Go Go.RowKit
theorem HB.litv {w : World} {b : Nat} {l : List Int} {fr : Nat × Nat} (h : w.heap[b]? = some (.cells (l.map (Value.int .u8)).toArray 5 fr)) (hl : l.length ≤ 1000) (hb : ∀ x ∈ l, 0 ≤ x ∧ x < 256) : HB w (.slice (some ⟨b, 0, none⟩) l.length l.length) l := by
  refine ⟨⟨_, _, rfl, Nat.le_refl _, by unfold maxLen; omega, (fun e => by cases e), fun _ => ⟨b, 0, rfl, fun j hj => ?_⟩⟩, hb⟩
  rw [cell_of_row _ _ _ _ _ _ h]
  simp [List.getElem?_eq_getElem hj, List.getD, hj]
theorem I.HB.litv {w : World} {b : Nat} {l : List Int} {fr : Nat × Nat} (h : w.heap[b]? = some (.cells (l.map (Value.int .i64)).toArray 3 fr)) (hl : l.length ≤ 1000) (hb : ∀ x ∈ l, -9223372036854775808 ≤ x ∧ x < 9223372036854775808) : I.HB w (.slice (some ⟨b, 0, none⟩) l.length l.length) l := by
  refine ⟨⟨_, _, rfl, Nat.le_refl _, by unfold maxLen; omega, (fun e => by cases e), fun _ => ⟨b, 0, rfl, fun j hj => ?_⟩⟩, hb⟩
  rw [cell_of_row _ _ _ _ _ _ h]
  simp [List.getElem?_eq_getElem hj, List.getD, hj]
abbrev six : List Int := [97, 98, 99, 100, 101, 102]
def rqS : Rq := ⟨2, ix1 1, 3, 0, 0, 1, 5⟩
def rqHv : Rq := ⟨1, ix1 1, 0, 0, 0, 0, 0⟩
def rqF : Rq := ⟨3, ix1 1, 3, 4, 2, 0, 0⟩
theorem ix1_ok : (ix1 1).length = 16 ∧ ∀ x ∈ ix1 1, 0 ≤ x ∧ x < 256 := ⟨rfl, by simp [ix1]⟩
theorem nums_one {z : MapEntry × En} (h : z.2.k = ⟨⟨ix1 1, 3⟩, six, [⟨1, 5⟩]⟩) : numsL [z] (fun _ => true) (ix1 1) 255 = [3] := by
  unfold numsL
  have e : ∀ n ∈ List.range 255, wantsB [z] (fun _ => true) ⟨ix1 1, (n : Int)⟩ = decide (n = 3) := fun n _ => by
    simp [wantsB, h]
    rw [eq_comm]
    norm_cast
  rw [List.filter_congr e]
  decide +kernel
theorem used_one {z : MapEntry × En} (h : z.2.k = ⟨⟨ix1 1, 3⟩, six, [⟨1, 5⟩]⟩) : usedL [z] = 6 := by simp [usedL, h]
set_option maxRecDepth 100000 in
set_option maxHeartbeats 8000000 in
theorem run_build_hv (w : World) : (Instr.build 33 #[(0, .int .u8 1), (1, .agg (cellsB (ix1 1)))]).run Try.prog w = .ok (.agg (rqA rqHv (.slice none 0 0))) w := by
  unfold cellsB rqA rqL rqHv
  kernel_rfl
set_option maxRecDepth 100000 in
set_option maxHeartbeats 8000000 in
theorem run_build_ft (w : World) : (Instr.build 33 #[(0, .int .u8 3), (1, .agg (cellsB (ix1 1))), (2, .int .i64 3), (3, .int .i64 4), (4, .int .i64 2)]).run Try.prog w = .ok (.agg (rqA rqF (.slice none 0 0))) w := by
  unfold cellsB rqA rqL rqF
  kernel_rfl
def RpN (w w' : World) (k : Int) (v1 v2 : Value) : Prop := w'.heap[w.heap.size]? = some (.cells #[.int .u8 k, v1, v2] 46 (0, 0)) ∧ Below w.heap.size w w' ∧ w'.heap.size = w.heap.size + 1
theorem rep_new (w : World) (k : Int) (v1 v2 : Value) : RpN w (w.alloc (.cells #[.int .u8 k, v1, v2] 46)) k v1 v2 :=
  ⟨heap_alloc_new w _, (Below.refl _ w).alloc (Nat.le_refl _) _, by simp⟩
set_option maxRecDepth 100000 in
set_option maxHeartbeats 16000000 in
theorem awake_ok (w : World) : Calls Try.prog 4 #[] w fun e w' => e = .returned (.bool true) ∧ Below w.heap.size w w' := by
  have C1 := hid (snew_ok w 10 (by decide))
  have CI := hid fun W => index_any W 1
  have CB := hid fun W => run_build_hv W
  have CF := hid fun W => run_build_ft W
  have CS := hid fun W p l c => lstore_any W (ix1 1) rfl 3 1 5 p l c
  obtain ⟨ia, HIA⟩ : ∃ m, Hid (cellsB (ix1 1) = m) := ⟨_, hid rfl⟩
  rw [HIA.out] at CI CB CF CS
  go_enter Try.func4, Try.ntmps4
  go_wp2_with fail
  refine C1.out.mono ?_
  rintro e w1 ⟨g, b, c, rfl, hs1, hm1, hg, hb, bl1⟩
  have HZ1 := hid (HZ.empty hs1 hm1)
  have B1 := hid bl1
  have G1 : Hid (w.heap.size ≤ g ∧ w.heap.size ≤ b) := hid ⟨hg, hb⟩
  clear hs1 hm1 hg hb bl1
  go_wp2_with fail
  refine (CI.out _).mono ?_
  rintro e w2 ⟨rfl, bl2⟩
  have B2 := hid bl2
  clear bl2
  have hcv := Go.Lib.run_convert_bytes_const (P := Try.prog) w2 31 5 #[.int .u8 97, .int .u8 98, .int .u8 99, .int .u8 100, .int .u8 101, .int .u8 102] 6 6 Try.underlying31 Try.underlying5
  obtain ⟨W3, HW3⟩ : ∃ W : World, Hid (w2.alloc (.cells #[.int .u8 97, .int .u8 98, .int .u8 99, .int .u8 100, .int .u8 101, .int .u8 102] 5 ((#[.int .u8 97, .int .u8 98, .int .u8 99, .int .u8 100, .int .u8 101, .int .u8 102] : Array Value).size, (#[.int .u8 97, .int .u8 98, .int .u8 99, .int .u8 100, .int .u8 101, .int .u8 102] : Array Value).size + 1)) = W) := ⟨_, hid rfl⟩
  rw [HW3.out] at hcv
  have BL3 : Hid (Below w2.heap.size w2 W3) := by rw [← HW3.out]; exact hid ((Below.refl _ w2).alloc (Nat.le_refl _) _)
  have RW3 : Hid (W3.heap[w2.heap.size]? = some (.cells (six.map (Value.int .u8)).toArray 5 (6, 7))) := hid (by rw [← HW3.out]; exact heap_alloc_new w2 _)
  have LT3 : Hid (W3.heap.size = w2.heap.size + 1) := hid (by rw [← HW3.out]; simp)
  go_wp2_with fail
  refine (CS.out _ _ _ _).mono ?_
  rintro e w4 ⟨rfl, bl4⟩
  have R4 : Hid (w4.heap[w2.heap.size]? = some (.cells (six.map (Value.int .u8)).toArray 5 (6, 7))) := hid ((bl4.block _ (by rw [LT3.out]; omega)).trans RW3.out)
  have B4 : Hid (Below w1.heap.size w1 w4) := hid ((B2.out.trans ((BL3.out.trans (bl4.mono BL3.out.size)).mono B2.out.size)))
  have LT4 : Hid (w2.heap.size < w4.heap.size) := hid (by have := bl4.size; have := LT3.out; omega)
  clear hcv bl4
  have H4 := hid (HZ1.out.below B4.out)
  have S1 : Hid (w1.heap.size ≤ w2.heap.size) := hid B2.out.size
  have HV4 : Hid (∀ W, Ex (fun k => k = g ∨ k = b) w4 W → HB W (.slice (some ⟨w2.heap.size, 0, none⟩) six.length 6) six) := hid fun W hW => HB.litv (l := six) ((hW.block _ LT4.out (fun q => by have := HZ1.out.lt _ q; have := S1.out; omega)).trans R4.out) (by decide) (by decide)
  have CD4 := hid (do_store_new H4.out (by decide) 0 (by decide) (by decide) ⟨2, ix1 1, 3, 0, 0, 1, 5⟩ ix1_ok (some ⟨w2.heap.size, 0, none⟩) 6 six (HV4.out w4 (Ex.refl _ _)) (by decide) rfl (by decide) (by decide) HV4.out (by intro z hz; cases hz) (by decide) (by decide))
  go_wp2_with fail
  refine CD4.out.mono ?_
  rintro e w5 ⟨z, rfl, hk5, hz5, hs5, hx5⟩
  have H5 := hid hz5
  have K5 := hid hk5
  have X5 := hid hx5
  have E5 := hid hs5
  clear hz5 hk5 hx5 hs5 CD4
  obtain ⟨W6, HW6⟩ : ∃ W, Hid (w5.alloc (.cells #[.int .u8 2, .slice none 0 0, .slice none 0 0] 46) = W) := ⟨_, hid rfl⟩
  have N6 : Hid (RpN w5 W6 2 (.slice none 0 0) (.slice none 0 0)) := hid (by rw [← HW6.out]; exact rep_new _ _ _ _)
  go_wp2_with fail
  rw [HW6.out]
  refine (CI.out _).mono ?_
  rintro e w7 ⟨rfl, bl7⟩
  have B7 : Hid (Below w5.heap.size w5 w7) := hid (N6.out.2.1.trans (bl7.mono N6.out.2.1.size))
  have R7 : Hid (w7.heap[w5.heap.size]? = some (.cells #[.int .u8 2, .slice none 0 0, .slice none 0 0] 46 (0, 0))) := hid ((bl7.block _ (by rw [N6.out.2.2]; omega)).trans N6.out.1)
  have L7 : Hid (w5.heap.size < w7.heap.size) := hid (by have := bl7.size; have := N6.out.2.2; omega)
  have H7 := hid (H5.out.below B7.out)
  have U7 : Hid (usedL (tkZ 0 0 [] ++ [z]) = 6) := hid (used_one K5.out)
  have CD7 := hid (do_have H7.out (by rw [U7.out]; decide) 0 (by decide) (by decide) rqHv ix1_ok none 0 0 rfl rfl)
  clear bl7
  go_wp2_with (refine wpList_build_runS rfl 33 _ rfl #[(0, .int .u8 1), (1, .agg ia)] (by go_simp) _ (CB.out _) ?_)
  refine CD7.out.mono ?_
  rintro e w8 ⟨vn, rfl, hr8, hz8, hx8⟩
  have H8 := hid hz8
  have X8 := hid hx8
  have V8 : Hid (w8.ownsRow w7.heap.size 3 1 vn [3].length ([3].map (Value.int .i64))) := hid (by
    have q := hr8
    rw [show numsL (tkZ 0 0 (tkZ 0 0 [] ++ [z])) (fun _ => true) rqHv.ix 255 = [3] from nums_one K5.out] at q
    exact q)
  clear hr8 hz8 hx8 CD7
  obtain ⟨pn, cn, hvn⟩ := ownsRow_slc V8.out
  subst hvn
  have R8 : Hid (w8.heap[w5.heap.size]? = some (.cells #[.int .u8 2, .slice none 0 0, .slice none 0 0] 46 (0, 0))) := hid ((X8.out.block _ L7.out (fun q => by have := H5.out.lt _ q; omega)).trans R7.out)
  obtain ⟨W9, HW9⟩ : ∃ W, Hid (w8.alloc (.cells #[.int .u8 1, .slice pn 1 cn, .slice none 0 0] 46) = W) := ⟨_, hid rfl⟩
  have N9 : Hid (RpN w8 W9 1 (.slice pn 1 cn) (.slice none 0 0)) := hid (by rw [← HW9.out]; exact rep_new _ _ _ _)
  go_wp2_with fail
  rw [HW9.out]
  refine (CI.out _).mono ?_
  rintro e w10 ⟨rfl, bl10⟩
  have B10 : Hid (Below w8.heap.size w8 w10) := hid (N9.out.2.1.trans (bl10.mono N9.out.2.1.size))
  have R10 : Hid (w10.heap[w8.heap.size]? = some (.cells #[.int .u8 1, .slice pn 1 cn, .slice none 0 0] 46 (0, 0))) := hid ((bl10.block _ (by rw [N9.out.2.2]; omega)).trans N9.out.1)
  have L10 : Hid (w8.heap.size < w10.heap.size) := hid (by have := bl10.size; have := N9.out.2.2; omega)
  have L8 : Hid (w7.heap.size ≤ w8.heap.size) := hid X8.out.size
  have H10 := hid (H8.out.below B10.out)
  have CD10 := hid (do_fetch H10.out (by rw [show usedL (tkZ 0 0 (tkZ 0 0 [] ++ [z])) = 6 from used_one K5.out]; decide) 0 (by decide) (by decide) rqF ix1_ok none 0 0 rfl rfl)
  clear bl10
  go_wp2_with (refine wpList_build_runS rfl 33 _ rfl #[(0, .int .u8 3), (1, .agg ia), (2, .int .i64 3), (3, .int .i64 4), (4, .int .i64 2)] (by go_simp) _ (CF.out _) ?_)
  refine CD10.out.mono ?_
  rintro e w11 ⟨kd, vb, rfl, hr11, hz11, hx11⟩
  have H11 := hid hz11
  have X11 := hid hx11
  have V11 : Hid (kd = 5 ∧ OwB w11 w10.heap.size vb [101, 102]) := hid (by
    have hzz : tkZ 0 0 (tkZ 0 0 (tkZ 0 0 [] ++ [z])) = [z] := rfl
    rw [hzz] at hr11
    rcases hr11 with ⟨-, -, q⟩ | ⟨h1, y, hy, h2, h3, h4⟩
    · exact absurd (q z (by simp) (by rw [K5.out]; rfl)) (by rw [K5.out]; decide)
    · obtain rfl : y = z := by simpa using hy
      rw [K5.out] at h4
      exact ⟨h1, h4⟩)
  clear hr11 hz11 hx11 CD10
  obtain ⟨hkd, V11'⟩ := V11.out
  subst hkd
  obtain ⟨pb, cb, hvb⟩ := ownsRow_slc V11'.1
  subst hvb
  have L11 : Hid (w10.heap.size ≤ w11.heap.size) := hid X11.out.size
  have R11 : Hid (w11.heap[w5.heap.size]? = some (.cells #[.int .u8 2, .slice none 0 0, .slice none 0 0] 46 (0, 0)) ∧ w11.heap[w8.heap.size]? = some (.cells #[.int .u8 1, .slice pn 1 cn, .slice none 0 0] 46 (0, 0))) := hid (by
    have a1 := L7.out; have a2 := L8.out; have a3 := L10.out
    exact ⟨(X11.out.block _ (by omega) (fun q => by have := H5.out.lt _ q; omega)).trans ((B10.out.block _ (by omega)).trans R8.out), (X11.out.block _ L10.out (fun q => by have := H8.out.lt _ q; omega)).trans R10.out⟩)
  obtain ⟨W12, HW12⟩ : ∃ W, Hid (w11.alloc (.cells #[.int .u8 5, .slice none 0 0, .slice pb 2 cb] 46) = W) := ⟨_, hid rfl⟩
  have N12 : Hid (RpN w11 W12 5 (.slice none 0 0) (.slice pb 2 cb)) := hid (by rw [← HW12.out]; exact rep_new _ _ _ _)
  have R12 : Hid (W12.heap[w5.heap.size]? = some (.cells #[.int .u8 2, .slice none 0 0, .slice none 0 0] 46 (0, 0)) ∧ W12.heap[w8.heap.size]? = some (.cells #[.int .u8 1, .slice pn 1 cn, .slice none 0 0] 46 (0, 0))) := hid (by
    have a1 := L7.out; have a2 := L8.out; have a3 := L10.out; have a4 := L11.out
    exact ⟨(N12.out.2.1.block _ (by omega)).trans R11.out.1, (N12.out.2.1.block _ (by omega)).trans R11.out.2⟩)
  have H12 := hid (H11.out.below N12.out.2.1)
  have LA : Hid (w5.heap.size < w7.heap.size ∧ w7.heap.size ≤ w8.heap.size ∧ w8.heap.size < w10.heap.size ∧ w10.heap.size ≤ w11.heap.size ∧ W12.heap.size = w11.heap.size + 1) := hid ⟨L7.out, L8.out, L10.out, L11.out, N12.out.2.2⟩
  have VN : Hid (∀ W, Below W12.heap.size W12 W → I.HB W (.slice pn 1 cn) [3]) := hid fun W hW => by
    have q : W.ownsRow w7.heap.size 3 1 (.slice pn 1 cn) [3].length ([3].map (Value.int .i64)) := ownsRow_of V8.out (fun j hj => by
      obtain ⟨h1, cur, h2⟩ := ownsRow_block V8.out hj
      have h3 : j < w8.heap.size := (Array.getElem?_eq_some_iff.1 h2).1
      obtain ⟨a1, a2, a3, a4, a5⟩ := LA.out
      exact (hW.block j (by omega)).trans ((N12.out.2.1.block j (by omega)).trans ((X11.out.block j (by omega) (fun q => by have := H5.out.lt _ q; omega)).trans (B10.out.block j h3))))
    exact I.HB.of_own (l := [3]) q (by simp)
  have VB : Hid (∀ W, Below W12.heap.size W12 W → HB W (.slice pb 2 cb) [101, 102]) := hid fun W hW => by
    have q := ownsRow_of (w' := W) V11'.1 (fun j hj => by
      obtain ⟨h1, cur, h2⟩ := ownsRow_block V11'.1 hj
      have h3 : j < w11.heap.size := (Array.getElem?_eq_some_iff.1 h2).1
      obtain ⟨a1, a2, a3, a4, a5⟩ := LA.out
      exact (hW.block j (by omega)).trans (N12.out.2.1.block j (by omega)))
    exact HB.of_own (l := [101, 102]) q (by simp)
  have QC : Hid (∀ W, Below W12.heap.size W12 W → W.cell? ⟨w5.heap.size, 0, none⟩ = some (.int .u8 2) ∧ W.cell? ⟨w8.heap.size, 0, none⟩ = some (.int .u8 1) ∧ W.cell? ⟨w8.heap.size, 1, none⟩ = some (.slice pn 1 cn) ∧ W.cell? ⟨w11.heap.size, 0, none⟩ = some (.int .u8 5) ∧ W.cell? ⟨w11.heap.size, 2, none⟩ = some (.slice pb 2 cb)) := hid fun W hW => by
    obtain ⟨a1, a2, a3, a4, a5⟩ := LA.out
    have f1 := (hW.block w5.heap.size (by omega)).trans R12.out.1
    have f2 := (hW.block w8.heap.size (by omega)).trans R12.out.2
    have f3 := (hW.block w11.heap.size (by omega)).trans N12.out.1
    exact ⟨by rw [cell_of_row _ _ _ _ _ _ f1]; rfl, by rw [cell_of_row _ _ _ _ _ _ f2]; rfl, by rw [cell_of_row _ _ _ _ _ _ f2]; rfl, by rw [cell_of_row _ _ _ _ _ _ f3]; rfl, by rw [cell_of_row _ _ _ _ _ _ f3]; rfl⟩
  have CU : Hid (∀ W, Below W12.heap.size W12 W → Calls Try.prog 16 #[.pointer (some ⟨g, 0, none⟩)] W fun e w' => e = .returned (.int .i64 6) ∧ w' = W) := hid fun W hW => by
    have q := used_any (H12.out.below hW)
    rw [show usedL (tkZ 0 0 (tkZ 0 0 (tkZ 0 0 [] ++ [z]))) = 6 from used_one K5.out] at q
    exact q
  have BE : Hid (Below w.heap.size w W12) := hid (by
    have b2 : Below w.heap.size w w5 := (B1.out.trans (B4.out.mono B1.out.size)).trans (X5.out.below (B1.out.trans (B4.out.mono B1.out.size)).size (fun k hk => by
      have := G1.out
      rcases hk with rfl | rfl
      · exact this.1
      · exact this.2))
    have b3 := b2.trans (B7.out.mono b2.size)
    have hS : ∀ k, SU (fun k => k = g ∨ k = b) z.2 k → w.heap.size ≤ k := fun k hk => by
      have := G1.out
      rcases hk with (rfl | rfl) | q
      · exact this.1
      · exact this.2
      · exact Nat.le_trans (B1.out.trans (B4.out.mono B1.out.size)).size (E5.out k q)
    have b4 := b3.trans (X8.out.below b3.size hS)
    have b5 := b4.trans (B10.out.mono b4.size)
    have b6 := b5.trans (X11.out.below b5.size hS)
    exact b6.trans (N12.out.2.1.mono b6.size))
  obtain ⟨c1, c2, c3, c4, c5⟩ := QC.out W12 (Below.refl _ _)
  rw [← HW12.out] at c1 c2 c3 c4 c5
  go_wp2_with fail
  rw [HW12.out]
  obtain ⟨W13, HW13⟩ : ∃ W, Hid (W12.alloc (.cells #[.int .i64 3] 3) = W) := ⟨_, hid rfl⟩
  have B13 : Hid (Below W12.heap.size W12 W13) := hid (by rw [← HW13.out]; exact (Below.refl _ _).alloc (Nat.le_refl _) _)
  have V13 : Hid (I.HB W13 (.slice (some ⟨W12.heap.size, 0, none⟩) 1 1) [3]) := hid (I.HB.litv (l := [3]) (fr := (0, 0)) (by rw [← HW13.out]; exact heap_alloc_new W12 _) (by simp) (by simp))
  rw [HW13.out]
  have CS13 : Hid (Calls Try.prog 14 #[.slice pn 1 cn, .slice (some ⟨w11.heap.size + 1, 0, none⟩) 1 1] W13 fun e w' => e = .returned (.bool true) ∧ Dr W13 w') := hid (by rw [← N12.out.2.2]; exact I.sameBytes_any W13 _ _ [3] [3] (VN.out W13 B13.out) V13.out)
  refine CS13.out.mono ?_
  rintro e w14 ⟨rfl, d14⟩
  have B14 : Hid (Below W12.heap.size W12 w14) := hid (B13.out.trans (d14.below _))
  clear d14
  obtain ⟨e1, e2, e3, e4, e5⟩ := QC.out w14 B14.out
  have hcv := Go.Lib.run_convert_bytes_const (P := Try.prog) w14 31 5 #[.int .u8 101, .int .u8 102] 2 2 Try.underlying31 Try.underlying5
  obtain ⟨W15, HW15⟩ : ∃ W : World, Hid (w14.alloc (.cells #[.int .u8 101, .int .u8 102] 5 ((#[.int .u8 101, .int .u8 102] : Array Value).size, (#[.int .u8 101, .int .u8 102] : Array Value).size + 1)) = W) := ⟨_, hid rfl⟩
  rw [HW15.out] at hcv
  have BL15 : Hid (Below w14.heap.size w14 W15) := hid (by rw [← HW15.out]; exact (Below.refl _ _).alloc (Nat.le_refl _) _)
  have V15 : Hid (HB W15 (.slice (some ⟨w14.heap.size, 0, none⟩) 2 2) [101, 102]) := hid (HB.litv (l := [101, 102]) (fr := (2, 3)) (by rw [← HW15.out]; exact heap_alloc_new w14 _) (by simp) (by simp))
  have B15 : Hid (Below W12.heap.size W12 W15) := hid (B14.out.trans (BL15.out.mono B14.out.size))
  have CS15 : Hid (Calls Try.prog 15 #[.slice pb 2 cb, .slice (some ⟨w14.heap.size, 0, none⟩) 2 2] W15 fun e w' => e = .returned (.bool true) ∧ Dr W15 w') := hid (sameBytes_any W15 _ _ [101, 102] [101, 102] (VB.out W15 B15.out) V15.out)
  go_wp2_with fail
  refine CS15.out.mono ?_
  rintro e w16 ⟨rfl, d16⟩
  have B16 : Hid (Below W12.heap.size W12 w16) := hid (B15.out.trans (d16.below _))
  clear d16
  go_wp2_with fail
  refine (CU.out w16 B16.out).mono ?_
  rintro e w17 ⟨rfl, hw17⟩
  subst hw17
  go_wp2
  go_ret
  exact ⟨rfl, BE.out.trans (B16.out.mono BE.out.size)⟩
set_option maxHeartbeats 1000000 in
theorem kpick_any (w : World) (x : Int) (n : Nat) (h1 : 1 ≤ n) (h2 : n ≤ 140737488355328) : Calls Try.prog 5 #[.int .i64 x, .int .i64 (n : Int)] w fun e w' => (∃ p : Nat, p < n ∧ e = .returned (.int .i64 (p : Int))) ∧ w' = w := by
  have b1 : -(n : Int) < Int.tmod x n := Int.lt_tmod_of_pos x (by omega)
  have b2 : Int.tmod x n < (n : Int) := Int.tmod_lt_of_pos x (by omega)
  have hn1 : ¬ ((n : Int) < 1) := by omega
  have hn0 : ¬ ((n : Int) = 0) := by omega
  obtain ⟨y, hy⟩ : ∃ y, Int.tmod x (n : Int) = y := ⟨_, rfl⟩
  rw [hy] at b1 b2
  by_cases hneg : y < 0
  · go_enter Try.func5, Try.ntmps5
    go_wp2
    go_ret
    refine ⟨⟨(y + n).toNat, by omega, ?_⟩, rfl⟩
    show Ending.returned (Value.int .i64 (y + n)) = _
    rw [Int.toNat_of_nonneg (by omega)]
  · go_enter Try.func5, Try.ntmps5
    go_wp2
    go_ret
    refine ⟨⟨y.toNat, by omega, ?_⟩, rfl⟩
    show Ending.returned (Value.int .i64 y) = _
    rw [Int.toNat_of_nonneg (by omega)]
theorem do_ask {w : World} {g b c : Nat} {room tick : Int} {Z : List (MapEntry × En)} {S : Nat → Prop} (h : HZ w g b c room tick Z S) (hu : usedL Z ≤ 1125899906842624) (t : Int) (h0 : tick ≤ t) (h9 : t ≤ 1099511627776) (r : Rq) (hr : r.ok) (pv : Option Addr) (nv cv : Nat) (hk : r.k = 1 ∨ r.k = 3) :
    Calls Try.prog 10 #[.pointer (some ⟨g, 0, none⟩), .int .i64 t, .agg (rqA r (.slice pv nv cv))] w fun e w' => ∃ m, e = .returned (.tuple #[.agg m, .int .i64 0]) ∧ HZ w' g b c room t (tkZ tick t Z) S ∧ Ex S w w' := by
  cases hm : mayB r nv with
  | false => exact (do_no h hu t h0 h9 r hr pv nv cv hm).mono fun e w' ⟨h1, h2, h3⟩ => ⟨_, h1, h2, h3⟩
  | true =>
    rcases hk with hk | hk
    · exact (do_have h hu t h0 h9 r hr pv nv cv hk hm).mono fun e w' ⟨vn, h1, _, h2, h3⟩ => ⟨_, h1, h2, h3⟩
    · exact (do_fetch h hu t h0 h9 r hr pv nv cv hk hm).mono fun e w' ⟨kd, vb, h1, _, h2, h3⟩ => ⟨_, h1, h2, h3⟩
structure ZQ (room : Int) (K : List Kp) (Z : List (MapEntry × En)) : Prop where
  eq : kpK Z = K
  len : Z.length ≤ 1048576
  bts : ∀ z ∈ Z, z.2.k.bs.length ≤ 1048576
  use : usedL Z ≤ 1125899906842624
theorem ZQ.of {room : Int} {K : List Kp} {Z : List (MapEntry × En)} (e : kpK Z = K) (h1 : K.length ≤ 1048576) (h2 : ∀ k ∈ K, k.bs.length ≤ 1048576) (h3 : usedP K ≤ 1125899906842624) : ZQ room K Z :=
  ⟨e, by rw [← e] at h1; simpa [kpK] using h1, fun z hz => h2 _ (by rw [← e]; exact List.mem_map.2 ⟨z, hz, rfl⟩), by rw [usedL_kp, e]; exact h3⟩
theorem ZQ.tick {room : Int} {K : List Kp} {Z : List (MapEntry × En)} (h : ZQ room K Z) (a b : Int) : ZQ room (tkK a b K) (tkZ a b Z) := by
  have hl : K.length ≤ 1048576 := by rw [← h.eq]; simpa [kpK] using h.len
  have hb : ∀ k ∈ K, k.bs.length ≤ 1048576 := by
    rw [← h.eq]
    intro k hk
    obtain ⟨z, hz, rfl⟩ := List.mem_map.1 hk
    exact h.bts z hz
  refine ZQ.of (by rw [kpK_tk, h.eq]) (Nat.le_trans (tkK_len a b K) hl) (tkK_each hb fun k k' e q => by rw [(endK_bs e).1]; exact q) ?_
  have := usedP_tk a b K
  have := h.use
  rw [usedL_kp, h.eq] at this
  omega
theorem same_two {w : World} {room t : Int} {K : List Kp} {v1 v2 : Value} {X1 X2 : List Rk} {Z1 Z2 : List (MapEntry × En)} (h1 : RdK w v1 X1) (h2 : RdK w v2 X2) (p1 : (X1.map (·.k)).Perm (kpK Z1)) (p2 : (X2.map (·.k)).Perm (kpK Z2)) (o1 : X1.Pairwise (fun x y => cmpS x.k.sp y.k.sp < 0)) (o2 : X2.Pairwise (fun x y => cmpS x.k.sp y.k.sp < 0)) (q1 : ZQ room K Z1) (q2 : ZQ room K Z2) (few : ∀ z ∈ Z1, z.2.k.ls.length ≤ 1048576) :
    Calls Try.prog 8 #[.agg #[.int .i64 room, .int .i64 t, v1], .agg #[.int .i64 room, .int .i64 t, v2]] w fun e w' => e = .returned (.bool true) ∧ Below w.heap.size w w' := by
  have hl : X1.length ≤ 1048576 := by
    have := p1.length_eq
    simp [kpK] at this
    rw [this]; exact q1.len
  have hf : ∀ x ∈ X1, x.k.ls.length ≤ 1048576 := fun x hx => by
    have := p1.subset (List.mem_map.2 ⟨x, hx, rfl⟩)
    obtain ⟨z, hz, e⟩ := List.mem_map.1 this
    rw [← e]; exact few z hz
  have q := sameStore_any w room t room t v1 v2 X1 X2 h1 h2 hl hf
  rw [states_same o1 o2 p1 p2 (q1.eq.trans q2.eq.symm)] at q
  simpa using q
theorem StQ.facts {room t : Int} {Ks : List Rk} (h : StQ room t Ks) : 0 ≤ t ∧ t ≤ 1099511627776 ∧ usedK Ks ≤ 1073741824 := by
  obtain ⟨_, h1, h2, h3⟩ := h
  simp [rmB] at h1
  simp [tkB] at h2
  omega
set_option maxRecDepth 100000 in
set_option maxHeartbeats 16000000 in
theorem sticks_walk (w : World) (room t : Int) (pk : Option Addr) (nk ck : Nat) (Ks : List Rk) (h : RdK w (.slice pk nk ck) Ks) (hn : Ks.length ≤ 1048576) (hby : ∀ x ∈ Ks, x.k.bs.length ≤ 1048576) (steps : Int) (r : Rq) (hr : r.ok) (p : Option Addr) (n c : Nat) :
    Calls Try.prog 3 #[.agg #[.int .i64 room, .int .i64 t, .slice pk nk ck], .int .i64 steps, .agg (rqA r (.slice p n c))] w fun e w' => e = .returned (.bool true) ∧ Below w.heap.size w w' := by
  have hrq := hid (range_new (w.alloc (.cells #[.int .i64 room, .int .i64 t, .slice pk nk ck] 24)) (rqL r (.slice p n c)) 33)
  have SR := hid (size_rq hr (.slice p n c))
  have CD := hid fun (W : World) (g b cc : Nat) (tick : Int) (Z : List (MapEntry × En)) (S : Nat → Prop) (hz : HZ W g b cc room tick Z S) (hu : usedL Z ≤ 1125899906842624) (h9 : tick ≤ 1099511627776) (hk : r.k = 1 ∨ r.k = 3) => do_ask hz hu tick (Int.le_refl _) h9 r hr p n c hk
  obtain ⟨rk, HRK⟩ : ∃ x, Hid (r.k = x) := ⟨_, hid rfl⟩
  have hl0 : (rqL r (.slice p n c)) = .int .u8 rk :: (rqL r (.slice p n c)).tail := by rw [← HRK.out]; rfl
  obtain ⟨ml, HML⟩ : ∃ x, Hid (rqL r (.slice p n c) = x) := ⟨_, rfl⟩
  have HMA : Hid (rqA r (.slice p n c) = ml.toArray) := hid (by rw [← HML.out]; rfl)
  rw [HMA.out] at CD
  rw [HRK.out] at CD
  rw [HML.out] at hrq SR hl0
  rw [HMA.out]
  obtain ⟨m, HM⟩ : ∃ x, Hid (ml.toArray = x) := ⟨_, rfl⟩
  have HL0 := hid hl0
  clear hl0 hr HMA HML HRK
  obtain ⟨W1, HW1⟩ : ∃ W : World, Hid (w.alloc (.cells #[.int .i64 room, .int .i64 t, .slice pk nk ck] 24) = W) := ⟨_, hid rfl⟩
  rw [HW1.out] at hrq
  obtain ⟨W2, HW2⟩ : ∃ W : World, Hid (W1.alloc (.cells m 33) = W) := ⟨_, hid rfl⟩
  rw [HM.out] at hrq CD
  rw [HM.out]
  have hrq' := hrq.out
  rw [HW2.out] at hrq'
  have Z1 : Hid (W1.heap.size = w.heap.size + 1) := hid (by rw [← HW1.out]; simp)
  have Z2 : Hid (W2.heap.size = w.heap.size + 2) := hid (by rw [← HW2.out]; simp [Z1.out])
  have B1 : Hid (Below w.heap.size w W1) := by rw [← HW1.out]; exact hid ((Below.refl _ w).alloc (Nat.le_refl _) _)
  have B2 : Hid (Below w.heap.size w W2) := hid (B1.out.trans (by rw [← HW2.out]; exact ((Below.refl _ W1).alloc (Nat.le_refl _) _).mono (by rw [Z1.out]; omega)))
  have QF : Hid (∀ W, Below W2.heap.size W2 W → W.rangeAt w.heap.size 0 [.int .i64 room, .int .i64 t, .slice pk nk ck] ∧ W.cell? ⟨w.heap.size, 1, none⟩ = some (.int .i64 t) ∧ W.rangeAt (w.heap.size + 1) 0 ml ∧ W.cell? ⟨w.heap.size + 1, 0, none⟩ = some (.int .u8 rk)) := hid fun W hW => by
    have a1 := Z1.out; have a2 := Z2.out
    have f1 : W.heap[w.heap.size]? = some (.cells #[.int .i64 room, .int .i64 t, .slice pk nk ck] 24 (0, 0)) := by
      refine (hW.block _ (by omega)).trans ?_
      rw [← HW2.out]
      refine (Below.heap_alloc _ _ _ (by omega)).trans ?_
      rw [← HW1.out]
      exact heap_alloc_new w _
    have f2 : W.heap[w.heap.size + 1]? = some (.cells m 33 (0, 0)) := by
      refine (hW.block _ (by omega)).trans ?_
      rw [← HW2.out, ← a1]
      exact heap_alloc_new W1 _
    rw [← HM.out] at f2
    refine ⟨range_of (cs := [.int .i64 room, .int .i64 t, .slice pk nk ck]) f1, by rw [cell_of_row _ _ _ _ _ _ f1]; rfl, range_of f2, ?_⟩
    rw [cell_of_row _ _ _ _ _ _ f2, HL0.out]
    rfl
  have SS : Hid ((Try.prog.info? 24).map (·.size) = some ([.int .i64 room, .int .i64 t, .slice pk nk ck] : List Value).length) := hid (by kernel_rfl)
  have CA := hid fun W => awake_ok W
  have CP := hid fun W => kpick_any W steps 40 (by decide) (by decide)
  have HRD := hid h
  clear hrq hrq' h
  go_enter Try.func3, Try.ntmps3
  refine wp_seq_k fun K0 h0 => ?_
  have H0 := hid h0
  clear h0
  go_wp2
  rw [HW1.out, HW2.out]
  refine H0.out _ _ ?_
  go_wp2_with fail
  refine (CA.out _).mono ?_
  rintro e w3 ⟨rfl, bl3⟩
  have B3 := hid bl3
  clear bl3
  go_wp2_with fail
  refine (CP.out _).mono ?_
  rintro e w4 ⟨⟨P, hP, rfl⟩, hw4⟩
  subst hw4
  have BW : Hid (∀ W, Below W2.heap.size W2 W → Below w.heap.size w W) := hid fun W hW => B2.out.trans (hW.mono B2.out.size)
  have KR : Hid (∀ W, Below W2.heap.size W2 W → RdK W (.slice pk nk ck) Ks) := hid fun W hW => HRD.out.below (BW.out W hW)
  obtain ⟨f1, f2, f3, f4⟩ := QF.out _ B3.out
  by_cases hq : StQ room t Ks
  · have CL := hid fun (W : World) (hW : Below W2.heap.size W2 W) => load_ok W room t _ Ks (KR.out W hW) hn hq hby
    have HQ := hid hq
    clear hq
    go_wp2_with (refine wpList_load_mid rfl 24 _ rfl w.heap.size 0 rfl [.int .i64 room, .int .i64 t, .slice pk nk ck] _ f1 Try.underlying24 rfl SS.out ?_)
    refine (CL.out _ B3.out).mono ?_
    rintro e w4 ⟨g1, rfl, hld1, bl4⟩
    have B4 : Hid (Below W2.heap.size W2 w4) := hid (B3.out.trans (bl4.mono B3.out.size))
    have D4 := hid hld1
    have BL4 := hid bl4
    clear hld1 bl4
    obtain ⟨e1, e2, e3, e4⟩ := QF.out _ B4.out
    go_wp2_with (refine wpList_load_mid rfl 24 _ rfl w.heap.size 0 rfl [.int .i64 room, .int .i64 t, .slice pk nk ck] _ e1 Try.underlying24 rfl SS.out ?_)
    refine (CL.out _ B4.out).mono ?_
    rintro e w5 ⟨g2, rfl, hld2, bl5⟩
    have B5 : Hid (Below W2.heap.size W2 w5) := hid (B4.out.trans (bl5.mono B4.out.size))
    obtain ⟨b1, c1, Z1', S1, z1, k1, l1⟩ := D4.out
    obtain ⟨b2, c2, Z2', S2, z2, k2, l2⟩ := hld2
    have lt1 : Hid (∀ k, S1 k → k < w4.heap.size) := hid z1.lt
    have z1' := z1.below bl5
    obtain ⟨q0, q9, qu⟩ := HQ.out.facts
    have ZZ : Hid (∀ Z : List (MapEntry × En), Z.map (·.2.k) = Ks.map (·.k) → ZQ room (Ks.map (·.k)) Z) := hid fun Z e => ZQ.of e (by simpa using hn) (fun k hk => by
      obtain ⟨x, hx, rfl⟩ := List.mem_map.1 hk
      exact hby x hx) (by
      have := usedL_k e
      rw [usedL_kp, show kpK Z = Ks.map (·.k) from e] at this
      omega)
    have Y1 := hid (ZZ.out _ k1)
    have Y2 := hid (ZZ.out _ k2)
    have H1 := hid z1'
    have H2 := hid z2
    have L1 := hid l1
    have L2 := hid l2
    clear z1 z2 z1' k1 k2 l1 l2 bl5 e1 e2 e3 e4 f1 f2 f3 f4 D4
    obtain ⟨f1, f2, f3, f4⟩ := QF.out _ B5.out
    by_cases htp : 1099511627776 < t + (P : Int)
    · have hw0 : IntKind.i64.wrap (t + (P : Int)) = t + (P : Int) := by rw [IntKind.wrap_i64]; omega
      go_wp2
      go_ret
      exact ⟨rfl, BW.out _ B5.out⟩
    · have hw0 : IntKind.i64.wrap (t + (P : Int)) = t + (P : Int) := by rw [IntKind.wrap_i64]; omega
      obtain ⟨K, HK⟩ : ∃ x, Hid (Ks.map (·.k) = x) := ⟨_, hid rfl⟩
      rw [HK.out] at Y1 Y2
      have XB : Hid (∀ W, Ex S1 w5 W → Below W2.heap.size W2 W) := hid fun W hW => B5.out.trans (hW.below B5.out.size (fun k hk => Nat.le_trans B3.out.size (L1.out k hk)))
      clear ZZ HQ CL BL4
      go_wp2_with fail
      go_loopw [11] (fun i wr => ∃ (k : Nat) (Z : List (MapEntry × En)), 1 ≤ k ∧ k ≤ P + 1 ∧ i = .int .i64 (k : Int) ∧ HZ wr g1 b1 c1 room (t + (k : Int) - 1) Z S1 ∧ ZQ room (tkK t (t + (k : Int) - 1) K) Z ∧ Ex S1 w5 wr) (fun i _ => P + 1 - (intOf i).toNat)
      case atStart => exact ⟨1, Z1', Nat.le_refl _, by omega, rfl, by rw [show t + ((1 : Nat) : Int) - 1 = t by omega]; exact H1.out, by rw [show t + ((1 : Nat) : Int) - 1 = t by omega, tkK_same]; exact Y1.out, Ex.refl _ _⟩
      case round =>
        obtain ⟨k, Z, hk1, hk2, rfl, hz, hy, hx⟩ := hrel
        obtain ⟨a1, a2, a3, a4⟩ := QF.out _ (XB.out _ hx)
        have HX := hid hx
        have HH := hid hz
        have HY := hid hy
        clear hz hy hx f1 f2 f3 f4
        by_cases hle : k ≤ P
        · have hw1 : IntKind.i64.wrap (t + (k : Int)) = t + (k : Int) := by rw [IntKind.wrap_i64]; omega
          have CT := hid (tick_ok HH.out HY.out.use (t + (k : Int)) (by omega) (by omega))
          go_wp2_with fail
          refine CT.out.mono ?_
          rintro e w6 ⟨rfl, hz6, hx6⟩
          have H6 := hid hz6
          have X6 := hid hx6
          clear hz6 hx6 CT
          go_wp2
          refine ⟨⟨k + 1, _, by omega, by omega, by go_num, by rw [show t + ((k + 1 : Nat) : Int) - 1 = t + (k : Int) by omega]; exact H6.out, ?_, HX.out.trans X6.out (fun k hk => .inl hk)⟩, by simp [intOf]; omega⟩
          rw [show t + ((k + 1 : Nat) : Int) - 1 = t + (k : Int) by omega]
          have q := HY.out.tick (t + (k : Int) - 1) (t + (k : Int))
          rw [tkK_tkK (by omega) (by omega)] at q
          exact q
        · obtain rfl : k = P + 1 := by omega
          have et : t + ((P + 1 : Nat) : Int) - 1 = t + (P : Int) := by omega
          have HH' : Hid (HZ wr g1 b1 c1 room (t + (P : Int)) Z S1) := hid (by have q := HH.out; rw [et] at q; exact q)
          have HY' : Hid (ZQ room (tkK t (t + (P : Int)) K) Z) := hid (by have q := HY.out; rw [et] at q; exact q)
          have T2 : Hid (HZ wr g2 b2 c2 room t Z2' S2) := hid (H2.out.of fun k hk => HX.out.block k (H2.out.lt k hk) (fun q => by have := lt1.out k q; have := L2.out k hk; omega))
          have CT := hid (tick_ok T2.out Y2.out.use (t + (P : Int)) (by omega) (by omega))
          go_wp2_with fail
          refine CT.out.mono ?_
          rintro e w6 ⟨rfl, hz6, hx6⟩
          have H6 := hid hz6
          have X6 := hid hx6
          have Y6 : Hid (ZQ room (tkK t (t + (P : Int)) K) (tkZ t (t + (P : Int)) Z2')) := hid (Y2.out.tick _ _)
          have B6 : Hid (Below W2.heap.size W2 w6) := hid ((XB.out _ HX.out).trans (hx6.below (XB.out _ HX.out).size (fun k hk => Nat.le_trans B4.out.size (L2.out k hk))))
          have G6 : Hid (HZ w6 g1 b1 c1 room (t + (P : Int)) Z S1) := hid (HH'.out.ex hx6 (fun k hk q => by have := lt1.out k hk; have := L2.out k q; omega))
          clear hz6 hx6 CT HH HY HH' T2 H1 H2 Y1 Y2
          have CS1 := hid (state_any G6.out HY'.out.len HY'.out.bts)
          go_wp2_with fail
          refine CS1.out.mono ?_
          rintro e w7 ⟨v1, X1s, rfl, r1, p1, o1, bl7⟩
          have HP1 := hid p1
          have HO1 := hid o1
          have HR1 := hid r1
          have BL7 := hid bl7
          have B7 : Hid (Below W2.heap.size W2 w7) := hid (B6.out.trans (bl7.mono B6.out.size))
          clear p1 o1 r1 bl7 CS1
          have CS2 := hid (state_any (H6.out.below BL7.out) Y6.out.len Y6.out.bts)
          go_wp2_with fail
          refine CS2.out.mono ?_
          rintro e w8 ⟨v2, X2s, rfl, r2, p2, o2, bl8⟩
          have CS3 := hid (same_two (t := t + (P : Int)) (HR1.out.below bl8) r2 HP1.out p2 HO1.out o2 HY'.out Y6.out (fun z hz => (G6.out.each z hz).few))
          have B8 : Hid (Below W2.heap.size W2 w8) := hid (B7.out.trans (bl8.mono B7.out.size))
          have BL8 := hid bl8
          clear r2 p2 o2 bl8 CS2
          go_wp2_with fail
          refine CS3.out.mono ?_
          rintro e w9 ⟨rfl, bl9⟩
          have B9 : Hid (Below W2.heap.size W2 w9) := hid (B8.out.trans (bl9.mono B8.out.size))
          have G9 : Hid (HZ w9 g1 b1 c1 room (t + (P : Int)) Z S1) := hid (((G6.out.below BL7.out).below BL8.out).below bl9)
          clear bl9 CS3 H6 Y6 a1 a2 a3 a4
          obtain ⟨a1, a2, a3, a4⟩ := QF.out _ B9.out
          have GB : Hid (∀ W, Below w9.heap.size w9 W → HZ W g1 b1 c1 room (t + (P : Int)) Z S1) := hid fun W hW => G9.out.below hW
          by_cases hk : rk = 1 ∨ rk = 3
          · have CS4 := hid (state_own G9.out HY'.out.len HY'.out.bts)
            have CD' := hid fun (W : World) (hz : HZ W g1 b1 c1 room (t + (P : Int)) Z S1) => CD.out W g1 b1 c1 (t + (P : Int)) Z S1 hz HY'.out.use (by omega) hk
            rcases hk with rfl | rfl
            · go_wp2_with fail
              refine CS4.out.mono ?_
              rintro e w10 ⟨v3, X3s, rfl, r3, pp3, o3, bl10⟩
              have HP3 := hid pp3
              have HO3 := hid o3
              have HR3 := hid r3
              obtain ⟨p3, c3, hv3, -, -⟩ := r3.rd
              have B10 : Hid (Below W2.heap.size W2 w10) := hid (B9.out.trans (bl10.mono B9.out.size))
              have BL10 := hid bl10
              subst hv3
              clear o3 bl10
              generalize hn3 : X3s.length = n3 at HR3
              obtain ⟨W11, HW11⟩ : ∃ W : World, Hid (w10.alloc (.cells #[.int .i64 room, .int .i64 (t + (P : Int)), .slice p3 n3 c3] 24) = W) := ⟨_, hid rfl⟩
              have R11 : Hid (W11.heap[w10.heap.size]? = some (.cells #[.int .i64 room, .int .i64 (t + (P : Int)), .slice p3 n3 c3] 24 (0, 0))) := hid (by rw [← HW11.out]; exact heap_alloc_new w10 _)
              have N11 : Hid (W11.heap.size = w10.heap.size + 1) := hid (by rw [← HW11.out]; simp)
              have BL11 : Hid (Below w10.heap.size w10 W11) := hid (by rw [← HW11.out]; exact (Below.refl _ _).alloc (Nat.le_refl _) _)
              have B11 : Hid (Below W2.heap.size W2 W11) := hid (B10.out.trans (BL11.out.mono B10.out.size))
              have G11 : Hid (HZ W11 g1 b1 c1 room (t + (P : Int)) Z S1) := hid (GB.out W11 (BL10.out.trans (BL11.out.mono BL10.out.size)))
              have CD1 := hid (CD'.out W11 G11.out)
              have LT9 : Hid (w9.heap.size ≤ w10.heap.size) := hid BL10.out.size
              have g3 := (QF.out W11 B11.out).2.2.1
              have g1c : W11.cell? ⟨w10.heap.size, 1, none⟩ = some (.int .i64 (t + (P : Int))) := by rw [cell_of_row _ _ _ _ _ _ R11.out]; rfl
              rw [← HW11.out] at g3 g1c
              go_wp2_with (refine wpList_load_mid rfl 33 _ rfl (w.heap.size + 1) 0 rfl ml _ g3 Try.underlying33 rfl SR.out ?_; rw [HM.out])
              rw [HW11.out]
              refine CD1.out.mono ?_
              rintro e w12 ⟨m12, rfl, hz12, hx12⟩
              have G12 := hid hz12
              have B12 : Hid (Below W2.heap.size W2 w12) := hid (B11.out.trans (hx12.below B11.out.size (fun k hk => Nat.le_trans B3.out.size (L1.out k hk))))
              have R12 : Hid (w12.heap[w10.heap.size]? = some (.cells #[.int .i64 room, .int .i64 (t + (P : Int)), .slice p3 n3 c3] 24 (0, 0))) := hid ((hx12.block _ (by have := N11.out; omega) (fun q => by have := G9.out.lt _ q; have := LT9.out; omega)).trans R11.out)
              have L12 : Hid (w10.heap.size < w12.heap.size) := hid (by have := hx12.size; have := N11.out; omega)
              have K12 : Hid (RdK w12 (.slice p3 n3 c3) X3s) := hid (HR3.out w12 (Nat.le_trans BL11.out.size hx12.size) (fun j h1 h2 => by
                have a5 := N11.out
                refine (hx12.block j (by omega) (fun q => ?_)).trans (BL11.out.block j h2)
                have := G9.out.lt _ q
                omega))
              have Y12 : Hid (ZQ room (tkK t (t + (P : Int)) K) (tkZ (t + (P : Int)) (t + (P : Int)) Z)) := hid (by
                have q := HY'.out.tick (t + (P : Int)) (t + (P : Int))
                rw [tkK_same] at q
                exact q)
              clear hz12 hx12
              have QS : Hid (∀ W, Below w12.heap.size w12 W → W.rangeAt w10.heap.size 0 [.int .i64 room, .int .i64 (t + (P : Int)), .slice p3 n3 c3]) := hid fun W hW => range_of (cs := [.int .i64 room, .int .i64 (t + (P : Int)), .slice p3 n3 c3]) ((hW.block _ L12.out).trans R12.out)
              have SS3 : Hid ((Try.prog.info? 24).map (·.size) = some ([.int .i64 room, .int .i64 (t + (P : Int)), .slice p3 n3 c3] : List Value).length) := hid (by kernel_rfl)
              have CS5 := hid fun (W : World) (hW : Below w12.heap.size w12 W) => state_any (G12.out.below hW) Y12.out.len Y12.out.bts
              have BR := hid ((Below.refl w12.heap.size w12).drew)
              go_wp2_with fail
              refine wp_region_held_drew (S := Below w12.heap.size w12) (by kernel_rfl) BR.out (fun hHeld => ?_)
              have HS := hid hHeld
              clear hHeld
              change wpAnyH _ _ _ _ _ _ _ _ (World.drew _)
              refine wpAnyH_take (i := 0) (v := ?_) rfl (by kernel_rfl) (by kernel_rfl) (by kernel_rfl) (fun _ _ _ h => h) (Or.inl ⟨by rfl, ?qa0⟩) HS.out ?_
              case qa0 => intro w hSw; go_simp; rfl
              simp only [Act.put, List.getElem_toArray, List.getElem_cons_zero, List.getElem_cons_succ, List.setIfInBounds_toArray, List.set_cons_zero, List.set_cons_succ]
              refine wpAnyH_take (i := 1) (v := ?_) rfl (by kernel_rfl) (by kernel_rfl) (by kernel_rfl) (fun _ _ _ h => h) (Or.inl ⟨by rfl, ?qa1⟩) HS.out ?_
              case qa1 => intro w hSw; go_simp; rfl
              simp only [Act.put, List.getElem_toArray, List.getElem_cons_zero, List.getElem_cons_succ, List.setIfInBounds_toArray, List.set_cons_zero, List.set_cons_succ]
              refine wpAnyH_take (i := 2) (v := ?_) rfl (by kernel_rfl) (by kernel_rfl) (by kernel_rfl) (fun _ _ _ h => h) (Or.inl ⟨by rfl, ?qa2⟩) HS.out ?_
              case qa2 => intro w hSw; go_simp; rfl
              simp only [Act.put, List.getElem_toArray, List.getElem_cons_zero, List.getElem_cons_succ, List.setIfInBounds_toArray, List.set_cons_zero, List.set_cons_succ]
              refine wpAnyH_take (i := 3) (v := ?_) rfl (by kernel_rfl) (by kernel_rfl) (by kernel_rfl) (fun _ _ _ h => h) (Or.inl ⟨by rfl, ?qa3⟩) HS.out ?_
              case qa3 => intro w hSw; go_simp; rfl
              simp only [Act.put, List.getElem_toArray, List.getElem_cons_zero, List.getElem_cons_succ, List.setIfInBounds_toArray, List.set_cons_zero, List.set_cons_succ]
              refine wpAnyH_take (i := 5) rfl (by kernel_rfl) (by kernel_rfl) (by kernel_rfl) (fun _ _ _ h => h) (yieldsIf_load_mid (by rfl) 24 _ rfl w10.heap.size 0 rfl [.int .i64 room, .int .i64 (t + (P : Int)), .slice p3 n3 c3] _ (fun W hW => QS.out W hW) Try.underlying24 rfl SS3.out) HS.out ?_
              simp only [Act.put, List.getElem_toArray, List.getElem_cons_zero, List.getElem_cons_succ, List.setIfInBounds_toArray, List.set_cons_zero, List.set_cons_succ]
              refine wpAnyH_ready (rs := [4]) (by kernel_rfl) (by simp) ?_
              refine AllReadyH.cons rfl (fun K hK => ?_) AllReadyH.nil
              replace hK := hid hK
              go_simp
              refine (CS5.out _ HS.out).mono ?_
              rintro e w13 ⟨v4, X4s, rfl, r4, pp4, o4, bl13⟩
              have B13 : Hid (Below w12.heap.size w12 w13) := hid (HS.out.trans (bl13.mono HS.out.size))
              have CS6 := hid fun (W : World) (hW : Below w13.heap.size w13 W) => same_two (t := t + (P : Int)) (r4.below hW) ((K12.out.below B13.out).below hW) pp4 HP3.out o4 HO3.out Y12.out HY'.out (fun z hz => (G12.out.each z hz).few)
              clear r4 pp4 o4 bl13
              refine hK.out _ _ B13.out (fun _ => ?_)
              clear hK K HS
              have HS := B13
              refine wpAnyH_ready (rs := [6]) (by kernel_rfl) (by simp) ?_
              refine AllReadyH.cons rfl (fun K hK => ?_) AllReadyH.nil
              replace hK := hid hK
              go_simp
              refine (CS6.out _ (Below.refl _ _)).mono ?_
              rintro e w14 ⟨rfl, bl14⟩
              have B14 : Hid (Below w12.heap.size w12 w14) := hid (HS.out.trans (bl14.mono HS.out.size))
              clear bl14
              refine hK.out _ _ B14.out (fun _ => ?_)
              clear hK K HS
              have HS := B14
              refine wpAnyH_take (i := 7) (v := ?_) rfl (by kernel_rfl) (by kernel_rfl) (by kernel_rfl) (fun _ _ _ h => h) (Or.inl ⟨by rfl, ?qa7⟩) HS.out ?_
              case qa7 => intro w hSw; go_simp; rfl
              simp only [Act.put, List.getElem_toArray, List.getElem_cons_zero, List.getElem_cons_succ, List.setIfInBounds_toArray, List.set_cons_zero, List.set_cons_succ]
              refine wpAnyH_take (i := 8) (v := ?_) rfl (by kernel_rfl) (by kernel_rfl) (by kernel_rfl) (fun _ _ _ h => h) (Or.inl ⟨by rfl, ?qa8⟩) HS.out ?_
              case qa8 => intro w hSw; go_simp; rfl
              simp only [Act.put, List.getElem_toArray, List.getElem_cons_zero, List.getElem_cons_succ, List.setIfInBounds_toArray, List.set_cons_zero, List.set_cons_succ]
              refine wpAnyH_done (by kernel_rfl) ?_ _
              go_wp2
              go_ret
              exact ⟨rfl, BW.out _ (B12.out.trans (HS.out.mono B12.out.size))⟩
            · go_wp2_with fail
              refine CS4.out.mono ?_
              rintro e w10 ⟨v3, X3s, rfl, r3, pp3, o3, bl10⟩
              have HP3 := hid pp3
              have HO3 := hid o3
              have HR3 := hid r3
              obtain ⟨p3, c3, hv3, -, -⟩ := r3.rd
              have B10 : Hid (Below W2.heap.size W2 w10) := hid (B9.out.trans (bl10.mono B9.out.size))
              have BL10 := hid bl10
              subst hv3
              clear o3 bl10
              generalize hn3 : X3s.length = n3 at HR3
              obtain ⟨W11, HW11⟩ : ∃ W : World, Hid (w10.alloc (.cells #[.int .i64 room, .int .i64 (t + (P : Int)), .slice p3 n3 c3] 24) = W) := ⟨_, hid rfl⟩
              have R11 : Hid (W11.heap[w10.heap.size]? = some (.cells #[.int .i64 room, .int .i64 (t + (P : Int)), .slice p3 n3 c3] 24 (0, 0))) := hid (by rw [← HW11.out]; exact heap_alloc_new w10 _)
              have N11 : Hid (W11.heap.size = w10.heap.size + 1) := hid (by rw [← HW11.out]; simp)
              have BL11 : Hid (Below w10.heap.size w10 W11) := hid (by rw [← HW11.out]; exact (Below.refl _ _).alloc (Nat.le_refl _) _)
              have B11 : Hid (Below W2.heap.size W2 W11) := hid (B10.out.trans (BL11.out.mono B10.out.size))
              have G11 : Hid (HZ W11 g1 b1 c1 room (t + (P : Int)) Z S1) := hid (GB.out W11 (BL10.out.trans (BL11.out.mono BL10.out.size)))
              have CD1 := hid (CD'.out W11 G11.out)
              have LT9 : Hid (w9.heap.size ≤ w10.heap.size) := hid BL10.out.size
              have g3 := (QF.out W11 B11.out).2.2.1
              have g1c : W11.cell? ⟨w10.heap.size, 1, none⟩ = some (.int .i64 (t + (P : Int))) := by rw [cell_of_row _ _ _ _ _ _ R11.out]; rfl
              rw [← HW11.out] at g3 g1c
              go_wp2_with (refine wpList_load_mid rfl 33 _ rfl (w.heap.size + 1) 0 rfl ml _ g3 Try.underlying33 rfl SR.out ?_; rw [HM.out])
              rw [HW11.out]
              refine CD1.out.mono ?_
              rintro e w12 ⟨m12, rfl, hz12, hx12⟩
              have G12 := hid hz12
              have B12 : Hid (Below W2.heap.size W2 w12) := hid (B11.out.trans (hx12.below B11.out.size (fun k hk => Nat.le_trans B3.out.size (L1.out k hk))))
              have R12 : Hid (w12.heap[w10.heap.size]? = some (.cells #[.int .i64 room, .int .i64 (t + (P : Int)), .slice p3 n3 c3] 24 (0, 0))) := hid ((hx12.block _ (by have := N11.out; omega) (fun q => by have := G9.out.lt _ q; have := LT9.out; omega)).trans R11.out)
              have L12 : Hid (w10.heap.size < w12.heap.size) := hid (by have := hx12.size; have := N11.out; omega)
              have K12 : Hid (RdK w12 (.slice p3 n3 c3) X3s) := hid (HR3.out w12 (Nat.le_trans BL11.out.size hx12.size) (fun j h1 h2 => by
                have a5 := N11.out
                refine (hx12.block j (by omega) (fun q => ?_)).trans (BL11.out.block j h2)
                have := G9.out.lt _ q
                omega))
              have Y12 : Hid (ZQ room (tkK t (t + (P : Int)) K) (tkZ (t + (P : Int)) (t + (P : Int)) Z)) := hid (by
                have q := HY'.out.tick (t + (P : Int)) (t + (P : Int))
                rw [tkK_same] at q
                exact q)
              clear hz12 hx12
              have QS : Hid (∀ W, Below w12.heap.size w12 W → W.rangeAt w10.heap.size 0 [.int .i64 room, .int .i64 (t + (P : Int)), .slice p3 n3 c3]) := hid fun W hW => range_of (cs := [.int .i64 room, .int .i64 (t + (P : Int)), .slice p3 n3 c3]) ((hW.block _ L12.out).trans R12.out)
              have SS3 : Hid ((Try.prog.info? 24).map (·.size) = some ([.int .i64 room, .int .i64 (t + (P : Int)), .slice p3 n3 c3] : List Value).length) := hid (by kernel_rfl)
              have CS5 := hid fun (W : World) (hW : Below w12.heap.size w12 W) => state_any (G12.out.below hW) Y12.out.len Y12.out.bts
              have BR := hid ((Below.refl w12.heap.size w12).drew)
              go_wp2_with fail
              refine wp_region_held_drew (S := Below w12.heap.size w12) (by kernel_rfl) BR.out (fun hHeld => ?_)
              have HS := hid hHeld
              clear hHeld
              change wpAnyH _ _ _ _ _ _ _ _ (World.drew _)
              refine wpAnyH_take (i := 0) (v := ?_) rfl (by kernel_rfl) (by kernel_rfl) (by kernel_rfl) (fun _ _ _ h => h) (Or.inl ⟨by rfl, ?qb0⟩) HS.out ?_
              case qb0 => intro w hSw; go_simp; rfl
              simp only [Act.put, List.getElem_toArray, List.getElem_cons_zero, List.getElem_cons_succ, List.setIfInBounds_toArray, List.set_cons_zero, List.set_cons_succ]
              refine wpAnyH_take (i := 1) (v := ?_) rfl (by kernel_rfl) (by kernel_rfl) (by kernel_rfl) (fun _ _ _ h => h) (Or.inl ⟨by rfl, ?qb1⟩) HS.out ?_
              case qb1 => intro w hSw; go_simp; rfl
              simp only [Act.put, List.getElem_toArray, List.getElem_cons_zero, List.getElem_cons_succ, List.setIfInBounds_toArray, List.set_cons_zero, List.set_cons_succ]
              refine wpAnyH_take (i := 2) (v := ?_) rfl (by kernel_rfl) (by kernel_rfl) (by kernel_rfl) (fun _ _ _ h => h) (Or.inl ⟨by rfl, ?qb2⟩) HS.out ?_
              case qb2 => intro w hSw; go_simp; rfl
              simp only [Act.put, List.getElem_toArray, List.getElem_cons_zero, List.getElem_cons_succ, List.setIfInBounds_toArray, List.set_cons_zero, List.set_cons_succ]
              refine wpAnyH_take (i := 3) (v := ?_) rfl (by kernel_rfl) (by kernel_rfl) (by kernel_rfl) (fun _ _ _ h => h) (Or.inl ⟨by rfl, ?qb3⟩) HS.out ?_
              case qb3 => intro w hSw; go_simp; rfl
              simp only [Act.put, List.getElem_toArray, List.getElem_cons_zero, List.getElem_cons_succ, List.setIfInBounds_toArray, List.set_cons_zero, List.set_cons_succ]
              refine wpAnyH_take (i := 5) rfl (by kernel_rfl) (by kernel_rfl) (by kernel_rfl) (fun _ _ _ h => h) (yieldsIf_load_mid (by rfl) 24 _ rfl w10.heap.size 0 rfl [.int .i64 room, .int .i64 (t + (P : Int)), .slice p3 n3 c3] _ (fun W hW => QS.out W hW) Try.underlying24 rfl SS3.out) HS.out ?_
              simp only [Act.put, List.getElem_toArray, List.getElem_cons_zero, List.getElem_cons_succ, List.setIfInBounds_toArray, List.set_cons_zero, List.set_cons_succ]
              refine wpAnyH_ready (rs := [4]) (by kernel_rfl) (by simp) ?_
              refine AllReadyH.cons rfl (fun K hK => ?_) AllReadyH.nil
              replace hK := hid hK
              go_simp
              refine (CS5.out _ HS.out).mono ?_
              rintro e w13 ⟨v4, X4s, rfl, r4, pp4, o4, bl13⟩
              have B13 : Hid (Below w12.heap.size w12 w13) := hid (HS.out.trans (bl13.mono HS.out.size))
              have CS6 := hid fun (W : World) (hW : Below w13.heap.size w13 W) => same_two (t := t + (P : Int)) (r4.below hW) ((K12.out.below B13.out).below hW) pp4 HP3.out o4 HO3.out Y12.out HY'.out (fun z hz => (G12.out.each z hz).few)
              clear r4 pp4 o4 bl13
              refine hK.out _ _ B13.out (fun _ => ?_)
              clear hK K HS
              have HS := B13
              refine wpAnyH_ready (rs := [6]) (by kernel_rfl) (by simp) ?_
              refine AllReadyH.cons rfl (fun K hK => ?_) AllReadyH.nil
              replace hK := hid hK
              go_simp
              refine (CS6.out _ (Below.refl _ _)).mono ?_
              rintro e w14 ⟨rfl, bl14⟩
              have B14 : Hid (Below w12.heap.size w12 w14) := hid (HS.out.trans (bl14.mono HS.out.size))
              clear bl14
              refine hK.out _ _ B14.out (fun _ => ?_)
              clear hK K HS
              have HS := B14
              refine wpAnyH_take (i := 7) (v := ?_) rfl (by kernel_rfl) (by kernel_rfl) (by kernel_rfl) (fun _ _ _ h => h) (Or.inl ⟨by rfl, ?qb7⟩) HS.out ?_
              case qb7 => intro w hSw; go_simp; rfl
              simp only [Act.put, List.getElem_toArray, List.getElem_cons_zero, List.getElem_cons_succ, List.setIfInBounds_toArray, List.set_cons_zero, List.set_cons_succ]
              refine wpAnyH_take (i := 8) (v := ?_) rfl (by kernel_rfl) (by kernel_rfl) (by kernel_rfl) (fun _ _ _ h => h) (Or.inl ⟨by rfl, ?qb8⟩) HS.out ?_
              case qb8 => intro w hSw; go_simp; rfl
              simp only [Act.put, List.getElem_toArray, List.getElem_cons_zero, List.getElem_cons_succ, List.setIfInBounds_toArray, List.set_cons_zero, List.set_cons_succ]
              refine wpAnyH_done (by kernel_rfl) ?_ _
              go_wp2
              go_ret
              exact ⟨rfl, BW.out _ (B12.out.trans (HS.out.mono B12.out.size))⟩
          · have hn1 : (rk != 1) = true := by simp; intro e; exact hk (.inl e)
            have hn3 : (rk != 3) = true := by simp; intro e; exact hk (.inr e)
            go_wp2
            go_ret
            exact ⟨rfl, BW.out _ B9.out⟩
  · have CL := hid fun (W : World) (hW : Below W2.heap.size W2 W) => load_bad W room t _ Ks (KR.out W hW) hn hq
    go_wp2_with (refine wpList_load_mid rfl 24 _ rfl w.heap.size 0 rfl [.int .i64 room, .int .i64 t, .slice pk nk ck] _ f1 Try.underlying24 rfl SS.out ?_)
    refine (CL.out _ B3.out).mono ?_
    rintro e w4 ⟨rfl, bl4⟩
    have B4 : Hid (Below W2.heap.size W2 w4) := hid (B3.out.trans (bl4.mono B3.out.size))
    clear bl4
    obtain ⟨e1, e2, e3, e4⟩ := QF.out _ B4.out
    go_wp2_with (refine wpList_load_mid rfl 24 _ rfl w.heap.size 0 rfl [.int .i64 room, .int .i64 t, .slice pk nk ck] _ e1 Try.underlying24 rfl SS.out ?_)
    refine (CL.out _ B4.out).mono ?_
    rintro e w5 ⟨rfl, bl5⟩
    have B5 : Hid (Below W2.heap.size W2 w5) := hid (B4.out.trans (bl5.mono B4.out.size))
    clear bl5
    go_wp2
    go_ret
    exact ⟨rfl, BW.out _ B5.out⟩
end Go.Proofs.Ythmhpenjegfbcaa
