/- Of the road to ringOrderCard_holds: RgOrW, ShaLaid. -/
import Derived.Test.YtjdfclbjmmmcfaaDoorG08
import Derived.Test.YtjdfclbjmmmcfaaDoorRows
import Derived.Test.YtjdfclbjmmmcfaaDoorG00
import Derived.ProofKit
import Derived.OpenShut
import Derived.LaidLaws
import Derived.Lay
import Derived.MakeChecks
set_option linter.unusedVariables false
set_option linter.unusedSimpArgs false
namespace Go.Proofs.YtjdfclbjmmmcfaaDoor
open Go Go.RowKit
theorem OI.own {w : World} {g B : Nat} {l : List Nat} (h : OI w g l) (hB : B ≤ g) (hl : l.length ≤ 1000000) : w.ownsRow B 3 1 (.slice (some ⟨g, 0, none⟩) l.length l.length) (il l).length ((il l).map (Value.int .i64)) := by
  refine ⟨by simp, .inr ⟨g, l.length, nv l, by rw [il_len], hB, h, by rw [il_len]; exact Nat.le_refl _, by unfold maxLen; omega, by rw [nv_size]; omega, ?_⟩⟩
  rw [il_len, Nat.mul_one, List.take_of_length_le (by simp [nv])]
  unfold nv il
  rw [List.map_map]
  rfl
theorem IsO.small {d : Nat → List Int} {n : Nat} {l : List Nat} (h : IsO d n l) (hn : n ≤ 32) : ∀ x ∈ l, x < 4611686018427387904 := fun x hx => by
  have := (h.mem x).1 hx
  omega
theorem OI.HBn {w : World} {g n : Nat} {l : List Nat} {d : Nat → List Int} (h : OI w g l) (hO : IsO d n l) (hn : n ≤ 32) : I.HB w (.slice (some ⟨g, 0, none⟩) n n) (il l) := by
  have := h.HB (by rw [hO.len]; omega) (hO.small hn)
  rw [hO.len] at this
  exact this
theorem OI.ownn {w : World} {g n B : Nat} {l : List Nat} {d : Nat → List Int} (h : OI w g l) (hB : B ≤ g) (hO : IsO d n l) (hn : n ≤ 32) : w.ownsRow B 3 1 (.slice (some ⟨g, 0, none⟩) n n) (il l).length ((il l).map (Value.int .i64)) := by
  have := h.own hB (by rw [hO.len]; omega)
  rw [hO.len] at this
  exact this
set_option maxRecDepth 100000 in
set_option maxHeartbeats 8000000 in
theorem rgorder_ok (w : World) (x y : List Int) (n : Nat) (s r er : Int) (hx : X16 x) (hy : X16 y) (h1 : 1 ≤ n) (h2 : n ≤ 32) (hk : KC w)
    (hR : ∀ W, Below w.heap.size w W → Calls Tryd.prog 10 #[.agg (cellsB x), .int .i64 (n : Int), .int .i64 s] W fun e w' => e = .returned (.tuple #[.int .i64 r, .int .i64 er]) ∧ Below W.heap.size W w')
    (hRR : ∀ W, Below w.heap.size w W → Calls Tryd.prog 11 #[.agg (cellsB x), .int .i64 (n : Int), .int .i64 s] W fun e w' => e = .returned (.tuple #[.int .i64 r, .int .i64 er]) ∧ Below W.heap.size W w') :
    Calls Tryd.prog 3 #[.agg (cellsB x), .agg (cellsB y), .int .i64 (n : Int), .int .i64 s] w fun e w' => e = .returned (.bool true) ∧ Below w.heap.size w w' := by
  have SX := hid (size_ix hx)
  have SY := hid (size_ix hy)
  obtain ⟨cx, HCX⟩ : ∃ c, Hid (cellsB x = c) := ⟨_, rfl⟩
  obtain ⟨cy, HCY⟩ : ∃ c, Hid (cellsB y = c) := ⟨_, rfl⟩
  rw [HCX.out] at SX
  rw [HCY.out] at SY
  have HR := hid hR
  have HRR := hid hRR
  rw [HCX.out] at HR HRR
  rw [HCX.out, HCY.out]
  have XX := hid hx
  have YY := hid hy
  have HK := hid hk
  obtain ⟨W1, HW1⟩ : ∃ W1, Hid ((w.alloc (.cells cx 23)).alloc (.cells cy 23) = W1) := ⟨_, rfl⟩
  have e0 : (w.alloc (.cells cx 23)).heap.size = w.heap.size + 1 := by simp
  have B1 : Hid (Below w.heap.size w W1) := by rw [← HW1.out]; exact ((Below.refl _ w).alloc (Nat.le_refl _) _).alloc (by simp) _
  have HX1 : Hid (W1.heap[w.heap.size]? = some (.cells cx 23 (0, 0))) := by rw [← HW1.out]; refine hid ?_; rw [heap_alloc_old _ _ (by simp)]; exact heap_alloc_new w _
  have HY1 : Hid (W1.heap[w.heap.size + 1]? = some (.cells cy 23 (0, 0))) := by
    rw [← HW1.out]
    have := heap_alloc_new (w.alloc (.cells cx 23)) (.cells cy 23)
    rw [e0] at this
    exact this
  have s1 : w.heap.size + 1 < W1.heap.size := (Array.getElem?_eq_some_iff.1 HY1.out).1
  clear hx hy hk hR hRR
  go_enter Tryd.func3, Tryd.ntmps3
  go_wp2_with (refine wpList_load_row rfl 23 _ rfl w.heap.size rfl 23 cx (0, 0) _ (by rw [HW1.out]; exact HX1.out) Tryd.underlying23 rfl SX.out ?_; rw [HW1.out])
  have C1 := hid (order_ok W1 x n XX.out h1 h2 (HK.out.below B1.out))
  rw [HCX.out] at C1
  refine C1.out.mono ?_
  rintro e W2 ⟨g1, l1, rfl, hg1, hO, hI, hB⟩
  have P1 := hid hO
  have O12 := hid hI
  have B2 : Hid (Below w.heap.size w W2) := B1.out.trans (hB.mono B1.out.size)
  have HX2 : Hid (W2.heap[w.heap.size]? = some (.cells cx 23 (0, 0))) := (hB.block _ (by omega)).trans HX1.out
  have HY2 : Hid (W2.heap[w.heap.size + 1]? = some (.cells cy 23 (0, 0))) := (hB.block _ (by omega)).trans HY1.out
  have s2 : w.heap.size + 1 < W2.heap.size := (Array.getElem?_eq_some_iff.1 HY2.out).1
  clear hO hI hB C1
  go_wp2_with (first | (refine wpList_load_row rfl 23 _ rfl w.heap.size rfl 23 cx (0, 0) _ HX2.out Tryd.underlying23 rfl SX.out ?_) | (refine wpList_load_row rfl 23 _ rfl (w.heap.size + 1) rfl 23 cy (0, 0) _ HY2.out Tryd.underlying23 rfl SY.out ?_))
  have C2 := hid (order_ok W2 x n XX.out h1 h2 (HK.out.below B2.out))
  rw [HCX.out] at C2
  refine C2.out.mono ?_
  rintro e W3 ⟨g2, l2, rfl, hg2, hO, hI, hB⟩
  have P2 := hid hO
  have O23 := hid hI
  have B3 : Hid (Below w.heap.size w W3) := B2.out.trans (hB.mono B2.out.size)
  have HX3 : Hid (W3.heap[w.heap.size]? = some (.cells cx 23 (0, 0))) := (hB.block _ (by omega)).trans HX2.out
  have HY3 : Hid (W3.heap[w.heap.size + 1]? = some (.cells cy 23 (0, 0))) := (hB.block _ (by omega)).trans HY2.out
  have s3 : w.heap.size + 1 < W3.heap.size := (Array.getElem?_eq_some_iff.1 HY3.out).1
  have O13 := hid (O12.out.below hB)
  have hs23 := hB.size
  clear hO hI hB C2
  go_wp2_with (first | (refine wpList_load_row rfl 23 _ rfl w.heap.size rfl 23 cx (0, 0) _ HX3.out Tryd.underlying23 rfl SX.out ?_) | (refine wpList_load_row rfl 23 _ rfl (w.heap.size + 1) rfl 23 cy (0, 0) _ HY3.out Tryd.underlying23 rfl SY.out ?_))
  have e21 : l2 = l1 := P2.out.uniq P1.out
  rw [e21] at O23 P2
  clear e21
  have C3 := hid (order_ok W3 y n YY.out h1 h2 (HK.out.below B3.out))
  rw [HCY.out] at C3
  refine C3.out.mono ?_
  rintro e W4 ⟨g3, l3, rfl, hg3, hO, hI, hB⟩
  have P3 := hid hO
  have O34 := hid hI
  have B4 : Hid (Below w.heap.size w W4) := B3.out.trans (hB.mono B3.out.size)
  have HX4 : Hid (W4.heap[w.heap.size]? = some (.cells cx 23 (0, 0))) := (hB.block _ (by omega)).trans HX3.out
  have HY4 : Hid (W4.heap[w.heap.size + 1]? = some (.cells cy 23 (0, 0))) := (hB.block _ (by omega)).trans HY3.out
  have s4 : w.heap.size + 1 < W4.heap.size := (Array.getElem?_eq_some_iff.1 HY4.out).1
  have O14 := hid (O13.out.below hB)
  have O24 := hid (O23.out.below hB)
  clear hO hI hB C3
  go_wp2_with (first | (refine wpList_load_row rfl 23 _ rfl w.heap.size rfl 23 cx (0, 0) _ HX4.out Tryd.underlying23 rfl SX.out ?_) | (refine wpList_load_row rfl 23 _ rfl (w.heap.size + 1) rfl 23 cy (0, 0) _ HY4.out Tryd.underlying23 rfl SY.out ?_))
  have C4 := hid (rorder_ok W4 x n l1 XX.out h1 h2 P1.out)
  rw [HCX.out] at C4
  refine C4.out.mono ?_
  rintro e W5 ⟨g4, rfl, hg4, hI, hB⟩
  have O45 := hid hI
  have B5 : Hid (Below w.heap.size w W5) := B4.out.trans (hB.mono B4.out.size)
  have HX5 : Hid (W5.heap[w.heap.size]? = some (.cells cx 23 (0, 0))) := (hB.block _ (by omega)).trans HX4.out
  have HY5 : Hid (W5.heap[w.heap.size + 1]? = some (.cells cy 23 (0, 0))) := (hB.block _ (by omega)).trans HY4.out
  have s5 : w.heap.size + 1 < W5.heap.size := (Array.getElem?_eq_some_iff.1 HY5.out).1
  have O15 := hid (O14.out.below hB)
  have O25 := hid (O24.out.below hB)
  have O35 := hid (O34.out.below hB)
  clear hI hB C4
  go_wp2_with (first | (refine wpList_load_row rfl 23 _ rfl w.heap.size rfl 23 cx (0, 0) _ HX5.out Tryd.underlying23 rfl SX.out ?_) | (refine wpList_load_row rfl 23 _ rfl (w.heap.size + 1) rfl 23 cy (0, 0) _ HY5.out Tryd.underlying23 rfl SY.out ?_))
  have C5 := hid (rorder_ok W5 y n l3 YY.out h1 h2 P3.out)
  rw [HCY.out] at C5
  refine C5.out.mono ?_
  rintro e W6 ⟨g5, rfl, hg5, hI, hB⟩
  have O56 := hid hI
  have B6 : Hid (Below w.heap.size w W6) := B5.out.trans (hB.mono B5.out.size)
  have HX6 : Hid (W6.heap[w.heap.size]? = some (.cells cx 23 (0, 0))) := (hB.block _ (by omega)).trans HX5.out
  have HY6 : Hid (W6.heap[w.heap.size + 1]? = some (.cells cy 23 (0, 0))) := (hB.block _ (by omega)).trans HY5.out
  have s6 : w.heap.size + 1 < W6.heap.size := (Array.getElem?_eq_some_iff.1 HY6.out).1
  have O16 := hid (O15.out.below hB)
  have O26 := hid (O25.out.below hB)
  have O36 := hid (O35.out.below hB)
  have O46 := hid (O45.out.below hB)
  clear hI hB C5
  go_wp2_with (first | (refine wpList_load_row rfl 23 _ rfl w.heap.size rfl 23 cx (0, 0) _ HX6.out Tryd.underlying23 rfl SX.out ?_) | (refine wpList_load_row rfl 23 _ rfl (w.heap.size + 1) rfl 23 cy (0, 0) _ HY6.out Tryd.underlying23 rfl SY.out ?_))
  refine (HR.out W6 B6.out).mono ?_
  rintro e W7 ⟨rfl, hB⟩
  have B7 : Hid (Below w.heap.size w W7) := B6.out.trans (hB.mono B6.out.size)
  have HX7 : Hid (W7.heap[w.heap.size]? = some (.cells cx 23 (0, 0))) := (hB.block _ (by omega)).trans HX6.out
  have HY7 : Hid (W7.heap[w.heap.size + 1]? = some (.cells cy 23 (0, 0))) := (hB.block _ (by omega)).trans HY6.out
  have s7 : w.heap.size + 1 < W7.heap.size := (Array.getElem?_eq_some_iff.1 HY7.out).1
  have O17 := hid (O16.out.below hB)
  have O27 := hid (O26.out.below hB)
  have O37 := hid (O36.out.below hB)
  have O47 := hid (O46.out.below hB)
  have O57 := hid (O56.out.below hB)
  clear hB
  go_wp2_with (first | (refine wpList_load_row rfl 23 _ rfl w.heap.size rfl 23 cx (0, 0) _ HX7.out Tryd.underlying23 rfl SX.out ?_) | (refine wpList_load_row rfl 23 _ rfl (w.heap.size + 1) rfl 23 cy (0, 0) _ HY7.out Tryd.underlying23 rfl SY.out ?_))
  refine (HRR.out W7 B7.out).mono ?_
  rintro e W8 ⟨rfl, hB⟩
  have B8 : Hid (Below w.heap.size w W8) := B7.out.trans (hB.mono B7.out.size)
  have HX8 : Hid (W8.heap[w.heap.size]? = some (.cells cx 23 (0, 0))) := (hB.block _ (by omega)).trans HX7.out
  have HY8 : Hid (W8.heap[w.heap.size + 1]? = some (.cells cy 23 (0, 0))) := (hB.block _ (by omega)).trans HY7.out
  have s8 : w.heap.size + 1 < W8.heap.size := (Array.getElem?_eq_some_iff.1 HY8.out).1
  have O18 := hid (O17.out.below hB)
  have O28 := hid (O27.out.below hB)
  have O38 := hid (O37.out.below hB)
  have O48 := hid (O47.out.below hB)
  have O58 := hid (O57.out.below hB)
  clear hB
  go_wp2_with (first | (refine wpList_load_row rfl 23 _ rfl w.heap.size rfl 23 cx (0, 0) _ HX8.out Tryd.underlying23 rfl SX.out ?_) | (refine wpList_load_row rfl 23 _ rfl (w.heap.size + 1) rfl 23 cy (0, 0) _ HY8.out Tryd.underlying23 rfl SY.out ?_))
  have C8 := hid (I.sameBytes_any W8 _ _ (il l1) (il l1) (O18.out.HBn P1.out h2) (O48.out.HBn P1.out h2))
  rw [decide_eq_true rfl] at C8
  refine C8.out.mono ?_
  rintro e W9 ⟨rfl, hd⟩
  have hB : Below W8.heap.size W8 W9 := hd.below _
  have B9 : Hid (Below w.heap.size w W9) := B8.out.trans (hB.mono B8.out.size)
  have O19 := hid (O18.out.below hB)
  have O29 := hid (O28.out.below hB)
  have O39 := hid (O38.out.below hB)
  have O49 := hid (O48.out.below hB)
  have O59 := hid (O58.out.below hB)
  clear hd hB C8
  go_wp2_with fail
  have C9 := hid (I.sameBytes_any W9 _ _ (il l1) (il l1) (O29.out.HBn P1.out h2) (O49.out.HBn P1.out h2))
  rw [decide_eq_true rfl] at C9
  refine C9.out.mono ?_
  rintro e W10 ⟨rfl, hd⟩
  have hB : Below W9.heap.size W9 W10 := hd.below _
  have B10 : Hid (Below w.heap.size w W10) := B9.out.trans (hB.mono B9.out.size)
  have O110 := hid (O19.out.below hB)
  have O210 := hid (O29.out.below hB)
  have O310 := hid (O39.out.below hB)
  have O410 := hid (O49.out.below hB)
  have O510 := hid (O59.out.below hB)
  clear hd hB C9
  go_wp2_with fail
  have C10 := hid (I.sameBytes_any W10 _ _ (il l3) (il l3) (O310.out.HBn P3.out h2) (O510.out.HBn P3.out h2))
  rw [decide_eq_true rfl] at C10
  refine C10.out.mono ?_
  rintro e W11 ⟨rfl, hd⟩
  have hB : Below W10.heap.size W10 W11 := hd.below _
  have B11 : Hid (Below w.heap.size w W11) := B10.out.trans (hB.mono B10.out.size)
  have O111 := hid (O110.out.below hB)
  have O211 := hid (O210.out.below hB)
  have O311 := hid (O310.out.below hB)
  have O411 := hid (O410.out.below hB)
  have O511 := hid (O510.out.below hB)
  clear hd hB C10
  go_wp2_with fail
  obtain ⟨W12, HW12⟩ : ∃ W12, Hid (W11.alloc (.cells #[.slice (some ⟨g1, 0, none⟩) n n, .slice (some ⟨g2, 0, none⟩) n n, .slice (some ⟨g3, 0, none⟩) n n] 24) = W12) := ⟨_, rfl⟩
  rw [HW12.out]
  have HV12 : Hid (I.HV W12 (.slice (some ⟨W11.heap.size, 0, none⟩) 3 3) [.slice (some ⟨g1, 0, none⟩) n n, .slice (some ⟨g2, 0, none⟩) n n, .slice (some ⟨g3, 0, none⟩) n n]) := by rw [← HW12.out]; exact I.HV.three W11 _ _ _
  have hB : Below W11.heap.size W11 W12 := by rw [← HW12.out]; exact (Below.refl _ W11).alloc (Nat.le_refl _) _
  have B12 : Hid (Below w.heap.size w W12) := B11.out.trans (hB.mono B11.out.size)
  have hs12 := B12.out.size
  have lt1 : g1 < W2.heap.size := O12.out.lt
  have lt2 : g2 < W3.heap.size := O23.out.lt
  have hgw1 : w.heap.size ≤ g1 := Nat.le_trans B1.out.size hg1
  have hgw2 : w.heap.size ≤ g2 := Nat.le_trans B2.out.size hg2
  have hgw3 : w.heap.size ≤ g3 := Nat.le_trans B3.out.size hg3
  have AP : Hid (I.Apt w.heap.size W12 [.slice (some ⟨g1, 0, none⟩) n n, .slice (some ⟨g2, 0, none⟩) n n, .slice (some ⟨g3, 0, none⟩) n n] [il l1, il l1, il l3]) := by
    refine ⟨rfl, fun k hk => ?_, fun i j hi hj hij => ?_⟩
    · match k, hk with
      | 0, _ => exact (O111.out.below hB).ownn hgw1 P1.out h2
      | 1, _ => exact (O211.out.below hB).ownn hgw2 P1.out h2
      | 2, _ => exact (O311.out.below hB).ownn hgw3 P3.out h2
    · have i3 : i < 3 := hi
      have j3 : j < 3 := hj
      have n12 : g1 ≠ g2 := by omega
      have n13 : g1 ≠ g3 := by have := hs23; omega
      have n23 : g2 ≠ g3 := by omega
      refine .inr ?_
      rcases (by omega : i = 0 ∨ i = 1 ∨ i = 2) with rfl | rfl | rfl <;> rcases (by omega : j = 0 ∨ j = 1 ∨ j = 2) with rfl | rfl | rfl <;> first | exact absurd rfl hij | (simp only [List.getD_cons_zero, List.getD_cons_succ, Value.ownBlock, ne_eq, Option.some.injEq]; omega)
  have CAp := hid (I.apart_any w.heap.size W12 _ _ _ HV12.out AP.out hs12 (by simp) (fun k => by
    match k with
    | 0 => show (il l1).length ≤ _; rw [il_len, P1.out.len]; omega
    | 1 => show (il l1).length ≤ _; rw [il_len, P1.out.len]; omega
    | 2 => show (il l3).length ≤ _; rw [il_len, P3.out.len]; omega
    | _ + 3 => simp))
  refine CAp.out.mono ?_
  rintro e W13 ⟨rfl, hB13⟩
  have B13 : Hid (Below w.heap.size w W13) := B12.out.trans hB13
  clear hB13 CAp hB
  go_wp2
  go_ret
  exact ⟨rfl, B13.out⟩
set_option maxRecDepth 100000 in
set_option maxHeartbeats 8000000 in
theorem rgorder_bad (w : World) (x y : List Int) (n : Int) (s r er : Int) (hx : X16 x) (hy : X16 y) (hn : n < 1 ∨ 32 < n) (hk : KC w)
    (hR : ∀ W, Below w.heap.size w W → Calls Tryd.prog 10 #[.agg (cellsB x), .int .i64 n, .int .i64 s] W fun e w' => e = .returned (.tuple #[.int .i64 r, .int .i64 er]) ∧ Below W.heap.size W w')
    (hRR : ∀ W, Below w.heap.size w W → Calls Tryd.prog 11 #[.agg (cellsB x), .int .i64 n, .int .i64 s] W fun e w' => e = .returned (.tuple #[.int .i64 r, .int .i64 er]) ∧ Below W.heap.size W w') :
    Calls Tryd.prog 3 #[.agg (cellsB x), .agg (cellsB y), .int .i64 n, .int .i64 s] w fun e w' => e = .returned (.bool true) ∧ Below w.heap.size w w' := by
  have SX := hid (size_ix hx)
  have SY := hid (size_ix hy)
  obtain ⟨cx, HCX⟩ : ∃ c, Hid (cellsB x = c) := ⟨_, rfl⟩
  obtain ⟨cy, HCY⟩ : ∃ c, Hid (cellsB y = c) := ⟨_, rfl⟩
  rw [HCX.out] at SX
  rw [HCY.out] at SY
  have HR := hid hR
  have HRR := hid hRR
  rw [HCX.out] at HR HRR
  rw [HCX.out, HCY.out]
  have XX := hid hx
  have YY := hid hy
  have HK := hid hk
  obtain ⟨W1, HW1⟩ : ∃ W1, Hid ((w.alloc (.cells cx 23)).alloc (.cells cy 23) = W1) := ⟨_, rfl⟩
  have e0 : (w.alloc (.cells cx 23)).heap.size = w.heap.size + 1 := by simp
  have B1 : Hid (Below w.heap.size w W1) := by rw [← HW1.out]; exact ((Below.refl _ w).alloc (Nat.le_refl _) _).alloc (by simp) _
  have HX1 : Hid (W1.heap[w.heap.size]? = some (.cells cx 23 (0, 0))) := by rw [← HW1.out]; refine hid ?_; rw [heap_alloc_old _ _ (by simp)]; exact heap_alloc_new w _
  have HY1 : Hid (W1.heap[w.heap.size + 1]? = some (.cells cy 23 (0, 0))) := by
    rw [← HW1.out]
    have := heap_alloc_new (w.alloc (.cells cx 23)) (.cells cy 23)
    rw [e0] at this
    exact this
  have s1 : w.heap.size + 1 < W1.heap.size := (Array.getElem?_eq_some_iff.1 HY1.out).1
  clear hx hy hk hR hRR
  go_enter Tryd.func3, Tryd.ntmps3
  go_wp2_with (refine wpList_load_row rfl 23 _ rfl w.heap.size rfl 23 cx (0, 0) _ (by rw [HW1.out]; exact HX1.out) Tryd.underlying23 rfl SX.out ?_; rw [HW1.out])
  have C1 := hid (order_bad W1 x n XX.out hn)
  rw [HCX.out] at C1
  refine C1.out.mono ?_
  rintro e W2 ⟨rfl, hB⟩
  have B2 : Hid (Below w.heap.size w W2) := B1.out.trans (hB.mono B1.out.size)
  have HX2 : Hid (W2.heap[w.heap.size]? = some (.cells cx 23 (0, 0))) := (hB.block _ (by omega)).trans HX1.out
  have HY2 : Hid (W2.heap[w.heap.size + 1]? = some (.cells cy 23 (0, 0))) := (hB.block _ (by omega)).trans HY1.out
  have s2 : w.heap.size + 1 < W2.heap.size := (Array.getElem?_eq_some_iff.1 HY2.out).1
  clear hB C1
  go_wp2_with (first | (refine wpList_load_row rfl 23 _ rfl w.heap.size rfl 23 cx (0, 0) _ HX2.out Tryd.underlying23 rfl SX.out ?_) | (refine wpList_load_row rfl 23 _ rfl (w.heap.size + 1) rfl 23 cy (0, 0) _ HY2.out Tryd.underlying23 rfl SY.out ?_))
  have C2 := hid (order_bad W2 x n XX.out hn)
  rw [HCX.out] at C2
  refine C2.out.mono ?_
  rintro e W3 ⟨rfl, hB⟩
  have B3 : Hid (Below w.heap.size w W3) := B2.out.trans (hB.mono B2.out.size)
  have HX3 : Hid (W3.heap[w.heap.size]? = some (.cells cx 23 (0, 0))) := (hB.block _ (by omega)).trans HX2.out
  have HY3 : Hid (W3.heap[w.heap.size + 1]? = some (.cells cy 23 (0, 0))) := (hB.block _ (by omega)).trans HY2.out
  have s3 : w.heap.size + 1 < W3.heap.size := (Array.getElem?_eq_some_iff.1 HY3.out).1
  clear hB C2
  go_wp2_with (first | (refine wpList_load_row rfl 23 _ rfl w.heap.size rfl 23 cx (0, 0) _ HX3.out Tryd.underlying23 rfl SX.out ?_) | (refine wpList_load_row rfl 23 _ rfl (w.heap.size + 1) rfl 23 cy (0, 0) _ HY3.out Tryd.underlying23 rfl SY.out ?_))
  have C3 := hid (order_bad W3 y n YY.out hn)
  rw [HCY.out] at C3
  refine C3.out.mono ?_
  rintro e W4 ⟨rfl, hB⟩
  have B4 : Hid (Below w.heap.size w W4) := B3.out.trans (hB.mono B3.out.size)
  have HX4 : Hid (W4.heap[w.heap.size]? = some (.cells cx 23 (0, 0))) := (hB.block _ (by omega)).trans HX3.out
  have HY4 : Hid (W4.heap[w.heap.size + 1]? = some (.cells cy 23 (0, 0))) := (hB.block _ (by omega)).trans HY3.out
  have s4 : w.heap.size + 1 < W4.heap.size := (Array.getElem?_eq_some_iff.1 HY4.out).1
  clear hB C3
  go_wp2_with (first | (refine wpList_load_row rfl 23 _ rfl w.heap.size rfl 23 cx (0, 0) _ HX4.out Tryd.underlying23 rfl SX.out ?_) | (refine wpList_load_row rfl 23 _ rfl (w.heap.size + 1) rfl 23 cy (0, 0) _ HY4.out Tryd.underlying23 rfl SY.out ?_))
  have C4 := hid (rorder_bad W4 x n XX.out hn)
  rw [HCX.out] at C4
  refine C4.out.mono ?_
  rintro e W5 ⟨rfl, hB⟩
  have B5 : Hid (Below w.heap.size w W5) := B4.out.trans (hB.mono B4.out.size)
  have HX5 : Hid (W5.heap[w.heap.size]? = some (.cells cx 23 (0, 0))) := (hB.block _ (by omega)).trans HX4.out
  have HY5 : Hid (W5.heap[w.heap.size + 1]? = some (.cells cy 23 (0, 0))) := (hB.block _ (by omega)).trans HY4.out
  have s5 : w.heap.size + 1 < W5.heap.size := (Array.getElem?_eq_some_iff.1 HY5.out).1
  clear hB C4
  go_wp2_with (first | (refine wpList_load_row rfl 23 _ rfl w.heap.size rfl 23 cx (0, 0) _ HX5.out Tryd.underlying23 rfl SX.out ?_) | (refine wpList_load_row rfl 23 _ rfl (w.heap.size + 1) rfl 23 cy (0, 0) _ HY5.out Tryd.underlying23 rfl SY.out ?_))
  have C5 := hid (rorder_bad W5 y n YY.out hn)
  rw [HCY.out] at C5
  refine C5.out.mono ?_
  rintro e W6 ⟨rfl, hB⟩
  have B6 : Hid (Below w.heap.size w W6) := B5.out.trans (hB.mono B5.out.size)
  have HX6 : Hid (W6.heap[w.heap.size]? = some (.cells cx 23 (0, 0))) := (hB.block _ (by omega)).trans HX5.out
  have HY6 : Hid (W6.heap[w.heap.size + 1]? = some (.cells cy 23 (0, 0))) := (hB.block _ (by omega)).trans HY5.out
  have s6 : w.heap.size + 1 < W6.heap.size := (Array.getElem?_eq_some_iff.1 HY6.out).1
  clear hB C5
  go_wp2_with (first | (refine wpList_load_row rfl 23 _ rfl w.heap.size rfl 23 cx (0, 0) _ HX6.out Tryd.underlying23 rfl SX.out ?_) | (refine wpList_load_row rfl 23 _ rfl (w.heap.size + 1) rfl 23 cy (0, 0) _ HY6.out Tryd.underlying23 rfl SY.out ?_))
  refine (HR.out W6 B6.out).mono ?_
  rintro e W7 ⟨rfl, hB⟩
  have B7 : Hid (Below w.heap.size w W7) := B6.out.trans (hB.mono B6.out.size)
  have HX7 : Hid (W7.heap[w.heap.size]? = some (.cells cx 23 (0, 0))) := (hB.block _ (by omega)).trans HX6.out
  have HY7 : Hid (W7.heap[w.heap.size + 1]? = some (.cells cy 23 (0, 0))) := (hB.block _ (by omega)).trans HY6.out
  have s7 : w.heap.size + 1 < W7.heap.size := (Array.getElem?_eq_some_iff.1 HY7.out).1
  clear hB
  go_wp2_with (first | (refine wpList_load_row rfl 23 _ rfl w.heap.size rfl 23 cx (0, 0) _ HX7.out Tryd.underlying23 rfl SX.out ?_) | (refine wpList_load_row rfl 23 _ rfl (w.heap.size + 1) rfl 23 cy (0, 0) _ HY7.out Tryd.underlying23 rfl SY.out ?_))
  refine (HRR.out W7 B7.out).mono ?_
  rintro e W8 ⟨rfl, hB⟩
  have B8 : Hid (Below w.heap.size w W8) := B7.out.trans (hB.mono B7.out.size)
  have HX8 : Hid (W8.heap[w.heap.size]? = some (.cells cx 23 (0, 0))) := (hB.block _ (by omega)).trans HX7.out
  have HY8 : Hid (W8.heap[w.heap.size + 1]? = some (.cells cy 23 (0, 0))) := (hB.block _ (by omega)).trans HY7.out
  have s8 : w.heap.size + 1 < W8.heap.size := (Array.getElem?_eq_some_iff.1 HY8.out).1
  clear hB
  go_wp2_with (first | (refine wpList_load_row rfl 23 _ rfl w.heap.size rfl 23 cx (0, 0) _ HX8.out Tryd.underlying23 rfl SX.out ?_) | (refine wpList_load_row rfl 23 _ rfl (w.heap.size + 1) rfl 23 cy (0, 0) _ HY8.out Tryd.underlying23 rfl SY.out ?_))
  have C8 := hid (I.sameBytes_any W8 _ _ [] [] (I.HB.nil W8) (I.HB.nil W8))
  rw [decide_eq_true rfl] at C8
  refine C8.out.mono ?_
  rintro e W9 ⟨rfl, hd⟩
  have hB : Below W8.heap.size W8 W9 := hd.below _
  have B9 : Hid (Below w.heap.size w W9) := B8.out.trans (hB.mono B8.out.size)
  clear hd hB C8
  go_wp2_with fail
  have C9 := hid (I.sameBytes_any W9 _ _ [] [] (I.HB.nil W9) (I.HB.nil W9))
  rw [decide_eq_true rfl] at C9
  refine C9.out.mono ?_
  rintro e W10 ⟨rfl, hd⟩
  have hB : Below W9.heap.size W9 W10 := hd.below _
  have B10 : Hid (Below w.heap.size w W10) := B9.out.trans (hB.mono B9.out.size)
  clear hd hB C9
  go_wp2_with fail
  have C10 := hid (I.sameBytes_any W10 _ _ [] [] (I.HB.nil W10) (I.HB.nil W10))
  rw [decide_eq_true rfl] at C10
  refine C10.out.mono ?_
  rintro e W11 ⟨rfl, hd⟩
  have hB : Below W10.heap.size W10 W11 := hd.below _
  have B11 : Hid (Below w.heap.size w W11) := B10.out.trans (hB.mono B10.out.size)
  clear hd hB C10
  go_wp2_with fail
  obtain ⟨W12, HW12⟩ : ∃ W12, Hid (W11.alloc (.cells #[.slice none 0 0, .slice none 0 0, .slice none 0 0] 24) = W12) := ⟨_, rfl⟩
  rw [HW12.out]
  have HV12 : Hid (I.HV W12 (.slice (some ⟨W11.heap.size, 0, none⟩) 3 3) [.slice none 0 0, .slice none 0 0, .slice none 0 0]) := by rw [← HW12.out]; exact I.HV.three W11 _ _ _
  have hB : Below W11.heap.size W11 W12 := by rw [← HW12.out]; exact (Below.refl _ W11).alloc (Nat.le_refl _) _
  have B12 : Hid (Below w.heap.size w W12) := B11.out.trans (hB.mono B11.out.size)
  have AP : Hid (I.Apt w.heap.size W12 [.slice none 0 0, .slice none 0 0, .slice none 0 0] [[], [], []]) := by
    refine ⟨rfl, fun k hk => ?_, fun i j hi hj hij => ?_⟩
    · match k, hk with
      | 0, _ => exact ⟨rfl, .inl ⟨rfl, rfl⟩⟩
      | 1, _ => exact ⟨rfl, .inl ⟨rfl, rfl⟩⟩
      | 2, _ => exact ⟨rfl, .inl ⟨rfl, rfl⟩⟩
    · have i3 : i < 3 := hi
      refine .inl ?_
      match i, i3 with
      | 0, _ => rfl
      | 1, _ => rfl
      | 2, _ => rfl
  have CAp := hid (I.apart_any w.heap.size W12 _ _ _ HV12.out AP.out B12.out.size (by simp) (fun k => by
    match k with
    | 0 => simp
    | 1 => simp
    | 2 => simp
    | _ + 3 => simp))
  refine CAp.out.mono ?_
  rintro e W13 ⟨rfl, hB13⟩
  have B13 : Hid (Below w.heap.size w W13) := B12.out.trans hB13
  clear hB13 CAp hB
  go_wp2
  go_ret
  exact ⟨rfl, B13.out⟩
theorem rgorder_walk (w : World) (x y : List Int) (n s : Int) (hx : X16 x) (hy : X16 y) (hk : KC w) :
    Calls Tryd.prog 3 #[.agg (cellsB x), .agg (cellsB y), .int .i64 n, .int .i64 s] w fun e w' => e = .returned (.bool true) ∧ Below w.heap.size w w' := by
  by_cases hn : 1 ≤ n ∧ n ≤ 32
  · obtain ⟨m, rfl⟩ : ∃ m : Nat, n = (m : Int) := ⟨n.toNat, by omega⟩
    by_cases hs : 0 ≤ s ∧ s < (m : Int)
    · obtain ⟨t, rfl⟩ : ∃ t : Nat, s = (t : Int) := ⟨s.toNat, by omega⟩
      obtain ⟨l, hO⟩ := IsO.there (rgL x) m
      obtain ⟨i, _, hi⟩ := hO.place (k := t) (by omega)
      exact rgorder_ok w x y m t i 0 hx hy (by omega) (by omega) hk (fun W hB => rank_ok W x m t i l hx (by omega) (by omega) (by omega) hO hi (hk.below hB)) (fun W hB => rrank_ok W x m t i l hx (by omega) (by omega) (by omega) hO hi)
    · obtain ⟨l, hO⟩ := IsO.there (rgL x) m
      exact rgorder_ok w x y m s 0 2 hx hy (by omega) (by omega) hk (fun W hB => rank_bad W x m s hx (by omega)) (fun W hB => rrank_bad W x m s l hx (by omega) (by omega) hO (by omega))
  · exact rgorder_bad w x y n s 0 2 hx hy (by omega) hk (fun W hB => rank_bad W x n s hx (by omega)) (fun W hB => rrank_none W x n s hx (by omega))
end Go.Proofs.YtjdfclbjmmmcfaaDoor
namespace Go.Proofs.YtjdfclbjmmmcfaaDoor
open Go Go.RowKit Go.ChangeShapes Go.WideShapes Go.ChangeAt
def shaLaid : List (String × DataW Unit) := [("strongroom/sha.constants", Rows.laid_strongroom_sha_constants)]
theorem gK : Tryd.prog.globalNamed "strongroom/sha.constants" = some 1 := by kernel_rfl
theorem tK : (Tryd.prog.globals[1]?).map (·.type) = some 115 := by kernel_rfl
theorem cK : Tryd.prog.cellsOf 45 = 1 := by kernel_rfl
theorem dK : (Rows.laid_strongroom_sha_constants : DataW Unit) = .agg (kW.map fun x : Nat => .lit (.int .u32 (x : Int))) := by kernel_rfl
theorem kc_of_laid {W : World} (h : laidMetH Tryd.prog shaLaid W) : KC W := by
  rw [MakeChecks.laidMetH_plain _ _ _ (by kernel_rfl)] at h
  obtain ⟨ps, ⟨g0, t0, cs0, f0, p0, q0, hg0, ht0, hv0, hd0, _, _⟩, _, _⟩ := h
  obtain rfl := Option.some.inj (gK.symm.trans hg0)
  obtain rfl := Option.some.inj (tK.symm.trans ht0)
  obtain ⟨xs, m, rfl, hx, hlen, hn, hel⟩ := DataW.trod_array Tryd.underlying115 hd0
  intro t ht
  have h1 := hel t ht
  have hxt : xs[t]? = some xs[t] := List.getElem?_eq_getElem (by omega)
  rw [cK, hxt] at h1
  obtain ⟨k, e1, e2, _⟩ := DataW.trod_int Tryd.underlying45 h1
  simp only [Prod.mk.injEq] at hx
  have hd := hx.1
  rw [dK] at hd
  simp only [DataW.agg.injEq] at hd
  have hd2 : (kW.map fun x : Nat => (DataW.lit (.int .u32 (x : Int)) : DataW Unit))[t]? = (xs.map (·.1))[t]? := by rw [hd]
  have hkt : t < kW.length := by rw [kW_length]; exact ht
  rw [List.getElem?_map, List.getElem?_map, hxt, List.getElem?_eq_getElem hkt] at hd2
  simp only [Option.map_some, Option.some.injEq, e2, DataW.lit.injEq, Lit.int.injEq, true_and] at hd2
  have hv := World.var?_cell hg0 hv0 t
  have hcs : cs0[t]? = some (.int .u32 k) := by
    have : ((cs0.toList.drop (t * 1)).take 1)[0]? = some (.int .u32 k) := by rw [e1]; rfl
    simpa using this
  rw [hv, hcs, ← hd2]
  simp [List.getD, List.getElem?_eq_getElem hkt]
end Go.Proofs.YtjdfclbjmmmcfaaDoor
