/- The law CutShapes, walked. -/
import Derived.Test.YtdmdcnikhnoclaaCutRef
import Derived.Test.YtdmdcnikhnoclaaLentKit
set_option linter.unusedSimpArgs false
set_option linter.unusedVariables false
namespace Go.Proofs.Ytdmdcnikhnoclaa
open Go Go.RowKit

theorem flat_shape : Ev.flatN Try.prog 6 27 = some 8 := by kernel_rfl
theorem row_shape : Ev.rowOf Try.prog 27 = some (true, 8) := by kernel_rfl
theorem run_neq_shape (w : World) (a b c d e f g h : Int) : (binOp .neq 27 (.agg #[.int .i64 a, .int .i64 b, .int .i64 c, .int .i64 d, .int .i64 e, .int .i64 f, .int .i64 g, .int .i64 h]) (.agg #[.int .i64 a, .int .i64 b, .int .i64 c, .int .i64 d, .int .i64 e, .int .i64 f, .int .i64 g, .int .i64 h])).run Try.prog w = .ok (.bool false) w := by
  obtain ⟨q1, q2⟩ := ints_eqv [a, b, c, d, e, f, g, h] [a, b, c, d, e, f, g, h] rfl
  have := Ev.run_equalIn_flat (P := Try.prog) w 6 10000 27 8 flat_shape (by decide) true 8 row_shape ([a, b, c, d, e, f, g, h].map (Value.int .i64)) ([a, b, c, d, e, f, g, h].map (Value.int .i64)) rfl rfl q1
  rw [q2, decide_eq_true rfl] at this
  rw [run_neq_struct]
  have e : (Op.equalIn 10000 27 (.agg #[.int .i64 a, .int .i64 b, .int .i64 c, .int .i64 d, .int .i64 e, .int .i64 f, .int .i64 g, .int .i64 h]) (.agg #[.int .i64 a, .int .i64 b, .int .i64 c, .int .i64 d, .int .i64 e, .int .i64 f, .int .i64 g, .int .i64 h])).run Try.prog w = .ok true w := this
  rw [e]
  rfl
def litB (z : Int) : Bool := decide (0 ≤ z ∧ z ≤ 32)
set_option maxHeartbeats 4000000 in
theorem literal_any (w : World) (z : Int) : Calls Try.prog 15 #[.int .i64 z] w fun e w' => e = .returned (.bool (litB z)) ∧ w' = w := by
  go_enter Try.func15, Try.ntmps15
  by_cases h1 : 0 ≤ z
  · by_cases h2 : z ≤ 32
    · have F : Hid (litB z = true) := decide_eq_true ⟨h1, h2⟩
      go_wp2; go_ret; rw [F.out]; exact ⟨rfl, rfl⟩
    · have F : Hid (litB z = false) := decide_eq_false fun h => h2 h.2
      go_wp2; go_ret; rw [F.out]; exact ⟨rfl, rfl⟩
  · have F : Hid (litB z = false) := decide_eq_false fun h => h1 h.1
    go_wp2; go_ret; rw [F.out]; exact ⟨rfl, rfl⟩
/-- A block's cells. -/
def BlC (w : World) (x : Nat) (cs : Array Value) (T : TypeId) : Prop := w.heap[x]? = some (.cells cs T (0, 0))
theorem BlC.below {w w' : World} {x : Nat} {cs : Array Value} {T : TypeId} (h : BlC w x cs T) (hb : Below w.heap.size w w') : BlC w' x cs T := (hb.block x (Array.getElem?_eq_some_iff.1 h).1).trans h
theorem BlC.cell {w : World} {x : Nat} {cs : Array Value} {T : TypeId} (h : BlC w x cs T) (i : Nat) (v : Value) (hi : cs[i]? = some v) : w.cell? ⟨x, i, none⟩ = some v := by rw [cell_of_row _ _ _ _ _ _ h]; exact hi
theorem BlC.free {w : World} {x : Nat} {cs : Array Value} {T : TypeId} (h : BlC w x cs T) (i : Nat) : w.frozen? ⟨x, i, none⟩ = false := by
  have h' : w.heap[x]? = some (.cells cs T (0, 0)) := h
  simp [World.frozen?, h']
theorem BlC.set {w : World} {x : Nat} {cs : Array Value} {T : TypeId} (h : BlC w x cs T) (i : Nat) (v : Value) : BlC (w.setCell ⟨x, i, none⟩ v) x (cs.setIfInBounds i v) T := by
  have h' : w.heap[x]? = some (.cells cs T (0, 0)) := h
  simp [BlC, World.setCell, Array.getElem?_modify, h']
theorem BlC.setOther {w : World} {x y : Nat} {cs : Array Value} {T : TypeId} (h : BlC w x cs T) (hne : y ≠ x) (i : Nat) (v : Value) : BlC (w.setCell ⟨y, i, none⟩ v) x cs T := by
  have h' : w.heap[x]? = some (.cells cs T (0, 0)) := h
  simp [BlC, World.setCell, Array.getElem?_modify, hne, h']
set_option maxRecDepth 100000 in
set_option maxHeartbeats 16000000 in
theorem shapes_walk (w : World) (k n g h : Int) (p : Option Addr) (l : List Int) (cc : Nat) (z : Int) (hv : HB w (.slice p l.length cc) l) (hl : l.length ≤ 140737488351232) :
    Calls Try.prog 3 #[prV k n g h (.slice p l.length cc), .int .i64 z] w fun r w' => r = .returned (.bool true) ∧ Below w.heap.size w w' := by
  have HA := hid hv
  obtain ⟨_, _, ea, hlc, hcm⟩ := hv.open
  simp only [Value.slice.injEq] at ea
  obtain ⟨rfl, _, rfl⟩ := ea
  clear hv
  unfold maxLen at hcm
  have sz := size_u8
  obtain ⟨s0, s1, s2, s3, s4, s5, s6, s7, HT⟩ : ∃ s0 s1 s2 s3 s4 s5 s6 s7, Hid (shpT k n g l.length z = [s0, s1, s2, s3, s4, s5, s6, s7]) := shpT_len' k n g l.length z
  obtain ⟨E, HE⟩ : ∃ E, Hid (shpE k n g l.length z = E) := ⟨_, rfl⟩
  obtain ⟨C, HC⟩ : ∃ C, Hid (chkE k n g l.length = C) := ⟨_, rfl⟩
  have heq : ∀ W, _ := fun W => run_neq_shape W s0 s1 s2 s3 s4 s5 s6 s7
  have CS : Hid (∀ (w : World) (p : Option Addr) (c : Nat), Calls Try.prog 10 #[.agg #[.int .i64 k, .int .i64 n, .int .i64 g, .int .i64 h, .slice p l.length c], .int .i64 z] w fun e w' => e = .returned (.tuple #[.agg #[.int .i64 s0, .int .i64 s1, .int .i64 s2, .int .i64 s3, .int .i64 s4, .int .i64 s5, .int .i64 s6, .int .i64 s7], .int .i64 E]) ∧ Below w.heap.size w w') := fun w p c => by
    have := shape_any w k n g h z p l.length c
    rwa [HT.out, HE.out] at this
  have CR : Hid (∀ (w : World) (p : Option Addr) (c : Nat), Calls Try.prog 12 #[.agg #[.int .i64 k, .int .i64 n, .int .i64 g, .int .i64 h, .slice p l.length c], .int .i64 z] w fun e w' => e = .returned (.tuple #[.agg #[.int .i64 s0, .int .i64 s1, .int .i64 s2, .int .i64 s3, .int .i64 s4, .int .i64 s5, .int .i64 s6, .int .i64 s7], .int .i64 E]) ∧ Below w.heap.size w w') := fun w p c => by
    have := rshape_any w k n g h z p l.length c
    rwa [HT.out, HE.out] at this
  have CC : Hid (∀ (w : World) (p : Option Addr) (c : Nat), Calls Try.prog 11 #[.agg #[.int .i64 k, .int .i64 n, .int .i64 g, .int .i64 h, .slice p l.length c]] w fun e w' => e = .returned (.int .i64 C) ∧ Below w.heap.size w w') := fun w p c => by
    have := check_any w k n g h p l.length c
    rwa [HC.out] at this
  have CD : Hid (∀ (w : World) (p : Option Addr) (c : Nat), Calls Try.prog 13 #[.agg #[.int .i64 k, .int .i64 n, .int .i64 g, .int .i64 h, .slice p l.length c]] w fun e w' => e = .returned (.int .i64 C) ∧ Below w.heap.size w w') := fun w p c => by
    have := rcheck_any w k n g h p l.length c
    rwa [HC.out] at this
  unfold prV
  go_enter Try.func3, Try.ntmps3
  go_wp2_with fail
  obtain ⟨W0, HW0⟩ : ∃ W0, Hid ((w.alloc (.cells #[.int .i64 k, .int .i64 n, .int .i64 g, .int .i64 h, .slice p l.length cc] 24)).alloc (.cells #[.int .i64 k, .int .i64 n, .int .i64 g, .int .i64 h, .slice p l.length cc] 24) = W0) := ⟨_, rfl⟩
  rw [HW0.out]
  have HS0 : Hid (W0.heap.size = w.heap.size + 2) := by rw [← HW0.out]; simp [Hid]
  have B0 : Hid (Below w.heap.size w W0) := by rw [← HW0.out]; exact (below_alloc _ _).alloc (by simp) _
  have A0 : Hid (BlC W0 w.heap.size #[.int .i64 k, .int .i64 n, .int .i64 g, .int .i64 h, .slice p l.length cc] 24) := by
    rw [← HW0.out]
    exact (show BlC (w.alloc _) w.heap.size _ _ from heap_alloc_new w _).below (below_alloc _ _)
  have D0 : Hid (BlC W0 (w.heap.size + 1) #[.int .i64 k, .int .i64 n, .int .i64 g, .int .i64 h, .slice p l.length cc] 24) := by
    rw [← HW0.out]
    have := heap_alloc_new (w.alloc (.cells #[.int .i64 k, .int .i64 n, .int .i64 g, .int .i64 h, .slice p l.length cc] 24)) (.cells #[.int .i64 k, .int .i64 n, .int .i64 g, .int .i64 h, .slice p l.length cc] 24)
    rw [show (w.alloc (.cells #[.int .i64 k, .int .i64 n, .int .i64 g, .int .i64 h, .slice p l.length cc] 24)).heap.size = w.heap.size + 1 by simp] at this
    exact this
  refine (lent_any W0 _ l (HA.out.below B0.out) hl).mono ?_
  rintro e1 w1 ⟨vx, rfl, hox, hB1⟩
  obtain ⟨gx, cx, ex, hgx, hgx1, hcx, hcx2, hx0, hfx⟩ := lent_part hox HA.out.2
  have XF := hid hfx
  have B01 := hid (B0.out.trans (hB1.mono B0.out.size))
  have A1 := hid (A0.out.below hB1)
  have D1 := hid (D0.out.below hB1)
  have hcx' : l.length ≤ cx := by omega
  have GX : Hid (w.heap.size + 2 ≤ gx) := by have := HS0.out; show _ ≤ _; omega
  clear hox hx0 hfx hB1
  subst ex
  have a4 := A1.out.cell 4 _ rfl
  have d4 := D1.out.cell 4 _ rfl
  have f4 := D1.out.free 4
  obtain ⟨w2, HW2⟩ : ∃ w2, Hid (w1.setCell ⟨w.heap.size + 1, 4, none⟩ (.slice (some ⟨gx, 0, none⟩) l.length cx) = w2) := ⟨_, rfl⟩
  have A2 : Hid (BlC w2 w.heap.size #[.int .i64 k, .int .i64 n, .int .i64 g, .int .i64 h, .slice p l.length cc] 24) := by rw [← HW2.out]; exact A1.out.setOther (by omega) _ _
  have D2 : Hid (BlC w2 (w.heap.size + 1) #[.int .i64 k, .int .i64 n, .int .i64 g, .int .i64 h, .slice (some ⟨gx, 0, none⟩) l.length cx] 24) := by rw [← HW2.out]; exact D1.out.set 4 _
  have B02 : Hid (Below w.heap.size w w2) := by rw [← HW2.out]; exact B01.out.setCell (Nat.le_succ _) _
  have XF2 : Hid (HB w2 (.slice (some ⟨gx, 0, none⟩) (l.length + 70) cx) (lent l)) := by
    rw [← HW2.out]
    exact XF.out.away (grown_set w1 (w.heap.size + 1) 4 _) (.inr fun q => by have := GX.out; simp only [Value.ownBlock, Option.some.injEq] at q; omega)
  have d0 := D1.out.cell 0 _ rfl
  have d1 := D1.out.cell 1 _ rfl
  have d2 := D1.out.cell 2 _ rfl
  have d3 := D1.out.cell 3 _ rfl
  go_wp2_with fail
  rw [HW2.out]
  clear a4 d0 d1 d2 d3 d4 f4 XF A1 D1 B01
  refine (CS.out w2 _ _).mono ?_
  rintro e1 w3 ⟨rfl, hB3⟩
  have A3 := hid (A2.out.below hB3)
  have D3 := hid (D2.out.below hB3)
  have XF3 := hid (XF2.out.below hB3)
  have B03 := hid (B02.out.trans (hB3.mono B02.out.size))
  clear hB3 A2 D2 XF2 B02
  obtain ⟨W4, HW4⟩ : ∃ W4, Hid (w3.alloc (.cells #[.int .i64 s0, .int .i64 s1, .int .i64 s2, .int .i64 s3, .int .i64 s4, .int .i64 s5, .int .i64 s6, .int .i64 s7] 27) = W4) := ⟨_, rfl⟩
  have B34 : Hid (Below w3.heap.size w3 W4) := by rw [← HW4.out]; exact below_alloc _ _
  have S4 : Hid (BlC W4 w3.heap.size #[.int .i64 s0, .int .i64 s1, .int .i64 s2, .int .i64 s3, .int .i64 s4, .int .i64 s5, .int .i64 s6, .int .i64 s7] 27) := by rw [← HW4.out]; exact heap_alloc_new w3 _
  have A4 := hid (A3.out.below B34.out)
  have D4 := hid (D3.out.below B34.out)
  have XF4 := hid (XF3.out.below B34.out)
  have B04 := hid (B03.out.trans (B34.out.mono B03.out.size))
  have dd : ∀ i v, #[.int .i64 k, .int .i64 n, .int .i64 g, .int .i64 h, .slice (some ⟨gx, 0, none⟩) l.length cx][i]? = some v → (w3.alloc (.cells #[.int .i64 s0, .int .i64 s1, .int .i64 s2, .int .i64 s3, .int .i64 s4, .int .i64 s5, .int .i64 s6, .int .i64 s7] 27)).cell? ⟨w.heap.size + 1, i, none⟩ = some v := fun i v hi => by rw [HW4.out]; exact D4.out.cell i v hi
  have d0 := dd 0 _ rfl
  have d1 := dd 1 _ rfl
  have d2 := dd 2 _ rfl
  have d3 := dd 3 _ rfl
  have d4 := dd 4 _ rfl
  clear dd A3 D3 XF3 B03 B34
  go_wp2_with fail
  clear d0 d1 d2 d3 d4
  rw [HW4.out]
  refine (CC.out W4 _ _).mono ?_
  rintro e1 w5 ⟨rfl, hB5⟩
  have A5 := hid (A4.out.below hB5)
  have S5 := hid (S4.out.below hB5)
  have XF5 := hid (XF4.out.below hB5)
  have B05 := hid (B04.out.trans (hB5.mono B04.out.size))
  clear hB5 A4 S4 XF4 B04
  have a0 := A5.out.cell 0 _ rfl
  have a1 := A5.out.cell 1 _ rfl
  have a2 := A5.out.cell 2 _ rfl
  have a3 := A5.out.cell 3 _ rfl
  have a4 := A5.out.cell 4 _ rfl
  go_wp2_with fail
  clear a0 a1 a2 a3 a4
  refine (CR.out w5 _ _).mono ?_
  rintro e1 w6 ⟨rfl, hB6⟩
  have A6 := hid (A5.out.below hB6)
  have S6 := hid (S5.out.below hB6)
  have XF6 := hid (XF5.out.below hB6)
  have B06 := hid (B05.out.trans (hB6.mono B05.out.size))
  clear hB6 A5 S5 XF5 B05
  obtain ⟨W7, HW7⟩ : ∃ W7, Hid (w6.alloc (.cells #[.int .i64 s0, .int .i64 s1, .int .i64 s2, .int .i64 s3, .int .i64 s4, .int .i64 s5, .int .i64 s6, .int .i64 s7] 27) = W7) := ⟨_, rfl⟩
  have B67 : Hid (Below w6.heap.size w6 W7) := by rw [← HW7.out]; exact below_alloc _ _
  have A7 := hid (A6.out.below B67.out)
  have S7 := hid (S6.out.below B67.out)
  have T7 : Hid (BlC W7 w6.heap.size #[.int .i64 s0, .int .i64 s1, .int .i64 s2, .int .i64 s3, .int .i64 s4, .int .i64 s5, .int .i64 s6, .int .i64 s7] 27) := by rw [← HW7.out]; exact heap_alloc_new w6 _
  have XF7 := hid (XF6.out.below B67.out)
  have B07 := hid (B06.out.trans (B67.out.mono B06.out.size))
  have aa : ∀ i v, #[.int .i64 k, .int .i64 n, .int .i64 g, .int .i64 h, .slice p l.length cc][i]? = some v → (w6.alloc (.cells #[.int .i64 s0, .int .i64 s1, .int .i64 s2, .int .i64 s3, .int .i64 s4, .int .i64 s5, .int .i64 s6, .int .i64 s7] 27)).cell? ⟨w.heap.size, i, none⟩ = some v := fun i v hi => by rw [HW7.out]; exact A7.out.cell i v hi
  have uu : ∀ i v, #[.int .i64 s0, .int .i64 s1, .int .i64 s2, .int .i64 s3, .int .i64 s4, .int .i64 s5, .int .i64 s6, .int .i64 s7][i]? = some v → (w6.alloc (.cells #[.int .i64 s0, .int .i64 s1, .int .i64 s2, .int .i64 s3, .int .i64 s4, .int .i64 s5, .int .i64 s6, .int .i64 s7] 27)).cell? ⟨w3.heap.size, i, none⟩ = some v := fun i v hi => by rw [HW7.out]; exact S7.out.cell i v hi
  have tt : ∀ i v, #[.int .i64 s0, .int .i64 s1, .int .i64 s2, .int .i64 s3, .int .i64 s4, .int .i64 s5, .int .i64 s6, .int .i64 s7][i]? = some v → (w6.alloc (.cells #[.int .i64 s0, .int .i64 s1, .int .i64 s2, .int .i64 s3, .int .i64 s4, .int .i64 s5, .int .i64 s6, .int .i64 s7] 27)).cell? ⟨w6.heap.size, i, none⟩ = some v := fun i v hi => by rw [HW7.out]; exact T7.out.cell i v hi
  have a0 := aa 0 _ rfl
  have a1 := aa 1 _ rfl
  have a2 := aa 2 _ rfl
  have a3 := aa 3 _ rfl
  have a4 := aa 4 _ rfl
  have u0 := uu 0 _ rfl
  have t0 := tt 0 _ rfl
  have u1 := uu 1 _ rfl
  have t1 := tt 1 _ rfl
  have u2 := uu 2 _ rfl
  have t2 := tt 2 _ rfl
  have u3 := uu 3 _ rfl
  have t3 := tt 3 _ rfl
  have u4 := uu 4 _ rfl
  have t4 := tt 4 _ rfl
  have u5 := uu 5 _ rfl
  have t5 := tt 5 _ rfl
  have u6 := uu 6 _ rfl
  have t6 := tt 6 _ rfl
  have u7 := uu 7 _ rfl
  have t7 := tt 7 _ rfl
  clear aa uu tt A6 S6 XF6 B06 B67
  go_wp2_with fail
  clear a0 a1 a2 a3 a4 u0 u1 u2 u3 u4 u5 u6 u7 t0 t1 t2 t3 t4 t5 t6 t7
  rw [HW7.out]
  refine (CD.out W7 _ _).mono ?_
  rintro e1 w8 ⟨rfl, hB8⟩
  have A8 := hid (A7.out.below hB8)
  have XF8 := hid (XF7.out.below hB8)
  have B08 := hid (B07.out.trans (hB8.mono B07.out.size))
  clear hB8 A7 XF7 B07
  have a4 := A8.out.cell 4 _ rfl
  go_wp2_with fail
  clear a4
  refine (kept_any w8 _ _ _ l XF8.out (HA.out.below B08.out) hl).mono ?_
  rintro e1 w9 ⟨rfl, hB9⟩
  rw [decide_eq_true rfl]
  have B09 := hid (B08.out.trans (hB9.mono B08.out.size))
  clear hB9 XF8 A8 B08
  have CL := hid (literal_any w9 z)
  by_cases h1 : 0 ≤ z
  · by_cases h2 : z ≤ 32
    · rw [show litB z = true from decide_eq_true ⟨h1, h2⟩] at CL
      go_wp2_with fail
      refine CL.out.mono ?_
      rintro e1 w' ⟨rfl, rfl⟩
      go_wp2_with fail
      refine (awake_any _).mono ?_
      rintro e1 w10 ⟨rfl, hB10⟩
      have B10 := hid (B09.out.trans (hB10.mono B09.out.size))
      clear hB10
      go_wp2
      go_ret
      exact ⟨by first | rfl | (simp; omega), B10.out⟩
    · rw [show litB z = false from decide_eq_false fun q => h2 q.2] at CL
      go_wp2_with fail
      refine CL.out.mono ?_
      rintro e1 w' ⟨rfl, rfl⟩
      go_wp2_with fail
      refine (awake_any _).mono ?_
      rintro e1 w10 ⟨rfl, hB10⟩
      have B10 := hid (B09.out.trans (hB10.mono B09.out.size))
      clear hB10
      go_wp2
      go_ret
      exact ⟨by first | rfl | (simp; omega), B10.out⟩
  · rw [show litB z = false from decide_eq_false fun q => h1 q.1] at CL
    go_wp2_with fail
    refine CL.out.mono ?_
    rintro e1 w' ⟨rfl, rfl⟩
    go_wp2_with fail
    refine (awake_any _).mono ?_
    rintro e1 w10 ⟨rfl, hB10⟩
    have B10 := hid (B09.out.trans (hB10.mono B09.out.size))
    clear hB10
    go_wp2
    go_ret
    exact ⟨by first | rfl | (simp; omega), B10.out⟩
end Go.Proofs.Ytdmdcnikhnoclaa
