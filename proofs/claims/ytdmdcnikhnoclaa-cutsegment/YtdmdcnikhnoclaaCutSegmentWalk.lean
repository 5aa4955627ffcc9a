/- The law CutSegment, walked. -/
import Derived.Test.YtdmdcnikhnoclaaCutSeg
import Derived.Test.YtdmdcnikhnoclaaLentKit
import Derived.Test.YtdmdcnikhnoclaaSameBytes
import Derived.Deep.RegionHeld
set_option linter.unusedSimpArgs false
set_option linter.unusedVariables false
namespace Go.Proofs.Ytdmdcnikhnoclaa
open Go Go.RowKit

/-- A shape lies in a block. -/
def ShC (w : World) (x : Nat) (a b c d e f g h : Int) : Prop := ∀ i v, #[Value.int .i64 a, .int .i64 b, .int .i64 c, .int .i64 d, .int .i64 e, .int .i64 f, .int .i64 g, .int .i64 h][i]? = some v → w.cell? ⟨x, i, none⟩ = some v
theorem ShC.below {w w' : World} {x : Nat} {a b c d e f g h : Int} (k : ShC w x a b c d e f g h) (hb : Below w.heap.size w w') : ShC w' x a b c d e f g h := fun i v hi => (hb.cell (World.block_lt_of_cell? w ⟨x, i, none⟩ (k i v hi))).trans (k i v hi)
theorem ShC.dr {w w' : World} {x : Nat} {a b c d e f g h : Int} (k : ShC w x a b c d e f g h) (hd : Dr w w') : ShC w' x a b c d e f g h := fun i v hi => (hd.cell _).trans (k i v hi)
theorem ShC.other {w w' : World} {x : Nat} {a b c d e f g h : Int} {y : Nat} (k : ShC w x a b c d e f g h) (hg : w.grownBy w' (some y)) (hne : x ≠ y) : ShC w' x a b c d e f g h := fun i v hi => hg.cell (k i v hi) (fun q => hne (Option.some.inj q))
set_option maxRecDepth 100000 in
set_option maxHeartbeats 16000000 in
theorem segment_walk (w : World) (a b c d e f g h : Int) (v : Value) (l : List Int) (j : Int) (hv : HB w v l) (hl : l.length ≤ 140737488351232) :
    Calls Try.prog 6 #[shV [a, b, c, d, e, f, g, h], v, .int .i64 j] w fun r w' => r = .returned (.bool true) ∧ Below w.heap.size w w' := by
  have HA := hid hv
  obtain ⟨p, cc, ea, _, hcm⟩ := hv.open
  clear hv
  subst ea
  unfold maxLen at hcm
  have sz := size_u8
  obtain ⟨t, HT⟩ : ∃ t, Hid (ftB a b c d e f g h = t) := ⟨_, rfl⟩
  have CS : Hid (∀ w v l, HB w v l → Calls Try.prog 27 #[.agg #[Value.int .i64 a, .int .i64 b, .int .i64 c, .int .i64 d, .int .i64 e, .int .i64 f, .int .i64 g, .int .i64 h], v, .int .i64 j] w fun r w' => ∃ v', r = .returned (.tuple #[v', .int .i64 (sgE t l.length d e j)]) ∧ w'.ownsRow w.heap.size 5 1 v' (sgL t l c d e f j).length ((sgL t l c d e f j).map (Value.int .u8)) ∧ Below w.heap.size w w') := by
    intro w v l hv
    rw [← HT.out]
    exact segment_any w a b c d e f g h j v l hv
  have CR : Hid (∀ w v l, HB w v l → Calls Try.prog 28 #[.agg #[Value.int .i64 a, .int .i64 b, .int .i64 c, .int .i64 d, .int .i64 e, .int .i64 f, .int .i64 g, .int .i64 h], v, .int .i64 j] w fun r w' => ∃ v', r = .returned (.tuple #[v', .int .i64 (sgE t l.length d e j)]) ∧ w'.ownsRow w.heap.size 5 1 v' (sgL t l c d e f j).length ((sgL t l c d e f j).map (Value.int .u8)) ∧ Below w.heap.size w w') := by
    intro w v l hv
    rw [← HT.out]
    exact rsegment_any w a b c d e f g h j v l hv
  obtain ⟨L, HL⟩ : ∃ L, Hid (sgL t l c d e f j = L) := ⟨_, rfl⟩
  obtain ⟨E, HE⟩ : ∃ E, Hid (sgE t l.length d e j = E) := ⟨_, rfl⟩
  have HLB : Hid (∀ x ∈ L, 0 ≤ x ∧ x < 256) := by rw [← HL.out]; exact sgL_byt HA.out.2
  have HLL : Hid (L.length ≤ l.length) := by rw [← HL.out]; exact sgL_le _ _ _ _ _ _ _
  rw [shV8]
  go_enter Try.func6, Try.ntmps6
  go_wp2_with fail
  obtain ⟨W0, HW0⟩ : ∃ W0, Hid (w.alloc (.cells #[Value.int .i64 a, .int .i64 b, .int .i64 c, .int .i64 d, .int .i64 e, .int .i64 f, .int .i64 g, .int .i64 h] 27) = W0) := ⟨_, rfl⟩
  rw [HW0.out]
  have HS0 : Hid (W0.heap.size = w.heap.size + 1) := by rw [← HW0.out]; simp [Hid]
  have B0 : Hid (Below w.heap.size w W0) := by rw [← HW0.out]; exact below_alloc _ _
  have K0 : Hid (ShC W0 w.heap.size a b c d e f g h) := fun i v hi => by rw [← HW0.out, cell_of_row _ _ _ _ _ _ (heap_alloc_new w _)]; exact hi
  refine (lent_any W0 _ l (HA.out.below B0.out) hl).mono ?_
  rintro e1 w1 ⟨vx, rfl, hox, hB1⟩
  obtain ⟨gx, cx, ex, hgx, hgx1, hcx, hcx2, hx0, hfx⟩ := lent_part hox HA.out.2
  have OX := hid hox
  have X0 := hid hx0
  have XF := hid hfx
  have B01 := hid (B0.out.trans (hB1.mono B0.out.size))
  have Kw1 := hid (K0.out.below hB1)
  have hcx' : l.length ≤ cx := by omega
  have GX : Hid (w.heap.size < gx) := by have := HS0.out; show _ < _; omega
  clear hox hx0 hfx hB1
  subst ex
  go_wp2_with fail
  have B0w1 := B01
  clear B01
  have C2 := CS.out (World.drew w1) _ l ((X0.out).drewN 1)
  rw [HL.out, HE.out] at C2
  have C2 := hid C2
  refine wp_region_held_drew (S := fun V : World => ShC V w.heap.size a b c d e f g h) mixedOrders (Kw1.out.dr (Dr.one _ 1)) (fun hHeld => ?_)
  clear hHeld
  change wpAnyH _ _ _ _ _ _ _ _ (World.drew _)
  refine wpAnyH_take (i := 0) (v := ?_) rfl (by kernel_rfl) (by kernel_rfl) (by kernel_rfl) (fun _ _ _ h => h) (Or.inl ⟨by rfl, ?q2x0⟩) (Kw1.out.dr (Dr.one _ 1)) ?_
  case q2x0 => intro w hSw; have c0 := hSw 0 _ rfl; have c1 := hSw 1 _ rfl; have c2 := hSw 2 _ rfl; have c3 := hSw 3 _ rfl; have c4 := hSw 4 _ rfl; have c5 := hSw 5 _ rfl; have c6 := hSw 6 _ rfl; have c7 := hSw 7 _ rfl; clear hSw; go_simp; rfl
  simp only [Act.put, List.getElem_toArray, List.getElem_cons_zero, List.getElem_cons_succ, List.setIfInBounds_toArray, List.set_cons_zero, List.set_cons_succ]
  refine wpAnyH_take (i := 1) (v := ?_) rfl (by kernel_rfl) (by kernel_rfl) (by kernel_rfl) (fun _ _ _ h => h) (Or.inl ⟨by rfl, ?q2x1⟩) (Kw1.out.dr (Dr.one _ 1)) ?_
  case q2x1 => intro w hSw; have c0 := hSw 0 _ rfl; have c1 := hSw 1 _ rfl; have c2 := hSw 2 _ rfl; have c3 := hSw 3 _ rfl; have c4 := hSw 4 _ rfl; have c5 := hSw 5 _ rfl; have c6 := hSw 6 _ rfl; have c7 := hSw 7 _ rfl; clear hSw; go_simp; rfl
  simp only [Act.put, List.getElem_toArray, List.getElem_cons_zero, List.getElem_cons_succ, List.setIfInBounds_toArray, List.set_cons_zero, List.set_cons_succ]
  refine wpAnyH_take (i := 2) (v := ?_) rfl (by kernel_rfl) (by kernel_rfl) (by kernel_rfl) (fun _ _ _ h => h) (Or.inl ⟨by rfl, ?q2x2⟩) (Kw1.out.dr (Dr.one _ 1)) ?_
  case q2x2 => intro w hSw; have c0 := hSw 0 _ rfl; have c1 := hSw 1 _ rfl; have c2 := hSw 2 _ rfl; have c3 := hSw 3 _ rfl; have c4 := hSw 4 _ rfl; have c5 := hSw 5 _ rfl; have c6 := hSw 6 _ rfl; have c7 := hSw 7 _ rfl; clear hSw; go_simp; rfl
  simp only [Act.put, List.getElem_toArray, List.getElem_cons_zero, List.getElem_cons_succ, List.setIfInBounds_toArray, List.set_cons_zero, List.set_cons_succ]
  refine wpAnyH_take (i := 3) (v := ?_) rfl (by kernel_rfl) (by kernel_rfl) (by kernel_rfl) (fun _ _ _ h => h) (Or.inl ⟨by rfl, ?q2x3⟩) (Kw1.out.dr (Dr.one _ 1)) ?_
  case q2x3 => intro w hSw; have c0 := hSw 0 _ rfl; have c1 := hSw 1 _ rfl; have c2 := hSw 2 _ rfl; have c3 := hSw 3 _ rfl; have c4 := hSw 4 _ rfl; have c5 := hSw 5 _ rfl; have c6 := hSw 6 _ rfl; have c7 := hSw 7 _ rfl; clear hSw; go_simp; rfl
  simp only [Act.put, List.getElem_toArray, List.getElem_cons_zero, List.getElem_cons_succ, List.setIfInBounds_toArray, List.set_cons_zero, List.set_cons_succ]
  refine wpAnyH_take (i := 4) (v := ?_) rfl (by kernel_rfl) (by kernel_rfl) (by kernel_rfl) (fun _ _ _ h => h) (Or.inl ⟨by rfl, ?q2x4⟩) (Kw1.out.dr (Dr.one _ 1)) ?_
  case q2x4 => intro w hSw; have c0 := hSw 0 _ rfl; have c1 := hSw 1 _ rfl; have c2 := hSw 2 _ rfl; have c3 := hSw 3 _ rfl; have c4 := hSw 4 _ rfl; have c5 := hSw 5 _ rfl; have c6 := hSw 6 _ rfl; have c7 := hSw 7 _ rfl; clear hSw; go_simp; rfl
  simp only [Act.put, List.getElem_toArray, List.getElem_cons_zero, List.getElem_cons_succ, List.setIfInBounds_toArray, List.set_cons_zero, List.set_cons_succ]
  refine wpAnyH_take (i := 5) (v := ?_) rfl (by kernel_rfl) (by kernel_rfl) (by kernel_rfl) (fun _ _ _ h => h) (Or.inl ⟨by rfl, ?q2x5⟩) (Kw1.out.dr (Dr.one _ 1)) ?_
  case q2x5 => intro w hSw; have c0 := hSw 0 _ rfl; have c1 := hSw 1 _ rfl; have c2 := hSw 2 _ rfl; have c3 := hSw 3 _ rfl; have c4 := hSw 4 _ rfl; have c5 := hSw 5 _ rfl; have c6 := hSw 6 _ rfl; have c7 := hSw 7 _ rfl; clear hSw; go_simp; rfl
  simp only [Act.put, List.getElem_toArray, List.getElem_cons_zero, List.getElem_cons_succ, List.setIfInBounds_toArray, List.set_cons_zero, List.set_cons_succ]
  refine wpAnyH_ready (rs := [6]) (by kernel_rfl) (by simp) ?_
  refine AllReadyH.cons rfl (fun K hK => ?_) AllReadyH.nil
  go_simp
  refine C2.out.mono ?_
  rintro e1 w2 ⟨vs, rfl, ho, hB⟩
  obtain ⟨ps, cs, eo⟩ := own_slc ho
  subst eo
  have OSw2 := hid ho
  have BB := hid (Below.trans (Dr.below (Dr.one w1 1) _) hB)
  have BSw2 := hid BB.out.size
  have Kw2 := hid (Kw1.out.below BB.out)
  have B0w2 := hid (B0w1.out.trans (BB.out.mono B0w1.out.size))
  clear ho hB
  have OXw2 := hid (own_below OX.out BB.out)
  have X2 := hid (X0.out.below BB.out)
  have XF2 := hid (XF.out.below BB.out)
  clear C2 BB OX X0 XF Kw1
  refine hK.out _ _ Kw2.out (fun _ => ?_)
  clear hK K
  refine wpAnyH_take (i := 7) (v := ?_) rfl (by kernel_rfl) (by kernel_rfl) (by kernel_rfl) (fun _ _ _ h => h) (Or.inl ⟨by rfl, ?q2x7⟩) Kw2.out ?_
  case q2x7 => intro w hSw; have c0 := hSw 0 _ rfl; have c1 := hSw 1 _ rfl; have c2 := hSw 2 _ rfl; have c3 := hSw 3 _ rfl; have c4 := hSw 4 _ rfl; have c5 := hSw 5 _ rfl; have c6 := hSw 6 _ rfl; have c7 := hSw 7 _ rfl; clear hSw; go_simp; rfl
  simp only [Act.put, List.getElem_toArray, List.getElem_cons_zero, List.getElem_cons_succ, List.setIfInBounds_toArray, List.set_cons_zero, List.set_cons_succ]
  refine wpAnyH_take (i := 8) (v := ?_) rfl (by kernel_rfl) (by kernel_rfl) (by kernel_rfl) (fun _ _ _ h => h) (Or.inl ⟨by rfl, ?q2x8⟩) Kw2.out ?_
  case q2x8 => intro w hSw; have c0 := hSw 0 _ rfl; have c1 := hSw 1 _ rfl; have c2 := hSw 2 _ rfl; have c3 := hSw 3 _ rfl; have c4 := hSw 4 _ rfl; have c5 := hSw 5 _ rfl; have c6 := hSw 6 _ rfl; have c7 := hSw 7 _ rfl; clear hSw; go_simp; rfl
  simp only [Act.put, List.getElem_toArray, List.getElem_cons_zero, List.getElem_cons_succ, List.setIfInBounds_toArray, List.set_cons_zero, List.set_cons_succ]
  refine wpAnyH_take (i := 9) (v := ?_) rfl (by kernel_rfl) (by kernel_rfl) (by kernel_rfl) (fun _ _ _ h => h) (Or.inl ⟨by rfl, ?q2x9⟩) Kw2.out ?_
  case q2x9 => intro w hSw; have c0 := hSw 0 _ rfl; have c1 := hSw 1 _ rfl; have c2 := hSw 2 _ rfl; have c3 := hSw 3 _ rfl; have c4 := hSw 4 _ rfl; have c5 := hSw 5 _ rfl; have c6 := hSw 6 _ rfl; have c7 := hSw 7 _ rfl; clear hSw; go_simp; rfl
  simp only [Act.put, List.getElem_toArray, List.getElem_cons_zero, List.getElem_cons_succ, List.setIfInBounds_toArray, List.set_cons_zero, List.set_cons_succ]
  refine wpAnyH_take (i := 10) (v := ?_) rfl (by kernel_rfl) (by kernel_rfl) (by kernel_rfl) (fun _ _ _ h => h) (Or.inl ⟨by rfl, ?q2x10⟩) Kw2.out ?_
  case q2x10 => intro w hSw; have c0 := hSw 0 _ rfl; have c1 := hSw 1 _ rfl; have c2 := hSw 2 _ rfl; have c3 := hSw 3 _ rfl; have c4 := hSw 4 _ rfl; have c5 := hSw 5 _ rfl; have c6 := hSw 6 _ rfl; have c7 := hSw 7 _ rfl; clear hSw; go_simp; rfl
  simp only [Act.put, List.getElem_toArray, List.getElem_cons_zero, List.getElem_cons_succ, List.setIfInBounds_toArray, List.set_cons_zero, List.set_cons_succ]
  refine wpAnyH_take (i := 11) (v := ?_) rfl (by kernel_rfl) (by kernel_rfl) (by kernel_rfl) (fun _ _ _ h => h) (Or.inl ⟨by rfl, ?q2x11⟩) Kw2.out ?_
  case q2x11 => intro w hSw; have c0 := hSw 0 _ rfl; have c1 := hSw 1 _ rfl; have c2 := hSw 2 _ rfl; have c3 := hSw 3 _ rfl; have c4 := hSw 4 _ rfl; have c5 := hSw 5 _ rfl; have c6 := hSw 6 _ rfl; have c7 := hSw 7 _ rfl; clear hSw; go_simp; rfl
  simp only [Act.put, List.getElem_toArray, List.getElem_cons_zero, List.getElem_cons_succ, List.setIfInBounds_toArray, List.set_cons_zero, List.set_cons_succ]
  refine wpAnyH_done (by kernel_rfl) ?_ _
  go_wp2_with fail
  have C3 := CS.out (World.drew w2) _ l ((X2.out).drewN 1)
  rw [HL.out, HE.out] at C3
  have C3 := hid C3
  refine wp_region_held_drew (S := fun V : World => ShC V w.heap.size a b c d e f g h) mixedOrders (Kw2.out.dr (Dr.one _ 1)) (fun hHeld => ?_)
  clear hHeld
  change wpAnyH _ _ _ _ _ _ _ _ (World.drew _)
  refine wpAnyH_take (i := 0) (v := ?_) rfl (by kernel_rfl) (by kernel_rfl) (by kernel_rfl) (fun _ _ _ h => h) (Or.inl ⟨by rfl, ?q3x0⟩) (Kw2.out.dr (Dr.one _ 1)) ?_
  case q3x0 => intro w hSw; have c0 := hSw 0 _ rfl; have c1 := hSw 1 _ rfl; have c2 := hSw 2 _ rfl; have c3 := hSw 3 _ rfl; have c4 := hSw 4 _ rfl; have c5 := hSw 5 _ rfl; have c6 := hSw 6 _ rfl; have c7 := hSw 7 _ rfl; clear hSw; go_simp; rfl
  simp only [Act.put, List.getElem_toArray, List.getElem_cons_zero, List.getElem_cons_succ, List.setIfInBounds_toArray, List.set_cons_zero, List.set_cons_succ]
  refine wpAnyH_take (i := 1) (v := ?_) rfl (by kernel_rfl) (by kernel_rfl) (by kernel_rfl) (fun _ _ _ h => h) (Or.inl ⟨by rfl, ?q3x1⟩) (Kw2.out.dr (Dr.one _ 1)) ?_
  case q3x1 => intro w hSw; have c0 := hSw 0 _ rfl; have c1 := hSw 1 _ rfl; have c2 := hSw 2 _ rfl; have c3 := hSw 3 _ rfl; have c4 := hSw 4 _ rfl; have c5 := hSw 5 _ rfl; have c6 := hSw 6 _ rfl; have c7 := hSw 7 _ rfl; clear hSw; go_simp; rfl
  simp only [Act.put, List.getElem_toArray, List.getElem_cons_zero, List.getElem_cons_succ, List.setIfInBounds_toArray, List.set_cons_zero, List.set_cons_succ]
  refine wpAnyH_take (i := 2) (v := ?_) rfl (by kernel_rfl) (by kernel_rfl) (by kernel_rfl) (fun _ _ _ h => h) (Or.inl ⟨by rfl, ?q3x2⟩) (Kw2.out.dr (Dr.one _ 1)) ?_
  case q3x2 => intro w hSw; have c0 := hSw 0 _ rfl; have c1 := hSw 1 _ rfl; have c2 := hSw 2 _ rfl; have c3 := hSw 3 _ rfl; have c4 := hSw 4 _ rfl; have c5 := hSw 5 _ rfl; have c6 := hSw 6 _ rfl; have c7 := hSw 7 _ rfl; clear hSw; go_simp; rfl
  simp only [Act.put, List.getElem_toArray, List.getElem_cons_zero, List.getElem_cons_succ, List.setIfInBounds_toArray, List.set_cons_zero, List.set_cons_succ]
  refine wpAnyH_take (i := 3) (v := ?_) rfl (by kernel_rfl) (by kernel_rfl) (by kernel_rfl) (fun _ _ _ h => h) (Or.inl ⟨by rfl, ?q3x3⟩) (Kw2.out.dr (Dr.one _ 1)) ?_
  case q3x3 => intro w hSw; have c0 := hSw 0 _ rfl; have c1 := hSw 1 _ rfl; have c2 := hSw 2 _ rfl; have c3 := hSw 3 _ rfl; have c4 := hSw 4 _ rfl; have c5 := hSw 5 _ rfl; have c6 := hSw 6 _ rfl; have c7 := hSw 7 _ rfl; clear hSw; go_simp; rfl
  simp only [Act.put, List.getElem_toArray, List.getElem_cons_zero, List.getElem_cons_succ, List.setIfInBounds_toArray, List.set_cons_zero, List.set_cons_succ]
  refine wpAnyH_take (i := 4) (v := ?_) rfl (by kernel_rfl) (by kernel_rfl) (by kernel_rfl) (fun _ _ _ h => h) (Or.inl ⟨by rfl, ?q3x4⟩) (Kw2.out.dr (Dr.one _ 1)) ?_
  case q3x4 => intro w hSw; have c0 := hSw 0 _ rfl; have c1 := hSw 1 _ rfl; have c2 := hSw 2 _ rfl; have c3 := hSw 3 _ rfl; have c4 := hSw 4 _ rfl; have c5 := hSw 5 _ rfl; have c6 := hSw 6 _ rfl; have c7 := hSw 7 _ rfl; clear hSw; go_simp; rfl
  simp only [Act.put, List.getElem_toArray, List.getElem_cons_zero, List.getElem_cons_succ, List.setIfInBounds_toArray, List.set_cons_zero, List.set_cons_succ]
  refine wpAnyH_take (i := 5) (v := ?_) rfl (by kernel_rfl) (by kernel_rfl) (by kernel_rfl) (fun _ _ _ h => h) (Or.inl ⟨by rfl, ?q3x5⟩) (Kw2.out.dr (Dr.one _ 1)) ?_
  case q3x5 => intro w hSw; have c0 := hSw 0 _ rfl; have c1 := hSw 1 _ rfl; have c2 := hSw 2 _ rfl; have c3 := hSw 3 _ rfl; have c4 := hSw 4 _ rfl; have c5 := hSw 5 _ rfl; have c6 := hSw 6 _ rfl; have c7 := hSw 7 _ rfl; clear hSw; go_simp; rfl
  simp only [Act.put, List.getElem_toArray, List.getElem_cons_zero, List.getElem_cons_succ, List.setIfInBounds_toArray, List.set_cons_zero, List.set_cons_succ]
  refine wpAnyH_ready (rs := [6]) (by kernel_rfl) (by simp) ?_
  refine AllReadyH.cons rfl (fun K hK => ?_) AllReadyH.nil
  go_simp
  refine C3.out.mono ?_
  rintro e1 w3 ⟨vt, rfl, ho, hB⟩
  obtain ⟨pt, ct, eo⟩ := own_slc ho
  subst eo
  have OTw3 := hid ho
  have BB := hid (Below.trans (Dr.below (Dr.one w2 1) _) hB)
  have BSw3 := hid BB.out.size
  have Kw3 := hid (Kw2.out.below BB.out)
  have B0w3 := hid (B0w2.out.trans (BB.out.mono B0w2.out.size))
  clear ho hB
  have NST := hid (own_ne OSw2.out OTw3.out (Nat.le_refl _))
  have OSw3 := hid (own_below OSw2.out BB.out)
  have OXw3 := hid (own_below OXw2.out BB.out)
  have X3 := hid (X2.out.below BB.out)
  have XF3 := hid (XF2.out.below BB.out)
  clear C3 BB OXw2 X2 XF2 OSw2 Kw2
  refine hK.out _ _ Kw3.out (fun _ => ?_)
  clear hK K
  refine wpAnyH_take (i := 7) (v := ?_) rfl (by kernel_rfl) (by kernel_rfl) (by kernel_rfl) (fun _ _ _ h => h) (Or.inl ⟨by rfl, ?q3x7⟩) Kw3.out ?_
  case q3x7 => intro w hSw; have c0 := hSw 0 _ rfl; have c1 := hSw 1 _ rfl; have c2 := hSw 2 _ rfl; have c3 := hSw 3 _ rfl; have c4 := hSw 4 _ rfl; have c5 := hSw 5 _ rfl; have c6 := hSw 6 _ rfl; have c7 := hSw 7 _ rfl; clear hSw; go_simp; rfl
  simp only [Act.put, List.getElem_toArray, List.getElem_cons_zero, List.getElem_cons_succ, List.setIfInBounds_toArray, List.set_cons_zero, List.set_cons_succ]
  refine wpAnyH_take (i := 8) (v := ?_) rfl (by kernel_rfl) (by kernel_rfl) (by kernel_rfl) (fun _ _ _ h => h) (Or.inl ⟨by rfl, ?q3x8⟩) Kw3.out ?_
  case q3x8 => intro w hSw; have c0 := hSw 0 _ rfl; have c1 := hSw 1 _ rfl; have c2 := hSw 2 _ rfl; have c3 := hSw 3 _ rfl; have c4 := hSw 4 _ rfl; have c5 := hSw 5 _ rfl; have c6 := hSw 6 _ rfl; have c7 := hSw 7 _ rfl; clear hSw; go_simp; rfl
  simp only [Act.put, List.getElem_toArray, List.getElem_cons_zero, List.getElem_cons_succ, List.setIfInBounds_toArray, List.set_cons_zero, List.set_cons_succ]
  refine wpAnyH_take (i := 9) (v := ?_) rfl (by kernel_rfl) (by kernel_rfl) (by kernel_rfl) (fun _ _ _ h => h) (Or.inl ⟨by rfl, ?q3x9⟩) Kw3.out ?_
  case q3x9 => intro w hSw; have c0 := hSw 0 _ rfl; have c1 := hSw 1 _ rfl; have c2 := hSw 2 _ rfl; have c3 := hSw 3 _ rfl; have c4 := hSw 4 _ rfl; have c5 := hSw 5 _ rfl; have c6 := hSw 6 _ rfl; have c7 := hSw 7 _ rfl; clear hSw; go_simp; rfl
  simp only [Act.put, List.getElem_toArray, List.getElem_cons_zero, List.getElem_cons_succ, List.setIfInBounds_toArray, List.set_cons_zero, List.set_cons_succ]
  refine wpAnyH_take (i := 10) (v := ?_) rfl (by kernel_rfl) (by kernel_rfl) (by kernel_rfl) (fun _ _ _ h => h) (Or.inl ⟨by rfl, ?q3x10⟩) Kw3.out ?_
  case q3x10 => intro w hSw; have c0 := hSw 0 _ rfl; have c1 := hSw 1 _ rfl; have c2 := hSw 2 _ rfl; have c3 := hSw 3 _ rfl; have c4 := hSw 4 _ rfl; have c5 := hSw 5 _ rfl; have c6 := hSw 6 _ rfl; have c7 := hSw 7 _ rfl; clear hSw; go_simp; rfl
  simp only [Act.put, List.getElem_toArray, List.getElem_cons_zero, List.getElem_cons_succ, List.setIfInBounds_toArray, List.set_cons_zero, List.set_cons_succ]
  refine wpAnyH_take (i := 11) (v := ?_) rfl (by kernel_rfl) (by kernel_rfl) (by kernel_rfl) (fun _ _ _ h => h) (Or.inl ⟨by rfl, ?q3x11⟩) Kw3.out ?_
  case q3x11 => intro w hSw; have c0 := hSw 0 _ rfl; have c1 := hSw 1 _ rfl; have c2 := hSw 2 _ rfl; have c3 := hSw 3 _ rfl; have c4 := hSw 4 _ rfl; have c5 := hSw 5 _ rfl; have c6 := hSw 6 _ rfl; have c7 := hSw 7 _ rfl; clear hSw; go_simp; rfl
  simp only [Act.put, List.getElem_toArray, List.getElem_cons_zero, List.getElem_cons_succ, List.setIfInBounds_toArray, List.set_cons_zero, List.set_cons_succ]
  refine wpAnyH_done (by kernel_rfl) ?_ _
  go_wp2_with fail
  refine (kept_any w3 _ _ _ l XF3.out (HA.out.below B0w3.out) hl).mono ?_
  rintro e1 w4 ⟨rfl, hB4⟩
  rw [decide_eq_true rfl]
  have B4 := hid hB4
  have Kw4 := hid (Kw3.out.below hB4)
  have OSw4 := hid (own_below OSw3.out hB4)
  have OTw4 := hid (own_below OTw3.out hB4)
  have OXw4 := hid (own_below OXw3.out hB4)
  have B0w4 := hid (B0w3.out.trans (hB4.mono B0w3.out.size))
  have hs34 := hid hB4.size
  clear hB4 B4 Kw3 OSw3 OTw3 OXw3 B0w3 X3 XF3
  have c0 := Kw4.out 0 _ rfl
  have c1 := Kw4.out 1 _ rfl
  have c2 := Kw4.out 2 _ rfl
  have c3 := Kw4.out 3 _ rfl
  have c4 := Kw4.out 4 _ rfl
  have c5 := Kw4.out 5 _ rfl
  have c6 := Kw4.out 6 _ rfl
  have c7 := Kw4.out 7 _ rfl
  have C5 := CR.out w4 _ l (HA.out.below B0w4.out)
  rw [HL.out, HE.out] at C5
  have C5 := hid C5
  go_wp2_with fail
  refine C5.out.mono ?_
  rintro e1 w5 ⟨vn, rfl, ho, hB5⟩
  obtain ⟨pn, cn, eo⟩ := own_slc ho
  subst eo
  have ONw5 := hid ho
  have Kw5 := hid (Kw4.out.below hB5)
  have OSw5 := hid (own_below OSw4.out hB5)
  have OTw5 := hid (own_below OTw4.out hB5)
  have OXw5 := hid (own_below OXw4.out hB5)
  have B0w5 := hid (B0w4.out.trans (hB5.mono B0w4.out.size))
  have hs45 := hid hB5.size
  clear ho hB5 C5 c0 c1 c2 c3 c4 c5 c6 c7 Kw4 OSw4 OTw4 OXw4 B0w4
  go_wp2_with fail
  refine (sameBytes_any w5 _ _ L L (HB.of_own OSw5.out HLB.out) (HB.of_own ONw5.out HLB.out)).mono ?_
  rintro e1 w6 ⟨rfl, hD6⟩
  rw [decide_eq_true rfl]
  have D6 := hid hD6
  clear hD6
  go_wp2_with fail
  refine (sameBytes_any w6 _ _ L L ((HB.of_own OTw5.out HLB.out).dr D6.out) ((HB.of_own ONw5.out HLB.out).dr D6.out)).mono ?_
  rintro e1 w7 ⟨rfl, hD7⟩
  rw [decide_eq_true rfl]
  have D7 := hid (D6.out.trans hD7)
  have B7 := hid (D7.out.below w5.heap.size)
  have Kw7 := hid (Kw5.out.below B7.out)
  have OSw7 := hid (own_below OSw5.out B7.out)
  have OTw7 := hid (own_below OTw5.out B7.out)
  have ONw7 := hid (own_below ONw5.out B7.out)
  have OXw7 := hid (own_below OXw5.out B7.out)
  have B0w7 := hid (B0w5.out.trans (B7.out.mono B0w5.out.size))
  have hs57 := hid B7.out.size
  clear hD7 D6 D7 B7 Kw5 OSw5 OTw5 ONw5 OXw5 B0w5
  have hll := lent_length l
  go_wp2_with fail
  refine (over_byt w7 _ _ (lent l) OXw7.out (lent_byt HA.out.2) (by omega)).mono ?_
  rintro e1 w8 ⟨rfl, ⟨lo, hlo, hbo, hoo⟩, hg8⟩
  have G8 : Hid (w7.grownBy w8 (some gx)) := hg8
  have hs78 := hid hg8.size
  have hq2 := BSw2.out
  have hq3 := BSw3.out
  have hq4 := hs34.out
  have hq5 := hs45.out
  have hq7 := hs57.out
  have OSw8 := hid (own_other OSw7.out G8.out (by show gx < w1.heap.size; omega))
  have OTw8 := hid (own_other OTw7.out G8.out (by show gx < w2.heap.size; omega))
  have ONw8 := hid (own_other ONw7.out G8.out (by omega))
  have Kw8 := hid (Kw7.out.other G8.out (by have := GX.out; omega))
  have B0w8 := hid (B0w7.out.grown G8.out B0w7.out.size (fun k e => by cases e; have := GX.out; omega))
  rw [← hlo] at hoo
  have X8 := hid (own_pre hoo hbo l.length (by omega) hcx')
  have hlt : (lo.take l.length).length = l.length := by rw [List.length_take]; omega
  have HUB0 : Hid (∀ y ∈ lo.take l.length, 0 ≤ y ∧ y < 256) := fun y hy => hbo y (List.mem_of_mem_take hy)
  clear hg8 Kw7 OSw7 OTw7 ONw7 OXw7 B0w7 G8 hoo hbo hlo hll
  obtain ⟨lu, HLU⟩ : ∃ lu, Hid (lo.take l.length = lu) := ⟨_, rfl⟩
  rw [HLU.out] at X8 hlt HUB0
  have HLT := hid hlt
  have X8' : Hid (HB w8 (.slice (some ⟨gx, 0, none⟩) lu.length cx) lu) := by rw [hlt]; exact X8.out
  clear X8
  have X8 : Hid (HB w8 (.slice (some ⟨gx, 0, none⟩) l.length cx) lu) := by rw [← hlt]; exact X8'.out
  clear X8' hlt HLU
  obtain ⟨M, HM⟩ : ∃ M, Hid (sgL t lu c d e f j = M) := ⟨_, rfl⟩
  obtain ⟨E', HE'⟩ : ∃ E', Hid (sgE t lu.length d e j = E') := ⟨_, rfl⟩
  have HMB : Hid (∀ x ∈ M, 0 ≤ x ∧ x < 256) := by rw [← HM.out]; exact sgL_byt HUB0.out
  have HML : Hid (M.length ≤ l.length) := by rw [← HM.out, ← HLT.out]; exact sgL_le _ _ _ _ _ _ _
  go_wp2_with fail
  have C9 := CS.out (World.drew w8) _ lu ((X8.out).drewN 1)
  rw [HM.out, HE'.out] at C9
  have C9 := hid C9
  refine wp_region_held_drew (S := fun V : World => ShC V w.heap.size a b c d e f g h) mixedOrders (Kw8.out.dr (Dr.one _ 1)) (fun hHeld => ?_)
  clear hHeld
  change wpAnyH _ _ _ _ _ _ _ _ (World.drew _)
  refine wpAnyH_take (i := 0) (v := ?_) rfl (by kernel_rfl) (by kernel_rfl) (by kernel_rfl) (fun _ _ _ h => h) (Or.inl ⟨by rfl, ?q9x0⟩) (Kw8.out.dr (Dr.one _ 1)) ?_
  case q9x0 => intro w hSw; have c0 := hSw 0 _ rfl; have c1 := hSw 1 _ rfl; have c2 := hSw 2 _ rfl; have c3 := hSw 3 _ rfl; have c4 := hSw 4 _ rfl; have c5 := hSw 5 _ rfl; have c6 := hSw 6 _ rfl; have c7 := hSw 7 _ rfl; clear hSw; go_simp; rfl
  simp only [Act.put, List.getElem_toArray, List.getElem_cons_zero, List.getElem_cons_succ, List.setIfInBounds_toArray, List.set_cons_zero, List.set_cons_succ]
  refine wpAnyH_take (i := 1) (v := ?_) rfl (by kernel_rfl) (by kernel_rfl) (by kernel_rfl) (fun _ _ _ h => h) (Or.inl ⟨by rfl, ?q9x1⟩) (Kw8.out.dr (Dr.one _ 1)) ?_
  case q9x1 => intro w hSw; have c0 := hSw 0 _ rfl; have c1 := hSw 1 _ rfl; have c2 := hSw 2 _ rfl; have c3 := hSw 3 _ rfl; have c4 := hSw 4 _ rfl; have c5 := hSw 5 _ rfl; have c6 := hSw 6 _ rfl; have c7 := hSw 7 _ rfl; clear hSw; go_simp; rfl
  simp only [Act.put, List.getElem_toArray, List.getElem_cons_zero, List.getElem_cons_succ, List.setIfInBounds_toArray, List.set_cons_zero, List.set_cons_succ]
  refine wpAnyH_take (i := 2) (v := ?_) rfl (by kernel_rfl) (by kernel_rfl) (by kernel_rfl) (fun _ _ _ h => h) (Or.inl ⟨by rfl, ?q9x2⟩) (Kw8.out.dr (Dr.one _ 1)) ?_
  case q9x2 => intro w hSw; have c0 := hSw 0 _ rfl; have c1 := hSw 1 _ rfl; have c2 := hSw 2 _ rfl; have c3 := hSw 3 _ rfl; have c4 := hSw 4 _ rfl; have c5 := hSw 5 _ rfl; have c6 := hSw 6 _ rfl; have c7 := hSw 7 _ rfl; clear hSw; go_simp; rfl
  simp only [Act.put, List.getElem_toArray, List.getElem_cons_zero, List.getElem_cons_succ, List.setIfInBounds_toArray, List.set_cons_zero, List.set_cons_succ]
  refine wpAnyH_take (i := 3) (v := ?_) rfl (by kernel_rfl) (by kernel_rfl) (by kernel_rfl) (fun _ _ _ h => h) (Or.inl ⟨by rfl, ?q9x3⟩) (Kw8.out.dr (Dr.one _ 1)) ?_
  case q9x3 => intro w hSw; have c0 := hSw 0 _ rfl; have c1 := hSw 1 _ rfl; have c2 := hSw 2 _ rfl; have c3 := hSw 3 _ rfl; have c4 := hSw 4 _ rfl; have c5 := hSw 5 _ rfl; have c6 := hSw 6 _ rfl; have c7 := hSw 7 _ rfl; clear hSw; go_simp; rfl
  simp only [Act.put, List.getElem_toArray, List.getElem_cons_zero, List.getElem_cons_succ, List.setIfInBounds_toArray, List.set_cons_zero, List.set_cons_succ]
  refine wpAnyH_take (i := 4) (v := ?_) rfl (by kernel_rfl) (by kernel_rfl) (by kernel_rfl) (fun _ _ _ h => h) (Or.inl ⟨by rfl, ?q9x4⟩) (Kw8.out.dr (Dr.one _ 1)) ?_
  case q9x4 => intro w hSw; have c0 := hSw 0 _ rfl; have c1 := hSw 1 _ rfl; have c2 := hSw 2 _ rfl; have c3 := hSw 3 _ rfl; have c4 := hSw 4 _ rfl; have c5 := hSw 5 _ rfl; have c6 := hSw 6 _ rfl; have c7 := hSw 7 _ rfl; clear hSw; go_simp; rfl
  simp only [Act.put, List.getElem_toArray, List.getElem_cons_zero, List.getElem_cons_succ, List.setIfInBounds_toArray, List.set_cons_zero, List.set_cons_succ]
  refine wpAnyH_take (i := 5) (v := ?_) rfl (by kernel_rfl) (by kernel_rfl) (by kernel_rfl) (fun _ _ _ h => h) (Or.inl ⟨by rfl, ?q9x5⟩) (Kw8.out.dr (Dr.one _ 1)) ?_
  case q9x5 => intro w hSw; have c0 := hSw 0 _ rfl; have c1 := hSw 1 _ rfl; have c2 := hSw 2 _ rfl; have c3 := hSw 3 _ rfl; have c4 := hSw 4 _ rfl; have c5 := hSw 5 _ rfl; have c6 := hSw 6 _ rfl; have c7 := hSw 7 _ rfl; clear hSw; go_simp; rfl
  simp only [Act.put, List.getElem_toArray, List.getElem_cons_zero, List.getElem_cons_succ, List.setIfInBounds_toArray, List.set_cons_zero, List.set_cons_succ]
  refine wpAnyH_ready (rs := [6]) (by kernel_rfl) (by simp) ?_
  refine AllReadyH.cons rfl (fun K hK => ?_) AllReadyH.nil
  go_simp
  refine C9.out.mono ?_
  rintro e1 w9 ⟨vu, rfl, ho, hB⟩
  obtain ⟨pu, cu, eo⟩ := own_slc ho
  subst eo
  have OUw9 := hid ho
  have BB := hid (Below.trans (Dr.below (Dr.one w8 1) _) hB)
  have BSw9 := hid BB.out.size
  have Kw9 := hid (Kw8.out.below BB.out)
  have B0w9 := hid (B0w8.out.trans (BB.out.mono B0w8.out.size))
  clear ho hB
  have NSU := hid (own_ne OSw8.out OUw9.out (Nat.le_refl _))
  have NTU := hid (own_ne OTw8.out OUw9.out (Nat.le_refl _))
  have OSw9 := hid (own_below OSw8.out BB.out)
  have OTw9 := hid (own_below OTw8.out BB.out)
  have ONw9 := hid (own_below ONw8.out BB.out)
  have X9 := hid (X8.out.below BB.out)
  clear C9 BB X8 OSw8 OTw8 ONw8 Kw8
  refine hK.out _ _ Kw9.out (fun _ => ?_)
  clear hK K
  refine wpAnyH_take (i := 7) (v := ?_) rfl (by kernel_rfl) (by kernel_rfl) (by kernel_rfl) (fun _ _ _ h => h) (Or.inl ⟨by rfl, ?q9x7⟩) Kw9.out ?_
  case q9x7 => intro w hSw; have c0 := hSw 0 _ rfl; have c1 := hSw 1 _ rfl; have c2 := hSw 2 _ rfl; have c3 := hSw 3 _ rfl; have c4 := hSw 4 _ rfl; have c5 := hSw 5 _ rfl; have c6 := hSw 6 _ rfl; have c7 := hSw 7 _ rfl; clear hSw; go_simp; rfl
  simp only [Act.put, List.getElem_toArray, List.getElem_cons_zero, List.getElem_cons_succ, List.setIfInBounds_toArray, List.set_cons_zero, List.set_cons_succ]
  refine wpAnyH_take (i := 8) (v := ?_) rfl (by kernel_rfl) (by kernel_rfl) (by kernel_rfl) (fun _ _ _ h => h) (Or.inl ⟨by rfl, ?q9x8⟩) Kw9.out ?_
  case q9x8 => intro w hSw; have c0 := hSw 0 _ rfl; have c1 := hSw 1 _ rfl; have c2 := hSw 2 _ rfl; have c3 := hSw 3 _ rfl; have c4 := hSw 4 _ rfl; have c5 := hSw 5 _ rfl; have c6 := hSw 6 _ rfl; have c7 := hSw 7 _ rfl; clear hSw; go_simp; rfl
  simp only [Act.put, List.getElem_toArray, List.getElem_cons_zero, List.getElem_cons_succ, List.setIfInBounds_toArray, List.set_cons_zero, List.set_cons_succ]
  refine wpAnyH_take (i := 9) (v := ?_) rfl (by kernel_rfl) (by kernel_rfl) (by kernel_rfl) (fun _ _ _ h => h) (Or.inl ⟨by rfl, ?q9x9⟩) Kw9.out ?_
  case q9x9 => intro w hSw; have c0 := hSw 0 _ rfl; have c1 := hSw 1 _ rfl; have c2 := hSw 2 _ rfl; have c3 := hSw 3 _ rfl; have c4 := hSw 4 _ rfl; have c5 := hSw 5 _ rfl; have c6 := hSw 6 _ rfl; have c7 := hSw 7 _ rfl; clear hSw; go_simp; rfl
  simp only [Act.put, List.getElem_toArray, List.getElem_cons_zero, List.getElem_cons_succ, List.setIfInBounds_toArray, List.set_cons_zero, List.set_cons_succ]
  refine wpAnyH_take (i := 10) (v := ?_) rfl (by kernel_rfl) (by kernel_rfl) (by kernel_rfl) (fun _ _ _ h => h) (Or.inl ⟨by rfl, ?q9x10⟩) Kw9.out ?_
  case q9x10 => intro w hSw; have c0 := hSw 0 _ rfl; have c1 := hSw 1 _ rfl; have c2 := hSw 2 _ rfl; have c3 := hSw 3 _ rfl; have c4 := hSw 4 _ rfl; have c5 := hSw 5 _ rfl; have c6 := hSw 6 _ rfl; have c7 := hSw 7 _ rfl; clear hSw; go_simp; rfl
  simp only [Act.put, List.getElem_toArray, List.getElem_cons_zero, List.getElem_cons_succ, List.setIfInBounds_toArray, List.set_cons_zero, List.set_cons_succ]
  refine wpAnyH_take (i := 11) (v := ?_) rfl (by kernel_rfl) (by kernel_rfl) (by kernel_rfl) (fun _ _ _ h => h) (Or.inl ⟨by rfl, ?q9x11⟩) Kw9.out ?_
  case q9x11 => intro w hSw; have c0 := hSw 0 _ rfl; have c1 := hSw 1 _ rfl; have c2 := hSw 2 _ rfl; have c3 := hSw 3 _ rfl; have c4 := hSw 4 _ rfl; have c5 := hSw 5 _ rfl; have c6 := hSw 6 _ rfl; have c7 := hSw 7 _ rfl; clear hSw; go_simp; rfl
  simp only [Act.put, List.getElem_toArray, List.getElem_cons_zero, List.getElem_cons_succ, List.setIfInBounds_toArray, List.set_cons_zero, List.set_cons_succ]
  refine wpAnyH_done (by kernel_rfl) ?_ _
  go_wp2_with fail
  have C10 := CR.out (World.drew w9) _ lu ((X9.out).drewN 1)
  rw [HM.out, HE'.out] at C10
  have C10 := hid C10
  refine wp_region_held_drew (S := fun V : World => ShC V w.heap.size a b c d e f g h) mixedOrders (Kw9.out.dr (Dr.one _ 1)) (fun hHeld => ?_)
  clear hHeld
  change wpAnyH _ _ _ _ _ _ _ _ (World.drew _)
  refine wpAnyH_take (i := 0) (v := ?_) rfl (by kernel_rfl) (by kernel_rfl) (by kernel_rfl) (fun _ _ _ h => h) (Or.inl ⟨by rfl, ?q10x0⟩) (Kw9.out.dr (Dr.one _ 1)) ?_
  case q10x0 => intro w hSw; have c0 := hSw 0 _ rfl; have c1 := hSw 1 _ rfl; have c2 := hSw 2 _ rfl; have c3 := hSw 3 _ rfl; have c4 := hSw 4 _ rfl; have c5 := hSw 5 _ rfl; have c6 := hSw 6 _ rfl; have c7 := hSw 7 _ rfl; clear hSw; go_simp; rfl
  simp only [Act.put, List.getElem_toArray, List.getElem_cons_zero, List.getElem_cons_succ, List.setIfInBounds_toArray, List.set_cons_zero, List.set_cons_succ]
  refine wpAnyH_take (i := 1) (v := ?_) rfl (by kernel_rfl) (by kernel_rfl) (by kernel_rfl) (fun _ _ _ h => h) (Or.inl ⟨by rfl, ?q10x1⟩) (Kw9.out.dr (Dr.one _ 1)) ?_
  case q10x1 => intro w hSw; have c0 := hSw 0 _ rfl; have c1 := hSw 1 _ rfl; have c2 := hSw 2 _ rfl; have c3 := hSw 3 _ rfl; have c4 := hSw 4 _ rfl; have c5 := hSw 5 _ rfl; have c6 := hSw 6 _ rfl; have c7 := hSw 7 _ rfl; clear hSw; go_simp; rfl
  simp only [Act.put, List.getElem_toArray, List.getElem_cons_zero, List.getElem_cons_succ, List.setIfInBounds_toArray, List.set_cons_zero, List.set_cons_succ]
  refine wpAnyH_take (i := 2) (v := ?_) rfl (by kernel_rfl) (by kernel_rfl) (by kernel_rfl) (fun _ _ _ h => h) (Or.inl ⟨by rfl, ?q10x2⟩) (Kw9.out.dr (Dr.one _ 1)) ?_
  case q10x2 => intro w hSw; have c0 := hSw 0 _ rfl; have c1 := hSw 1 _ rfl; have c2 := hSw 2 _ rfl; have c3 := hSw 3 _ rfl; have c4 := hSw 4 _ rfl; have c5 := hSw 5 _ rfl; have c6 := hSw 6 _ rfl; have c7 := hSw 7 _ rfl; clear hSw; go_simp; rfl
  simp only [Act.put, List.getElem_toArray, List.getElem_cons_zero, List.getElem_cons_succ, List.setIfInBounds_toArray, List.set_cons_zero, List.set_cons_succ]
  refine wpAnyH_take (i := 3) (v := ?_) rfl (by kernel_rfl) (by kernel_rfl) (by kernel_rfl) (fun _ _ _ h => h) (Or.inl ⟨by rfl, ?q10x3⟩) (Kw9.out.dr (Dr.one _ 1)) ?_
  case q10x3 => intro w hSw; have c0 := hSw 0 _ rfl; have c1 := hSw 1 _ rfl; have c2 := hSw 2 _ rfl; have c3 := hSw 3 _ rfl; have c4 := hSw 4 _ rfl; have c5 := hSw 5 _ rfl; have c6 := hSw 6 _ rfl; have c7 := hSw 7 _ rfl; clear hSw; go_simp; rfl
  simp only [Act.put, List.getElem_toArray, List.getElem_cons_zero, List.getElem_cons_succ, List.setIfInBounds_toArray, List.set_cons_zero, List.set_cons_succ]
  refine wpAnyH_take (i := 4) (v := ?_) rfl (by kernel_rfl) (by kernel_rfl) (by kernel_rfl) (fun _ _ _ h => h) (Or.inl ⟨by rfl, ?q10x4⟩) (Kw9.out.dr (Dr.one _ 1)) ?_
  case q10x4 => intro w hSw; have c0 := hSw 0 _ rfl; have c1 := hSw 1 _ rfl; have c2 := hSw 2 _ rfl; have c3 := hSw 3 _ rfl; have c4 := hSw 4 _ rfl; have c5 := hSw 5 _ rfl; have c6 := hSw 6 _ rfl; have c7 := hSw 7 _ rfl; clear hSw; go_simp; rfl
  simp only [Act.put, List.getElem_toArray, List.getElem_cons_zero, List.getElem_cons_succ, List.setIfInBounds_toArray, List.set_cons_zero, List.set_cons_succ]
  refine wpAnyH_take (i := 5) (v := ?_) rfl (by kernel_rfl) (by kernel_rfl) (by kernel_rfl) (fun _ _ _ h => h) (Or.inl ⟨by rfl, ?q10x5⟩) (Kw9.out.dr (Dr.one _ 1)) ?_
  case q10x5 => intro w hSw; have c0 := hSw 0 _ rfl; have c1 := hSw 1 _ rfl; have c2 := hSw 2 _ rfl; have c3 := hSw 3 _ rfl; have c4 := hSw 4 _ rfl; have c5 := hSw 5 _ rfl; have c6 := hSw 6 _ rfl; have c7 := hSw 7 _ rfl; clear hSw; go_simp; rfl
  simp only [Act.put, List.getElem_toArray, List.getElem_cons_zero, List.getElem_cons_succ, List.setIfInBounds_toArray, List.set_cons_zero, List.set_cons_succ]
  refine wpAnyH_ready (rs := [6]) (by kernel_rfl) (by simp) ?_
  refine AllReadyH.cons rfl (fun K hK => ?_) AllReadyH.nil
  go_simp
  refine C10.out.mono ?_
  rintro e1 w10 ⟨vk, rfl, ho, hB⟩
  obtain ⟨pk, ck, eo⟩ := own_slc ho
  subst eo
  have OKw10 := hid ho
  have BB := hid (Below.trans (Dr.below (Dr.one w9 1) _) hB)
  have BSw10 := hid BB.out.size
  have Kw10 := hid (Kw9.out.below BB.out)
  have B0w10 := hid (B0w9.out.trans (BB.out.mono B0w9.out.size))
  clear ho hB
  have OSw10 := hid (own_below OSw9.out BB.out)
  have OTw10 := hid (own_below OTw9.out BB.out)
  have ONw10 := hid (own_below ONw9.out BB.out)
  have OUw10 := hid (own_below OUw9.out BB.out)
  clear C10 BB X9 OSw9 OTw9 ONw9 OUw9 Kw9
  refine hK.out _ _ Kw10.out (fun _ => ?_)
  clear hK K
  refine wpAnyH_take (i := 7) (v := ?_) rfl (by kernel_rfl) (by kernel_rfl) (by kernel_rfl) (fun _ _ _ h => h) (Or.inl ⟨by rfl, ?q10x7⟩) Kw10.out ?_
  case q10x7 => intro w hSw; have c0 := hSw 0 _ rfl; have c1 := hSw 1 _ rfl; have c2 := hSw 2 _ rfl; have c3 := hSw 3 _ rfl; have c4 := hSw 4 _ rfl; have c5 := hSw 5 _ rfl; have c6 := hSw 6 _ rfl; have c7 := hSw 7 _ rfl; clear hSw; go_simp; rfl
  simp only [Act.put, List.getElem_toArray, List.getElem_cons_zero, List.getElem_cons_succ, List.setIfInBounds_toArray, List.set_cons_zero, List.set_cons_succ]
  refine wpAnyH_take (i := 8) (v := ?_) rfl (by kernel_rfl) (by kernel_rfl) (by kernel_rfl) (fun _ _ _ h => h) (Or.inl ⟨by rfl, ?q10x8⟩) Kw10.out ?_
  case q10x8 => intro w hSw; have c0 := hSw 0 _ rfl; have c1 := hSw 1 _ rfl; have c2 := hSw 2 _ rfl; have c3 := hSw 3 _ rfl; have c4 := hSw 4 _ rfl; have c5 := hSw 5 _ rfl; have c6 := hSw 6 _ rfl; have c7 := hSw 7 _ rfl; clear hSw; go_simp; rfl
  simp only [Act.put, List.getElem_toArray, List.getElem_cons_zero, List.getElem_cons_succ, List.setIfInBounds_toArray, List.set_cons_zero, List.set_cons_succ]
  refine wpAnyH_take (i := 9) (v := ?_) rfl (by kernel_rfl) (by kernel_rfl) (by kernel_rfl) (fun _ _ _ h => h) (Or.inl ⟨by rfl, ?q10x9⟩) Kw10.out ?_
  case q10x9 => intro w hSw; have c0 := hSw 0 _ rfl; have c1 := hSw 1 _ rfl; have c2 := hSw 2 _ rfl; have c3 := hSw 3 _ rfl; have c4 := hSw 4 _ rfl; have c5 := hSw 5 _ rfl; have c6 := hSw 6 _ rfl; have c7 := hSw 7 _ rfl; clear hSw; go_simp; rfl
  simp only [Act.put, List.getElem_toArray, List.getElem_cons_zero, List.getElem_cons_succ, List.setIfInBounds_toArray, List.set_cons_zero, List.set_cons_succ]
  refine wpAnyH_take (i := 10) (v := ?_) rfl (by kernel_rfl) (by kernel_rfl) (by kernel_rfl) (fun _ _ _ h => h) (Or.inl ⟨by rfl, ?q10x10⟩) Kw10.out ?_
  case q10x10 => intro w hSw; have c0 := hSw 0 _ rfl; have c1 := hSw 1 _ rfl; have c2 := hSw 2 _ rfl; have c3 := hSw 3 _ rfl; have c4 := hSw 4 _ rfl; have c5 := hSw 5 _ rfl; have c6 := hSw 6 _ rfl; have c7 := hSw 7 _ rfl; clear hSw; go_simp; rfl
  simp only [Act.put, List.getElem_toArray, List.getElem_cons_zero, List.getElem_cons_succ, List.setIfInBounds_toArray, List.set_cons_zero, List.set_cons_succ]
  refine wpAnyH_take (i := 11) (v := ?_) rfl (by kernel_rfl) (by kernel_rfl) (by kernel_rfl) (fun _ _ _ h => h) (Or.inl ⟨by rfl, ?q10x11⟩) Kw10.out ?_
  case q10x11 => intro w hSw; have c0 := hSw 0 _ rfl; have c1 := hSw 1 _ rfl; have c2 := hSw 2 _ rfl; have c3 := hSw 3 _ rfl; have c4 := hSw 4 _ rfl; have c5 := hSw 5 _ rfl; have c6 := hSw 6 _ rfl; have c7 := hSw 7 _ rfl; clear hSw; go_simp; rfl
  simp only [Act.put, List.getElem_toArray, List.getElem_cons_zero, List.getElem_cons_succ, List.setIfInBounds_toArray, List.set_cons_zero, List.set_cons_succ]
  refine wpAnyH_done (by kernel_rfl) ?_ _
  go_wp2_with fail
  refine (sameBytes_any w10 _ _ L L (HB.of_own OSw10.out HLB.out) (HB.of_own ONw10.out HLB.out)).mono ?_
  rintro e1 w11 ⟨rfl, hD11⟩
  rw [decide_eq_true rfl]
  have D11 := hid hD11
  clear hD11
  go_wp2_with fail
  refine (sameBytes_any w11 _ _ M M ((HB.of_own OUw10.out HMB.out).dr D11.out) ((HB.of_own OKw10.out HMB.out).dr D11.out)).mono ?_
  rintro e1 w12 ⟨rfl, hD12⟩
  rw [decide_eq_true rfl]
  have B12 := hid ((D11.out.trans hD12).below w10.heap.size)
  have OSw12 := hid (own_below OSw10.out B12.out)
  have OTw12 := hid (own_below OTw10.out B12.out)
  have OUw12 := hid (own_below OUw10.out B12.out)
  have B0w12 := hid (B0w10.out.trans (B12.out.mono B0w10.out.size))
  clear hD12 D11 B12 OSw10 OTw10 OUw10 ONw10 OKw10 B0w10
  have hq8 := hs78.out
  have hw1 := B0w1.out.size
  go_wp2_with fail
  have hal := World.grownBy_alloc w12 (.cells #[.slice ps L.length cs, .slice pt L.length ct, .slice pu M.length cu] 22) none
  have hAp : Apt w.heap.size (w12.alloc (.cells #[.slice ps L.length cs, .slice pt L.length ct, .slice pu M.length cu] 22)) [.slice ps L.length cs, .slice pt L.length ct, .slice pu M.length cu] [L, L, M] := by
    refine ⟨rfl, fun k hk => ?_, fun i j hi hj hij => ?_⟩
    · match k, hk with
      | 0, _ => exact own_mono (OSw12.out.kept hal (none_or _)) (by show _ ≤ (World.drew w1).heap.size; exact hw1)
      | 1, _ => exact own_mono (OTw12.out.kept hal (none_or _)) (by show _ ≤ (World.drew w2).heap.size; exact Nat.le_trans hw1 hq2)
      | 2, _ => exact own_mono (OUw12.out.kept hal (none_or _)) (by show _ ≤ (World.drew w8).heap.size; show _ ≤ w8.heap.size; omega)
    · have hi2 : i = 0 ∨ i = 1 ∨ i = 2 := by simp at hi; omega
      have hj2 : j = 0 ∨ j = 1 ∨ j = 2 := by simp at hj; omega
      rcases hi2 with rfl | rfl | rfl <;> rcases hj2 with rfl | rfl | rfl <;> first | exact absurd rfl hij | exact NST.out.1 | exact NST.out.2 | exact NSU.out.1 | exact NSU.out.2 | exact NTU.out.1 | exact NTU.out.2
  refine (apart_any w.heap.size _ _ _ _ (HV.three w12 _ _ _) hAp (by have := B0w12.out.size; simp; omega) (by simp) (fun k => ?_)).mono ?_
  · have h1 := HLL.out
    have h2 := HML.out
    match k with
    | 0 => show L.length ≤ _; omega
    | 1 => show L.length ≤ _; omega
    | 2 => show M.length ≤ _; omega
    | k + 3 => simp
  rintro e1 w13 ⟨rfl, hB13⟩
  have B13 := hid ((B0w12.out.alloc B0w12.out.size _).trans hB13)
  clear hB13 hAp hal
  go_wp2_with fail
  refine (awake_any w13).mono ?_
  rintro e1 w14 ⟨rfl, hB14⟩
  have B14 := hid (B13.out.trans (hB14.mono B13.out.size))
  clear hB14 B13
  go_wp2
  go_ret
  exact ⟨rfl, B14.out⟩
end Go.Proofs.Ytdmdcnikhnoclaa
