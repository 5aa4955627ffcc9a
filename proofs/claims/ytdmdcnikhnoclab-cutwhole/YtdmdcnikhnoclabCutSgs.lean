/- cut.Segments, walked, of bytes that fit. -/
import Derived.Test.YtdmdcnikhnoclabCutPc
import Derived.Deep.RegionHeld
set_option linter.unusedVariables false
set_option linter.unusedSimpArgs false
namespace Go.Proofs.Ytdmdcnikhnoclab
open Go Go.RowKit

/-- A shape lies in a block. -/
def ShC (w : World) (x : Nat) (a b c d e f g h : Int) : Prop := ∀ i v, #[Value.int .i64 a, .int .i64 b, .int .i64 c, .int .i64 d, .int .i64 e, .int .i64 f, .int .i64 g, .int .i64 h][i]? = some v → w.cell? ⟨x, i, none⟩ = some v
theorem ShC.below {w w' : World} {x : Nat} {a b c d e f g h : Int} (k : ShC w x a b c d e f g h) (hb : Below w.heap.size w w') : ShC w' x a b c d e f g h := fun i v hi => (hb.cell (World.block_lt_of_cell? w ⟨x, i, none⟩ (k i v hi))).trans (k i v hi)
theorem ShC.dr {w w' : World} {x : Nat} {a b c d e f g h : Int} (k : ShC w x a b c d e f g h) (hd : Dr w w') : ShC w' x a b c d e f g h := fun i v hi => (hd.cell _).trans (k i v hi)
theorem ShC.other {w w' : World} {x : Nat} {a b c d e f g h : Int} {y : Nat} (k : ShC w x a b c d e f g h) (hg : w.grownBy w' (some y)) (hne : x ≠ y) : ShC w' x a b c d e f g h := fun i v hi => hg.cell (k i v hi) (fun q => hne (Option.some.inj q))
set_option maxRecDepth 100000 in
set_option maxHeartbeats 8000000 in
theorem segments_ok (w : World) (a b d e f g h : Int) (v : Value) (l : List Int) (s : Nat) (hv : HB w v l) (hf : Ft a b (s : Int) d e f g h) (hd : (l.length : Int) = d) :
    Calls Try.prog 23 #[shV [a, b, (s : Int), d, e, f, g, h], v] w fun r w' => ∃ hv b5 b3, r = .returned (.func (.func 42) #[] #[.pointer (some ⟨b5, 0, none⟩), .pointer (some ⟨b3, 0, none⟩)]) ∧ PcBox w' hv b5 b3 l s ∧ (∀ i, pcD hv b5 b3 i → w.heap.size ≤ i ∧ i < w'.heap.size) ∧ Below w.heap.size w w' := by
  have HV := hid hv
  obtain ⟨p, cc, rfl, hlc, hcm⟩ := hv.open
  unfold maxLen at hcm
  clear hv
  have hz2 : d ≤ 16777216 := hf.1.2.2.2.2.2.2.2.1
  have CF : ∀ w, Hid (Calls Try.prog 24 #[.agg #[Value.int .i64 a, .int .i64 b, .int .i64 (s : Int), .int .i64 d, .int .i64 e, .int .i64 f, .int .i64 g, .int .i64 h]] w fun r w' => r = .returned (.bool true) ∧ Below w.heap.size w w') := fun w => by
    have := fits_any w a b (s : Int) d e f g h
    rwa [show ftB a b (s : Int) d e f g h = true from decide_eq_true hf] at this
  clear hf
  rw [shV8]
  go_enter Try.func23, Try.ntmps23
  go_wp2_with fail
  obtain ⟨W0, HW0⟩ : ∃ W0, Hid (w.alloc (.cells #[Value.int .i64 a, .int .i64 b, .int .i64 (s : Int), .int .i64 d, .int .i64 e, .int .i64 f, .int .i64 g, .int .i64 h] 37) = W0) := ⟨_, rfl⟩
  rw [HW0.out]
  have HS0 : Hid (W0.heap.size = w.heap.size + 1) := by rw [← HW0.out]; simp [Hid]
  have B0 : Hid (Below w.heap.size w W0) := by rw [← HW0.out]; exact below_alloc _ _
  have K0 : Hid (ShC W0 w.heap.size a b (s : Int) d e f g h) := fun i v hi => by rw [← HW0.out, cell_of_row _ _ _ _ _ _ (heap_alloc_new w _)]; exact hi
  refine (CF W0).out.mono ?_
  rintro e1 w1 ⟨rfl, hB1⟩
  have Kw1 := hid (K0.out.below hB1)
  have B01 : Hid (Below w.heap.size w w1) := B0.out.trans (hB1.mono B0.out.size)
  clear hB1
  have c3 := Kw1.out 3 _ rfl
  go_wp2_with fail
  clear c3
  have C2 := hid (clone_any (World.drew w1) _ l ((HV.out.below B01.out).drewN 1) (by omega))
  refine wp_region_held_drew (S := fun V : World => ShC V w.heap.size a b (s : Int) d e f g h) mixedOrders (Kw1.out.dr (Dr.one _ 1)) (fun hHeld => ?_)
  clear hHeld
  change wpAnyH _ _ _ _ _ _ _ _ (World.drew _)
  refine wpAnyH_take (i := 0) (v := ?_) rfl (by kernel_rfl) (by kernel_rfl) (by kernel_rfl) (fun _ _ _ h => h) (Or.inl ⟨by rfl, ?q1x0⟩) (Kw1.out.dr (Dr.one _ 1)) ?_
  case q1x0 => intro w hSw; have c2 := hSw 2 _ rfl; clear hSw; go_simp; rfl
  simp only [Act.put, List.getElem_toArray, List.getElem_cons_zero, List.getElem_cons_succ, List.setIfInBounds_toArray, List.set_cons_zero, List.set_cons_succ]
  refine wpAnyH_take (i := 2) (v := ?_) rfl (by kernel_rfl) (by kernel_rfl) (by kernel_rfl) (fun _ _ _ h => h) (Or.inl ⟨by rfl, ?q1x2⟩) (Kw1.out.dr (Dr.one _ 1)) ?_
  case q1x2 => intro w hSw; have c2 := hSw 2 _ rfl; clear hSw; go_simp; rfl
  simp only [Act.put, List.getElem_toArray, List.getElem_cons_zero, List.getElem_cons_succ, List.setIfInBounds_toArray, List.set_cons_zero, List.set_cons_succ]
  refine wpAnyH_take (i := 3) (v := ?_) rfl (by kernel_rfl) (by kernel_rfl) (by kernel_rfl) (fun _ _ _ h => h) (Or.inl ⟨by rfl, ?q1x3⟩) (Kw1.out.dr (Dr.one _ 1)) ?_
  case q1x3 => intro w hSw; have c2 := hSw 2 _ rfl; clear hSw; go_simp; rfl
  simp only [Act.put, List.getElem_toArray, List.getElem_cons_zero, List.getElem_cons_succ, List.setIfInBounds_toArray, List.set_cons_zero, List.set_cons_succ]
  refine wpAnyH_ready (rs := [1]) (by kernel_rfl) (by simp) ?_
  refine AllReadyH.cons rfl (fun K hK => ?_) AllReadyH.nil
  go_simp
  refine C2.out.mono ?_
  rintro e1 w2 ⟨hv2, rfl, ho2, hB2⟩
  have BB := hid (Below.trans (Dr.below (Dr.one w1 1) _) hB2)
  have Kw2 := hid (Kw1.out.below BB.out)
  have B02 := hid (B01.out.trans (BB.out.mono B01.out.size))
  have OW2 := hid ho2
  have H2 := hid (HB.of_own ho2 HV.out.2)
  obtain ⟨p2, c2', e2⟩ := own_slc ho2
  subst e2
  clear ho2 hB2 C2
  refine hK.out _ _ Kw2.out (fun _ => ?_)
  clear hK K
  have C3 := hid (pieces_any w2 _ l s H2.out)
  refine wpAnyH_ready (rs := [4]) (by kernel_rfl) (by simp) ?_
  refine AllReadyH.cons rfl (fun K hK => ?_) AllReadyH.nil
  go_simp
  refine C3.out.mono ?_
  rintro e1 w3 ⟨b5, b3, rfl, hbox, hb5, hb3, hs3, _, _, hB3⟩
  have HBx := hid hbox
  have Kw3 := hid (Kw2.out.below hB3)
  have B03 := hid (B02.out.trans (hB3.mono B02.out.size))
  have HDl : Hid (∀ i, pcD (.slice p2 l.length c2') b5 b3 i → w.heap.size ≤ i ∧ i < w3.heap.size) := by
    have h2 := B02.out.size
    rintro i (rfl | rfl | hi)
    · omega
    · omega
    · have := OW2.out.lt i hi
      have hw1 : w.heap.size ≤ w1.heap.size := B01.out.size
      have : w1.heap.size ≤ i := (OW2.out.lt i hi).1
      omega
  clear hbox hB3 C3
  refine hK.out _ _ Kw3.out (fun _ => ?_)
  clear hK K hb5 hb3 hs3
  refine wpAnyH_take (i := 5) (v := ?_) rfl (by kernel_rfl) (by kernel_rfl) (by kernel_rfl) (fun _ _ _ h => h) (Or.inl ⟨by rfl, ?q2x5⟩) Kw3.out ?_
  case q2x5 => intro w hSw; have c2 := hSw 2 _ rfl; clear hSw; go_simp; rfl
  simp only [Act.put, List.getElem_toArray, List.getElem_cons_zero, List.getElem_cons_succ, List.setIfInBounds_toArray, List.set_cons_zero, List.set_cons_succ]
  refine wpAnyH_done (by kernel_rfl) ?_ _
  go_wp2
  go_ret
  exact ⟨_, b5, b3, rfl, HBx.out, HDl.out, B03.out⟩
end Go.Proofs.Ytdmdcnikhnoclab
