/- The law CutWhole, walked. -/
import Derived.Test.YtdmdcnikhnoclabCutWholeM
import Derived.Test.YtdmdcnikhnoclabCutSgs
import Derived.Test.YtdmdcnikhnoclabSameBytes
set_option linter.unusedVariables false
set_option linter.unusedSimpArgs false
namespace Go.Proofs.Ytdmdcnikhnoclab
open Go Go.RowKit Go.Shelf
attribute [local go_sem] Oper.semAt_some

theorem shpT_len9 (k n g l z : Int) : ∃ b0 b1 b2 b3 b4 b5 b6 b7, shpT k n g l z = [b0, b1, b2, b3, b4, b5, b6, b7] := by
  unfold shpT; split
  · exact ⟨_, _, _, _, _, _, _, _, rfl⟩
  · exact ⟨_, _, _, _, _, _, _, _, rfl⟩
set_option maxHeartbeats 1000000 in
theorem results_bool {fn : Func} {p : Tmp} (h : fn.results = #[.cell p 4]) (tmps : Array Value) (w : World) (g : Nat) (b : Bool) (hp : tmps.getD p undef = .pointer (some ⟨g, 0, none⟩)) (hc : w.cell? ⟨g, 0, none⟩ = some (.bool b)) : (results fn tmps).run Try.prog w = .ok (.bool b) w := by
  have hp' : tmps[p]?.getD undef = .pointer (some ⟨g, 0, none⟩) := by simpa using hp
  simp only [results, h]
  simp [hp', asAddr]
  clear hp hp'
  go_simp
set_option maxRecDepth 100000 in
set_option maxHeartbeats 8000000 in
theorem whole_bad (w : World) (k n g h : Int) (p : Option Addr) (ls cs : Nat) (v : Value) (l : List Int) (hv : HB w v l) (he : shpE k n g ls l.length ≠ 0) :
    Calls Try.prog 5 #[prV k n g h (.slice p ls cs), v] w fun e w' => e = .returned (.bool true) ∧ Below w.heap.size w w' := by
  obtain ⟨pb, cb, rfl, _, _⟩ := hv.open
  clear hv
  obtain ⟨s0, s1, s2, s3, s4, s5, s6, s7, HT⟩ := shpT_len9 k n g ls l.length
  have CS : Hid (∀ w, Calls Try.prog 16 #[.agg #[.int .i64 k, .int .i64 n, .int .i64 g, .int .i64 h, .slice p ls cs], .int .i64 (l.length : Int)] w fun e w' => e = .returned (.tuple #[.agg #[.int .i64 s0, .int .i64 s1, .int .i64 s2, .int .i64 s3, .int .i64 s4, .int .i64 s5, .int .i64 s6, .int .i64 s7], .int .i64 (shpE k n g ls l.length)]) ∧ Below w.heap.size w w') := fun w => by
    have := shape_any w k n g h l.length p ls cs
    rwa [HT] at this
  clear HT
  obtain ⟨E, HE⟩ : ∃ E, shpE k n g ls l.length = E := ⟨_, rfl⟩
  rw [HE] at CS he
  clear HE
  unfold prV
  go_enter Try.func5, Try.ntmps5
  go_wp2_with fail
  obtain ⟨W0, HW0⟩ : ∃ W0, Hid ((w.alloc (.cells #[.int .i64 k, .int .i64 n, .int .i64 g, .int .i64 h, .slice p ls cs] 41)).alloc (.cells #[.bool false] 4) = W0) := ⟨_, rfl⟩
  rw [HW0.out]
  have B0 : Hid (Below w.heap.size w W0) := by rw [← HW0.out]; exact (below_alloc _ _).alloc (by simp) _
  have X0 : Hid (Boxed W0 (w.heap.size + 1) 4 (.bool false)) := by
    rw [← HW0.out]
    have := Boxed.new (w.alloc (.cells #[.int .i64 k, .int .i64 n, .int .i64 g, .int .i64 h, .slice p ls cs] 41)) 4 (.bool false)
    show Boxed _ _ _ _
    simpa using this
  refine (CS.out W0).mono ?_
  rintro e1 w1 ⟨rfl, hB1⟩
  have X1 := hid (X0.out.kept (grown_below (r := none) hB1) (by simp))
  have B1 := hid (B0.out.trans (hB1.mono B0.out.size))
  clear hB1 X0 B0
  go_wp2_with fail
  obtain ⟨W2, HW2⟩ : ∃ W2, Hid (w1.alloc (.cells #[.int .i64 s0, .int .i64 s1, .int .i64 s2, .int .i64 s3, .int .i64 s4, .int .i64 s5, .int .i64 s6, .int .i64 s7] 37) = W2) := ⟨_, rfl⟩
  rw [HW2.out]
  have B2 : Hid (Below w.heap.size w W2) := by rw [← HW2.out]; exact B1.out.alloc B1.out.size _
  have X2 : Hid (Boxed W2 (w.heap.size + 1) 4 (.bool false)) := by rw [← HW2.out]; exact X1.out.alloc _
  clear X1 B1
  refine (awake_any W2).mono ?_
  rintro e1 w3 ⟨rfl, hB3⟩
  have X3 := X2.out.kept (grown_below (r := none) hB3) (by simp)
  have B3 := hid (B2.out.trans (hB3.mono B2.out.size))
  have c4 := X3.cell
  have f4 := X3.frozen
  clear hB3 X2 B2 X3
  have hE : (E != 0) = true := bne_iff_ne.2 he
  go_wp2
  try rw [hE]
  refine bodyPost_ret (results_bool rfl _ _ (w.heap.size + 1) true rfl (World.cell?_setCell_same _ _ _ c4)) rfl ?_
  exact ⟨rfl, B3.out.setCell (by simp) _⟩
end Go.Proofs.Ytdmdcnikhnoclab
