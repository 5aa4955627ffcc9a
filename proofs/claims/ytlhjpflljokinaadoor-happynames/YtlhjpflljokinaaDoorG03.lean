/- Of the road to happyNamesCard_holds: HzV, HzNames, HzLaid. -/
import Derived.Test.YtlhjpflljokinaaDoorG02
import Derived.Test.YtlhjpflljokinaaDoorRows
import Derived.Test.YtlhjpflljokinaaDoorG01
import Derived.ProofKit
import Derived.OpenShut
import Derived.LaidLaws
import Derived.Lay
import Derived.MakeChecks
import Derived.Stop.LaidErr
import Derived.Lib.LaidTab
set_option linter.unusedVariables false
set_option linter.unusedSimpArgs false
namespace Go.Proofs.YtlhjpflljokinaaDoor.Hz
open Go Go.RowKit Go.Proofs.YtlhjpflljokinaaDoor Go.Maps
abbrev Q3 : List (Nat × Nat) := [(0, 0), (0, 1), (1, 0)]
theorem q3_len {m : List (Nat × Nat)} (h : Hy.MaxM Q3 m) : m.length = 2 := by
  have h1 := h.2 [(0, 1), (1, 0)] ⟨by decide, by decide⟩
  have h2 := h.1.le_servers (A := 2) (by decide)
  have e : Hy.places Prod.fst 2 Q3 = 2 := by decide
  rw [e] at h2
  simp only [List.length_cons, List.length_nil] at h1
  omega
theorem q3_fst : Hy.places Prod.fst 32 Q3 = 2 := by decide +kernel
theorem q3_snd : Hy.places Prod.snd 255 Q3 = 2 := by decide +kernel
def HALF : Nat := 4602678819172646912
theorem half_ok : azB [HALF, HALF] = true := by decide +kernel
theorem half_odds : Fl.tot 1 (Fl.tab 2 [(1, HALF), (1, HALF)]) = 4604930618986332160 := by decide +kernel
abbrev p3 : List Pr := [(0, 0), (0, 1), (1, 0)]
theorem p3_may : mayL p3 = true := by decide +kernel
set_option maxRecDepth 100000 in
set_option maxHeartbeats 4000000 in
theorem lives_any (w : World) (hT : TabAt 0 Lib.deBruijn32tab w) :
    Calls Tryd.prog 8 #[] w fun e w' => e = .returned (.bool true) ∧ Below w.heap.size w w' := by
  obtain ⟨W1, HW1⟩ : ∃ W1, Hid (w.alloc (.cells #[.int .i64 0, .int .i64 0, .int .i64 0, .int .i64 1, .int .i64 1, .int .i64 0] 51) = W1) := ⟨_, rfl⟩
  have HB1 : Hid (Below w.heap.size w W1) := by rw [← HW1.out]; exact (Below.refl _ w).alloc (Nat.le_refl _) _
  have HC1 : Hid (W1.heap[w.heap.size]? = some (.cells #[.int .i64 0, .int .i64 0, .int .i64 0, .int .i64 1, .int .i64 1, .int .i64 0] 51 (0, 0))) := by rw [← HW1.out]; exact heap_alloc_new w _
  have hP : HP W1 (.slice (some ⟨w.heap.size, 0, none⟩) 3 3) p3 := by
    refine ⟨⟨_, 3, rfl, by decide, by decide, (fun e => by cases e), fun _ => ⟨w.heap.size, 0, rfl, fun j hj => ?_⟩⟩, by decide⟩
    have : j = 0 ∨ j = 1 ∨ j = 2 := by simp only [List.length_cons, List.length_nil] at hj; omega
    rcases this with rfl | rfl | rfl <;> exact ⟨(cell_of_row _ _ _ _ _ _ HC1.out).trans rfl, (cell_of_row _ _ _ _ _ _ HC1.out).trans rfl⟩
  have CL := hid (look_any W1 _ p3 hP (tab_below hT HB1.out))
  clear hP hT
  go_enter Tryd.func8, Tryd.ntmps8
  go_wp2_with fail
  rw [HW1.out]
  refine CL.out.mono ?_
  rintro e W2 ⟨hLo, hb2⟩
  obtain ⟨m, hm, rfl⟩ := hLo.1 p3_may
  have hm' : Hy.MaxM Q3 m := hm
  have HB2 : Hid (Below w.heap.size w W2) := hid (HB1.out.trans (hb2.mono HB1.out.size))
  rw [q3_len hm', show p3.map natP = Q3 from rfl, q3_fst, q3_snd]
  clear hLo hm hm' hb2 CL HC1 HB1 HW1
  obtain ⟨W3, HW3⟩ : ∃ W3, Hid (W2.alloc (.cells #[.int .i64 2, .int .i64 2, .int .i64 2] 32) = W3) := ⟨_, rfl⟩
  have HS3 : Hid (W3.heap.size = W2.heap.size + 1) := by rw [← HW3.out]; refine hid ?_; simp
  have HC3 : Hid (W3.heap[W2.heap.size]? = some (.cells #[.int .i64 2, .int .i64 2, .int .i64 2] 32 (0, 0))) := by rw [← HW3.out]; exact heap_alloc_new W2 _
  have HB3 : Hid (Below w.heap.size w W3) := by rw [← HW3.out]; exact hid (HB2.out.alloc HB2.out.size _)
  obtain ⟨W4, HW4⟩ : ∃ W4, Hid (W3.alloc (.cells #[.float .f64 4602678819172646912, .float .f64 4602678819172646912] 40) = W4) := ⟨_, rfl⟩
  have HC4 : Hid (W4.heap[W3.heap.size]? = some (.cells #[.float .f64 4602678819172646912, .float .f64 4602678819172646912] 40 (0, 0))) := by rw [← HW4.out]; exact heap_alloc_new W3 _
  have HB4 : Hid (Below W3.heap.size W3 W4) := by rw [← HW4.out]; exact hid ((Below.refl _ W3).alloc (Nat.le_refl _) _)
  have hF : HF W4 (.slice (some ⟨W3.heap.size, 0, none⟩) 2 2) [HALF, HALF] := by
    refine ⟨⟨_, 2, rfl, by decide, by decide, (fun e => by cases e), fun _ => ⟨W3.heap.size, 0, rfl, fun j hj => ?_⟩⟩, by decide⟩
    have : j = 0 ∨ j = 1 := by simp only [List.length_cons, List.length_nil] at hj; omega
    rcases this with rfl | rfl <;> exact (cell_of_row _ _ _ _ _ _ HC4.out).trans rfl
  have CO := odds_any W4 _ [HALF, HALF] 1 hF (by decide)
  rw [if_pos half_ok, if_pos half_ok] at CO
  change Calls _ _ _ _ (fun e w' => e = .returned (.tuple #[.float .f64 (Fl.tot 1 (Fl.tab 2 [(1, HALF), (1, HALF)])), .int .i64 0]) ∧ Below W4.heap.size W4 w') at CO
  rw [half_odds] at CO
  have CX := hid CO
  rw [HS3.out] at CX HC4
  clear CO hF
  have hq0 : W3.cell? ⟨W2.heap.size, 0, none⟩ = some (.int .i64 2) := (cell_of_row _ _ _ _ _ _ HC3.out).trans rfl
  go_wp2_with fail
  rw [HW3.out, HW4.out]
  refine CX.out.mono ?_
  rintro e W5 ⟨rfl, hb5⟩
  have HB5 : Hid (Below W3.heap.size W3 W5) := hid (HB4.out.trans (hb5.mono HB4.out.size))
  have HC5 : Hid (W5.heap[W2.heap.size]? = some (.cells #[.int .i64 2, .int .i64 2, .int .i64 2] 32 (0, 0))) := hid ((HB5.out.block _ (by rw [HS3.out]; omega)).trans HC3.out)
  have HBW : Hid (Below w.heap.size w W5) := hid (HB3.out.trans (HB5.out.mono HB3.out.size))
  clear hb5 hq0 CX
  have hq0 : W5.cell? ⟨W2.heap.size, 0, none⟩ = some (.int .i64 2) := (cell_of_row _ _ _ _ _ _ HC5.out).trans rfl
  have hq1 : W5.cell? ⟨W2.heap.size, 1, none⟩ = some (.int .i64 2) := (cell_of_row _ _ _ _ _ _ HC5.out).trans rfl
  have hq2 : W5.cell? ⟨W2.heap.size, 2, none⟩ = some (.int .i64 2) := (cell_of_row _ _ _ _ _ _ HC5.out).trans rfl
  have hfe : FloatKind.f64.format.order 4604930618986332160 4604930618986332160 = some .eq := by decide +kernel
  go_wp2
  go_ret
  exact ⟨rfl, HBW.out⟩
end Go.Proofs.YtlhjpflljokinaaDoor.Hz
namespace Go.Proofs.YtlhjpflljokinaaDoor
open Go Go.RowKit
set_option maxRecDepth 100000 in
theorem hnames_walk (w : World) (hT : TabAt 0 Lib.deBruijn32tab w) :
    Calls Tryd.prog 7 #[] w fun e w' => e = .returned (.bool true) ∧ Below w.heap.size w w' := by
  have CL := hid (Hz.lives_any w hT)
  clear hT
  go_enter Tryd.func7, Tryd.ntmps7
  go_wp2_with fail
  refine CL.out.mono ?_
  rintro e w1 ⟨rfl, hb⟩
  have HB := hid hb
  clear hb CL
  go_wp2
  go_ret
  exact ⟨rfl, HB.out⟩
end Go.Proofs.YtlhjpflljokinaaDoor
namespace Go.Proofs.YtlhjpflljokinaaDoor
open Go Go.RowKit Go.ChangeShapes Go.WideShapes Go.ChangeAt
def happyLaid : List (String × DataW Unit) := [("math/bits.deBruijn32tab", Rows.laid_math_bits_deBruijn32tab)]
theorem gT32 : Tryd.prog.globalNamed "math/bits.deBruijn32tab" = some 0 := by kernel_rfl
theorem tT32 : (Tryd.prog.globals[0]?).map (·.type) = some 101 := by kernel_rfl
theorem kt_of_laid {W : World} (h : laidMetH Tryd.prog happyLaid W) : TabAt 0 Lib.deBruijn32tab W := by
  rw [MakeChecks.laidMetH_plain _ _ _ (by kernel_rfl)] at h
  have h3 : laidMet Tryd.prog (("math/bits.deBruijn32tab", Lib.tabData .u8 (Lib.deBruijn32tab.map fun k : Nat => (k : Int))) :: []) W := h
  have h4 := Lib.tabIs_of_head gT32 tT32 Tryd.underlying101 Tryd.underlying5 (by kernel_rfl) (by kernel_rfl) h3
  intro j hj
  have h5 := h4.cell gT32 j (by rw [List.length_map]; exact hj)
  rw [h5]
  congr 2
  simp [List.getD, List.getElem?_eq_getElem hj]
end Go.Proofs.YtlhjpflljokinaaDoor
