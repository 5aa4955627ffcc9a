/- (*sha.Hash).made, walked: at nil, at a hash whose first words are whatever. -/
import Derived.Test.YtdipjhcjmjajfaaDoorShaSlice
import Derived.Deep.RegionHeld3
import Derived.Deep.QuietTactic
import Derived.BigQuiet
namespace Go.Proofs.YtdipjhcjmjajfaaDoor
open Go.RowKit

set_option maxRecDepth 100000 in
set_option maxHeartbeats 1000000 in
theorem made_any (w : World) (g : Nat) (bw : List Nat) (h8 : bw.length = 8) (hr : w.rangeAt g 0 (wcells bw)) :
    Calls Tryd.prog 45 #[.pointer (some ⟨g, 0, none⟩)] w fun e w' => e = .returned (.bool (decide (bw = iv))) ∧ Below w.heap.size w w' := by
  obtain ⟨a, b, c, d, e, f, x, y, rfl⟩ : ∃ a b c d e f x y, bw = [a, b, c, d, e, f, x, y] := by
    match bw, h8 with
    | [a, b, c, d, e, f, x, y], _ => exact ⟨a, b, c, d, e, f, x, y, rfl⟩
  obtain ⟨m, HM⟩ : ∃ m, Hid (cellsW iv = m) := ⟨_, rfl⟩
  obtain ⟨q, HQ⟩ : ∃ q, Hid (decide (([a, b, c, d, e, f, x, y] : List Nat) = iv) = q) := ⟨_, rfl⟩
  rw [HQ.out]
  have heq : ∀ W, (binOp .eql 25 (.agg #[.int .u32 (a : Int), .int .u32 (b : Int), .int .u32 (c : Int), .int .u32 (d : Int), .int .u32 (e : Int), .int .u32 (f : Int), .int .u32 (x : Int), .int .u32 (y : Int)]) (.agg m)).run Tryd.prog W = .ok (.bool q) W := fun W => by
    rw [← HM.out, ← HQ.out]
    exact run_eql_words W 8 25 Tryd.underlying25 [a, b, c, d, e, f, x, y] iv rfl rfl
  have CI : Hid (∀ W, Calls Tryd.prog 10 #[] W fun e w' => e = .returned (.agg m) ∧ Below W.heap.size W w') := fun W => by rw [← HM.out]; exact initial_any W
  have k0 : w.cell? ⟨g, 0, none⟩ = some (.int .u32 (a : Int)) := hr 0 _ rfl
  have k1 : w.cell? ⟨g, 1, none⟩ = some (.int .u32 (b : Int)) := hr 1 _ rfl
  have k2 : w.cell? ⟨g, 2, none⟩ = some (.int .u32 (c : Int)) := hr 2 _ rfl
  have k3 : w.cell? ⟨g, 3, none⟩ = some (.int .u32 (d : Int)) := hr 3 _ rfl
  have k4 : w.cell? ⟨g, 4, none⟩ = some (.int .u32 (e : Int)) := hr 4 _ rfl
  have k5 : w.cell? ⟨g, 5, none⟩ = some (.int .u32 (f : Int)) := hr 5 _ rfl
  have k6 : w.cell? ⟨g, 6, none⟩ = some (.int .u32 (x : Int)) := hr 6 _ rfl
  have k7 : w.cell? ⟨g, 7, none⟩ = some (.int .u32 (y : Int)) := hr 7 _ rfl
  have hgl : g < w.heap.size := World.block_lt_of_cell? w _ k0
  have C0 := hid (CI.out w.drew)
  clear hr
  go_enter Tryd.func45, Tryd.ntmps45
  go_wp2
  go_region_held3 (fun w' => w'.cell? ⟨g, 0, none⟩ = some (.int .u32 (a : Int)) ∧ w'.cell? ⟨g, 1, none⟩ = some (.int .u32 (b : Int)) ∧ w'.cell? ⟨g, 2, none⟩ = some (.int .u32 (c : Int)) ∧ w'.cell? ⟨g, 3, none⟩ = some (.int .u32 (d : Int)) ∧ w'.cell? ⟨g, 4, none⟩ = some (.int .u32 (e : Int)) ∧ w'.cell? ⟨g, 5, none⟩ = some (.int .u32 (f : Int)) ∧ w'.cell? ⟨g, 6, none⟩ = some (.int .u32 (x : Int)) ∧ w'.cell? ⟨g, 7, none⟩ = some (.int .u32 (y : Int)))
    (first
      | exact ⟨k0, k1, k2, k3, k4, k5, k6, k7⟩
      | exact ⟨(hBm.cell (p := ⟨g, 0, none⟩) hgl).trans k0, (hBm.cell (p := ⟨g, 1, none⟩) hgl).trans k1, (hBm.cell (p := ⟨g, 2, none⟩) hgl).trans k2, (hBm.cell (p := ⟨g, 3, none⟩) hgl).trans k3, (hBm.cell (p := ⟨g, 4, none⟩) hgl).trans k4, (hBm.cell (p := ⟨g, 5, none⟩) hgl).trans k5, (hBm.cell (p := ⟨g, 6, none⟩) hgl).trans k6, (hBm.cell (p := ⟨g, 7, none⟩) hgl).trans k7⟩)
    ((go_at_call 10; refine C0.out.mono ?_; rintro e' wm ⟨rfl, hBm⟩))
  have HBM : Hid (Below w.heap.size w wm) := ⟨hBm.os, hBm.tape, hBm.output, hBm.size, hBm.block⟩
  clear hBm
  go_wp2
  go_ret
  exact ⟨rfl, HBM.out⟩

set_option maxHeartbeats 1000000 in
theorem made_nil (w : World) : Calls Tryd.prog 45 #[.pointer none] w fun e w' => e = .returned (.bool false) ∧ Below w.heap.size w w' := by
  go_enter Tryd.func45, Tryd.ntmps45
  go_wp2
  go_quiet (fail)
  go_wp2
  go_ret
  exact ⟨rfl, (Dr.one w _).below _⟩
end Go.Proofs.YtdipjhcjmjajfaaDoor
