/- CtrBlocks, walked. -/
import Derived.Test.YtbafegpiipkmbaaCbEvA
import Derived.Test.YtbafegpiipkmbaaCbEvB
import Derived.Test.YtbafegpiipkmbaaCbEvC
import Derived.Test.YtbafegpiipkmbaaCbEvD
import Derived.Test.YtbafegpiipkmbaaCtrBlocksOk
set_option linter.unusedVariables false
namespace Go.Proofs.Ytbafegpiipkmbaa
open Go Go.RowKit Ev

theorem cb_all : ∀ (m : Nat) (mx brk : Bool), 1 ≤ m → m ≤ 20 → (brk = false → mx = true ∧ m ≤ 19) → (evCb m mx brk).map (·.1) = some (.tv (.sc (.bool true)))
  | 1, true, true, _, _, _ => cb_1_tt
  | 1, false, true, _, _, _ => cb_1_ft
  | 2, true, true, _, _, _ => cb_2_tt
  | 2, false, true, _, _, _ => cb_2_ft
  | 3, true, true, _, _, _ => cb_3_tt
  | 3, false, true, _, _, _ => cb_3_ft
  | 4, true, true, _, _, _ => cb_4_tt
  | 4, false, true, _, _, _ => cb_4_ft
  | 5, true, true, _, _, _ => cb_5_tt
  | 5, false, true, _, _, _ => cb_5_ft
  | 6, true, true, _, _, _ => cb_6_tt
  | 6, false, true, _, _, _ => cb_6_ft
  | 7, true, true, _, _, _ => cb_7_tt
  | 7, false, true, _, _, _ => cb_7_ft
  | 8, true, true, _, _, _ => cb_8_tt
  | 8, false, true, _, _, _ => cb_8_ft
  | 9, true, true, _, _, _ => cb_9_tt
  | 9, false, true, _, _, _ => cb_9_ft
  | 10, true, true, _, _, _ => cb_10_tt
  | 10, false, true, _, _, _ => cb_10_ft
  | 11, true, true, _, _, _ => cb_11_tt
  | 11, false, true, _, _, _ => cb_11_ft
  | 12, true, true, _, _, _ => cb_12_tt
  | 12, false, true, _, _, _ => cb_12_ft
  | 13, true, true, _, _, _ => cb_13_tt
  | 13, false, true, _, _, _ => cb_13_ft
  | 14, true, true, _, _, _ => cb_14_tt
  | 14, false, true, _, _, _ => cb_14_ft
  | 15, true, true, _, _, _ => cb_15_tt
  | 15, false, true, _, _, _ => cb_15_ft
  | 16, true, true, _, _, _ => cb_16_tt
  | 16, false, true, _, _, _ => cb_16_ft
  | 17, true, true, _, _, _ => cb_17_tt
  | 17, false, true, _, _, _ => cb_17_ft
  | 18, true, true, _, _, _ => cb_18_tt
  | 18, false, true, _, _, _ => cb_18_ft
  | 19, true, true, _, _, _ => cb_19_tt
  | 19, false, true, _, _, _ => cb_19_ft
  | 20, true, true, _, _, _ => cb_20_tt
  | 20, false, true, _, _, _ => cb_20_ft
  | 1, true, false, _, _, _ => cb_1_tf
  | 2, true, false, _, _, _ => cb_2_tf
  | 3, true, false, _, _, _ => cb_3_tf
  | 4, true, false, _, _, _ => cb_4_tf
  | 5, true, false, _, _, _ => cb_5_tf
  | 6, true, false, _, _, _ => cb_6_tf
  | 7, true, false, _, _, _ => cb_7_tf
  | 8, true, false, _, _, _ => cb_8_tf
  | 9, true, false, _, _, _ => cb_9_tf
  | 10, true, false, _, _, _ => cb_10_tf
  | 11, true, false, _, _, _ => cb_11_tf
  | 12, true, false, _, _, _ => cb_12_tf
  | 13, true, false, _, _, _ => cb_13_tf
  | 14, true, false, _, _, _ => cb_14_tf
  | 15, true, false, _, _, _ => cb_15_tf
  | 16, true, false, _, _, _ => cb_16_tf
  | 17, true, false, _, _, _ => cb_17_tf
  | 18, true, false, _, _, _ => cb_18_tf
  | 19, true, false, _, _, _ => cb_19_tf
  | 0, _, _, h, _, _ => absurd h (by decide)
  | 20, _, false, _, _, h => absurd (h rfl).2 (by decide)
  | m + 21, _, _, _, h, _ => absurd h (by omega)
  | 1, false, false, _, _, h => absurd (h rfl).1 (by decide)
  | 2, false, false, _, _, h => absurd (h rfl).1 (by decide)
  | 3, false, false, _, _, h => absurd (h rfl).1 (by decide)
  | 4, false, false, _, _, h => absurd (h rfl).1 (by decide)
  | 5, false, false, _, _, h => absurd (h rfl).1 (by decide)
  | 6, false, false, _, _, h => absurd (h rfl).1 (by decide)
  | 7, false, false, _, _, h => absurd (h rfl).1 (by decide)
  | 8, false, false, _, _, h => absurd (h rfl).1 (by decide)
  | 9, false, false, _, _, h => absurd (h rfl).1 (by decide)
  | 10, false, false, _, _, h => absurd (h rfl).1 (by decide)
  | 11, false, false, _, _, h => absurd (h rfl).1 (by decide)
  | 12, false, false, _, _, h => absurd (h rfl).1 (by decide)
  | 13, false, false, _, _, h => absurd (h rfl).1 (by decide)
  | 14, false, false, _, _, h => absurd (h rfl).1 (by decide)
  | 15, false, false, _, _, h => absurd (h rfl).1 (by decide)
  | 16, false, false, _, _, h => absurd (h rfl).1 (by decide)
  | 17, false, false, _, _, h => absurd (h rfl).1 (by decide)
  | 18, false, false, _, _, h => absurd (h rfl).1 (by decide)
  | 19, false, false, _, _, h => absurd (h rfl).1 (by decide)
theorem cblocks_walk (w : World) (k : List Nat) (fr : Nat) (st : Int) (hk : Byt k) (hl : k.length = 16) (hfr : fr < 18446744073709551616) :
    Calls Try.prog 3 #[.agg (cells8 k), .int .u64 (fr : Int), .int .i64 st] w fun e w' => e = .returned (.bool true) ∧ Below w.heap.size w w' := by
  obtain ⟨p1, p2⟩ := pickI_lt st 20 (by decide)
  obtain ⟨S, hS⟩ := Int.eq_ofNat_of_zero_le p1
  have hS2 : S < 20 := by omega
  by_cases h : fr + S ≤ 18446744073709551615
  · refine cb_calls w k fr st S (S + 1) (decide (fr + S = 18446744073709551615)) true hk hl hfr hS (cb_all (S + 1) _ true (by omega) (by omega) (fun e => by cases e)) (fun j hj => ?_) (fun i hi => ?_)
    · unfold nJ
      rw [Nat.mod_eq_of_lt (by omega)]
      simp only [decide_eq_true_eq]
      omega
    · exact ⟨fun hlt => ⟨by omega, rfl⟩, fun hh => by have := hh.1; omega⟩
  · refine cb_calls w k fr st S (18446744073709551616 - fr) true false hk hl hfr hS (cb_all _ true false (by omega) (by omega) (fun _ => ⟨rfl, by omega⟩)) (fun j hj => ?_) (fun i hi => ?_)
    · unfold nJ
      rw [Nat.mod_eq_of_lt (by omega)]
      simp only [and_true]
      omega
    · exact ⟨fun hlt => absurd hlt (by omega), fun hh => by cases hh.2⟩
end Go.Proofs.Ytbafegpiipkmbaa
