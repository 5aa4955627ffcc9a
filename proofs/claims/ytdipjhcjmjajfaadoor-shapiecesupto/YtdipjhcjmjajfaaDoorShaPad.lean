/- sha.Pad, walked. -/
import Derived.Test.YtdipjhcjmjajfaaDoorNumbers
import Derived.Test.YtdipjhcjmjajfaaDoorJoin
import Derived.Laws.OwnMore
namespace Go.Proofs.YtdipjhcjmjajfaaDoor
open Go.RowKit

/-- How many noughts; what is put behind a message of n bytes. -/
def padZ (n : Nat) : Nat := (64 - (n + 9) % 64) % 64
def padL (n : Nat) : List Int := [128] ++ (List.replicate (padZ n) 0 ++ bigL 8 (n * 8))
theorem padL_length (n : Nat) : (padL n).length = 9 + padZ n := by simp [padL, bigL_length]; omega
theorem padL_whole (n : Nat) : (n + (padL n).length) % 64 = 0 := by rw [padL_length]; unfold padZ; omega
theorem padL_byt (n : Nat) : ∀ x ∈ padL n, 0 ≤ x ∧ x < 256 := by
  intro x hx
  unfold padL at hx
  rcases List.mem_append.1 hx with h | h
  · have : x = 128 := by simpa using h
    omega
  · rcases List.mem_append.1 h with h | h
    · have := (List.mem_replicate.1 h).2
      omega
    · exact bigL_byt _ _ x h

theorem own_mono4 {w : World} {B B' e n : Nat} {v : Value} {xs : List Value} (h : w.ownsRow B e 1 v n xs) (hb : B' ≤ B) : w.ownsRow B' e 1 v n xs := by
  refine ⟨h.1, ?_⟩
  rcases h.2 with h2 | ⟨g, cap, cur, h1, h2, h3⟩
  · exact .inl h2
  · exact .inr ⟨g, cap, cur, h1, Nat.le_trans hb h2, h3⟩

set_option maxHeartbeats 1000000 in
theorem pad_ok (w : World) (n : Nat) (hn : n ≤ 1152921504606846976) :
    Calls Tryd.prog 14 #[.int .i64 (n : Int)] w fun e w' => ∃ v', e = .returned (.tuple #[v', .int .i64 0]) ∧ w'.ownsRow w.heap.size 5 1 v' (padL n).length ((padL n).map (Value.int .u8)) ∧ Below w.heap.size w w' := by
  obtain ⟨i0, hi, hz0, hz1, hz2⟩ := info_parts info_u8
  obtain ⟨z, HZ⟩ : ∃ z, Hid (padZ n = z) := ⟨_, rfl⟩
  have hz64 : z < 64 := by rw [← HZ.out]; unfold padZ; omega
  obtain ⟨w1, hmk, hown, hgr⟩ := run_make_full (P := Tryd.prog) w w.heap.size 32 5 i0 (.int .u8 0) 1 Tryd.underlying32 hi hz0 hz1 .i64 .i64 z (by rw [hz2]; omega) (by unfold maxLen; omega) (Nat.le_refl _)
  have e9 : (64 - ((n : Int) + 1 + 8) % 64) % 64 = (z : Int) := by rw [← HZ.out]; unfold padZ; omega
  have HO := hid hown
  have HG := hid hgr
  clear hown hgr
  go_enter Tryd.func14, Tryd.ntmps14
  go_wp2_with fail
  have e8 : ((n : Int) * 8) = ((n * 8 : Nat) : Int) := by omega
  rw [e8]
  clear e8 e9 hmk
  refine (big_uint64 (n * 8) (by omega) _).mono ?_
  rintro e w2 ⟨v2, rfl, ho2, hB2⟩
  have hs1 : w.heap.size + 1 ≤ w1.heap.size := by have := HO.out.lt w.heap.size rfl; omega
  have hs2 : w1.heap.size + 1 ≤ w2.heap.size := by have := hB2.size; simpa using this
  have B1 : Below w.heap.size w w1 := (Below.refl _ w).grown HG.out (Nat.le_refl _) (fun k e => by cases e)
  have B2 : Below w.heap.size w w2 := (B1.alloc (by omega) (.cells #[.int .u8 128] 5)).trans (hB2.mono (by simp; omega))
  have Z1 : HB w1 (.slice (some ⟨w.heap.size, 0, none⟩) z z) (List.replicate z 0) := by
    have e : (madeCells (Value.int IntKind.u8 0).cells (z * 1)).toList = (List.replicate z (0 : Int)).map (Value.int .u8) := by
      rw [show (Value.int IntKind.u8 0).cells = #[Value.int .u8 0] from rfl, toList_madeCells_one]
      simp
    have h1 := HO.out
    rw [e] at h1
    exact HB.of_own (by simpa using h1) (fun x hx => by have := (List.mem_replicate.1 hx).2; omega)
  have Z2 : HB w2 (.slice (some ⟨w.heap.size, 0, none⟩) z z) (List.replicate z 0) := (Z1.below ((Below.refl _ w1).alloc (Nat.le_refl _) _)).below hB2
  have A2 : HB w2 (.slice (some ⟨w1.heap.size, 0, none⟩) 1 1) [128] := by
    have h1 : (w1.alloc (.cells #[.int .u8 128] 5)).ownsRow w1.heap.size 5 1 (.slice (some ⟨w1.heap.size, 0, none⟩) 1 1) 1 [.int .u8 128] := World.ownsRow_lit (base := w1.heap.size) (e := 5) (size := 1) w1 #[.int .u8 128] 1 (Nat.le_refl _) (by decide) rfl
    have h2 : HB (w1.alloc (.cells #[.int .u8 128] 5)) (.slice (some ⟨w1.heap.size, 0, none⟩) 1 1) [128] := HB.of_own (l := [128]) h1 (by decide)
    exact h2.below hB2
  have G2 : HB w2 v2 (bigL 8 (n * 8)) := HB.of_own (by rw [bigL_length]; exact ho2) (bigL_byt _ _)
  obtain ⟨p2, c2, e2, _, _⟩ := G2.open
  rw [bigL_length] at e2
  subst e2
  obtain ⟨W3, hW3⟩ : ∃ W3, Hid (w2.alloc (.cells #[.slice (some ⟨w1.heap.size, 0, none⟩) 1 1, .slice (some ⟨w.heap.size, 0, none⟩) z z, .slice p2 8 c2] 32) = W3) := ⟨_, rfl⟩
  have B23 : Below w2.heap.size w2 W3 := by rw [← hW3.out]; exact (Below.refl _ w2).alloc (Nat.le_refl _) _
  have HL3 : HL W3 (.slice (some ⟨w2.heap.size, 0, none⟩) 3 3) [[128], List.replicate z 0, bigL 8 (n * 8)] := by
    refine ⟨_, 3, rfl, Nat.le_refl _, by decide, (fun e => by cases e), fun _ => ⟨w2.heap.size, 0, rfl, fun j hj => ?_⟩⟩
    have hrow : W3.heap[w2.heap.size]? = some (.cells #[.slice (some ⟨w1.heap.size, 0, none⟩) 1 1, .slice (some ⟨w.heap.size, 0, none⟩) z z, .slice p2 8 c2] 32 (0, 0)) := by rw [← hW3.out]; exact heap_alloc_new w2 _
    match j, hj with
    | 0, _ => exact ⟨_, by rw [cell_of_row W3 w2.heap.size 0 _ _ _ hrow]; rfl, A2.below B23⟩
    | 1, _ => exact ⟨_, by rw [cell_of_row W3 w2.heap.size 1 _ _ _ hrow]; rfl, Z2.below B23⟩
    | 2, _ => exact ⟨_, by rw [cell_of_row W3 w2.heap.size 2 _ _ _ hrow]; rfl, G2.below B23⟩
  have HFL : ([[128], List.replicate z 0, bigL 8 (n * 8)] : List (List Int)).flatten = padL n := by
    unfold padL
    rw [HZ.out]
    simp
  have CJ := join_any W3 _ _ HL3 (by rw [HFL, padL_length, HZ.out]; omega)
  rw [HFL] at CJ
  have CJ2 := hid CJ
  have B3 := hid (B2.trans (B23.mono B2.size))
  have hs3 : w.heap.size ≤ W3.heap.size := B3.out.size
  clear CJ HL3 HFL A2 Z1 Z2 G2 B1 B2 B23 ho2 hB2
  go_wp2_with fail
  rw [hW3.out]
  refine CJ2.out.mono ?_
  rintro e w4 ⟨v4, rfl, ho4, hB4⟩
  have HO4 := hid ho4
  have HB4 := hid (B3.out.trans (hB4.mono hs3))
  clear ho4 hB4
  go_wp2
  go_ret2
  exact ⟨v4, rfl, own_mono4 HO4.out hs3, HB4.out⟩

set_option maxHeartbeats 1000000 in
theorem pad_bad (w : World) (n : Int) (hn : n < 0 ∨ 1152921504606846976 < n) : Calls Tryd.prog 14 #[.int .i64 n] w fun e w' => e = .returned (.tuple #[.slice none 0 0, .int .i64 2]) ∧ w' = w := by
  rcases hn with h | h
  · go_enter Tryd.func14, Tryd.ntmps14
    go_wp2
    go_ret2
    exact ⟨rfl, rfl⟩
  · have h0 : ¬ n < 0 := by omega
    go_enter Tryd.func14, Tryd.ntmps14
    go_wp2
    go_ret2
    exact ⟨rfl, rfl⟩
end Go.Proofs.YtdipjhcjmjajfaaDoor
