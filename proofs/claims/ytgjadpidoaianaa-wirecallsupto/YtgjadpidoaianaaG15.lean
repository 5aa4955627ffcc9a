/- Of the road to wireCallsUpto_holds: WrRfB, WrFit. -/
import Derived.Test.YtgjadpidoaianaaG09
set_option linter.unusedVariables false
set_option linter.unusedSimpArgs false
namespace Go.Proofs.Ytgjadpidoaianaa
open Go Go.RowKit
theorem bigL_at : ∀ (n x k : Nat), k < n → (bigL n x).getD k 0 = ((x / 256 ^ (n - 1 - k) % 256 : Nat) : Int)
  | n + 1, x, 0, _ => by simp [bigL]
  | n + 1, x, k + 1, h => by
    have := bigL_at n x k (by omega)
    simp only [bigL, List.getD_cons_succ]
    rw [this, show n + 1 - 1 - (k + 1) = n - 1 - k by omega]
theorem bigL_pre (n x k : Nat) (h : k < n) : (bigL n x).take (k + 1) = (bigL n x).take k ++ [((x / 256 ^ (n - 1 - k) % 256 : Nat) : Int)] := by
  rw [List.take_succ_eq_append_getElem (by rw [bigL_length]; exact h), ← bigL_at n x k h, getD_of_lt (by rw [bigL_length]; exact h)]
set_option maxRecDepth 100000 in
set_option maxHeartbeats 8000000 in
theorem rbig4_any (w : World) (x : Nat) (hx : x < 9223372036854775808) : Calls Try.prog 47 #[.int .i64 (x : Int), .int .i64 4] w fun e w' => ∃ v', e = .returned v' ∧ w'.ownsRow w.heap.size 5 1 v' 4 ((bigL 4 x).map (Value.int .u8)) ∧ Below w.heap.size w w' := by
  have hw64 : IntKind.u64.wrap (x : Int) = (x : Int) := by rw [IntKind.wrap_u64]; omega
  go_enter Try.func47, Try.ntmps47
  go_wp2
  go_loopw [5, 6] (fun o i wr => ∃ (k : Nat) (z : Int), k ≤ 4 ∧ i = .int .i64 z ∧ z = 3 - (k : Int) ∧ wr.ownsRow w.heap.size 5 1 o ((bigL 4 x).take k).length (((bigL 4 x).take k).map (Value.int .u8)) ∧ Below w.heap.size w wr) (fun _ i _ => (intOf i + 1).toNat)
  case atStart => exact ⟨0, 3, by omega, rfl, by omega, ⟨rfl, .inl ⟨rfl, rfl⟩⟩, Below.refl _ _⟩
  case round =>
    obtain ⟨k, z, hk, rfl, hz, hown, hB⟩ := hrel
    by_cases hlt : k < 4
    · have HS := hid (bigL_pre 4 x k hlt)
      obtain ⟨T, HT⟩ : ∃ T, Hid ((bigL 4 x).take k = T) := ⟨_, hid rfl⟩
      have hTl : Hid (T.length ≤ 10) := hid (by rw [← HT.out, List.length_take, bigL_length]; omega)
      rw [HT.out] at hown HS
      obtain ⟨po, co, ho⟩ := own_slice hown
      subst ho
      obtain ⟨y, HY⟩ : ∃ y : Nat, Hid (x / 256 ^ (4 - 1 - k) % 256 = y) := ⟨_, hid rfl⟩
      have hy : y < 256 := by rw [← HY.out]; exact Nat.mod_lt _ (by omega)
      rw [HY.out] at HS
      obtain ⟨W2, HW2⟩ : ∃ W : World, Hid (wr.alloc (.cells #[.int .u8 (y : Int)] 5) = W) := ⟨_, hid rfl⟩
      have B2 : Hid (Below wr.heap.size wr W2) := by rw [← HW2.out]; exact hid ((Below.refl _ wr).alloc (Nat.le_refl _) _)
      have O2 : Hid (W2.ownsRow w.heap.size 5 1 (.slice po T.length co) T.length (T.map (Value.int .u8))) := hid (own_ex hown (Ex.of_below (S := fun _ => False) B2.out) (fun _ _ _ e => e))
      have L2 : Hid (HB W2 (.slice (some ⟨wr.heap.size, 0, none⟩) 1 1) [(y : Int)]) := hid (HB.lit (l := [(y : Int)]) (by rw [← HW2.out]; exact heap_alloc_new wr _) (by simp) (by simp; omega))
      have BW : Hid (Below w.heap.size w W2) := hid (hB.trans (B2.out.mono hB.size))
      have hlen : Hid (T.length + 1 ≤ 140737488355328) := hid (by have := hTl.out; omega)
      clear hown hB
      have hks : k = 0 ∨ k = 1 ∨ k = 2 ∨ k = 3 := by omega
      rcases hks with rfl | rfl | rfl | rfl
      · obtain rfl : z = 3 := by omega
        have hdv : IntKind.u8.wrap ((x : Int) / 16777216) = (y : Int) := by
          have h1 := HY.out
          rw [IntKind.wrap_u8]
          simp at h1
          omega
        skip
        clear hz
        go_wp2_with (first | rw [hdv] | rw [HW2.out] | (at_builtin; refine wpList_append_HB rfl _ _ rfl w.heap.size _ _ _ rfl O2.out _ _ rfl L2.out ?q1 ?q2 ?_) | fail)
        case q1 => exact hlen.out
        case q2 => exact BW.out.size
        intro v' w2 hown2 hgr2
        have HO2 : Hid (w2.ownsRow w.heap.size 5 1 v' ((bigL 4 x).take 1).length (((bigL 4 x).take 1).map (Value.int .u8))) := by
          show World.ownsRow _ _ _ _ _ _ _
          rw [HS.out, List.length_append, List.map_append]
          exact hown2
        have HB2 : Hid (Below w.heap.size w w2) := BW.out.grown hgr2 BW.out.size (fun k e => (O2.out.lt k e).1)
        clear hown2 hgr2
        go_wp2
        exact ⟨⟨1, 2, by omega, by go_num, by omega, HO2.out, HB2.out⟩, by simp [intOf]⟩
      · obtain rfl : z = 2 := by omega
        have hdv : IntKind.u8.wrap ((x : Int) / 65536) = (y : Int) := by
          have h1 := HY.out
          rw [IntKind.wrap_u8]
          simp at h1
          omega
        skip
        clear hz
        go_wp2_with (first | rw [hdv] | rw [HW2.out] | (at_builtin; refine wpList_append_HB rfl _ _ rfl w.heap.size _ _ _ rfl O2.out _ _ rfl L2.out ?q1 ?q2 ?_) | fail)
        case q1 => exact hlen.out
        case q2 => exact BW.out.size
        intro v' w2 hown2 hgr2
        have HO2 : Hid (w2.ownsRow w.heap.size 5 1 v' ((bigL 4 x).take 2).length (((bigL 4 x).take 2).map (Value.int .u8))) := by
          show World.ownsRow _ _ _ _ _ _ _
          rw [HS.out, List.length_append, List.map_append]
          exact hown2
        have HB2 : Hid (Below w.heap.size w w2) := BW.out.grown hgr2 BW.out.size (fun k e => (O2.out.lt k e).1)
        clear hown2 hgr2
        go_wp2
        exact ⟨⟨2, 1, by omega, by go_num, by omega, HO2.out, HB2.out⟩, by simp [intOf]⟩
      · obtain rfl : z = 1 := by omega
        have hdv : IntKind.u8.wrap ((x : Int) / 256) = (y : Int) := by
          have h1 := HY.out
          rw [IntKind.wrap_u8]
          simp at h1
          omega
        skip
        clear hz
        go_wp2_with (first | rw [hdv] | rw [HW2.out] | (at_builtin; refine wpList_append_HB rfl _ _ rfl w.heap.size _ _ _ rfl O2.out _ _ rfl L2.out ?q1 ?q2 ?_) | fail)
        case q1 => exact hlen.out
        case q2 => exact BW.out.size
        intro v' w2 hown2 hgr2
        have HO2 : Hid (w2.ownsRow w.heap.size 5 1 v' ((bigL 4 x).take 3).length (((bigL 4 x).take 3).map (Value.int .u8))) := by
          show World.ownsRow _ _ _ _ _ _ _
          rw [HS.out, List.length_append, List.map_append]
          exact hown2
        have HB2 : Hid (Below w.heap.size w w2) := BW.out.grown hgr2 BW.out.size (fun k e => (O2.out.lt k e).1)
        clear hown2 hgr2
        go_wp2
        exact ⟨⟨3, 0, by omega, by go_num, by omega, HO2.out, HB2.out⟩, by simp [intOf]⟩
      · obtain rfl : z = 0 := by omega
        have hdv : IntKind.u8.wrap ((x : Int) / 1) = (y : Int) := by
          have h1 := HY.out
          rw [IntKind.wrap_u8]
          simp at h1
          omega
        have hdv1 : IntKind.u8.wrap (x : Int) = (y : Int) := by simpa using hdv
        clear hz
        go_wp2_with (first | rw [hdv] | rw [HW2.out] | (at_builtin; refine wpList_append_HB rfl _ _ rfl w.heap.size _ _ _ rfl O2.out _ _ rfl L2.out ?q1 ?q2 ?_) | fail)
        case q1 => exact hlen.out
        case q2 => exact BW.out.size
        intro v' w2 hown2 hgr2
        have HO2 : Hid (w2.ownsRow w.heap.size 5 1 v' ((bigL 4 x).take 4).length (((bigL 4 x).take 4).map (Value.int .u8))) := by
          show World.ownsRow _ _ _ _ _ _ _
          rw [HS.out, List.length_append, List.map_append]
          exact hown2
        have HB2 : Hid (Below w.heap.size w w2) := BW.out.grown hgr2 BW.out.size (fun k e => (O2.out.lt k e).1)
        clear hown2 hgr2
        go_wp2
        exact ⟨⟨4, -1, by omega, by go_num, by omega, HO2.out, HB2.out⟩, by simp [intOf]⟩
    · obtain rfl : k = 4 := by omega
      obtain rfl : z = -1 := by omega
      have HK : Hid ((bigL 4 x).take 4 = bigL 4 x) := hid (List.take_of_length_le (by rw [bigL_length]; omega))
      rw [HK.out, bigL_length] at hown
      go_wp2
      go_ret
      exact ⟨_, rfl, hown, hB⟩
set_option maxRecDepth 100000 in
set_option maxHeartbeats 8000000 in
theorem rbig8_any (w : World) (x : Nat) (hx : x < 9223372036854775808) : Calls Try.prog 47 #[.int .i64 (x : Int), .int .i64 8] w fun e w' => ∃ v', e = .returned v' ∧ w'.ownsRow w.heap.size 5 1 v' 8 ((bigL 8 x).map (Value.int .u8)) ∧ Below w.heap.size w w' := by
  have hw64 : IntKind.u64.wrap (x : Int) = (x : Int) := by rw [IntKind.wrap_u64]; omega
  go_enter Try.func47, Try.ntmps47
  go_wp2
  go_loopw [5, 6] (fun o i wr => ∃ (k : Nat) (z : Int), k ≤ 8 ∧ i = .int .i64 z ∧ z = 7 - (k : Int) ∧ wr.ownsRow w.heap.size 5 1 o ((bigL 8 x).take k).length (((bigL 8 x).take k).map (Value.int .u8)) ∧ Below w.heap.size w wr) (fun _ i _ => (intOf i + 1).toNat)
  case atStart => exact ⟨0, 7, by omega, rfl, by omega, ⟨rfl, .inl ⟨rfl, rfl⟩⟩, Below.refl _ _⟩
  case round =>
    obtain ⟨k, z, hk, rfl, hz, hown, hB⟩ := hrel
    by_cases hlt : k < 8
    · have HS := hid (bigL_pre 8 x k hlt)
      obtain ⟨T, HT⟩ : ∃ T, Hid ((bigL 8 x).take k = T) := ⟨_, hid rfl⟩
      have hTl : Hid (T.length ≤ 10) := hid (by rw [← HT.out, List.length_take, bigL_length]; omega)
      rw [HT.out] at hown HS
      obtain ⟨po, co, ho⟩ := own_slice hown
      subst ho
      obtain ⟨y, HY⟩ : ∃ y : Nat, Hid (x / 256 ^ (8 - 1 - k) % 256 = y) := ⟨_, hid rfl⟩
      have hy : y < 256 := by rw [← HY.out]; exact Nat.mod_lt _ (by omega)
      rw [HY.out] at HS
      obtain ⟨W2, HW2⟩ : ∃ W : World, Hid (wr.alloc (.cells #[.int .u8 (y : Int)] 5) = W) := ⟨_, hid rfl⟩
      have B2 : Hid (Below wr.heap.size wr W2) := by rw [← HW2.out]; exact hid ((Below.refl _ wr).alloc (Nat.le_refl _) _)
      have O2 : Hid (W2.ownsRow w.heap.size 5 1 (.slice po T.length co) T.length (T.map (Value.int .u8))) := hid (own_ex hown (Ex.of_below (S := fun _ => False) B2.out) (fun _ _ _ e => e))
      have L2 : Hid (HB W2 (.slice (some ⟨wr.heap.size, 0, none⟩) 1 1) [(y : Int)]) := hid (HB.lit (l := [(y : Int)]) (by rw [← HW2.out]; exact heap_alloc_new wr _) (by simp) (by simp; omega))
      have BW : Hid (Below w.heap.size w W2) := hid (hB.trans (B2.out.mono hB.size))
      have hlen : Hid (T.length + 1 ≤ 140737488355328) := hid (by have := hTl.out; omega)
      clear hown hB
      have hks : k = 0 ∨ k = 1 ∨ k = 2 ∨ k = 3 ∨ k = 4 ∨ k = 5 ∨ k = 6 ∨ k = 7 := by omega
      rcases hks with rfl | rfl | rfl | rfl | rfl | rfl | rfl | rfl
      · obtain rfl : z = 7 := by omega
        have hdv : IntKind.u8.wrap ((x : Int) / 72057594037927936) = (y : Int) := by
          have h1 := HY.out
          rw [IntKind.wrap_u8]
          simp at h1
          omega
        skip
        clear hz
        go_wp2_with (first | rw [hdv] | rw [HW2.out] | (at_builtin; refine wpList_append_HB rfl _ _ rfl w.heap.size _ _ _ rfl O2.out _ _ rfl L2.out ?q1 ?q2 ?_) | fail)
        case q1 => exact hlen.out
        case q2 => exact BW.out.size
        intro v' w2 hown2 hgr2
        have HO2 : Hid (w2.ownsRow w.heap.size 5 1 v' ((bigL 8 x).take 1).length (((bigL 8 x).take 1).map (Value.int .u8))) := by
          show World.ownsRow _ _ _ _ _ _ _
          rw [HS.out, List.length_append, List.map_append]
          exact hown2
        have HB2 : Hid (Below w.heap.size w w2) := BW.out.grown hgr2 BW.out.size (fun k e => (O2.out.lt k e).1)
        clear hown2 hgr2
        go_wp2
        exact ⟨⟨1, 6, by omega, by go_num, by omega, HO2.out, HB2.out⟩, by simp [intOf]⟩
      · obtain rfl : z = 6 := by omega
        have hdv : IntKind.u8.wrap ((x : Int) / 281474976710656) = (y : Int) := by
          have h1 := HY.out
          rw [IntKind.wrap_u8]
          simp at h1
          omega
        skip
        clear hz
        go_wp2_with (first | rw [hdv] | rw [HW2.out] | (at_builtin; refine wpList_append_HB rfl _ _ rfl w.heap.size _ _ _ rfl O2.out _ _ rfl L2.out ?q1 ?q2 ?_) | fail)
        case q1 => exact hlen.out
        case q2 => exact BW.out.size
        intro v' w2 hown2 hgr2
        have HO2 : Hid (w2.ownsRow w.heap.size 5 1 v' ((bigL 8 x).take 2).length (((bigL 8 x).take 2).map (Value.int .u8))) := by
          show World.ownsRow _ _ _ _ _ _ _
          rw [HS.out, List.length_append, List.map_append]
          exact hown2
        have HB2 : Hid (Below w.heap.size w w2) := BW.out.grown hgr2 BW.out.size (fun k e => (O2.out.lt k e).1)
        clear hown2 hgr2
        go_wp2
        exact ⟨⟨2, 5, by omega, by go_num, by omega, HO2.out, HB2.out⟩, by simp [intOf]⟩
      · obtain rfl : z = 5 := by omega
        have hdv : IntKind.u8.wrap ((x : Int) / 1099511627776) = (y : Int) := by
          have h1 := HY.out
          rw [IntKind.wrap_u8]
          simp at h1
          omega
        skip
        clear hz
        go_wp2_with (first | rw [hdv] | rw [HW2.out] | (at_builtin; refine wpList_append_HB rfl _ _ rfl w.heap.size _ _ _ rfl O2.out _ _ rfl L2.out ?q1 ?q2 ?_) | fail)
        case q1 => exact hlen.out
        case q2 => exact BW.out.size
        intro v' w2 hown2 hgr2
        have HO2 : Hid (w2.ownsRow w.heap.size 5 1 v' ((bigL 8 x).take 3).length (((bigL 8 x).take 3).map (Value.int .u8))) := by
          show World.ownsRow _ _ _ _ _ _ _
          rw [HS.out, List.length_append, List.map_append]
          exact hown2
        have HB2 : Hid (Below w.heap.size w w2) := BW.out.grown hgr2 BW.out.size (fun k e => (O2.out.lt k e).1)
        clear hown2 hgr2
        go_wp2
        exact ⟨⟨3, 4, by omega, by go_num, by omega, HO2.out, HB2.out⟩, by simp [intOf]⟩
      · obtain rfl : z = 4 := by omega
        have hdv : IntKind.u8.wrap ((x : Int) / 4294967296) = (y : Int) := by
          have h1 := HY.out
          rw [IntKind.wrap_u8]
          simp at h1
          omega
        skip
        clear hz
        go_wp2_with (first | rw [hdv] | rw [HW2.out] | (at_builtin; refine wpList_append_HB rfl _ _ rfl w.heap.size _ _ _ rfl O2.out _ _ rfl L2.out ?q1 ?q2 ?_) | fail)
        case q1 => exact hlen.out
        case q2 => exact BW.out.size
        intro v' w2 hown2 hgr2
        have HO2 : Hid (w2.ownsRow w.heap.size 5 1 v' ((bigL 8 x).take 4).length (((bigL 8 x).take 4).map (Value.int .u8))) := by
          show World.ownsRow _ _ _ _ _ _ _
          rw [HS.out, List.length_append, List.map_append]
          exact hown2
        have HB2 : Hid (Below w.heap.size w w2) := BW.out.grown hgr2 BW.out.size (fun k e => (O2.out.lt k e).1)
        clear hown2 hgr2
        go_wp2
        exact ⟨⟨4, 3, by omega, by go_num, by omega, HO2.out, HB2.out⟩, by simp [intOf]⟩
      · obtain rfl : z = 3 := by omega
        have hdv : IntKind.u8.wrap ((x : Int) / 16777216) = (y : Int) := by
          have h1 := HY.out
          rw [IntKind.wrap_u8]
          simp at h1
          omega
        skip
        clear hz
        go_wp2_with (first | rw [hdv] | rw [HW2.out] | (at_builtin; refine wpList_append_HB rfl _ _ rfl w.heap.size _ _ _ rfl O2.out _ _ rfl L2.out ?q1 ?q2 ?_) | fail)
        case q1 => exact hlen.out
        case q2 => exact BW.out.size
        intro v' w2 hown2 hgr2
        have HO2 : Hid (w2.ownsRow w.heap.size 5 1 v' ((bigL 8 x).take 5).length (((bigL 8 x).take 5).map (Value.int .u8))) := by
          show World.ownsRow _ _ _ _ _ _ _
          rw [HS.out, List.length_append, List.map_append]
          exact hown2
        have HB2 : Hid (Below w.heap.size w w2) := BW.out.grown hgr2 BW.out.size (fun k e => (O2.out.lt k e).1)
        clear hown2 hgr2
        go_wp2
        exact ⟨⟨5, 2, by omega, by go_num, by omega, HO2.out, HB2.out⟩, by simp [intOf]⟩
      · obtain rfl : z = 2 := by omega
        have hdv : IntKind.u8.wrap ((x : Int) / 65536) = (y : Int) := by
          have h1 := HY.out
          rw [IntKind.wrap_u8]
          simp at h1
          omega
        skip
        clear hz
        go_wp2_with (first | rw [hdv] | rw [HW2.out] | (at_builtin; refine wpList_append_HB rfl _ _ rfl w.heap.size _ _ _ rfl O2.out _ _ rfl L2.out ?q1 ?q2 ?_) | fail)
        case q1 => exact hlen.out
        case q2 => exact BW.out.size
        intro v' w2 hown2 hgr2
        have HO2 : Hid (w2.ownsRow w.heap.size 5 1 v' ((bigL 8 x).take 6).length (((bigL 8 x).take 6).map (Value.int .u8))) := by
          show World.ownsRow _ _ _ _ _ _ _
          rw [HS.out, List.length_append, List.map_append]
          exact hown2
        have HB2 : Hid (Below w.heap.size w w2) := BW.out.grown hgr2 BW.out.size (fun k e => (O2.out.lt k e).1)
        clear hown2 hgr2
        go_wp2
        exact ⟨⟨6, 1, by omega, by go_num, by omega, HO2.out, HB2.out⟩, by simp [intOf]⟩
      · obtain rfl : z = 1 := by omega
        have hdv : IntKind.u8.wrap ((x : Int) / 256) = (y : Int) := by
          have h1 := HY.out
          rw [IntKind.wrap_u8]
          simp at h1
          omega
        skip
        clear hz
        go_wp2_with (first | rw [hdv] | rw [HW2.out] | (at_builtin; refine wpList_append_HB rfl _ _ rfl w.heap.size _ _ _ rfl O2.out _ _ rfl L2.out ?q1 ?q2 ?_) | fail)
        case q1 => exact hlen.out
        case q2 => exact BW.out.size
        intro v' w2 hown2 hgr2
        have HO2 : Hid (w2.ownsRow w.heap.size 5 1 v' ((bigL 8 x).take 7).length (((bigL 8 x).take 7).map (Value.int .u8))) := by
          show World.ownsRow _ _ _ _ _ _ _
          rw [HS.out, List.length_append, List.map_append]
          exact hown2
        have HB2 : Hid (Below w.heap.size w w2) := BW.out.grown hgr2 BW.out.size (fun k e => (O2.out.lt k e).1)
        clear hown2 hgr2
        go_wp2
        exact ⟨⟨7, 0, by omega, by go_num, by omega, HO2.out, HB2.out⟩, by simp [intOf]⟩
      · obtain rfl : z = 0 := by omega
        have hdv : IntKind.u8.wrap ((x : Int) / 1) = (y : Int) := by
          have h1 := HY.out
          rw [IntKind.wrap_u8]
          simp at h1
          omega
        have hdv1 : IntKind.u8.wrap (x : Int) = (y : Int) := by simpa using hdv
        clear hz
        go_wp2_with (first | rw [hdv] | rw [HW2.out] | (at_builtin; refine wpList_append_HB rfl _ _ rfl w.heap.size _ _ _ rfl O2.out _ _ rfl L2.out ?q1 ?q2 ?_) | fail)
        case q1 => exact hlen.out
        case q2 => exact BW.out.size
        intro v' w2 hown2 hgr2
        have HO2 : Hid (w2.ownsRow w.heap.size 5 1 v' ((bigL 8 x).take 8).length (((bigL 8 x).take 8).map (Value.int .u8))) := by
          show World.ownsRow _ _ _ _ _ _ _
          rw [HS.out, List.length_append, List.map_append]
          exact hown2
        have HB2 : Hid (Below w.heap.size w w2) := BW.out.grown hgr2 BW.out.size (fun k e => (O2.out.lt k e).1)
        clear hown2 hgr2
        go_wp2
        exact ⟨⟨8, -1, by omega, by go_num, by omega, HO2.out, HB2.out⟩, by simp [intOf]⟩
    · obtain rfl : k = 8 := by omega
      obtain rfl : z = -1 := by omega
      have HK : Hid ((bigL 8 x).take 8 = bigL 8 x) := hid (List.take_of_length_le (by rw [bigL_length]; omega))
      rw [HK.out, bigL_length] at hown
      go_wp2
      go_ret
      exact ⟨_, rfl, hown, hB⟩
def kfB (r : Rq) (k : Int) (m : Nat) : Bool :=
  if k = 7 then true else if k = 1 then decide (r.k = 1 ∨ r.k = 4 ∨ r.k = 5) else if k = 5 then decide (r.k = 3) && decide ((m : Int) = r.ln) else if k = 6 then decide (r.k = 3) else decide (r.k = 2)
def fitB (r : Rq) (n : Nat) (k : Int) (ns : List Int) (m : Nat) : Bool := mayB r n && (mayP k ns m && kfB r k m)
set_option maxRecDepth 100000 in
set_option maxHeartbeats 16000000 in
theorem fits_any (w : World) (r : Rq) (hr : r.ok) (p : Option Addr) (n c : Nat) (k : Int) (vn : Value) (ns : List Int) (hn : I.HB w vn ns) (p' : Option Addr) (m c' : Nat) :
    Calls Try.prog 28 #[.agg (rqA r (.slice p n c)), .agg (rpA k vn (.slice p' m c'))] w fun e w' => e = .returned (.bool (fitB r n k ns m)) ∧ Below w.heap.size w w' := by
  obtain ⟨m1, HM1⟩ : ∃ m, Hid (rqA r (.slice p n c) = m) := ⟨_, hid rfl⟩
  obtain ⟨m2, HM2⟩ : ∃ x, Hid (rpA k vn (.slice p' m c') = x) := ⟨_, hid rfl⟩
  obtain ⟨l1, HL1, HA1⟩ : ∃ ml : List Value, Hid (m1.toList = ml) ∧ Hid (ml.toArray = m1) := ⟨m1.toList, hid rfl, hid (by simp)⟩
  obtain ⟨l2, HL2, HA2⟩ : ∃ ml : List Value, Hid (m2.toList = ml) ∧ Hid (ml.toArray = m2) := ⟨m2.toList, hid rfl, hid (by simp)⟩
  obtain ⟨W1, HW1⟩ : ∃ W : World, Hid (w.alloc (.cells m1 38) = W) := ⟨_, hid rfl⟩
  obtain ⟨W2, HW2⟩ : ∃ W : World, Hid (W1.alloc (.cells m2 42) = W) := ⟨_, hid rfl⟩
  have Z1 : W1.heap.size = w.heap.size + 1 := by rw [← HW1.out]; simp
  have Z2 : Hid (W2.heap.size = w.heap.size + 2) := hid (by rw [← HW2.out]; simp [Z1])
  have B1 : Hid (Below w.heap.size w W1) := by rw [← HW1.out]; exact hid ((Below.refl _ w).alloc (Nat.le_refl _) _)
  have B2 : Hid (Below W1.heap.size W1 W2) := by rw [← HW2.out]; exact hid ((Below.refl _ W1).alloc (Nat.le_refl _) _)
  have BB : Hid (Below w.heap.size w W2) := hid (B1.out.trans (B2.out.mono B1.out.size))
  have X1 : Hid (∀ W, Below W2.heap.size W2 W → W.heap[w.heap.size]? = some (.cells m1 38 (0, 0))) := hid (fun W hW => (hW.block _ (by have := Z2.out; omega)).trans ((B2.out.block _ (by omega)).trans (by rw [← HW1.out]; exact heap_alloc_new w _)))
  have X2 : Hid (∀ W, Below W2.heap.size W2 W → W.heap[w.heap.size + 1]? = some (.cells m2 42 (0, 0))) := hid (fun W hW => (hW.block _ (by have := Z2.out; omega)).trans (by rw [← Z1, ← HW2.out]; exact heap_alloc_new W1 _))
  have RA : Hid (∀ W, Below W2.heap.size W2 W → W.rangeAt w.heap.size 0 l1) := hid (fun W hW j u hj => by
    rw [cell_of_row _ _ _ _ _ _ (X1.out W hW), Nat.zero_add, ← Array.getElem?_toList, HL1.out]; exact hj)
  have RB : Hid (∀ W, Below W2.heap.size W2 W → W.rangeAt (w.heap.size + 1) 0 l2) := hid (fun W hW j u hj => by
    rw [cell_of_row _ _ _ _ _ _ (X2.out W hW), Nat.zero_add, ← Array.getElem?_toList, HL2.out]; exact hj)
  have KX : Hid (∀ W, Below W2.heap.size W2 W → W.cell? ⟨w.heap.size, 0, none⟩ = some (.int .u8 r.k) ∧ W.cell? ⟨w.heap.size, 19, none⟩ = some (.int .i64 r.ln) ∧ W.cell? ⟨w.heap.size + 1, 0, none⟩ = some (.int .u8 k) ∧ W.cell? ⟨w.heap.size + 1, 2, none⟩ = some (.slice p' m c')) := hid (fun W hW => by
    refine ⟨?_, ?_, ?_, ?_⟩
    · rw [cell_of_row _ _ _ _ _ _ (X1.out W hW), ← HM1.out]; rfl
    · rw [cell_of_row _ _ _ _ _ _ (X1.out W hW), ← HM1.out]; exact rqA_19 hr _
    · rw [cell_of_row _ _ _ _ _ _ (X2.out W hW), ← HM2.out]; rfl
    · rw [cell_of_row _ _ _ _ _ _ (X2.out W hW), ← HM2.out]; rfl)
  have SA : Hid ((Try.prog.info? 38).map (·.size) = some l1.length) := hid (by rw [← HL1.out, show m1.toList.length = 23 by rw [← HM1.out]; exact rqA_size hr _]; kernel_rfl)
  have SB' : Hid ((Try.prog.info? 42).map (·.size) = some l2.length) := hid (by rw [← HL2.out, show m2.toList.length = 3 by rw [← HM2.out]; rfl]; kernel_rfl)
  have C1 := hid (mayReq_any W2 r hr p n c)
  have C2 : Hid (∀ W, Below W2.heap.size W2 W → Calls Try.prog 43 #[.agg m2] W fun e w' => e = .returned (.bool (mayP k ns m)) ∧ Below W.heap.size W w') := hid (fun W hW => by
    have := mayRep_any W k vn ns (hn.below (BB.out.trans (hW.mono BB.out.size))) p' m c'
    rw [← HM2.out]
    exact this)
  rw [HM1.out] at C1
  have RA2 := hid (RA.out W2 (Below.refl _ _))
  have FB : Hid (fitB r n k ns m = (mayB r n && (mayP k ns m && kfB r k m))) := hid rfl
  obtain ⟨F, HF⟩ : ∃ x, Hid (fitB r n k ns m = x) := ⟨_, hid rfl⟩
  rw [HF.out] at FB ⊢
  obtain ⟨ma, HMA⟩ : ∃ x, Hid (mayB r n = x) := ⟨_, hid rfl⟩
  obtain ⟨mb, HMB⟩ : ∃ x, Hid (mayP k ns m = x) := ⟨_, hid rfl⟩
  have FK : Hid (kfB r k m = if k = 7 then true else if k = 1 then decide (r.k = 1 ∨ r.k = 4 ∨ r.k = 5) else if k = 5 then decide (r.k = 3) && decide ((m : Int) = r.ln) else if k = 6 then decide (r.k = 3) else decide (r.k = 2)) := hid rfl
  rw [HMA.out] at C1 FB
  rw [HMB.out] at C2 FB
  rw [HM1.out, HM2.out]
  clear HF HMA HMB hn
  go_enter Try.func28, Try.ntmps28
  refine wp_seq_k fun K0 h0 => ?_
  have H0 := hid h0
  clear h0
  go_wp2
  rw [HW1.out, HW2.out]
  refine H0.out _ _ ?_
  clear H0 K0
  go_wp2_with (first | (refine wpList_load_mid rfl 38 _ rfl w.heap.size 0 rfl l1 _ RA2.out Try.underlying38 rfl SA.out ?_; rw [HA1.out]) | fail)
  refine C1.out.mono ?_
  rintro e w3 ⟨rfl, hb3⟩
  have B3 := hid hb3
  have RB3 := hid (RB.out w3 hb3)
  have C3 := hid (C2.out w3 hb3)
  clear hb3 C1 C2
  cases ma with
  | false =>
    go_wp2_with fail
    go_ret
    exact ⟨by rw [FB.out]; rfl, BB.out.trans (B3.out.mono BB.out.size)⟩
  | true =>
    go_wp2_with (first | (refine wpList_load_midW (by rfl) 42 _ rfl (w.heap.size + 1) 0 rfl l2 _ RB3.out Try.underlying42 rfl SB'.out ?_; rw [HA2.out]) | fail)
    refine C3.out.mono ?_
    rintro e w4 ⟨rfl, hb4⟩
    have B4 : Hid (Below W2.heap.size W2 w4) := hid (B3.out.trans (hb4.mono B3.out.size))
    have BF : Hid (Below w.heap.size w w4) := hid (BB.out.trans (B4.out.mono BB.out.size))
    obtain ⟨k0, k19, j0, j2⟩ := KX.out w4 B4.out
    clear hb4 C3
    cases mb with
    | false =>
      go_wp2_with fail
      go_ret
      exact ⟨by rw [FB.out]; rfl, BF.out⟩
    | true =>
      rw [FK.out] at FB
      simp only [Bool.true_and] at FB
      go_wp2_with fail
      all_goals go_ret
      all_goals (refine ⟨?_, BF.out⟩; rw [FB.out]; clear FB FK KX RA RB X1 X2 RA2 RB3 SA SB' B1 B2 BB B3 B4 BF HW1 HW2 Z1 Z2 HM1 HM2 HL1 HL2 HA1 HA2 k0 k19 j0 j2; simp_all [or_assoc]; try (first | rfl | (rw [show (r.k == 1) = false from beq_eq_false_iff_ne.2 (by assumption), show (r.k == 4) = false from beq_eq_false_iff_ne.2 (by assumption)]; rfl)))
end Go.Proofs.Ytgjadpidoaianaa
