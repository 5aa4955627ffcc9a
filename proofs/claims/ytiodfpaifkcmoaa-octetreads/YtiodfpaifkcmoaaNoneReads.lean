/- octet's Reader at nil and at a reader that nobody made, walked: it hands out nothing, and nothing turns. -/
import Derived.Test.YtiodfpaifkcmoaaReads
import Derived.Test.YtiodfpaifkcmoaaArrays
namespace Go.Proofs.Ytiodfpaifkcmoaa
open Go.RowKit

/-- v is a reader that is nil, or that nobody made. -/
def NM (w : World) (v : Value) : Prop :=
  v = .pointer none ∨ ∃ g, v = .pointer (some ⟨g, 0, none⟩) ∧ w.heap[g]? = some (.cells #[.bool false, .bool false, .slice none 0 0] 77 (0, 0))

theorem NM.below {w w' : World} {v : Value} (h : NM w v) (hb : Below w.heap.size w w') : NM w' v := by
  rcases h with h | ⟨g, e, hg⟩
  · exact .inl h
  · exact .inr ⟨g, e, by rw [hb.block g (Array.getElem?_eq_some_iff.1 hg).1]; exact hg⟩

set_option maxHeartbeats 400000 in
theorem take_none (w : World) (v : Value) (n : Int) (h : NM w v) : Calls Try.prog 67 #[v, .int .i64 n] w fun e w' => e = .returned (.slice none 0 0) ∧ w' = w := by
  rcases h with rfl | ⟨g, rfl, hblk⟩
  · go_enter Try.func67, Try.ntmps67
    go_wp2
    go_ret
    exact ⟨rfl, rfl⟩
  · obtain ⟨c0, c1, c2, f1, f2⟩ := three hblk
    clear hblk
    go_enter Try.func67, Try.ntmps67
    go_wp2
    go_ret
    exact ⟨rfl, rfl⟩

set_option maxHeartbeats 400000 in
theorem byte_none (w : World) (v : Value) (h : NM w v) : Calls Try.prog 48 #[v] w fun e w' => e = .returned (.int .u8 0) ∧ w' = w := by
  have H := hid h
  have hv : ∃ p, v = .pointer p := by rcases h with rfl | ⟨g, rfl, _⟩ <;> exact ⟨_, rfl⟩
  obtain ⟨p, rfl⟩ := hv
  clear h
  have hn : Calls Try.prog 68 #[.pointer p] w fun e w' => e = .returned (.int .u8 0) ∧ w' = w := by
    go_enter Try.func68, Try.ntmps68
    go_wp2_with fail
    refine (width_uint8 _).mono ?_
    rintro e w' ⟨rfl, hw⟩
    have hw' := hw.symm
    subst hw'
    clear hw
    go_wp2_with fail
    refine (take_none w _ 1 H.out).mono ?_
    rintro e w' ⟨rfl, hw⟩
    have hw' := hw.symm
    subst hw'
    clear hw
    go_wp2_with fail
    refine (small_uint8 w _ [] (HB.nil _)).mono ?_
    rintro e w' ⟨rfl, hw⟩
    have hw' := hw.symm
    subst hw'
    clear hw
    go_wp2
    go_ret
    exact ⟨rfl, rfl⟩
  have HN := hid hn
  clear hn
  go_enter Try.func48, Try.ntmps48
  go_wp2_with fail
  refine HN.out.mono ?_
  rintro e w' ⟨rfl, hw⟩
  have hw' := hw.symm
  subst hw'
  clear hw
  go_wp2
  go_ret
  exact ⟨rfl, rfl⟩

set_option maxHeartbeats 400000 in
theorem word_none (w : World) (v : Value) (h : NM w v) : Calls Try.prog 49 #[v] w fun e w' => e = .returned (.int .u32 0) ∧ w' = w := by
  have H := hid h
  have hv : ∃ p, v = .pointer p := by rcases h with rfl | ⟨g, rfl, _⟩ <;> exact ⟨_, rfl⟩
  obtain ⟨p, rfl⟩ := hv
  clear h
  have hn : Calls Try.prog 69 #[.pointer p] w fun e w' => e = .returned (.int .u32 0) ∧ w' = w := by
    go_enter Try.func69, Try.ntmps69
    go_wp2_with fail
    refine (width_uint32 _).mono ?_
    rintro e w' ⟨rfl, hw⟩
    have hw' := hw.symm
    subst hw'
    clear hw
    go_wp2_with fail
    refine (take_none w _ 4 H.out).mono ?_
    rintro e w' ⟨rfl, hw⟩
    have hw' := hw.symm
    subst hw'
    clear hw
    go_wp2_with fail
    refine (small_uint32 w _ [] (HB.nil _)).mono ?_
    rintro e w' ⟨rfl, hw⟩
    have hw' := hw.symm
    subst hw'
    clear hw
    go_wp2
    go_ret
    exact ⟨rfl, rfl⟩
  have HN := hid hn
  clear hn
  go_enter Try.func49, Try.ntmps49
  go_wp2_with fail
  refine HN.out.mono ?_
  rintro e w' ⟨rfl, hw⟩
  have hw' := hw.symm
  subst hw'
  clear hw
  go_wp2
  go_ret
  exact ⟨rfl, rfl⟩

set_option maxHeartbeats 400000 in
theorem long_none (w : World) (v : Value) (h : NM w v) : Calls Try.prog 50 #[v] w fun e w' => e = .returned (.int .u64 0) ∧ w' = w := by
  have H := hid h
  have hv : ∃ p, v = .pointer p := by rcases h with rfl | ⟨g, rfl, _⟩ <;> exact ⟨_, rfl⟩
  obtain ⟨p, rfl⟩ := hv
  clear h
  have hn : Calls Try.prog 70 #[.pointer p] w fun e w' => e = .returned (.int .u64 0) ∧ w' = w := by
    go_enter Try.func70, Try.ntmps70
    go_wp2_with fail
    refine (width_uint64 _).mono ?_
    rintro e w' ⟨rfl, hw⟩
    have hw' := hw.symm
    subst hw'
    clear hw
    go_wp2_with fail
    refine (take_none w _ 8 H.out).mono ?_
    rintro e w' ⟨rfl, hw⟩
    have hw' := hw.symm
    subst hw'
    clear hw
    go_wp2_with fail
    refine (small_uint64 w _ [] (HB.nil _)).mono ?_
    rintro e w' ⟨rfl, hw⟩
    have hw' := hw.symm
    subst hw'
    clear hw
    go_wp2
    go_ret
    exact ⟨rfl, rfl⟩
  have HN := hid hn
  clear hn
  go_enter Try.func50, Try.ntmps50
  go_wp2_with fail
  refine HN.out.mono ?_
  rintro e w' ⟨rfl, hw⟩
  have hw' := hw.symm
  subst hw'
  clear hw
  go_wp2
  go_ret
  exact ⟨rfl, rfl⟩

set_option maxHeartbeats 400000 in
theorem bytes_none (w : World) (v : Value) (n : Int) (h : NM w v) : Calls Try.prog 44 #[v, .int .i64 n] w fun e w' => ∃ p c, e = .returned (.slice p 0 c) ∧ Below w.heap.size w w' := by
  have H := hid h
  have hv : ∃ p, v = .pointer p := by rcases h with rfl | ⟨g, rfl, _⟩ <;> exact ⟨_, rfl⟩
  obtain ⟨p, rfl⟩ := hv
  clear h
  go_enter Try.func44, Try.ntmps44
  go_wp2_with fail
  refine (take_none w _ n H.out).mono ?_
  rintro e w' ⟨rfl, hw⟩
  have hw' := hw.symm
  subst hw'
  clear hw
  go_wp2_with fail
  refine (clone_any w _ [] (HB.nil _) (by decide)).mono ?_
  rintro e w2 ⟨v2, rfl, hown, hB⟩
  obtain ⟨p2, c2, e2, _, _⟩ := (HB.of_own (l := []) hown (by simp)).open
  clear hown
  subst e2
  go_wp2
  go_ret
  exact ⟨_, _, rfl, hB⟩

set_option maxHeartbeats 400000 in
theorem left_none (w : World) (v : Value) (h : NM w v) : Calls Try.prog 42 #[v] w fun e w' => e = .returned (.int .i64 0) ∧ w' = w := by
  rcases h with rfl | ⟨g, rfl, hblk⟩
  · go_enter Try.func42, Try.ntmps42
    go_wp2
    go_ret
    exact ⟨rfl, rfl⟩
  · obtain ⟨c0, c1, c2, f1, f2⟩ := three hblk
    clear hblk
    go_enter Try.func42, Try.ntmps42
    go_wp2
    go_ret
    exact ⟨rfl, rfl⟩

set_option maxHeartbeats 400000 in
theorem end_none (w : World) (v : Value) (h : NM w v) : Calls Try.prog 46 #[v] w fun e w' => e = .returned (.int .i64 1) ∧ w' = w := by
  rcases h with rfl | ⟨g, rfl, hblk⟩
  · go_enter Try.func46, Try.ntmps46
    go_wp2
    go_ret
    exact ⟨rfl, rfl⟩
  · obtain ⟨c0, c1, c2, f1, f2⟩ := three hblk
    clear hblk
    go_enter Try.func46, Try.ntmps46
    go_wp2
    go_ret
    exact ⟨rfl, rfl⟩

set_option maxHeartbeats 400000 in
theorem digest_none (w : World) (v : Value) (h : NM w v) : Calls Try.prog 51 #[v] w fun e w' => e = .returned (.agg (cellsB zeros32)) ∧ Below w.heap.size w w' := by
  have H := hid h
  have hv : ∃ p, v = .pointer p := by rcases h with rfl | ⟨g, rfl, _⟩ <;> exact ⟨_, rfl⟩
  obtain ⟨p, rfl⟩ := hv
  clear h
  go_enter Try.func51, Try.ntmps51
  go_wp2_with (refine wpList_alloc_digest rfl rfl ?_)
  refine (take_none _ _ 32 (H.out.below ((Below.refl _ _).alloc (Nat.le_refl _) _))).mono ?_
  rintro e w1 ⟨rfl, hw⟩
  subst hw
  obtain ⟨z, HZ⟩ : ∃ z, Hid (z = cellsB zeros32) := ⟨_, rfl⟩
  have hs : z.size = 32 := by rw [HZ.out, cellsB_size, zeros32_length]
  have HI : Hid ((Try.prog.info? 84).map (·.size) = some z.size) := by rw [hs]; exact size_digest
  have H1 : Hid (z.all (·.oneCell') = true) := by rw [HZ.out]; exact cellsB_one _
  rw [← HZ.out]
  clear hs
  go_wp2_with (first | (refine wpList_build_digest rfl rfl ?_; rw [← HZ.out]) | (refine wpList_store_row rfl 84 _ _ rfl w.heap.size z rfl rfl 84 z (heap_alloc_new w _) HI.out rfl H1.out ?_))
  refine bodyPost_ret (v := .agg z) (results_cell_row (p := 2) (ty := 84) rfl _ _ w.heap.size 84 z (0, 0) _ rfl (setRow_heap _ _ _ _ _ _ (heap_alloc_new w _)) Try.underlying84 rfl HI.out) rfl ⟨by rw [HZ.out], ?_⟩
  exact below_setRow ((Below.refl _ _).alloc (Nat.le_refl _) _) (Nat.le_refl _) _
end Go.Proofs.Ytiodfpaifkcmoaa
