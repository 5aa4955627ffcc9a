/- The law OctetNone, walked: it answers true, whatever the script, and turns nothing that was there. -/
import Derived.Test.YtiodfpaifkcmoaaNoneReads
import Derived.Test.YtiodfpaifkcmoaaReaderMore
namespace Go.Proofs.Ytiodfpaifkcmoaa
open Go.RowKit

/-- v is a slice of calls of a script, in the world w. -/
def HT (w : World) (v : Value) (ts : List (Int × Int × Int)) : Prop :=
  ∃ (p : Option Addr) (c : Nat), v = .slice p ts.length c ∧ ts.length ≤ c ∧ c ≤ maxLen ∧
    (ts ≠ [] → ∃ b off, p = some ⟨b, off, none⟩ ∧ ∀ j, j < ts.length → w.cell? ⟨b, off + j * 3, none⟩ = some (.int .i64 (ts.getD j (0, 0, 0)).1) ∧ w.cell? ⟨b, off + j * 3 + 1, none⟩ = some (.int .i64 (ts.getD j (0, 0, 0)).2.1) ∧ w.cell? ⟨b, off + j * 3 + 2, none⟩ = some (.int .i64 (ts.getD j (0, 0, 0)).2.2))

theorem HB.litN (w : World) (l : List Int) (hx : ∀ x ∈ l, 0 ≤ x ∧ x < 256) (hl : l.length ≤ maxLen) : HB (w.alloc (.cells (l.map (Value.int .u8)).toArray 5)) (.slice (some ⟨w.heap.size, 0, none⟩) l.length l.length) l := by
  refine HB.of_own (B := w.heap.size) (e := 5) ?_ hx
  have := World.ownsRow_lit (base := w.heap.size) (e := 5) (size := 1) w (l.map (Value.int .u8)).toArray l.length (Nat.le_refl _) hl (by simp)
  simpa using this

set_option maxHeartbeats 2000000 in
theorem none_walk (w : World) (v : Value) (ts : List (Int × Int × Int)) (h : HT w v ts) :
    Calls Try.prog 8 #[v] w fun e w' => e = .returned (.bool true) ∧ Below w.heap.size w w' := by
  have hneq := fun w => run_neq_bytes w 32 84 Try.underlying84 zeros32 zeros32 zeros32_length zeros32_length
  simp only [decide_true, Bool.not_true] at hneq
  obtain ⟨p, c, rfl, hlc, hm, hcl⟩ := h
  unfold maxLen at hm
  have HC : Hid (0 < ts.length → _) := fun h0 => hcl (by intro e; subst e; simp at h0)
  clear hcl
  go_enter Try.func8, Try.ntmps8
  go_wp2_with fail
  refine (newReader_any _ _ [1] (HB.litN w [1] (by decide) (by decide)) (by decide)).mono ?_
  rintro e w1 ⟨g, rfl, hr, hg, hB⟩
  have R1 := hid hr
  have B1 := hid (((Below.refl _ w).alloc (Nat.le_refl _) (.cells (([1] : List Int).map (Value.int .u8)).toArray 5)).trans (hB.mono (by simp)))
  clear hr hB hg
  go_wp2_with fail
  refine (left_any w1 g _ _ [1] R1.out).mono ?_
  rintro e w1' ⟨rfl, hw⟩
  have hw' := hw.symm
  subst hw'
  clear hw
  rw [show (([1] : List Int).length : Int) = 1 from rfl]
  go_wp2_with fail
  refine (end_any w1 g _ _ [1] R1.out).mono ?_
  rintro e w1' ⟨rfl, hw⟩
  have hw' := hw.symm
  subst hw'
  clear hw
  rw [show endNo true false [1] = 11 from rfl]
  clear R1
  obtain ⟨W0, hW0⟩ : ∃ W0, (w1.alloc (.cells #[.bool false, .bool false, .slice none 0 0] 77)).alloc (.cells #[.pointer none, .pointer (some ⟨w1.heap.size, 0, none⟩)] 62) = W0 := ⟨_, rfl⟩
  have BW : Hid (Below w.heap.size w W0) := by rw [← hW0]; exact hid ((B1.out.alloc B1.out.size _).alloc (Nat.le_trans B1.out.size (by simp)) _)
  have HR : Hid (∀ k : Nat, k < 2 → ∃ r, W0.cell? ⟨w1.heap.size + 1, k, none⟩ = some (.pointer r) ∧ NM W0 (.pointer r)) := by
    intro k hk
    rw [← hW0]
    match k, hk with
    | 0, _ => exact ⟨none, by simp, .inl rfl⟩
    | 1, _ => exact ⟨some ⟨w1.heap.size, 0, none⟩, by simp, .inr ⟨_, rfl, heap_alloc2_old _ _ _⟩⟩
  have hsz : w1.heap.size + 1 < W0.heap.size := by rw [← hW0]; simp
  go_wp2
  clear hW0 B1
  go_loopw [6] (fun i wr => ∃ k : Nat, k ≤ 2 ∧ i = .int .i64 k ∧ Hid (Below W0.heap.size W0 wr)) (fun i _ => 2 - (intOf i).toNat)
  case atStart => exact ⟨0, by omega, rfl, Below.refl _ _⟩
  case round =>
    obtain ⟨k, hk, rfl, HB1⟩ := hrel
    by_cases hlt : k < 2
    · obtain ⟨r, hc, hn⟩ := HR.out k hlt
      have hcell : wr.cell? ⟨w1.heap.size + 1, k, none⟩ = some (.pointer r) := (HB1.out.cell (p := ⟨w1.heap.size + 1, k, none⟩) (by exact hsz)).trans hc
      have HN := hid hn
      have hlt2 : (k : Int) < 2 := by omega
      clear hc hn
      go_wp2
      go_loopw [8] (fun i wq => ∃ j : Nat, j ≤ ts.length ∧ i = .int .i64 j ∧ Hid (Below W0.heap.size W0 wq)) (fun i _ => ts.length - (intOf i).toNat)
      case atStart => exact ⟨0, by omega, rfl, HB1⟩
      case round =>
        clear hcell HB1
        obtain ⟨j, hj, rfl, HB2⟩ := hrel
        have N0 := hid (HN.out.below HB2.out)
        by_cases hlj : j < ts.length
        · obtain ⟨b, off, rfl, hh⟩ := HC.out (by omega)
          obtain ⟨_, _, hcn0⟩ := hh j hlj
          obtain ⟨n, HNn⟩ : ∃ n, Hid ((ts.getD j (0, 0, 0)).2.2 = n) := ⟨_, rfl⟩
          rw [HNn.out] at hcn0
          have hlt0 := World.block_lt_of_cell? w _ hcn0
          have hcn : wr.cell? ⟨b, off + j * 3 + 2, none⟩ = some (.int .i64 n) := ((HB2.out.cell (p := ⟨b, off + j * 3 + 2, none⟩) (Nat.lt_of_lt_of_le hlt0 BW.out.size)).trans (BW.out.cell hlt0)).trans hcn0
          clear hh hcn0 hlt0
          go_wp2_with fail
          refine (byte_none wr _ N0.out).mono ?_
          rintro e wz ⟨rfl, hw⟩
          have hw' := hw.symm
          subst hw'
          clear hw
          go_wp2_with fail
          refine (word_none wr _ N0.out).mono ?_
          rintro e wz ⟨rfl, hw⟩
          have hw' := hw.symm
          subst hw'
          clear hw
          go_wp2_with fail
          refine (long_none wr _ N0.out).mono ?_
          rintro e wz ⟨rfl, hw⟩
          have hw' := hw.symm
          subst hw'
          clear hw
          go_wp2_with fail
          refine (digest_none wr _ N0.out).mono ?_
          rintro e w5 ⟨rfl, hB5⟩
          have N5 := hid (N0.out.below hB5)
          have B5 := hid (HB2.out.trans (hB5.mono HB2.out.size))
          clear hB5 hcn
          go_wp2_with (refine wpList_build_digest_on rfl rfl ?_)
          refine (bytes_none w5 _ n N5.out).mono ?_
          rintro e w6 ⟨p6, c6, rfl, hB6⟩
          have N6 := hid (N5.out.below hB6)
          have B6 := hid (B5.out.trans (hB6.mono B5.out.size))
          clear hB6 N5 B5
          go_wp2_with fail
          refine (left_none w6 _ N6.out).mono ?_
          rintro e wz ⟨rfl, hw⟩
          have hw' := hw.symm
          subst hw'
          clear hw
          go_wp2
          exact ⟨⟨j + 1, by omega, by go_num, B6⟩, by simp [intOf]; omega⟩
        · go_wp2_with fail
          refine (end_none wr _ N0.out).mono ?_
          rintro e wz ⟨rfl, hw⟩
          have hw' := hw.symm
          subst hw'
          clear hw
          go_wp2_with fail
          refine (left_none wr _ N0.out).mono ?_
          rintro e wz ⟨rfl, hw⟩
          have hw' := hw.symm
          subst hw'
          clear hw
          go_wp2
          exact ⟨⟨k + 1, by omega, by go_num, HB2⟩, by simp [intOf]; omega⟩
    · go_wp2
      go_ret
      exact ⟨rfl, BW.out.trans (HB1.out.mono BW.out.size)⟩
end Go.Proofs.Ytiodfpaifkcmoaa
