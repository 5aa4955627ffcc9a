/- cut.pieces and the function that it answers, walked. -/
import Derived.Test.YtdmdcnikhnoclabRange
import Derived.Test.YtdmdcnikhnoclabCutSeg
import Derived.Test.YtdmdcnikhnoclabOwns
set_option linter.unusedVariables false
set_option linter.unusedSimpArgs false
namespace Go.Proofs.Ytdmdcnikhnoclab
open Go Go.RowKit Go.Shelf
attribute [local go_sem] Oper.semAt_some

/-- How many pieces; the place of the k-th; the k-th. -/
def pcN (len size : Nat) : Nat := (len - 1) / size + 1
def pcAt (size k : Nat) : Nat := k * size
def pcP (l : List Int) (size k : Nat) : List Int := (l.take (pcAt size k + min size (l.length - pcAt size k))).drop (pcAt size k)
theorem pcN_iff {len size k : Nat} (hs : 1 ≤ size) (hl : 1 ≤ len) : k < pcN len size ↔ pcAt size k < len := by
  unfold pcN pcAt
  rw [Nat.lt_succ_iff, Nat.le_div_iff_mul_le (by omega)]
  omega
theorem pcN_up {len size : Nat} (hl : 1 ≤ len) : upI (len : Int) (size : Int) = (pcN len size : Int) := by
  unfold upI pcN
  rw [show (len : Int) - 1 = ((len - 1 : Nat) : Int) by omega]
  simp
theorem pcP_length (l : List Int) (size k : Nat) : (pcP l size k).length = min size (l.length - pcAt size k) := by
  unfold pcP
  simp
  omega
/-- The box, the size's box and the row of pieces that were made. -/
structure PcBox (w : World) (hv : Value) (b5 b3 : Nat) (l : List Int) (size : Nat) : Prop where
  row : HB w hv l
  held : w.cell? ⟨b5, 0, none⟩ = some hv
  sz : w.cell? ⟨b3, 0, none⟩ = some (.int .i64 size)
def pcD (hv : Value) (b5 b3 : Nat) (i : Nat) : Prop := i = b5 ∨ i = b3 ∨ hv.ownBlock = some i
theorem cell_of_blk {A C : World} {a : Addr} (h : C.heap[a.block]? = A.heap[a.block]?) : C.cell? a = A.cell? a := by simp [World.cell?, h]
theorem PcBox.kept {A C : World} {hv : Value} {b5 b3 size : Nat} {l : List Int} (h : PcBox A hv b5 b3 l size) (k : KD (pcD hv b5 b3) A C) : PcBox C hv b5 b3 l size := by
  refine ⟨?_, (cell_of_blk (k.2 b5 (.inl rfl))).trans h.held, (cell_of_blk (k.2 b3 (.inr (.inl rfl)))).trans h.sz⟩
  obtain ⟨⟨p, c, rfl, h2, h3, h6, h4⟩, h5⟩ := h.row
  refine ⟨⟨p, c, rfl, h2, h3, h6, fun hl => ?_⟩, h5⟩
  obtain ⟨b, off, rfl, hh⟩ := h4 hl
  exact ⟨b, off, rfl, fun j hj => (cell_of_blk (a := ⟨b, off + j, none⟩) (k.2 b (.inr (.inr rfl)))).trans (hh j hj)⟩
set_option maxRecDepth 100000 in
set_option maxHeartbeats 1000000 in
theorem pieces_any (w : World) (v : Value) (l : List Int) (size : Nat) (h : HB w v l) :
    Calls Try.prog 39 #[v, .int .i64 size] w fun e w' => ∃ b5 b3, e = .returned (.func (.func 42) #[] #[.pointer (some ⟨b5, 0, none⟩), .pointer (some ⟨b3, 0, none⟩)]) ∧ PcBox w' v b5 b3 l size ∧ b5 = w.heap.size ∧ b3 = w.heap.size + 1 ∧ w'.heap.size = w.heap.size + 2 ∧ w'.heap[b5]? = some (.cells #[v] 26 (0, 0)) ∧ w'.heap[b3]? = some (.cells #[.int .i64 size] 3 (0, 0)) ∧ Below w.heap.size w w' := by
  have H := hid h
  obtain ⟨p, c, rfl, _, _⟩ := h.open
  clear h
  go_enter Try.func39, Try.ntmps39
  go_wp2
  go_ret
  obtain ⟨W1, HW1⟩ : ∃ W1, Hid (w.alloc (.cells #[.slice p l.length c] 26) = W1) := ⟨_, rfl⟩
  have hs1 : W1.heap.size = w.heap.size + 1 := by rw [← HW1.out]; simp
  have B1 : Below w.heap.size w W1 := by rw [← HW1.out]; exact below_alloc _ _
  have hb1 : W1.heap[w.heap.size]? = some (.cells #[.slice p l.length c] 26 (0, 0)) := by rw [← HW1.out]; exact heap_alloc_new w _
  have B2 : Below W1.heap.size W1 (W1.alloc (.cells #[.int .i64 size] 3)) := below_alloc _ _
  refine ⟨w.heap.size, w.heap.size + 1, rfl, ⟨?_, ?_, ?_⟩, rfl, rfl, ?_, ?_, ?_, ?_⟩
  · rw [HW1.out]; exact (H.out.below B1).below B2
  · rw [HW1.out, cell_of_row _ _ _ _ _ _ ((B2.block w.heap.size (by omega)).trans hb1)]; rfl
  · rw [HW1.out, ← hs1, cell_of_row _ _ _ _ _ _ (heap_alloc_new W1 _)]; rfl
  · rw [HW1.out]; simp [hs1]
  · rw [HW1.out]; exact (B2.block w.heap.size (by omega)).trans hb1
  · rw [HW1.out, ← hs1]; exact heap_alloc_new W1 _
  · rw [HW1.out]; exact B1.trans (B2.mono (by omega))
set_option maxRecDepth 100000 in
set_option maxHeartbeats 4000000 in
theorem pieces_iter (n : Nat) (w0 : World) (hv : Value) (b5 b3 : Nat) (l : List Int) (size : Nat) (hs : 1 ≤ size) (hs2 : size ≤ 1073741824) (hl1 : 1 ≤ l.length) (hbig : l.length ≤ 1073741824) (hbox : PcBox w0 hv b5 b3 l size) (hD : ∀ i, pcD hv b5 b3 i → i < w0.heap.size) :
    IterF Fence.wide n Try.prog 42 #[.pointer (some ⟨b5, 0, none⟩), .pointer (some ⟨b3, 0, none⟩)] (fun k v => #[.int .i64 (k : Nat), v])
      (fun k v W => W.ownsRow w0.heap.size 5 1 v (pcP l size k).length ((pcP l size k).map (Value.int .u8))) (pcD hv b5 b3) (pcN l.length size) w0 := fun l' J Jx W hK hJ hY h0 => by
  have HBx := hid (hbox.kept hK)
  have HK := hid hK
  have HJ := hid hJ
  have HY := hid hY
  have H0 := hid h0
  have HD := hid hD
  clear hbox hK hJ hY h0 hD
  refine callsIn_of_wp Try.func42 rfl trivial ?_ rfl
  simp only [Try.ntmps42, List.size_toArray, List.length_cons, List.length_nil, Nat.reduceAdd, Nat.reduceSub, Array.replicate_succ, Array.replicate_zero, List.push_toArray, List.append_toArray, List.nil_append, List.cons_append]
  obtain ⟨p, c, rfl, hlc, hcm⟩ := HBx.out.row.open
  unfold maxLen at hcm
  have c5 := HBx.out.held
  have c3 := HBx.out.sz
  have CU := hid (upward_any W (l.length : Int) (size : Int) (by omega) (by omega) (by omega))
  rw [pcN_up hl1] at CU
  have hNle : pcN l.length size ≤ l.length := by
    unfold pcN
    have := Nat.div_le_self (l.length - 1) size
    omega
  obtain ⟨N, HN⟩ : ∃ N, Hid (pcN l.length size = N) := ⟨_, rfl⟩
  rw [HN.out] at CU hNle
  have HI := hid (fun k => (HN.out ▸ pcN_iff hs hl1 : k < N ↔ pcAt size k < l.length))
  gi_wp2
  refine ⟨trivial, fun h => absurd h (by simp [Fence.wide]), callsIn_wide.2 (CU.out.mono ?_)⟩
  rintro e wz ⟨rfl, hwz⟩
  rw [hwz]
  clear hwz wz CU c5 c3
  gi_wp2
  gi_loopw [10] (fun i wr => ∃ k : Nat, Hid (k ≤ N) ∧ i = .int .i64 (k : Int) ∧ Hid (J k wr) ∧ Hid (KD (pcD (.slice p l.length c) b5 b3) W wr)) (fun i _ => N - (intOf i).toNat)
  case atStart => exact ⟨0, Nat.zero_le _, rfl, H0, KD.refl _ _⟩
  case round =>
    obtain ⟨k, hk, rfl, HJk, HKk⟩ := hrel
    have hbx := HBx.out.kept HKk.out
    have c5 := hbx.held
    have c3 := hbx.sz
    have HR := hid hbx.row
    clear hbx
    by_cases hlt : k < N
    · obtain ⟨A, HA⟩ : ∃ A, Hid (pcAt size k = A) := ⟨_, rfl⟩
      have hAl : A < l.length := by rw [← HA.out]; exact (HI.out k).1 hlt
      have hmul : (k : Int) * (size : Int) = (A : Int) := by rw [← HA.out]; unfold pcAt; simp
      have hwA : IntKind.i64.wrap (A : Int) = (A : Int) := wrap64 (by omega) (by omega)
      obtain ⟨m, HM⟩ : ∃ m, Hid (min size (l.length - A) = m) := ⟨_, rfl⟩
      have hm1 : 1 ≤ m := by rw [← HM.out]; omega
      have hm2 : A + m ≤ l.length := by rw [← HM.out]; omega
      have HP : Hid (pcP l size k = (l.take (A + m)).drop A) := by
        show _ = _
        unfold pcP
        rw [HA.out, HM.out]
      have HPl : Hid ((pcP l size k).length = m) := by
        show _ = _
        rw [pcP_length, HA.out, HM.out]
      have hsub : (l.length : Int) - (A : Int) = ((l.length - A : Nat) : Int) := by omega
      have CP := hid (piece_any wr (.slice p l.length c) l A m HR.out hm1 hm2 (by omega))
      have HKW : Hid (w0.heap.size ≤ wr.heap.size) := Nat.le_trans HK.out.1 HKk.out.1
      by_cases hms : size ≤ l.length - A
      · have hme : m = size := by rw [← HM.out]; omega
        have hmi : (size : Int) ≤ ((l.length - A : Nat) : Int) := by omega
        rw [hme] at CP
        clear hms
        gi_wp2
        refine ⟨trivial, fun h => absurd h (by simp [Fence.wide]), callsIn_wide.2 (CP.out.mono ?_)⟩
        rintro e w1 ⟨v1, rfl, hown, hB⟩
        have hJ1 := HJ.out k wr w1 HJk.out (grown_below hB)
        have hown' : w1.ownsRow w0.heap.size 5 1 v1 (pcP l size k).length ((pcP l size k).map (Value.int .u8)) := by
          rw [HPl.out, HP.out, hme]
          exact own_mono hown HKW.out
        obtain ⟨fn, tmps, assign, body, hy, hR⟩ := HY.out k v1 w1 hJ1 hown' (by rw [HN.out]; exact hlt)
        have HRR := hid hR
        have HKD : Hid (KD (pcD (.slice p l.length c) b5 b3) wr w1) := ⟨hB.size, fun i hi => hB.block i (Nat.lt_of_lt_of_le (HD.out i hi) (Nat.le_trans HK.out.1 HKk.out.1))⟩
        have hkN := hlt
        clear hown hown' hB hJ1 hR CP c5 c3
        gi_wp2
        refine ⟨fun h => absurd h (by simp [Fence.wide]), HRR.out.mono ?_⟩
        rintro e W3 (⟨rfl, hJ3, hk3⟩ | ⟨rfl, hJx3⟩)
        · clear HRR hy
          have HF3 := hid (And.intro hk3 hJ3)
          clear hk3 hJ3
          gi_wp2
          go_roundw
          case rel => exact ⟨k + 1, hkN, by go_num, HF3.out.2, HKk.out.trans (HKD.out.trans HF3.out.1)⟩
          case measure => simp [intOf]; omega
        · clear HRR hy
          have HF3 := hid hJx3
          clear hJx3
          gi_wp2
          refine bodyPost_ret (results_none rfl _ _ _) rfl ?_
          exact ⟨⟨_, rfl⟩, .inr HF3.out⟩
      · have hme : m = l.length - A := by rw [← HM.out]; omega
        have hmi : ((l.length - A : Nat) : Int) < (size : Int) := by omega
        rw [hme] at CP
        clear hms
        gi_wp2
        refine ⟨trivial, fun h => absurd h (by simp [Fence.wide]), callsIn_wide.2 (CP.out.mono ?_)⟩
        rintro e w1 ⟨v1, rfl, hown, hB⟩
        have hJ1 := HJ.out k wr w1 HJk.out (grown_below hB)
        have hown' : w1.ownsRow w0.heap.size 5 1 v1 (pcP l size k).length ((pcP l size k).map (Value.int .u8)) := by
          rw [HPl.out, HP.out, hme]
          exact own_mono hown HKW.out
        obtain ⟨fn, tmps, assign, body, hy, hR⟩ := HY.out k v1 w1 hJ1 hown' (by rw [HN.out]; exact hlt)
        have HRR := hid hR
        have HKD : Hid (KD (pcD (.slice p l.length c) b5 b3) wr w1) := ⟨hB.size, fun i hi => hB.block i (Nat.lt_of_lt_of_le (HD.out i hi) (Nat.le_trans HK.out.1 HKk.out.1))⟩
        have hkN := hlt
        clear hown hown' hB hJ1 hR CP c5 c3
        gi_wp2
        refine ⟨fun h => absurd h (by simp [Fence.wide]), HRR.out.mono ?_⟩
        rintro e W3 (⟨rfl, hJ3, hk3⟩ | ⟨rfl, hJx3⟩)
        · clear HRR hy
          have HF3 := hid (And.intro hk3 hJ3)
          clear hk3 hJ3
          gi_wp2
          go_roundw
          case rel => exact ⟨k + 1, hkN, by go_num, HF3.out.2, HKk.out.trans (HKD.out.trans HF3.out.1)⟩
          case measure => simp [intOf]; omega
        · clear HRR hy
          have HF3 := hid hJx3
          clear hJx3
          gi_wp2
          refine bodyPost_ret (results_none rfl _ _ _) rfl ?_
          exact ⟨⟨_, rfl⟩, .inr HF3.out⟩
    · have HKE : Hid (k = N) := by have := hk.out; show _ = _; omega
      gi_wp2
      go_end0
      rw [HN.out, ← HKE.out]
      exact ⟨⟨_, rfl⟩, .inl HJk.out⟩
end Go.Proofs.Ytdmdcnikhnoclab
