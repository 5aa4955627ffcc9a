/- octet.Chunks and the function that it answers, walked: N rounds, the k-th handed its place and a row of the piece's own. -/
import Derived.Test.YtbafegpiipkmbaaRange
import Derived.Test.YtbafegpiipkmbaaClone
import Derived.Test.YtbafegpiipkmbaaSlices
import Derived.Test.YtbafegpiipkmbaaOwns
namespace Go.Proofs.Ytbafegpiipkmbaa
open Go.RowKit Go.Shelf
attribute [local go_sem] Oper.semAt_some

/-- How many pieces; the place of the k-th; the k-th. -/
def chN (len size : Nat) : Nat := (len + size - 1) / size
def chAt (size k : Nat) : Nat := k * size
def chPiece (l : List Int) (size k : Nat) : List Int := (l.take (chAt size k + min size (l.length - chAt size k))).drop (chAt size k)

theorem chN_iff {len size k : Nat} (hs : 1 ≤ size) : k < chN len size ↔ chAt size k < len := by
  unfold chN chAt
  rw [Nat.lt_div_iff_mul_lt (by omega)]
  omega
theorem chPiece_length (l : List Int) (size k : Nat) : (chPiece l size k).length = min size (l.length - chAt size k) := by
  unfold chPiece
  simp
  omega

/-- The box, the size's box and the row of a Chunks that was made. -/
structure ChBox (w : World) (hv : Value) (b5 b3 : Nat) (l : List Int) (size : Nat) : Prop where
  row : HB w hv l
  held : w.cell? ⟨b5, 0, none⟩ = some hv
  sz : w.cell? ⟨b3, 0, none⟩ = some (.int .i64 size)

def chD (hv : Value) (b5 b3 : Nat) (i : Nat) : Prop := i = b5 ∨ i = b3 ∨ hv.ownBlock = some i

theorem cell_of_block {A C : World} {a : Addr} (h : C.heap[a.block]? = A.heap[a.block]?) : C.cell? a = A.cell? a := by simp [World.cell?, h]

theorem ChBox.kept {A C : World} {hv : Value} {b5 b3 size : Nat} {l : List Int} (h : ChBox A hv b5 b3 l size) (k : KD (chD hv b5 b3) A C) : ChBox C hv b5 b3 l size := by
  refine ⟨?_, (cell_of_block (k.2 b5 (.inl rfl))).trans h.held, (cell_of_block (k.2 b3 (.inr (.inl rfl)))).trans h.sz⟩
  obtain ⟨⟨p, c, rfl, h2, h3, h6, h4⟩, h5⟩ := h.row
  refine ⟨⟨p, c, rfl, h2, h3, h6, fun hl => ?_⟩, h5⟩
  obtain ⟨b, off, rfl, hh⟩ := h4 hl
  exact ⟨b, off, rfl, fun j hj => (cell_of_block (a := ⟨b, off + j, none⟩) (k.2 b (.inr (.inr rfl)))).trans (hh j hj)⟩

set_option maxRecDepth 100000 in
set_option maxHeartbeats 1000000 in
theorem chunks_any (w : World) (v : Value) (l : List Int) (size : Nat) (h : HB w v l) (hbig : l.length ≤ 140737488355328) (hs : 1 ≤ size) :
    Calls Try.prog 44 #[v, .int .i64 size] w fun e w' => ∃ hv b5 b3, e = .returned (.func (.func 65) #[] #[.pointer (some ⟨b5, 0, none⟩), .pointer (some ⟨b3, 0, none⟩)]) ∧ ChBox w' hv b5 b3 l size ∧
      (∀ i, chD hv b5 b3 i → w.heap.size ≤ i ∧ i < w'.heap.size) ∧ Below w.heap.size w w' := by
  have H := hid h
  clear h
  have hs' : ¬ ((size : Int) < 1) := by omega
  go_enter Try.func44, Try.ntmps44
  go_wp2_with fail
  obtain ⟨W0, hW0⟩ : ∃ W0, Hid (w.alloc (.cells #[.int .i64 size] 3) = W0) := ⟨_, rfl⟩
  rw [hW0.out]
  have HB0 : Hid (Below w.heap.size w W0) := by rw [← hW0.out]; exact (Below.refl _ w).alloc (Nat.le_refl _) _
  have HC0 : Hid (W0.heap[w.heap.size]? = some (.cells #[.int .i64 size] 3 (0, 0))) := by rw [← hW0.out]; exact heap_alloc_new w _
  have hS0 : W0.heap.size = w.heap.size + 1 := by rw [← hW0.out]; simp
  refine (clone_any W0 v l (H.out.below HB0.out) hbig).mono ?_
  rintro e w1 ⟨v1, rfl, hown, hB⟩
  have HO := hid hown
  have HB1 := hid hB
  have HH := hid (HB.of_own hown H.out.2)
  obtain ⟨p, c, e1, _, _⟩ := HH.out.open
  clear hown hB
  subst e1
  go_wp2
  go_ret
  have hb5 := (HB1.out.block w.heap.size (by omega)).trans HC0.out
  have hsz := HB1.out.size
  have hBA : Below w1.heap.size w1 (w1.alloc (.cells #[.slice p l.length c] 32)) := (Below.refl _ w1).alloc (Nat.le_refl _) _
  refine ⟨.slice p l.length c, w1.heap.size, w.heap.size, rfl, ⟨HH.out.below hBA, ?_, ?_⟩, ?_, (HB0.out.trans (HB1.out.mono (by omega))).alloc (by omega) _⟩
  · rw [cell_of_row _ _ _ _ _ _ (heap_alloc_new w1 _)]; rfl
  · rw [cell_of_row _ _ _ _ _ _ ((hBA.block w.heap.size (by omega)).trans hb5)]; rfl
  · rintro i (rfl | rfl | hi)
    · simp; omega
    · simp; omega
    · have := HO.out.lt i hi
      simp; omega

set_option maxRecDepth 100000 in
set_option maxHeartbeats 2000000 in
theorem chunks_iter (n : Nat) (w0 : World) (hv : Value) (b5 b3 : Nat) (l : List Int) (size : Nat) (hs : 1 ≤ size) (hbig : l.length ≤ 140737488355328) (hbox : ChBox w0 hv b5 b3 l size) (hD : ∀ i, chD hv b5 b3 i → i < w0.heap.size) :
    IterF Fence.wide n Try.prog 65 #[.pointer (some ⟨b5, 0, none⟩), .pointer (some ⟨b3, 0, none⟩)] (fun k v => #[.int .i64 (chAt size k : Nat), v])
      (fun k v W => W.ownsRow w0.heap.size 5 1 v (chPiece l size k).length ((chPiece l size k).map (Value.int .u8))) (chD hv b5 b3) (chN l.length size) w0 := fun l' J Jx W hK hJ hY h0 => by
  have HBx := hid (hbox.kept hK)
  have HK := hid hK
  have HJ := hid hJ
  have HY := hid hY
  have H0 := hid h0
  have HD := hid hD
  clear hbox hK hJ hY h0 hD
  refine callsIn_of_wp Try.func65 rfl trivial ?_ rfl
  simp only [Try.ntmps65, List.size_toArray, List.length_cons, List.length_nil, Nat.reduceAdd, Nat.reduceSub, Array.replicate_succ, Array.replicate_zero, List.push_toArray, List.append_toArray, List.nil_append, List.cons_append]
  obtain ⟨p, c, rfl, hlc, hcm⟩ := HBx.out.row.open
  unfold maxLen at hcm
  gi_wp2
  gi_loopw [4] (fun i wr => ∃ k : Nat, Hid (k ≤ chN l.length size) ∧ i = .int .i64 ((min (chAt size k) l.length : Nat) : Int) ∧ Hid (J k wr) ∧ Hid (KD (chD (.slice p l.length c) b5 b3) W wr)) (fun i _ => l.length - (intOf i).toNat)
  case atStart => exact ⟨0, Nat.zero_le _, by simp [chAt], H0, KD.refl _ _⟩
  case round =>
    obtain ⟨k, hk, rfl, HJk, HKk⟩ := hrel
    have hbx := HBx.out.kept HKk.out
    have c5 := hbx.held
    have c3 := hbx.sz
    have HR := hid hbx.row
    clear hbx
    by_cases hlt : chAt size k < l.length
    · obtain ⟨A, HA⟩ : ∃ A, Hid (chAt size k = A) := ⟨_, rfl⟩
      have hmn : min (chAt size k) l.length = A := by rw [← HA.out]; omega
      rw [hmn]
      have hAl : A < l.length := by rw [← HA.out]; exact hlt
      clear hmn hlt
      obtain ⟨m, HM⟩ : ∃ m, Hid (min size (l.length - A) = m) := ⟨_, rfl⟩
      have hm1 : 1 ≤ m := by rw [← HM.out]; omega
      have hm2 : A + m ≤ l.length := by rw [← HM.out]; omega
      have hmm : min (size : Int) ((l.length : Int) - (A : Int)) = (m : Int) := by rw [← HM.out]; omega
      have hkN : k < chN l.length size := (chN_iff hs).2 (by rw [HA.out]; exact hAl)
      have HP : Hid (chPiece l size k = (l.take (A + m)).drop A) := by
        show _ = _
        unfold chPiece
        rw [HA.out, HM.out]
      have HN1 : Hid (min (chAt size (k + 1)) l.length = A + m) := by
        show _ = _
        have e : chAt size (k + 1) = A + size := by rw [← HA.out]; unfold chAt; rw [Nat.succ_mul]
        rw [e, ← HM.out]
        omega
      have HSL : Hid (HB wr (.slice (p.map (·.add A)) m (c - A)) (chPiece l size k)) := by
        have := HR.out.sliced A (A + m) c (by omega) hm2 (by omega) (Nat.le_refl _)
        rw [if_neg (by omega), Nat.add_sub_cancel_left] at this
        rw [HP.out]
        exact this
      have HPL : Hid ((chPiece l size k).length ≤ 140737488355328) := by
        show _ ≤ _
        rw [chPiece_length]
        omega
      clear hmm
      gi_wp2
      all_goals first | rw [show ((A : Int) + (size : Int)).toNat - A = m by rw [← HM.out]; omega] | rw [show ((A : Int) + ((l.length : Int) - (A : Int))).toNat - A = m by rw [← HM.out]; omega]
      all_goals refine ⟨trivial, fun h => absurd h (by simp [Fence.wide]), callsIn_wide.2 ((clone_any wr _ _ HSL.out HPL.out).mono ?_)⟩
      all_goals rintro e w1 ⟨v1, rfl, hown, hB⟩
      all_goals have hJ1 := HJ.out k wr w1 HJk.out (grown_below hB)
      all_goals obtain ⟨fn, tmps, assign, body, hy, hR⟩ := HY.out k v1 w1 hJ1 (own_mono hown (Nat.le_trans HK.out.1 HKk.out.1)) hkN
      all_goals have HRR := hid hR
      all_goals have HKD : Hid (KD (chD (.slice p l.length c) b5 b3) wr w1) := ⟨hB.size, fun i hi => hB.block i (Nat.lt_of_lt_of_le (HD.out i hi) (Nat.le_trans HK.out.1 HKk.out.1))⟩
      all_goals rw [HA.out] at hy
      all_goals clear hown hB hJ1 hR
      all_goals gi_wp2
      all_goals refine ⟨fun h => absurd h (by simp [Fence.wide]), HRR.out.mono ?_⟩
      all_goals rintro e W3 (⟨rfl, hJ3, hk3⟩ | ⟨rfl, hJx3⟩)
      · clear HRR hy
        have HF3 := hid (And.intro hk3 hJ3)
        clear hk3 hJ3
        gi_wp2
        go_roundw
        case rel => exact ⟨k + 1, hkN, by rw [HN1.out, ← HM.out]; go_num, HF3.out.2, HKk.out.trans (HKD.out.trans HF3.out.1)⟩
        case measure => simp [intOf]; omega
      · clear HRR hy
        have HF3 := hid hJx3
        clear hJx3
        gi_wp2
        refine bodyPost_ret (results_none rfl _ _ _) rfl ?_
        exact ⟨⟨_, rfl⟩, .inr HF3.out⟩
      · clear HRR hy
        have HF3 := hid (And.intro hk3 hJ3)
        clear hk3 hJ3
        gi_wp2
        go_roundw
        case rel => exact ⟨k + 1, hkN, by rw [HN1.out, ← HM.out]; go_num, HF3.out.2, HKk.out.trans (HKD.out.trans HF3.out.1)⟩
        case measure => simp [intOf]; omega
      · clear HRR hy
        have HF3 := hid hJx3
        clear hJx3
        gi_wp2
        refine bodyPost_ret (results_none rfl _ _ _) rfl ?_
        exact ⟨⟨_, rfl⟩, .inr HF3.out⟩
    · have hmn : min (chAt size k) l.length = l.length := by omega
      rw [hmn]
      have HKE : Hid (k = chN l.length size) := by
        show _ = _
        have h1 : ¬ k < chN l.length size := fun h => hlt ((chN_iff hs).1 h)
        have := hk.out
        omega
      clear hmn hlt
      gi_wp2
      go_end0
      rw [← HKE.out]
      exact ⟨⟨_, rfl⟩, .inl HJk.out⟩
end Go.Proofs.Ytbafegpiipkmbaa
