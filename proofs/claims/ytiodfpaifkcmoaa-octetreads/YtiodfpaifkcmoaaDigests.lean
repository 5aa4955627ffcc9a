/- Digest of octet's Reader and of the document's, walked. -/
import Derived.Test.YtiodfpaifkcmoaaRefReader
import Derived.Test.YtiodfpaifkcmoaaReads
import Derived.Test.YtiodfpaifkcmoaaApart
namespace Go.Proofs.Ytiodfpaifkcmoaa
open Go.RowKit

/-- The digest that a piece of 32 bytes, or of none, stands for. -/
def digL (t : List Int) : List Int := if t.length = 0 then zeros32 else t

theorem RD.away {w w' : World} {g : Nat} {m f : Bool} {l : List Int} {row : Option Nat} (h : RD w g m f l) (hg : w.grownBy w' row) (hr : ∀ k, row = some k → k ≠ g ∧ ∃ e, BT w k e ∧ e ≠ 5) : RD w' g m f l := by
  obtain ⟨v, hblk, hv⟩ := h
  refine ⟨v, ?_, hv.grown hg fun k e => ?_⟩
  · rw [hg.block g (Array.getElem?_eq_some_iff.1 hblk).1 ?_]
    · exact hblk
    · intro e
      exact (hr g e.symm).1 rfl
  · obtain ⟨_, e', ⟨cur, fz, hh⟩, hne⟩ := hr k e
    exact ⟨cur, e', fz, hh, Ne.symm hne⟩

theorem grown_setRow (w : World) (g : Nat) (cs : Array Value) : w.grownBy (w.setRow g cs) (some g) :=
  ⟨rfl, rfl, rfl, by simp [World.setRow], fun k _ hk => setRow_other w g k _ (fun e => hk (by rw [e]))⟩

/-- What was written at or beyond the first world's end is none of its blocks. -/
theorem grown_new {w w1 w2 : World} {r : Option Nat} {q : Nat} (h : w.grownBy w1 r) (k : w1.grownBy w2 (some q)) (hq : w.heap.size ≤ q) : w.grownBy w2 r :=
  ⟨k.os.trans h.os, k.tape.trans h.tape, k.output.trans h.output, Nat.le_trans h.size k.size, fun i hi hr => (k.block i (Nat.lt_of_lt_of_le hi h.size) (by simp; omega)).trans (h.block i hi hr)⟩

theorem run_arrayAt_digest (b off c : Nat) (W : World) : (Instr.arrayAt 84 (.slice (some ⟨b, off, none⟩) 32 c)).run Try.prog W = .ok (.pointer (some ⟨b, off, none⟩)) W := by
  unfold Instr.arrayAt
  simp only [Sem.run_bind, run_underlying Try.underlying84, Result.andThen_ok]
  rfl

set_option maxRecDepth 100000 in
set_option maxHeartbeats 1000000 in
theorem digest_any (w : World) (g : Nat) (f : Bool) (l : List Int) (h : RD w g true f l) :
    Calls Try.prog 51 #[.pointer (some ⟨g, 0, none⟩)] w fun e w' => e = .returned (.agg (cellsB (digL (taken l 32)))) ∧ RD w' g true (f || !okTake l 32) (leftAt l 32) ∧ w.grownBy w' (some g) := by
  have H := hid h
  have hgl : g < w.heap.size := by obtain ⟨_, hb, _⟩ := h; exact (Array.getElem?_eq_some_iff.1 hb).1
  have hlen : (taken l 32).length = 0 ∨ (taken l 32).length = 32 := by
    unfold taken
    split
    · rename_i hk
      have := okTake_iff.1 hk
      right
      simp; omega
    · left; rfl
  obtain ⟨t, HT⟩ : ∃ t, Hid (taken l 32 = t) := ⟨_, rfl⟩
  rw [HT.out] at hlen ⊢
  have HLn := hid hlen
  clear h hlen
  go_enter Try.func51, Try.ntmps51
  go_wp2_with (refine wpList_alloc_digest rfl rfl ?_)
  refine (take_any _ g f l 32 (H.out.grow ((Below.refl _ _).alloc (Nat.le_refl _) (.cells (cellsB zeros32) 84)))).mono ?_
  rintro e w1 ⟨v1, rfl, hb1, hr1, hg1⟩
  rw [HT.out] at hb1
  have hres : w1.heap[w.heap.size]? = some (.cells (cellsB zeros32) 84 (0, 0)) := by
    rw [hg1.block w.heap.size (by simp) (by simp; omega)]
    exact heap_alloc_new w _
  have HRES := hid hres
  have HB1 := hid hb1
  have HR1 := hid hr1
  have HG1 := hid (grown_trans (grown_below (r := some g) ((Below.refl _ w).alloc (Nat.le_refl _) (.cells (cellsB zeros32) 84))) hg1)
  clear hres hr1 hg1
  obtain ⟨z, HZ⟩ : ∃ z, Hid (z = cellsB zeros32) := ⟨_, rfl⟩
  have HIz : Hid ((Try.prog.info? 84).map (·.size) = some z.size) := by rw [HZ.out, cellsB_size, zeros32_length]; exact size_digest
  have H1z : Hid (z.all (·.oneCell') = true) := by rw [HZ.out]; exact cellsB_one _
  rw [← HZ.out] at HRES
  have hne : some w.heap.size ≠ some g := by simp; omega
  have FIN : Hid (∀ cs : List Int, RD (w1.setRow w.heap.size (cellsB cs)) g true (f || !okTake l 32) (leftAt l 32) ∧ w.grownBy (w1.setRow w.heap.size (cellsB cs)) (some g)) := fun cs => by
    have hgs := grown_setRow w1 w.heap.size (cellsB cs)
    refine ⟨HR1.out.away hgs (fun k e => ?_), grown_new HG1.out hgs (Nat.le_refl _)⟩
    cases e
    exact ⟨by omega, _, ⟨_, _, HRES.out⟩, by decide⟩
  rcases HLn.out with h0 | h32
  · obtain ⟨p, c, e, _, _⟩ := hb1.open
    rw [h0] at e
    clear hb1
    subst e
    have HD : Hid (digL t = zeros32) := if_pos h0
    clear h0
    go_wp2_with (first | (refine wpList_build_digest rfl rfl ?_; rw [← HZ.out]) | (refine wpList_store_row rfl 84 _ _ rfl w.heap.size z rfl rfl 84 z HRES.out HIz.out rfl H1z.out ?_))
    refine bodyPost_ret (v := .agg z) (results_cell_row (p := 2) (ty := 84) rfl _ _ w.heap.size 84 z (0, 0) _ rfl (setRow_heap _ _ _ _ _ _ HRES.out) Try.underlying84 rfl HIz.out) rfl ?_
    rw [HD.out, HZ.out]
    exact ⟨rfl, FIN.out zeros32⟩
  · obtain ⟨b, off, c, e, hc1, hc2, hcell⟩ := hb1.ne (by omega)
    rw [h32] at e
    clear hb1
    subst e
    have HD : Hid (digL t = t) := if_neg (by omega)
    have HRG : Hid (w1.rangeAt b off (t.map (Value.int .u8))) := fun j v hv => by
      have hj : j < t.length := by have := (List.getElem?_eq_some_iff.1 hv).1; simpa using this
      rw [hcell j hj]
      rw [List.getElem?_map, List.getElem?_eq_getElem hj, ← getD_of_lt hj] at hv
      exact hv
    obtain ⟨y, HY⟩ : ∃ y, Hid ((t.map (Value.int .u8)).toArray = y) := ⟨_, rfl⟩
    have hys : y.size = 32 := by rw [← HY.out]; simp; exact h32
    have HIy : Hid ((Try.prog.info? 84).map (·.size) = some y.size) := by rw [hys]; exact size_digest
    have HIt : Hid ((Try.prog.info? 84).map (·.size) = some (t.map (Value.int .u8)).length) := by rw [List.length_map, h32]; exact size_digest
    have H1y : Hid (y.all (·.oneCell') = true) := by rw [← HY.out]; exact cellsB_one t
    have hzy : z.size = y.size := by rw [HZ.out, cellsB_size, zeros32_length, hys]
    have HZY := hid hzy
    clear hcell hys hzy h32
    unfold maxLen at hc2
    have harr := run_arrayAt_digest b off c
    go_wp2_with (first | (refine wpList_load_mid rfl 84 _ rfl b off rfl _ _ HRG.out Try.underlying84 rfl HIt.out ?_; rw [HY.out]) | (refine wpList_store_row rfl 84 _ _ rfl w.heap.size y rfl rfl 84 z HRES.out HIy.out HZY.out H1y.out ?_))
    refine bodyPost_ret (v := .agg y) (results_cell_row (p := 2) (ty := 84) rfl _ _ w.heap.size 84 y (0, 0) _ rfl (setRow_heap _ _ _ _ _ _ HRES.out) Try.underlying84 rfl HIy.out) rfl ?_
    rw [HD.out, ← HY.out]
    exact ⟨rfl, FIN.out t⟩

/-- The digest behind i rounds. -/
def curD (t : List Int) (i : Nat) : List Int := t.take i ++ zeros32.drop i
theorem curD_length (t : List Int) (i : Nat) (hi : i ≤ t.length) (ht : t.length ≤ 32) : (curD t i).length = 32 := by
  unfold curD
  rw [List.length_append, List.length_take, List.length_drop, zeros32_length]
  omega
theorem curD_step (t : List Int) (i : Nat) (hi : i < t.length) (ht : t.length ≤ 32) : (curD t i).set i (t.getD i 0) = curD t (i + 1) := by
  unfold curD
  have hl : (t.take i).length = i := by rw [List.length_take]; omega
  have hz : i < zeros32.length := by rw [zeros32_length]; omega
  rw [List.set_append_right _ _ (by omega), hl, Nat.sub_self, List.drop_eq_getElem_cons hz, List.set_cons_zero, List.take_succ_eq_append_getElem hi, getD_of_lt hi, List.append_assoc]
  rfl
theorem cellsB_set (l : List Int) (i : Nat) (x : Int) : (cellsB l).setIfInBounds i (.int .u8 x) = cellsB (l.set i x) := by
  unfold cellsB
  rw [List.map_set]
  simp

set_option maxRecDepth 100000 in
set_option maxHeartbeats 1000000 in
theorem rdigest_any (w : World) (g : Nat) (bad : Bool) (l : List Int) (h : RR w g bad l) (hbig : l.length ≤ 140737488355328) :
    Calls Try.prog 66 #[.pointer (some ⟨g, 0, none⟩)] w fun e w' => e = .returned (.agg (cellsB (digL (rtk bad l 32)))) ∧ RR w' g (bad || !okTake l 32) (rlf bad l 32) ∧ w.grownBy w' (some g) := by
  have H := hid h
  have hgl : g < w.heap.size := by obtain ⟨_, hb, _⟩ := h; exact (Array.getElem?_eq_some_iff.1 hb).1
  have hlen : (rtk bad l 32).length = 0 ∨ (rtk bad l 32).length = 32 := by
    unfold rtk
    split
    · left; rfl
    · unfold taken
      split
      · rename_i hk
        have := okTake_iff.1 hk
        right
        simp; omega
      · left; rfl
  obtain ⟨t, HT⟩ : ∃ t, Hid (rtk bad l 32 = t) := ⟨_, rfl⟩
  rw [HT.out] at hlen ⊢
  have HLn := hid hlen
  have ht32 : t.length ≤ 32 := by omega
  clear h hlen
  obtain ⟨W0, hW0⟩ : ∃ W0, Hid ((w.alloc (.cells (cellsB zeros32) 84)).alloc (.cells (cellsB zeros32) 84) = W0) := ⟨_, rfl⟩
  have HB0 : Hid (Below w.heap.size w W0) := by rw [← hW0.out]; exact ((Below.refl _ w).alloc (Nat.le_refl _) _).alloc (by simp) _
  have HF1 : Hid (W0.heap[w.heap.size]? = some (.cells (cellsB zeros32) 84 (0, 0))) := by rw [← hW0.out]; exact heap_alloc2_old _ _ _
  have HF2 : Hid (W0.heap[w.heap.size + 1]? = some (.cells (cellsB zeros32) 84 (0, 0))) := by rw [← hW0.out]; exact heap_alloc2_new _ _ _
  have HS0 : Hid (W0.heap.size = w.heap.size + 2) := by rw [← hW0.out]; show _ = _; simp
  go_enter Try.func66, Try.ntmps66
  go_wp2_with (refine wpList_alloc_digest rfl rfl ?_)
  rw [hW0.out]
  refine (rbytes_any W0 g bad l 32 (H.out.below HB0.out) hbig).mono ?_
  rintro e w1 ⟨v1, rfl, ho1, hb1, hr1, hg1⟩
  rw [HT.out] at ho1 hb1
  have HF1b : Hid (w1.heap[w.heap.size]? = some (.cells (cellsB zeros32) 84 (0, 0))) := by
    rw [hg1.block w.heap.size (by rw [HS0.out]; omega) (by simp; omega)]
    exact HF1
  have HF2b : Hid (w1.heap[w.heap.size + 1]? = some (.cells (cellsB (curD t 0)) 84 (0, 0))) := by
    rw [hg1.block (w.heap.size + 1) (by rw [HS0.out]; omega) (by simp; omega)]
    exact HF2
  have HO1 := hid ho1
  have HR1 := hid hr1
  have HG1 := hid (grown_trans (grown_below (r := some g) HB0.out) hg1)
  have HB1 := hid hb1
  have hsz1 : w.heap.size + 2 ≤ w1.heap.size := by rw [← HS0.out]; exact hg1.size
  obtain ⟨p, c, e, hpc, hpm⟩ := hb1.open
  clear ho1 hr1 hg1 hb1 HF1 HF2 hW0 HB0 HS0
  subst e
  unfold maxLen at hpm
  go_wp2
  go_loopw [5] (fun i wr => ∃ I : Nat, I ≤ t.length ∧ i = .int .i64 I ∧ Hid (wr.heap[w.heap.size + 1]? = some (.cells (cellsB (curD t I)) 84 (0, 0))) ∧ Hid (w1.grownBy wr (some (w.heap.size + 1)))) (fun i _ => t.length - (intOf i).toNat)
  case atStart => exact ⟨0, Nat.zero_le _, rfl, HF2b, ⟨rfl, rfl, rfl, Nat.le_refl _, fun _ _ _ => rfl⟩⟩
  case round =>
    obtain ⟨I, hI, rfl, HF, HG⟩ := hrel
    by_cases hlt : I < t.length
    · obtain ⟨b, off, c', e, _, _, hh⟩ := HB1.out.ne (by omega)
      simp only [Value.slice.injEq, true_and] at e
      obtain ⟨rfl, rfl⟩ := e
      have hbne : b ≠ w.heap.size + 1 := by
        intro e
        have h1 := own_BT HO1.out b rfl
        rw [e] at h1
        exact (h1.ne (⟨_, _, HF2b.out⟩ : BT w1 (w.heap.size + 1) 84) (by decide)) rfl
      have hx := HG.out.cell (hh I hlt) (by simpa using hbne)
      obtain ⟨x, HX⟩ : ∃ x, Hid (t.getD I 0 = x) := ⟨_, rfl⟩
      rw [HX.out] at hx
      have hcs := curD_length t I hI ht32
      have hci : ∃ z, wr.cell? ⟨w.heap.size + 1, I, none⟩ = some z := by
        rw [cell_of_row wr (w.heap.size + 1) I _ _ _ HF.out]
        exact ⟨_, Array.getElem?_eq_getElem (by rw [cellsB_size, hcs]; omega)⟩
      obtain ⟨z, hz⟩ := hci
      have hfz : wr.frozen? ⟨w.heap.size + 1, I, none⟩ = false := by simp [World.frozen?, HF.out]
      have HST : Hid (curD t (I + 1) = (curD t I).set I x) := by
        show _ = _
        rw [← HX.out]
        exact (curD_step t I hlt ht32).symm
      have hI32 : (I : Int) < 32 := by omega
      clear hcs hh
      go_wp2
      refine ⟨⟨I + 1, by omega, by go_num, ?_, ?_⟩, by simp [intOf]; omega⟩
      · rw [HST.out, ← cellsB_set]
        exact heap_setCell_same wr (w.heap.size + 1) I _ _ _ HF.out
      · exact grown_trans HG.out (grown_set _ _ _ _)
    · have HD : Hid (curD t I = digL t) := by
        show _ = _
        have hIl : I = t.length := by omega
        subst hIl
        unfold curD digL
        rcases HLn.out with h0 | h32
        · rw [if_pos h0, h0, List.length_eq_zero_iff.1 h0]; rfl
        · rw [if_neg (by omega), List.take_of_length_le (Nat.le_refl _), h32, List.drop_eq_nil_of_le (by rw [zeros32_length]; exact Nat.le_refl _), List.append_nil]
      rw [HD.out] at HF
      obtain ⟨y, HY⟩ : ∃ y, Hid (cellsB (digL t) = y) := ⟨_, rfl⟩
      rw [HY.out] at HF
      have hys : y.size = 32 := by
        rw [← HY.out, cellsB_size, ← HD.out, curD_length t I hI ht32]
      have HIy : Hid ((Try.prog.info? 84).map (·.size) = some y.size) := by rw [hys]; exact size_digest
      have H1y : Hid (y.all (·.oneCell') = true) := by rw [← HY.out]; exact cellsB_one _
      have HF1c : Hid (wr.heap[w.heap.size]? = some (.cells (cellsB zeros32) 84 (0, 0))) := by
        rw [HG.out.block w.heap.size (by omega) (by simp)]
        exact HF1b
      have HZY : Hid ((cellsB zeros32).size = y.size) := by rw [hys, cellsB_size, zeros32_length]; exact rfl
      have hgs := grown_setRow wr w.heap.size y
      have HFN := hid (⟨(HR1.out.other HG.out (fun k e => by cases e; exact ⟨by omega, _, ⟨_, _, HF2b.out⟩, by decide⟩)).other hgs (fun k e => by cases e; exact ⟨by omega, _, ⟨_, _, HF1c.out⟩, by decide⟩), grown_new (grown_new HG1.out HG.out (by omega)) hgs (Nat.le_refl _)⟩ : RR (wr.setRow w.heap.size y) g (bad || !okTake l 32) (rlf bad l 32) ∧ w.grownBy (wr.setRow w.heap.size y) (some g))
      clear hys hgs
      go_wp2_with (first | (refine wpList_load_row rfl 84 _ rfl (w.heap.size + 1) rfl 84 y (0, 0) _ HF.out Try.underlying84 rfl HIy.out ?_) | (refine wpList_store_row rfl 84 _ _ rfl w.heap.size y rfl rfl 84 _ HF1c.out HIy.out HZY.out H1y.out ?_))
      refine bodyPost_ret (v := .agg y) (results_cell_row (p := 2) (ty := 84) rfl _ _ w.heap.size 84 y (0, 0) _ rfl (setRow_heap _ _ _ _ _ _ HF1c.out) Try.underlying84 rfl HIy.out) rfl ?_
      rw [HY.out]
      exact ⟨rfl, HFN.out⟩
end Go.Proofs.Ytiodfpaifkcmoaa
