/- sha.Sum of parts, walked. -/
import Derived.Test.YtjmlpkemjafifaaDoorShaSumAny
namespace Go.Proofs.YtjmlpkemjafifaaDoor
open Go.RowKit

/-- The digest of a message. -/
def digL (m : List Int) : List Int := (wAt (padded m) ((padded m).length / 64)).flatMap (bigL 4)
theorem digL_length (m : List Int) : (digL m).length = 32 := by
  obtain ⟨a, b, c, d, e, f, g, h, e1, _⟩ := (wAt_W8 (padded m) ((padded m).length / 64)).open
  unfold digL
  rw [e1]
  simp [bigL_length]
theorem HB.off {w : World} {u : Value} {l : List Int} {g : Nat} (h : HB w u l) (hg : w.heap.size ≤ g) : Off u g := by
  intro p n c e hn
  obtain ⟨p', c', e', _, _⟩ := h.open
  have hl : 0 < l.length := by rw [e] at e'; simp only [Value.slice.injEq] at e'; omega
  obtain ⟨b, off, c2, rfl, _, _, hh⟩ := h.ne hl
  have hlt : b < w.heap.size := World.block_lt_of_cell? w _ (hh 0 hl)
  intro e2
  have e3 : b = g := by simpa [Value.ownBlock] using e2
  omega
theorem flat_step (ps : List (List Int)) (k : Nat) (hk : k < ps.length) : (ps.take (k + 1)).flatten = (ps.take k).flatten ++ ps.getD k [] := by
  rw [List.take_succ_eq_append_getElem hk, List.flatten_append]
  simp [List.getD, List.getElem?_eq_getElem hk]
theorem flat_le (ps : List (List Int)) (k : Nat) : (ps.take k).flatten.length ≤ ps.flatten.length := by
  conv => rhs; rw [← List.take_append_drop k ps, List.flatten_append, List.length_append]
  omega
theorem HM.nil {w : World} {g : Nat} (hb : w.heap[g]? = some (.cells (hashC iv iv (List.replicate 64 0) 0).toArray 137 (0, 0))) : HM w g [] := by
  refine ⟨List.replicate 64 0, HSt.of_block hb iv_W8 (by simp) (fun x hx => by have := (List.mem_replicate.1 hx).2; omega), rfl, fun x hx => by cases hx⟩

set_option maxHeartbeats 2000000 in
theorem sums_any (w : World) (v : Value) (ps : List (List Int)) (h : HL w v ps) (hk : KC w) (hlen : ps.flatten.length ≤ 576460752303423488) :
    Calls Tryd.prog 86 #[v] w fun e w' => e = .returned (.agg (cellsB (digL ps.flatten))) ∧ Below w.heap.size w w' := by
  obtain ⟨zd, HZD⟩ : ∃ zd, Hid (cellsB zeros32 = zd) := ⟨_, rfl⟩
  obtain ⟨W0, hW0⟩ : ∃ W0, Hid (w.alloc (.cells zd 28) = W0) := ⟨_, rfl⟩
  have HB0 : Hid (Below w.heap.size w W0) := by rw [← hW0.out]; exact (Below.refl _ w).alloc (Nat.le_refl _) _
  have HR0 : Hid (W0.heap[w.heap.size]? = some (.cells zd 28 (0, 0))) := by rw [← hW0.out]; exact heap_alloc_new w _
  have hS0 : W0.heap.size = w.heap.size + 1 := by rw [← hW0.out]; simp
  obtain ⟨p, c, ev, hlc, hcm⟩ := h.open
  unfold maxLen at hcm
  have A : Hid (0 < ps.length → ∃ b off, p = some ⟨b, off, none⟩ ∧ ∀ j, j < ps.length → ∃ u, w.cell? ⟨b, off + j, none⟩ = some u ∧ HB w u (ps.getD j [])) := by
    intro h0
    obtain ⟨b, off, c', e', _, _, hh⟩ := h.ne h0
    rw [ev] at e'
    simp only [Value.slice.injEq, true_and] at e'
    exact ⟨b, off, e'.1, hh⟩
  have HK := hid hk
  have h0b := World.block_lt_of_cell? w _ (hk 0 (by decide))
  obtain ⟨n, HN⟩ : ∃ n, Hid (ps.length = n) := ⟨_, rfl⟩
  rw [HN.out] at ev hlc
  have HLen := hid hlen
  subst ev
  clear h hk hlen
  go_enter Tryd.func86, Tryd.ntmps86
  go_wp2_with (refine wpList_alloc_digest rfl rfl ?_; rw [HZD.out, hW0.out])
  refine (new_any W0).mono ?_
  rintro e w1 ⟨g, rfl, hg1, hblk, hB1⟩
  have HM1 := hid (HM.nil hblk)
  have hgl := HM1.out.lt
  have HB1 := hid hB1
  clear hblk hB1
  go_wp2
  go_loopw [9] (fun i wr => ∃ k : Nat, k ≤ n ∧ i = .int .i64 k ∧ Hid (HM wr g (ps.take k).flatten) ∧ Hid (Below g w1 wr)) (fun i _ => n - (intOf i).toNat)
  case atStart => exact ⟨0, Nat.zero_le _, rfl, HM1, Below.refl _ _⟩
  case round =>
    obtain ⟨k, hkn, rfl, HMk, HBk⟩ := hrel
    have HBW : Hid (Below w.heap.size w wr) := (HB0.out.trans (HB1.out.mono (by omega))).trans (HBk.out.mono (by omega))
    have HKr : Hid (KC wr) := HK.out.below HBW.out
    by_cases hlt : k < n
    · obtain ⟨b, off, rfl, hh⟩ := A.out (by rw [HN.out]; omega)
      obtain ⟨u, hu, hbu⟩ := hh k (by rw [HN.out]; exact hlt)
      have hur := (HBW.out.cell (World.block_lt_of_cell? w _ hu)).trans hu
      obtain ⟨l, HL⟩ : ∃ l, Hid (ps.getD k [] = l) := ⟨_, rfl⟩
      rw [HL.out] at hbu
      have HS : Hid ((ps.take (k + 1)).flatten = (ps.take k).flatten ++ l) := by
        show _ = _
        rw [flat_step ps k (by rw [HN.out]; exact hlt), HL.out]
      have CT := hid (take_hash wr g _ u l HMk.out (hbu.below HBW.out) (hbu.off (by omega)) HKr.out (by omega) (by
        have h1 := flat_le ps (k + 1)
        rw [HS.out, List.length_append] at h1
        have := HLen.out
        omega))
      clear hh hu hbu
      go_wp2_with fail
      refine CT.out.mono ?_
      rintro e w2 ⟨rfl, hm2, hg2⟩
      have HM2 : Hid (HM w2 g (ps.take (k + 1)).flatten) := by rw [HS.out]; exact hm2
      have HB2 : Hid (Below g w1 w2) := HBk.out.grown hg2 (Nat.le_of_lt HMk.out.lt) (fun q e => by cases e; exact Nat.le_refl _)
      clear hm2 hg2 CT
      go_wp2
      exact ⟨⟨k + 1, by omega, by go_num, HM2, HB2⟩, by simp [intOf]; omega⟩
    · have hkn2 : k = n := by omega
      have HF : Hid ((ps.take k).flatten = ps.flatten) := by
        show _ = _
        rw [hkn2, ← HN.out, List.take_length]
      have CS := hid (sum_any wr g _ HMk.out HKr.out (by rw [HF.out]; exact HLen.out))
      go_wp2_with fail
      refine CS.out.mono ?_
      rintro e w3 ⟨rfl, hB3⟩
      rw [HF.out]
      obtain ⟨dm, HD⟩ : ∃ dm, Hid (cellsB (digL ps.flatten) = dm) := ⟨_, rfl⟩
      have hds : dm.size = 32 := by rw [← HD.out]; simp [cellsB, digL_length]
      have SD : Hid ((Tryd.prog.info? 28).map (·.size) = some dm.size) := by rw [hds]; exact size_digest
      have OD : Hid (dm.all (·.oneCell') = true) := by
        rw [← HD.out]
        exact all_oneCell_toArray (fun v hv => by obtain ⟨x, _, rfl⟩ := List.mem_map.1 hv; rfl)
      have ZD : Hid (zd.size = dm.size) := by rw [hds, ← HZD.out]; rfl
      have hwg : w.heap.size < g := by omega
      have HR3 : Hid (w3.heap[w.heap.size]? = some (.cells zd 28 (0, 0))) := by
        show _ = _
        rw [hB3.block _ (by have := HBW.out.size; have := HMk.out.lt; omega), HBk.out.block _ hwg, HB1.out.block _ (by omega)]
        exact HR0.out
      have HB3 := hid (HBW.out.trans (hB3.mono HBW.out.size))
      have HBF := hid (below_setRow HB3.out (g := w.heap.size) (Nat.le_refl _) dm)
      have HE : Hid (List.flatMap (bigL 4) (wAt (padded ps.flatten) ((padded ps.flatten).length / 64)) = digL ps.flatten) := rfl
      rw [HE.out, HD.out]
      clear hB3 CS hds hlt
      go_wp2_with (refine wpList_store_row rfl 28 _ _ rfl w.heap.size dm rfl rfl 28 _ HR3.out SD.out ZD.out OD.out ?_)
      refine bodyPost_ret (v := .agg dm) (results_cell_row (p := 2) (ty := 28) rfl _ _ w.heap.size 28 dm (0, 0) _ rfl (setRow_heap _ _ _ _ _ _ HR3.out) Tryd.underlying28 rfl SD.out) rfl ?_
      exact ⟨by rw [HD.out], HBF.out⟩
end Go.Proofs.YtjmlpkemjafifaaDoor
