/- Of the road to happyLastsCard_holds: HzCo, HzLs, HzSf, HzFl, OpensHf, HzLa, HzLaid. -/
import Derived.Test.YtlhjpflljokinaaDoorG03
import Derived.Test.YtlhjpflljokinaaDoorG02
import Derived.Deep.Grids
import Derived.Test.YtlhjpflljokinaaDoorRows
import Derived.Test.YtlhjpflljokinaaDoorG01
import Derived.ProofKit
import Derived.OpenShut
import Derived.LaidLaws
import Derived.Lay
import Derived.MakeChecks
import Derived.Stop.LaidErr
import Derived.Lib.LaidTab
set_option linter.unusedVariables false
set_option linter.unusedSimpArgs false
namespace Go.Proofs.YtlhjpflljokinaaDoor.Hz
open Go Go.RowKit Go.Proofs.YtlhjpflljokinaaDoor Go.Maps
def cnts (Q : List (Nat × Nat)) (ns : List Nat) : List Int := (List.range 32).map fun s => ((ns.countP fun n => decide (Lib.ctz 32 (mk Q n) = s) : Nat) : Int)
theorem cnts_len (Q : List (Nat × Nat)) (ns : List Nat) : (cnts Q ns).length = 32 := by simp [cnts]
theorem cnts_at (Q : List (Nat × Nat)) (ns : List Nat) (s : Nat) (hs : s < 32) : (cnts Q ns).getD s (-1) = ((ns.countP fun n => decide (Lib.ctz 32 (mk Q n) = s) : Nat) : Int) := by
  simp [cnts, List.getD, hs]
theorem cnts_step (Q : List (Nat × Nat)) (ns : List Nat) (n : Nat) (hs : Lib.ctz 32 (mk Q n) < 32) : cnts Q (ns ++ [n]) = (cnts Q ns).set (Lib.ctz 32 (mk Q n)) ((cnts Q ns).getD (Lib.ctz 32 (mk Q n)) (-1) + 1) := by
  rw [cnts_at Q ns _ hs]
  apply List.ext_getElem
  · simp [cnts]
  · intro i h1 h2
    have hi : i < 32 := by rw [cnts_len] at h1; exact h1
    rw [List.getElem_set]
    by_cases q : Lib.ctz 32 (mk Q n) = i
    · rw [if_pos q, q]
      simp [cnts, List.countP_append, q]
    · rw [if_neg q]
      simp [cnts, List.countP_append, q]
theorem cnts_nil (Q : List (Nat × Nat)) : cnts Q [] = List.replicate 32 0 := rfl
def OkC (Q : List (Nat × Nat)) (S n : Nat) : Prop := ((List.range 32).countP fun s => (mk Q n).testBit s) ≤ 1 ∧ Lib.ctz 32 (mk Q n) < S
def OC (w : World) (g : Nat) (l : List Int) : Prop := w.heap[g]? = some (.cells (ca l) 63 (0, 0))
theorem OC.lt {w : World} {g : Nat} {l : List Int} (h : OC w g l) : g < w.heap.size := (Array.getElem?_eq_some_iff.1 h).1
theorem OC.below {w w' : World} {g : Nat} {l : List Int} (h : OC w g l) (hB : Below w.heap.size w w') : OC w' g l := (hB.block _ h.lt).trans h
theorem OC.cell {w : World} {g : Nat} {l : List Int} (h : OC w g l) {i : Nat} (hi : i < l.length) : w.cell? ⟨g, i, none⟩ = some (.int .i64 (l.getD i (-1))) := by
  rw [cell_of_row w g i _ _ _ h]
  exact ca_at l i hi
theorem OC.free {w : World} {g : Nat} {l : List Int} (h : OC w g l) (i : Nat) : w.frozen? ⟨g, i, none⟩ = false := frozen_of_row w g _ _ _ h
theorem OC.set {w : World} {g : Nat} {l : List Int} (h : OC w g l) (i : Nat) (x : Int) : OC (w.setCell ⟨g, i, none⟩ (.int .i64 x)) g (l.set i x) := by
  have := heap_setCell_same w g i (ca l) 63 (.int .i64 x) h
  rw [ca_set] at this
  exact this
theorem size_ct {l : List Int} (h : l.length = 32) : (Tryd.prog.info? 63).map (·.size) = some (ca l).size := by rw [ca_size, h]; kernel_rfl
structure CO (w : World) (lay : Array Value) (cl : List Int) (W : World) : Prop where
  lay : W.heap[w.heap.size]? = some (.cells lay 59 (0, 0))
  res : OC W (w.heap.size + 1) (List.replicate 32 0)
  cnt : OC W (w.heap.size + 1 + 1) cl
  bel : Below w.heap.size w W
theorem CO.below {w W W' : World} {lay : Array Value} {cl : List Int} (h : CO w lay cl W) (hb : Below W.heap.size W W') : CO w lay cl W' :=
  ⟨(hb.block _ (Array.getElem?_eq_some_iff.1 h.lay).1).trans h.lay, h.res.below hb, h.cnt.below hb, h.bel.trans (hb.mono h.bel.size)⟩
theorem CO.set {w W : World} {lay : Array Value} {cl : List Int} (h : CO w lay cl W) (i : Nat) (x : Int) : CO w lay (cl.set i x) (W.setCell ⟨w.heap.size + 1 + 1, i, none⟩ (.int .i64 x)) :=
  ⟨(heap_setCell_other _ _ _ _ (by simp; omega)).trans h.lay, (heap_setCell_other _ _ _ _ (by simp)).trans h.res, h.cnt.set i x, h.bel.setCell (p := ⟨w.heap.size + 1 + 1, i, none⟩) (by show w.heap.size ≤ w.heap.size + 1 + 1; omega) _⟩
set_option maxRecDepth 100000 in
set_option maxHeartbeats 8000000 in
theorem counts_any (w : World) (b : Nat) (v : Value) (Q : List (Nat × Nat)) (S : Nat) (hL : Lay w b v Q) (hT : TabAt 0 Lib.deBruijn32tab w) (h1 : ∀ p ∈ Q, p.1 < 32) (h2 : ∀ p ∈ Q, p.2 < 255) (hS : S ≤ 2 ^ 63 - 1) :
    Calls Tryd.prog 44 #[.agg #[.map (some b), v], .int .i64 (S : Int)] w fun e w' => ((∀ n ∈ ks Q, OkC Q S n) → e = .returned (.tuple #[.agg (ca (cnts Q (ks Q))), .int .i64 0])) ∧ ((¬ ∀ n ∈ ks Q, OkC Q S n) → e = .returned (.tuple #[.agg (ca (List.replicate 32 0)), .int .i64 230])) ∧ Below w.heap.size w w' := by
  have HQ1 := hid h1
  have HQ2 := hid h2
  have HTw := hid hT
  obtain ⟨p, c, rfl, hc1, hc2⟩ := hL.nums.open
  unfold maxLen at hc2
  have hlen := ks_len Q
  obtain ⟨ns, HNS⟩ : ∃ ns, Hid (ks Q = ns) := ⟨_, rfl⟩
  have HKL : Hid (∀ k ∈ ns, k < 255) := fun k hk => ks_lt (by rw [HNS.out]; exact hk)
  have HKM : Hid (∀ k ∈ ns, mk Q k ≠ 0) := fun k hk => by rw [← HNS.out] at hk; exact mk_zero.2 ((mem_ks h2).1 hk)
  have HLw := hid hL
  rw [HNS.out] at hlen hc1 ⊢
  obtain ⟨n, HLn⟩ : ∃ n, Hid (ns.length = n) := ⟨_, rfl⟩
  obtain ⟨W1, HW1⟩ : ∃ W1, Hid (((w.alloc (.cells #[.map (some b), .slice p n c] 59)).alloc (.cells (ca (List.replicate 32 0)) 63)).alloc (.cells (ca (List.replicate 32 0)) 63) = W1) := ⟨_, rfl⟩
  have HV1 : Hid (CO w #[.map (some b), .slice p n c] (cnts Q (ns.take 0)) W1) := by
    rw [← HW1.out, List.take_zero, cnts_nil]
    have s1 : (w.alloc (.cells #[.map (some b), .slice p n c] 59)).heap.size = w.heap.size + 1 := by simp
    have s2 : ((w.alloc (.cells #[.map (some b), .slice p n c] 59)).alloc (.cells (ca (List.replicate 32 0)) 63)).heap.size = w.heap.size + 1 + 1 := by simp
    have a1 := heap_alloc_new w (.cells #[.map (some b), .slice p n c] 59)
    have a2 := heap_alloc_new (w.alloc (.cells #[.map (some b), .slice p n c] 59)) (.cells (ca (List.replicate 32 0)) 63)
    have a3 := heap_alloc_new ((w.alloc (.cells #[.map (some b), .slice p n c] 59)).alloc (.cells (ca (List.replicate 32 0)) 63)) (.cells (ca (List.replicate 32 0)) 63)
    rw [s1] at a2
    rw [s2] at a3
    refine hid ⟨?_, ?_, a3, (((Below.refl _ w).alloc (Nat.le_refl _) _).alloc (by rw [s1]; omega) _).alloc (by rw [s2]; omega) _⟩
    · exact (Below.heap_alloc _ _ _ (by rw [s2]; omega)).trans ((Below.heap_alloc _ _ _ (by rw [s1]; omega)).trans a1)
    · exact (Below.heap_alloc _ _ _ (by rw [s2]; omega)).trans a2
  have HNN : Hid (HN w (.slice p n c) ns) := by
    have := HLw.out.nums
    rw [HNS.out, HLn.out] at this
    exact this
  have HMM : Hid (HT w b 8192 (mk Q)) := hid HLw.out.map
  rw [HLn.out] at hlen hc1 ⊢
  clear hL h1 h2 hT HLw
  go_enter Tryd.func44, Tryd.ntmps44
  refine wp_seq_k fun K0 h0 => ?_
  have H0 := hid h0
  clear h0
  go_wp2
  refine H0.out _ _ ?_
  clear H0 K0
  refine wp_seq_k fun K0 h0 => ?_
  have H0 := hid h0
  clear h0
  go_wp2
  refine H0.out _ _ ?_
  clear H0 K0
  change Code.wp _ _ _ _ (((w.alloc (.cells #[.map (some b), .slice p n c] 59)).alloc (.cells (ca (List.replicate 32 0)) 63)).alloc (.cells (ca (List.replicate 32 0)) 63))
  rw [HW1.out]
  clear HW1
  have hb1 : W1.cell? ⟨w.heap.size, 1, none⟩ = some (.slice p n c) := (cell_of_row _ _ _ _ _ _ HV1.out.lay).trans rfl
  go_wp2
  clear hb1
  go_loopw [14] (fun x wr => ∃ k : Nat, k ≤ n ∧ x = .int .i64 (k : Int) ∧ Hid (∀ y ∈ ns.take k, OkC Q S y) ∧ Hid (CO w #[.map (some b), .slice p n c] (cnts Q (ns.take k)) wr)) (fun x _ => n - (intOf x).toNat)
  case atStart => exact ⟨0, Nat.zero_le _, rfl, hid (fun y hy => absurd hy (by simp)), HV1⟩
  case round =>
    clear HV1
    obtain ⟨k, hk, rfl, HI, HV⟩ := hrel
    by_cases hlt : k < n
    · obtain ⟨b2, off, rfl, hbl, hcl⟩ := HNN.out.ne (by rw [HLn.out]; omega)
      have hcell := (HV.out.bel.cell (World.block_lt_of_cell? w _ (hcl k (by rw [HLn.out]; exact hlt)))).trans (hcl k (by rw [HLn.out]; exact hlt))
      have hk' : k < ns.length := by rw [HLn.out]; exact hlt
      have ek : ns.getD k 0 = ns[k] := by rw [List.getD_eq_getElem?_getD, List.getElem?_eq_getElem hk']; rfl
      have hmem : ns.getD k 0 ∈ ns := by rw [ek]; exact List.getElem_mem _
      have hlook := (HMM.out.below HV.out.bel).look (ns.getD k 0) (by have := HKL.out _ hmem; omega)
      have hm0 := mk_lt HQ1.out (ns.getD k 0)
      obtain ⟨hz1, -, -⟩ := ctz_low (HKM.out _ hmem) hm0
      have CT := hid (tz_any wr (mk Q (ns.getD k 0)) hm0 (tab_below HTw.out HV.out.bel))
      have CN := hid (fun W => ones_any W (mk Q (ns.getD k 0)) hm0)
      have hb0 : wr.cell? ⟨w.heap.size, 0, none⟩ = some (.map (some b)) := (cell_of_row _ _ _ _ _ _ HV.out.lay).trans rfl
      have HTK : Hid (ns.take (k + 1) = ns.take k ++ [ns.getD k 0]) := by rw [ek]; exact List.take_succ_eq_append_getElem hk'
      have HST : Hid (cnts Q (ns.take (k + 1)) = (cnts Q (ns.take k)).set (Lib.ctz 32 (mk Q (ns.getD k 0))) ((cnts Q (ns.take k)).getD (Lib.ctz 32 (mk Q (ns.getD k 0))) (-1) + 1)) := by rw [HTK.out]; exact hid (cnts_step _ _ _ hz1)
      have hle : (cnts Q (ns.take k)).getD (Lib.ctz 32 (mk Q (ns.getD k 0))) (-1) ≤ 255 ∧ 0 ≤ (cnts Q (ns.take k)).getD (Lib.ctz 32 (mk Q (ns.getD k 0))) (-1) := by
        rw [cnts_at _ _ _ hz1]
        have := Nat.le_trans (List.countP_le_length (p := fun y => decide (Lib.ctz 32 (mk Q y) = Lib.ctz 32 (mk Q (ns.getD k 0)))) (l := ns.take k)) (List.length_take_le k ns)
        omega
      have HOKC : Hid (OkC Q S (ns.getD k 0) ↔ ((List.range 32).countP fun s => (mk Q (ns.getD k 0)).testBit s) ≤ 1 ∧ Lib.ctz 32 (mk Q (ns.getD k 0)) < S) := Iff.rfl
      have HMEM := hid hmem
      obtain ⟨y, HY⟩ : ∃ y, Hid (ns.getD k 0 = y) := ⟨_, rfl⟩
      rw [HY.out] at hcell hlook hm0 hz1 CT CN HTK HST hle HOKC HMEM
      obtain ⟨mm, HM⟩ : ∃ mm, Hid (mk Q y = mm) := ⟨_, rfl⟩
      rw [HM.out] at hlook hm0 hz1 CT CN HST hle HOKC
      obtain ⟨s, HSv⟩ : ∃ s, Hid (Lib.ctz 32 mm = s) := ⟨_, rfl⟩
      rw [HSv.out] at hz1 CT HST hle HOKC
      obtain ⟨r, HRv⟩ : ∃ r, Hid (((List.range 32).countP fun s => mm.testBit s) = r) := ⟨_, rfl⟩
      rw [HRv.out] at CN HOKC
      have hr32 : r ≤ 32 := by rw [← HRv.out]; exact Nat.le_trans List.countP_le_length (by simp)
      obtain ⟨o, HO⟩ : ∃ o, Hid ((cnts Q (ns.take k)).getD s (-1) = o) := ⟨_, rfl⟩
      rw [HO.out] at HST hle
      clear hcl hmem ek
      go_wp2_with fail
      refine CT.out.mono ?_
      rintro e W2 ⟨rfl, hw2⟩
      rw [hw2]
      clear hw2 CT
      go_wp2_with fail
      refine (CN.out _).mono ?_
      rintro e W3 ⟨rfl, hd⟩
      have HV3 : Hid (CO w #[.map (some b), .slice (some ⟨b2, off, none⟩) n c] (cnts Q (ns.take k)) W3) := hid (HV.out.below (hd.below _))
      clear hd CN HV hlook hb0 hcell
      have HLEN : Hid ((cnts Q (ns.take k)).length = 32) := hid (cnts_len _ _)
      by_cases hok : r ≤ 1 ∧ s < S
      · obtain ⟨hr1, hsS⟩ := hok
        have hcc := HV3.out.cnt.cell (i := s) (by rw [HLEN.out]; exact hz1)
        rw [HO.out] at hcc
        have hfr := HV3.out.cnt.free s
        have HV4 := hid (HV3.out.set s (o + 1))
        rw [← HST.out] at HV4
        have HI4 : Hid (∀ y ∈ ns.take (k + 1), OkC Q S y) := hid (fun z hz => by
          rw [HTK.out] at hz
          rcases List.mem_append.1 hz with q | q
          · exact HI.out z q
          · rw [List.mem_singleton.1 q]; exact HOKC.out.2 ⟨hr1, hsS⟩)
        clear HV3 HI HST
        go_wp2
        exact ⟨⟨k + 1, by omega, by go_num, HI4, HV4⟩, by simp [intOf]; omega⟩
      · have HBAD : Hid (¬ ∀ z ∈ ns, OkC Q S z) := hid (fun z => hok (HOKC.out.1 (z y HMEM.out)))
        have HZ : Hid ((Tryd.prog.info? 63).map (·.size) = some (ca (List.replicate 32 0)).size) := hid (size_ct (by simp))
        have H1 : Hid ((ca (List.replicate 32 0)).all (·.oneCell') = true) := hid (ca_one _)
        have HR3 := hid HV3.out.res
        have HB3 := hid HV3.out.bel
        clear HI HST HV3 HO hle
        have hcase : 1 < r ∨ (r ≤ 1 ∧ S ≤ s) := by omega
        unfold OC at HR3
        rcases hcase with hr1 | ⟨hr1, hsS⟩
        · clear hok
          go_wp2_with (refine wpList_store_row rfl 63 _ _ rfl (w.heap.size + 1) (ca (List.replicate 32 0)) rfl rfl 63 (ca (List.replicate 32 0)) HR3.out HZ.out rfl H1.out ?_)
          refine bodyPost_ret (v := .tuple #[.agg (ca (List.replicate 32 0)), .int .i64 230]) (results_cellt (p := 4) (u := 5) (ty := 63) rfl _ _ (w.heap.size + 1) 63 (ca (List.replicate 32 0)) (0, 0) _ rfl (setRow_heap W3 (w.heap.size + 1) _ _ _ _ HR3.out) Tryd.underlying63 rfl HZ.out _ rfl) rfl ?_
          exact ⟨fun z => absurd z HBAD.out, by intros; rfl, below_setRow HB3.out (Nat.le_succ _) _⟩
        · clear hok
          go_wp2_with (refine wpList_store_row rfl 63 _ _ rfl (w.heap.size + 1) (ca (List.replicate 32 0)) rfl rfl 63 (ca (List.replicate 32 0)) HR3.out HZ.out rfl H1.out ?_)
          refine bodyPost_ret (v := .tuple #[.agg (ca (List.replicate 32 0)), .int .i64 230]) (results_cellt (p := 4) (u := 5) (ty := 63) rfl _ _ (w.heap.size + 1) 63 (ca (List.replicate 32 0)) (0, 0) _ rfl (setRow_heap W3 (w.heap.size + 1) _ _ _ _ HR3.out) Tryd.underlying63 rfl HZ.out _ rfl) rfl ?_
          exact ⟨fun z => absurd z HBAD.out, by intros; rfl, below_setRow HB3.out (Nat.le_succ _) _⟩
    · obtain rfl : k = n := by omega
      have HALL : Hid (∀ y ∈ ns, OkC Q S y) := by
        have := HI.out
        rw [List.take_of_length_le (by rw [HLn.out]; exact Nat.le_refl _)] at this
        exact this
      rw [List.take_of_length_le (by rw [HLn.out]; exact Nat.le_refl _)] at HV
      have HZ : Hid ((Tryd.prog.info? 63).map (·.size) = some (ca (cnts Q ns)).size) := hid (size_ct (cnts_len _ _))
      have H1 : Hid ((ca (cnts Q ns)).all (·.oneCell') = true) := hid (ca_one _)
      have H2 : Hid ((ca (List.replicate 32 0)).size = (ca (cnts Q ns)).size) := by rw [ca_size, ca_size, cnts_len]; exact hid rfl
      have HM := hid HV.out.cnt
      have HR := hid HV.out.res
      have HB := hid HV.out.bel
      unfold OC at HM HR
      clear HI HV
      obtain ⟨cx, HCX⟩ : ∃ cx, Hid (ca (cnts Q ns) = cx) := ⟨_, rfl⟩
      rw [HCX.out] at HM HZ H1 H2
      generalize ca (List.replicate 32 0) = c0 at HR H2
      go_wp2_with (first
        | (refine wpList_load_row rfl 63 _ rfl (w.heap.size + 1 + 1) rfl 63 cx (0, 0) _ HM.out Tryd.underlying63 rfl HZ.out ?_)
        | (refine wpList_store_row rfl 63 _ _ rfl (w.heap.size + 1) cx rfl rfl 63 c0 HR.out HZ.out H2.out H1.out ?_))
      refine bodyPost_ret (v := .tuple #[.agg cx, .int .i64 0]) (results_cellt (p := 4) (u := 5) (ty := 63) rfl _ _ (w.heap.size + 1) 63 cx (0, 0) _ rfl (setRow_heap wr (w.heap.size + 1) c0 cx _ _ HR.out) Tryd.underlying63 rfl HZ.out _ rfl) rfl ?_
      exact ⟨fun _ => by rw [HCX.out], fun z => absurd HALL.out z, below_setRow HB.out (Nat.le_succ _) _⟩
end Go.Proofs.YtlhjpflljokinaaDoor.Hz
namespace Go.Proofs.YtlhjpflljokinaaDoor.Hz
open Go Go.RowKit Go.Proofs.YtlhjpflljokinaaDoor Go.Maps Go.Proofs.YtlhjpflljokinaaDoor.Fl
theorem index_ct (w : World) (l : List Int) (hl : l.length = 32) (i : Nat) (hi : i < 32) : (Instr.index 63 (.agg (ca l)) (.int .i64 (i : Int))).run Tryd.prog w = .ok (.int .i64 (l.getD i (-1))) w := by
  have h1 : (part 3 (ca l) i).run Tryd.prog w = .ok (.int .i64 (l.getD i (-1))) w := by simp [part, ca_at l i (by omega)]
  simp [Instr.index, run_underlying Tryd.underlying63, asIntOf, h1, hi]
def cAt (Q : List (Nat × Nat)) (s : Nat) : Nat := (ks Q).countP fun n => decide (Lib.ctz 32 (mk Q n) = s)
theorem cAt_le (Q : List (Nat × Nat)) (s : Nat) : cAt Q s ≤ (ks Q).length := List.countP_le_length
theorem cnts_c (Q : List (Nat × Nat)) (s : Nat) (hs : s < 32) : (cnts Q (ks Q)).getD s (-1) = ((cAt Q s : Nat) : Int) := cnts_at Q _ s hs
def ents (Q : List (Nat × Nat)) (l : List Nat) (k : Nat) : List (Nat × Nat) := ((List.range k).filter fun s => decide (0 < cAt Q s)).map fun s => (cAt Q s, l.getD s 0)
theorem ents_pos {Q : List (Nat × Nat)} {l : List Nat} {k : Nat} (h : 0 < cAt Q k) : ents Q l (k + 1) = ents Q l k ++ [(cAt Q k, l.getD k 0)] := by
  unfold ents
  rw [List.range_succ, List.filter_append, List.map_append]
  simp [h]
theorem ents_zero {Q : List (Nat × Nat)} {l : List Nat} {k : Nat} (h : ¬ 0 < cAt Q k) : ents Q l (k + 1) = ents Q l k := by
  unfold ents
  rw [List.range_succ, List.filter_append, List.map_append]
  simp [h]
theorem cAt_below {Q : List (Nat × Nat)} {S s : Nat} (h : ∀ n ∈ ks Q, OkC Q S n) (hs : 0 < cAt Q s) : s < S := by
  obtain ⟨n, hn, e⟩ := List.countP_pos_iff.1 hs
  rw [← of_decide_eq_true e]
  exact (h n hn).2
theorem getD_mem {l : List Nat} {k : Nat} (hk : k < l.length) : l.getD k 0 ∈ l := by
  rw [List.getD_eq_getElem?_getD, List.getElem?_eq_getElem hk]
  exact List.getElem_mem _
theorem ents_sz {Q : List (Nat × Nat)} {l : List Nat} (hc : ∀ n ∈ ks Q, OkC Q l.length n) (hz : ∀ x ∈ l, Sz x) (k : Nat) : ∀ e ∈ ents Q l k, Sz e.2 := fun e he => by
  obtain ⟨s, hs, rfl⟩ := List.mem_map.1 he
  exact hz _ (getD_mem (cAt_below hc (of_decide_eq_true (List.mem_filter.1 hs).2)))
def LaQ (ps : List Pr) (l : List Nat) (k : Int) (e : Ending) : Prop :=
  (mayL ps = false → e = .returned (.tuple #[.float .f64 0, .int .i64 230])) ∧
  (mayL ps = true → (¬ ∀ n ∈ ks (ps.map natP), OkC (ps.map natP) l.length n) → e = .returned (.tuple #[.float .f64 0, .int .i64 230])) ∧
  (mayL ps = true → (∀ n ∈ ks (ps.map natP), OkC (ps.map natP) l.length n) → azB l = false → e = .returned (.tuple #[.float .f64 0, .int .i64 231])) ∧
  (mayL ps = true → (∀ n ∈ ks (ps.map natP), OkC (ps.map natP) l.length n) → azB l = true → e = .returned (.tuple #[.float .f64 (tot k.toNat (tab (ks (ps.map natP)).length (ents (ps.map natP) l 32))), .int .i64 0]))
set_option maxRecDepth 100000 in
set_option maxHeartbeats 8000000 in
theorem lasts_any (w : World) (v vf : Value) (ps : List Pr) (l : List Nat) (k : Int) (hP : HP w v ps) (hF : HF w vf l) (hT : TabAt 0 Lib.deBruijn32tab w) :
    Calls Tryd.prog 19 #[v, vf, .int .i64 k] w fun e w' => LaQ ps l k e ∧ Below w.heap.size w w' := by
  have CL := hid (lay_any w v ps hP)
  have HTw := hid hT
  have HFw := hid hF
  obtain ⟨p0, c0, ev, -, -⟩ := hP.open
  generalize ps.length = n0 at ev
  subst ev
  obtain ⟨pf, cf, ev, hcf1, hcf2⟩ := hF.open
  unfold maxLen at hcf2
  obtain ⟨nf, HNF⟩ : ∃ nf, Hid (l.length = nf) := ⟨_, rfl⟩
  rw [HNF.out] at ev hcf1
  subst ev
  clear hP hT hF
  go_enter Tryd.func19, Tryd.ntmps19
  go_wp2_with fail
  refine CL.out.mono ?_
  rintro e W2 ⟨hg, hbd, hb2⟩
  have HB2 := hid hb2
  have HT2 := hid (tab_below HTw.out hb2)
  clear hb2 CL
  cases hm : mayL ps with
  | false =>
    have hbd' := hbd hm
    subst hbd'
    clear hg hbd
    have HM := hid hm
    clear hm
    have HB3 : Hid (Below w.heap.size w (W2.alloc (.cells #[.map none, .slice none 0 0] 59))) := hid (HB2.out.alloc HB2.out.size _)
    go_wp2
    go_ret2
    exact ⟨⟨fun _ => rfl, (fun z => by rw [HM.out] at z; cases z), (fun z => by rw [HM.out] at z; cases z), (fun z => by rw [HM.out] at z; cases z)⟩, HB3.out⟩
  | true =>
    obtain ⟨b, vs, hey, hL⟩ := hg hm
    subst hey
    obtain ⟨p, c, ev, -, -⟩ := hL.nums.open
    have hkl := ks_len (ps.map natP)
    obtain ⟨nn, HNN⟩ : ∃ nn, Hid ((ks (ps.map natP)).length = nn) := ⟨_, rfl⟩
    rw [HNN.out] at ev hkl
    subst ev
    have HALL := hid (mayL_all hm)
    have HM := hid hm
    have HL := hid hL
    clear hg hbd hm hL
    obtain ⟨W3, HW3⟩ : ∃ W3, Hid (W2.alloc (.cells #[.map (some b), .slice p nn c] 59) = W3) := ⟨_, rfl⟩
    have HB23 : Hid (Below W2.heap.size W2 W3) := by rw [← HW3.out]; exact hid ((Below.refl _ W2).alloc (Nat.le_refl _) _)
    have HC3 : Hid (W3.heap[W2.heap.size]? = some (.cells #[.map (some b), .slice p nn c] 59 (0, 0))) := by rw [← HW3.out]; exact heap_alloc_new W2 _
    have HB3 : Hid (Below w.heap.size w W3) := hid (HB2.out.trans (HB23.out.mono HB2.out.size))
    have CC := hid (counts_any W3 b (.slice p nn c) (ps.map natP) nf (HL.out.below HB23.out) (tab_below HT2.out HB23.out) (mayL_lt HALL.out).1 (mayL_lt HALL.out).2 (by omega))
    obtain ⟨g0, HG0⟩ : ∃ g, Hid (W2.heap.size = g) := ⟨_, rfl⟩
    rw [HG0.out] at HC3
    go_wp2_with fail
    rw [HW3.out, HG0.out]
    refine CC.out.mono ?_
    rintro e W4 ⟨hok, hbad, hb4⟩
    have HB4 : Hid (Below w.heap.size w W4) := hid (HB3.out.trans (hb4.mono HB3.out.size))
    have HC4 : Hid (W4.heap[g0]? = some (.cells #[.map (some b), .slice p nn c] 59 (0, 0))) := hid ((hb4.block _ (Array.getElem?_eq_some_iff.1 HC3.out).1).trans HC3.out)
    clear hb4 CC HC3
    obtain ⟨g1, HG1⟩ : ∃ g, Hid (W4.heap.size = g) := ⟨_, rfl⟩
    have HN4 : Hid ((W4.alloc (.cells (ca (List.replicate 32 0)) 63)).heap[g1]? = some (.cells (ca (List.replicate 32 0)) 63 (0, 0))) := by rw [← HG1.out]; exact hid (heap_alloc_new W4 _)
    have HB45 : Hid (∀ cl, Below W4.heap.size W4 ((W4.alloc (.cells (ca (List.replicate 32 0)) 63)).setRow g1 cl)) := by rw [← HG1.out]; exact hid (fun cl => below_setRow ((Below.refl _ W4).alloc (Nat.le_refl _) _) (Nat.le_refl _) _)
    by_cases hC : ∀ n ∈ ks (ps.map natP), OkC (ps.map natP) nf n
    · have e1 := hok hC
      subst e1
      clear hok hbad
      have HCC := hid hC
      clear hC
      have HZ : Hid ((Tryd.prog.info? 63).map (·.size) = some (ca (cnts (ps.map natP) (ks (ps.map natP)))).size) := hid (size_ct (cnts_len _ _))
      have H1 : Hid ((ca (cnts (ps.map natP) (ks (ps.map natP)))).all (·.oneCell') = true) := hid (ca_one _)
      have H2 : Hid ((ca (List.replicate 32 0)).size = (ca (cnts (ps.map natP) (ks (ps.map natP)))).size) := by rw [ca_size, ca_size, cnts_len]; exact hid rfl
      have HIX := hid (fun (W : World) (i : Nat) (hi : i < 32) => (index_ct W (cnts (ps.map natP) (ks (ps.map natP))) (cnts_len _ _) i hi).trans (by rw [cnts_c _ _ hi]))
      obtain ⟨cl, HCL⟩ : ∃ cl, Hid (ca (cnts (ps.map natP) (ks (ps.map natP))) = cl) := ⟨_, rfl⟩
      rw [HCL.out] at HZ H1 H2 HIX ⊢
      obtain ⟨W5, HW5⟩ : ∃ W5, Hid ((W4.alloc (.cells #[.int .i64 0, .int .i64 0, .int .i64 0, .int .i64 0, .int .i64 0, .int .i64 0, .int .i64 0, .int .i64 0, .int .i64 0, .int .i64 0, .int .i64 0, .int .i64 0, .int .i64 0, .int .i64 0, .int .i64 0, .int .i64 0, .int .i64 0, .int .i64 0, .int .i64 0, .int .i64 0, .int .i64 0, .int .i64 0, .int .i64 0, .int .i64 0, .int .i64 0, .int .i64 0, .int .i64 0, .int .i64 0, .int .i64 0, .int .i64 0, .int .i64 0, .int .i64 0] 63)).setRow g1 cl = W5) := ⟨_, rfl⟩
      have HB5 : Hid (Below w.heap.size w W5) := by rw [← HW5.out]; exact hid (HB4.out.trans ((HB45.out cl).mono HB4.out.size))
      have HC5 : Hid (W5.heap[g0]? = some (.cells #[.map (some b), .slice p nn c] 59 (0, 0))) := by rw [← HW5.out]; exact hid (((HB45.out cl).block _ (Array.getElem?_eq_some_iff.1 HC4.out).1).trans HC4.out)
      have HD5 : Hid (W5.heap[g1]? = some (.cells cl 63 (0, 0))) := by rw [← HW5.out]; exact hid (setRow_heap _ _ _ cl _ _ HN4.out)
      have HF5 := hid (HFw.out.below HB5.out)
      have CA := hid (areOdds_any W5 _ l HF5.out)
      have hq1 : W5.cell? ⟨g0, 1, none⟩ = some (.slice p nn c) := (cell_of_row _ _ _ _ _ _ HC5.out).trans rfl
      go_wp2_with (first | (rw [HG1.out]; refine wpList_store_row rfl 63 _ _ rfl g1 cl rfl rfl 63 (ca (List.replicate 32 0)) HN4.out HZ.out H2.out H1.out ?_; rw [HW5.out]) | fail)
      refine CA.out.mono ?_
      rintro e W6 ⟨rfl, hw6⟩
      rw [hw6]
      clear hw6 CA
      cases hz : azB l with
      | false =>
        have HAZ := hid hz
        clear hz
        go_wp2
        go_ret2
        exact ⟨⟨(fun z => by rw [HM.out] at z; cases z), (fun _ z => absurd (by rw [HNF.out]; exact HCC.out) z), (fun _ _ _ => rfl), (fun _ _ z => by rw [HAZ.out] at z; cases z)⟩, HB5.out⟩
      | true =>
        have HAZ := hid hz
        have HSZ : Hid (∀ x ∈ l, Sz x) := fun x hx => (szB_iff (HFw.out.2 x hx)).1 (List.all_eq_true.1 hz x hx)
        clear hz
        have CT := hid (newTally_any W5 nn (by omega))
        go_wp2_with fail
        refine CT.out.mono ?_
        rintro e W7 ⟨rfl, hO7, hB7⟩
        have HD7 : Hid (W7.heap[g1]? = some (.cells cl 63 (0, 0))) := hid ((hB7.block _ (Array.getElem?_eq_some_iff.1 HD5.out).1).trans HD5.out)
        have HB7 : Hid (Below w.heap.size w W7) := hid (HB5.out.trans (hB7.mono HB5.out.size))
        have HGT : Hid (w.heap.size ≤ W5.heap.size) := hid HB5.out.size
        have HO7 : Hid (OF W7 W5.heap.size (tab nn (ents (ps.map natP) l 0))) := hid hO7
        clear hO7 hB7 CT hq1 HC5 HD5 HF5 HW5
        obtain ⟨gt, HGG⟩ : ∃ gt, Hid (W5.heap.size = gt) := ⟨_, rfl⟩
        rw [HGG.out] at HO7 HGT ⊢
        obtain ⟨Q, HQ⟩ : ∃ Q, Hid (ps.map natP = Q) := ⟨_, rfl⟩
        rw [HQ.out] at HO7 HCC HNN HIX
        go_wp2_with (first | (refine wpList_load_row rfl 63 _ rfl g1 rfl 63 cl (0, 0) _ HD7.out Tryd.underlying63 rfl HZ.out ?_) | fail)
        go_loopw [40] (fun x wr => ∃ i : Nat, i ≤ 32 ∧ x = .int .i64 (i : Int) ∧ Hid (OF wr gt (tab nn (ents Q l i))) ∧ Hid (Below w.heap.size w wr)) (fun x _ => 32 - (intOf x).toNat)
        case atStart => exact ⟨0, Nat.zero_le _, rfl, HO7, HB7⟩
        case round =>
          clear HO7 HB7 HD7
          obtain ⟨i, hi, rfl, HO, HB⟩ := hrel
          have HSM : Hid (AllSm (tab nn (ents Q l i))) := hid (tab_sm nn _ (ents_sz (by rw [HNF.out]; exact HCC.out) HSZ.out i))
          by_cases hlt : i < 32
          · have hix := fun W => HIX.out W i hlt
            by_cases hpos : 0 < cAt Q i
            · have hS := cAt_below HCC.out hpos
              have hcl := cAt_le Q i
              rw [HNN.out] at hcl
              have HE : Hid (ents Q l (i + 1) = ents Q l i ++ [(cAt Q i, l.getD i 0)]) := hid (ents_pos hpos)
              obtain ⟨bf, off, c', ev, hq1, hq2, hcf⟩ := HFw.out.ne (by rw [HNF.out]; omega)
              simp only [Value.slice.injEq] at ev
              obtain ⟨rfl, e2, rfl⟩ := ev
              have hcell := (HB.out.cell (World.block_lt_of_cell? w _ (hcf i (by rw [HNF.out]; exact hS)))).trans (hcf i (by rw [HNF.out]; exact hS))
              have hsz := HSZ.out _ (getD_mem (l := l) (k := i) (by rw [HNF.out]; exact hS))
              have HTE : Hid (rowOf (cAt Q i) (l.getD i 0) (tab nn (ents Q l i)) = tab nn (ents Q l (i + 1))) := hid (by
                rw [HE.out]
                unfold tab
                rw [List.foldl_append]
                rfl)
              have CC := countIn_any wr gt _ (cAt Q i) (l.getD i 0) HO.out HSM.out hsz hpos (by rw [tab_len]; omega) (by rw [tab_len]; omega) (B := w.heap.size) HGT.out
              rw [HTE.out, tab_len] at CC
              generalize l.getD i 0 = x at hcell CC
              generalize cAt Q i = ci at hix hpos hcl CC
              have CX := hid CC
              clear CC hcf e2 hq1 hq2 HE HTE hsz HSM
              go_wp2_with fail
              refine CX.out.mono ?_
              rintro e W8 ⟨rfl, hO8, hB8⟩
              have HO8 := hid hO8
              have HB8 := hid (HB.out.trans hB8)
              clear hO8 hB8 CX
              go_wp2
              exact ⟨⟨i + 1, by omega, by go_num, HO8, HB8⟩, by simp [intOf]; omega⟩
            · have HE : Hid (ents Q l (i + 1) = ents Q l i) := hid (ents_zero hpos)
              generalize cAt Q i = ci at hix hpos
              go_wp2
              exact ⟨⟨i + 1, by omega, by go_num, by rw [HE.out]; exact HO, HB⟩, by simp [intOf]; omega⟩
          · obtain rfl : i = 32 := by omega
            have CC := atLeast_any wr gt _ k HO.out HSM.out (by rw [tab_len]; omega) (by rw [tab_len]; omega)
            rw [tab_len] at CC
            have CX := hid CC
            clear CC HSM
            obtain ⟨tt, HTT⟩ : ∃ tt, Hid (tot k.toNat (tab nn (ents Q l 32)) = tt) := ⟨_, rfl⟩
            rw [HTT.out] at CX
            go_wp2_with fail
            refine CX.out.mono ?_
            rintro e W8 ⟨rfl, hw8⟩
            rw [hw8]
            clear hw8 CX
            go_wp2
            go_ret2
            refine ⟨⟨(fun z => by rw [HM.out] at z; cases z), (fun _ z => absurd (by rw [HNF.out, HQ.out]; exact HCC.out) z), (fun _ _ z => by rw [HAZ.out] at z; cases z), (fun _ _ _ => ?_)⟩, HB.out⟩
            rw [HQ.out, HNN.out, HTT.out]
            rfl
    · have e1 := hbad hC
      subst e1
      clear hok hbad
      have HCC := hid hC
      clear hC
      have HZ : Hid ((Tryd.prog.info? 63).map (·.size) = some (ca (List.replicate 32 0)).size) := hid (size_ct (by simp))
      have H1 : Hid ((ca (List.replicate 32 0)).all (·.oneCell') = true) := hid (ca_one _)
      obtain ⟨W5, HW5⟩ : ∃ W5, Hid ((W4.alloc (.cells #[.int .i64 0, .int .i64 0, .int .i64 0, .int .i64 0, .int .i64 0, .int .i64 0, .int .i64 0, .int .i64 0, .int .i64 0, .int .i64 0, .int .i64 0, .int .i64 0, .int .i64 0, .int .i64 0, .int .i64 0, .int .i64 0, .int .i64 0, .int .i64 0, .int .i64 0, .int .i64 0, .int .i64 0, .int .i64 0, .int .i64 0, .int .i64 0, .int .i64 0, .int .i64 0, .int .i64 0, .int .i64 0, .int .i64 0, .int .i64 0, .int .i64 0, .int .i64 0] 63)).setRow g1 (ca (List.replicate 32 0)) = W5) := ⟨_, rfl⟩
      have HB5 : Hid (Below w.heap.size w W5) := by rw [← HW5.out]; exact hid (HB4.out.trans ((HB45.out _).mono HB4.out.size))
      go_wp2_with (first | (rw [HG1.out]; refine wpList_store_row rfl 63 _ _ rfl g1 (ca (List.replicate 32 0)) rfl rfl 63 (ca (List.replicate 32 0)) HN4.out HZ.out rfl H1.out ?_; rw [HW5.out]) | fail)
      go_ret2
      exact ⟨⟨(fun z => by rw [HM.out] at z; cases z), (fun _ _ => rfl), (fun _ z => absurd (by rw [HNF.out] at z; exact z) HCC.out), (fun _ z => absurd (by rw [HNF.out] at z; exact z) HCC.out)⟩, HB5.out⟩
theorem order_self {a : Nat} (ha : a < INF) : FloatKind.f64.format.order a a = some .eq := by
  show Ieee.double.order a a = some .eq
  rw [order_fin ha ha, Nat.compare_eq_eq.2 rfl]
theorem order_eq {a b : Nat} (ha : a < INF) (hb : b < INF) (h : FloatKind.f64.format.order a b = some .eq) : a = b := by
  have h' : Ieee.double.order a b = some .eq := h
  rw [order_fin ha hb, Option.some.injEq, Nat.compare_eq_eq] at h'
  rcases Nat.lt_trichotomy a b with q | q | q
  · have := val_lt hb q; omega
  · exact q
  · have := val_lt ha q; omega
theorem zero_fin : 0 < INF := by unfold INF; omega
theorem sz_zero {x : Nat} (hx : Sz x) (h : FloatKind.f64.format.order x 0 = some .eq) : x = 0 ∨ x = NZ := by
  rcases hx with q | q
  · exact .inl (order_eq (q.fin (by omega)) zero_fin h)
  · exact .inr q
theorem sz_one {x : Nat} (hx : Sz x) (h : FloatKind.f64.format.order x 4607182418800017408 = some .eq) : x = ONE := by
  rcases hx with q | q
  · exact order_eq (q.fin (by omega)) one_fin h
  · subst q
    exact absurd h (by decide +kernel)
theorem div_10 : Ieee.double.div ONE 0 = some INF := by decide +kernel
theorem order_inf : FloatKind.f64.format.order INF INF = some .eq := by decide +kernel
theorem run_quo10 (w : World) (t : TypeId) : (binOp .quo t (.float .f64 4607182418800017408) (.float .f64 0)).run Tryd.prog w = .ok (.float .f64 INF) w := run_float_arith w .quo t .f64 ONE 0 _ div_10
set_option maxRecDepth 100000 in
set_option maxHeartbeats 2000000 in
theorem sameFloat_any (w : World) (a : Nat) (ha : a < INF) :
    Calls Tryd.prog 18 #[.float .f64 a, .float .f64 a] w fun e w' => e = .returned (.bool true) ∧ w' = w := by
  have h1 := order_self ha
  by_cases h0 : a = 0
  · subst h0
    have q := run_quo10 w
    have q2 := order_inf
    clear ha
    go_enter Tryd.func18, Tryd.ntmps18
    go_wp2
    go_ret
    exact ⟨rfl, rfl⟩
  · have h2 : ¬ FloatKind.f64.format.order a 0 = some .eq := fun h => h0 (order_eq ha zero_fin h)
    clear ha
    go_enter Tryd.func18, Tryd.ntmps18
    go_wp2
    go_ret
    exact ⟨rfl, rfl⟩
def flv (l : List Nat) : List Value := l.map fun x => Value.float .f64 x
theorem flv_len (l : List Nat) : (flv l).length = l.length * 1 := by simp [flv]
theorem flv_one (l : List Nat) : ∀ u ∈ flv l, u.oneCell' = true := fun u hu => by
  obtain ⟨x, _, rfl⟩ := List.mem_map.1 hu
  rfl
theorem flv_at (l : List Nat) (j : Nat) (hj : j < l.length) : (flv l)[j]? = some (.float .f64 (l.getD j 0)) := by simp [flv, List.getD, List.getElem?_eq_getElem hj]
theorem wpList_append_fls {w : World} {ops : Array Oper} {rest : List Oper} {o : Oper} {a : Act} {Q : Exit → Act → World → Prop} (hgd : o.guard = none) (s x : Operand)
    (ho : o.op = .call { callee := .builtin .append, args := #[s, x], argTypes := #[26, 26] })
    (base : Nat) (v : Value) (k : Nat) (xs : List Value) (hs : a.eval s = v) (hown : w.ownsRow base 40 1 v k xs)
    (u : Value) (l : List Nat) (hx : a.eval x = u) (hu : HF w u l) (hbytes : (k + l.length) * 8 ≤ 140737488355328) (hbase : base ≤ w.heap.size)
    (h : ∀ v' w', w'.ownsRow base 40 1 v' (k + l.length) (xs ++ flv l) → w.grownBy w' v.ownBlock → wpList Tryd.prog ops Q rest (a.put o.dst v') w') : wpList Tryd.prog ops Q (o :: rest) a w := by
  obtain ⟨i0, hi, hz0, hz1, hz2⟩ := info_parts info_f64
  obtain ⟨⟨p, c, rfl, hlc, hm, hn0, hcell⟩, _⟩ := hu
  cases p with
  | none =>
    have hc0 := hn0 rfl
    subst hc0
    have e : l = [] := List.length_eq_zero_iff.1 (by omega)
    subst e
    refine wpList_append_own_none hgd s x 26 ho base 40 i0 1 Tryd.underlying26 hi v k xs hs hown hx ?_
    exact h v w (by simpa [flv] using hown) ⟨rfl, rfl, rfl, Nat.le_refl _, fun _ _ _ => rfl⟩
  | some ad =>
    refine wpList_append_own w hgd s x 26 ho base 40 i0 (.float .f64 0) 1 8 Tryd.underlying26 hi hz0 hz1 hz2 rfl (by decide) v k xs hs hown ad l.length c (flv l) hx (flv_len _) ?_ (flv_one l) (by unfold maxLen; omega) hbytes hbase (fun v' w' h1 h2 _ => h v' w' h1 h2)
    intro j y hj
    have hne : l ≠ [] := fun e => by subst e; cases hj
    obtain ⟨b, off, e, hh⟩ := hcell hne
    cases e
    rw [Go.WideShapes.add_plain]
    have hjl : j < l.length := by have := (List.getElem?_eq_some_iff.1 hj).1; rwa [flv_len, Nat.mul_one] at this
    rw [hh j hjl, ← flv_at l j hjl, hj]
theorem HF.of_own {w : World} {B : Nat} {v : Value} {l : List Nat} (h : w.ownsRow B 40 1 v l.length (flv l)) (hb : ∀ x ∈ l, x < 18446744073709551616) : HF w v l := by
  refine ⟨?_, hb⟩
  have hc := @World.ownsRow.cells w B 40 1 v l.length (flv l) h
  rcases h.2 with ⟨rfl, e0⟩ | ⟨g, cap, cur, rfl, hB, _, hn, hm, _, _⟩
  · have e : l = [] := List.length_eq_zero_iff.1 e0
    subst e
    exact ⟨none, 0, rfl, Nat.le_refl _, Nat.zero_le _, fun _ => rfl, fun h => absurd rfl h⟩
  · refine ⟨_, cap, rfl, hn, hm, (fun e => by cases e), fun _ => ⟨g, 0, rfl, fun j hj => ?_⟩⟩
    have q1 := @hc g rfl j _ (flv_at l j hj)
    rw [Go.WideShapes.add_plain] at q1
    exact q1
theorem HF.take {w : World} {p : Option Addr} {n c : Nat} {l : List Nat} (h : HF w (.slice p n c) l) (m : Nat) (hm : m ≤ l.length) : HF w (.slice p m c) (l.take m) := by
  obtain ⟨⟨p', c', h1, h2, h3, h6, h4⟩, h5⟩ := h
  simp only [Value.slice.injEq] at h1
  obtain ⟨rfl, _, rfl⟩ := h1
  have hl : (l.take m).length = m := by rw [List.length_take]; omega
  refine ⟨⟨p, c, by rw [hl], by rw [hl]; omega, h3, h6, fun hne => ?_⟩, fun x hx => h5 x (List.mem_of_mem_take hx)⟩
  obtain ⟨b, off, e, hh⟩ := h4 (fun e => hne (by rw [e]; simp))
  refine ⟨b, off, e, fun j hj => ?_⟩
  rw [hl] at hj
  rw [hh j (by omega)]
  congr 2
  simp [List.getD, List.getElem?_take, hj]
def HBr (w : World) (v : Value) (l : List Bool) : Prop :=
  ∃ (p : Option Addr) (c : Nat), v = .slice p l.length c ∧ l.length ≤ c ∧ c ≤ maxLen ∧ (0 < l.length → ∃ b off, p = some ⟨b, off, none⟩ ∧ ∀ j, j < l.length → w.cell? ⟨b, off + j, none⟩ = some (.bool (l.getD j false)))
def chs (bs : List Bool) (s : Nat) : List Nat := (List.range s).filter fun i => bs.getD i false
theorem chs_yes {bs : List Bool} {s : Nat} (h : bs.getD s false = true) : chs bs (s + 1) = chs bs s ++ [s] := by
  unfold chs
  rw [List.range_succ, List.filter_append, List.filter_cons, if_pos h]
  rfl
theorem chs_no {bs : List Bool} {s : Nat} (h : bs.getD s false = false) : chs bs (s + 1) = chs bs s := by
  unfold chs
  rw [List.range_succ, List.filter_append, List.filter_cons, if_neg (by rw [h]; decide), List.filter_nil, List.append_nil]
theorem mem_chs {bs : List Bool} {s i : Nat} : i ∈ chs bs s ↔ i < s ∧ bs.getD i false = true := by
  unfold chs
  rw [List.mem_filter, List.mem_range]
theorem chs_srt (bs : List Bool) (s : Nat) : (chs bs s).Pairwise (· < ·) := List.pairwise_lt_range.sublist (List.filter_sublist ..)
theorem chs_len (bs : List Bool) (s : Nat) : (chs bs s).length ≤ s := Nat.le_trans (List.length_filter_le ..) (by simp)
def chP (bs : List Bool) (s : Nat) : List Pr := (chs bs s).map fun i : Nat => ((i : Int), 2 * (i : Int) + 1)
def chF (bs : List Bool) (l : List Nat) (s : Nat) : List Nat := (chs bs s).map fun i => l.getD i 0
def chQ (bs : List Bool) (s : Nat) : List (Nat × Nat) := (chs bs s).map fun i => (i, 2 * i + 1)
theorem chP_nat (bs : List Bool) (s : Nat) : (chP bs s).map natP = chQ bs s := by
  unfold chP chQ
  rw [List.map_map]
  refine List.map_congr_left fun i _ => ?_
  simp only [Function.comp, natP, Prod.mk.injEq]
  omega
theorem chP_may (bs : List Bool) (s : Nat) (hs : s ≤ 32) : mayL (chP bs s) = true := by
  unfold mayL
  rw [Bool.and_eq_true]
  refine ⟨decide_eq_true ?_, List.all_eq_true.2 fun p hp => ?_⟩
  · have := chs_len bs s
    unfold chP
    rw [List.length_map]
    omega
  · obtain ⟨i, hi, rfl⟩ := List.mem_map.1 hp
    have := (mem_chs.1 hi).1
    exact mayP_iff.2 ⟨by simp only []; omega, by simp only []; omega, by simp only []; omega, by simp only []; omega⟩
theorem mem_chQ {bs : List Bool} {s a b : Nat} : (a, b) ∈ chQ bs s ↔ a ∈ chs bs s ∧ b = 2 * a + 1 := by
  unfold chQ
  rw [List.mem_map]
  constructor
  · rintro ⟨i, hi, e⟩
    rw [Prod.mk.injEq] at e
    obtain ⟨rfl, rfl⟩ := e
    exact ⟨hi, rfl⟩
  · rintro ⟨h, rfl⟩
    exact ⟨a, h, rfl⟩
theorem chQ_lt {bs : List Bool} {s : Nat} (hs : s ≤ 32) : ∀ p ∈ chQ bs s, p.1 < 32 ∧ p.2 < 255 := fun ⟨a, b⟩ hp => by
  obtain ⟨h1, rfl⟩ := mem_chQ.1 hp
  have := (mem_chs.1 h1).1
  simp only []
  omega
theorem srt_ext : ∀ {a b : List Nat}, a.Pairwise (· < ·) → b.Pairwise (· < ·) → (∀ x, x ∈ a ↔ x ∈ b) → a = b
  | [], [], _, _, _ => rfl
  | [], y :: b, _, _, h => absurd ((h y).2 List.mem_cons_self) (by simp)
  | x :: a, [], _, _, h => absurd ((h x).1 List.mem_cons_self) (by simp)
  | x :: a, y :: b, ha, hb, h => by
    obtain ⟨ha1, ha2⟩ := List.pairwise_cons.1 ha
    obtain ⟨hb1, hb2⟩ := List.pairwise_cons.1 hb
    have e : x = y := by
      rcases List.mem_cons.1 ((h x).1 List.mem_cons_self) with q | q
      · exact q
      · rcases List.mem_cons.1 ((h y).2 List.mem_cons_self) with q' | q'
        · exact q'.symm
        · have := hb1 x q; have := ha1 y q'; omega
    subst e
    congr 1
    refine srt_ext ha2 hb2 fun z => ⟨fun hz => ?_, fun hz => ?_⟩
    · rcases List.mem_cons.1 ((h z).1 (List.mem_cons_of_mem _ hz)) with q | q
      · have := ha1 z hz; omega
      · exact q
    · rcases List.mem_cons.1 ((h z).2 (List.mem_cons_of_mem _ hz)) with q | q
      · have := hb1 z hz; omega
      · exact q
theorem chQ_ks {bs : List Bool} {s : Nat} (hs : s ≤ 32) : ks (chQ bs s) = (chs bs s).map fun i => 2 * i + 1 := by
  refine srt_ext (ks_srt _) (List.pairwise_map.2 ((chs_srt bs s).imp fun h => by omega)) fun x => ?_
  rw [mem_ks (fun p hp => (chQ_lt hs p hp).2), List.mem_map]
  constructor
  · rintro ⟨a, ha⟩
    obtain ⟨h1, h2⟩ := mem_chQ.1 ha
    exact ⟨a, h1, h2.symm⟩
  · rintro ⟨a, h1, h2⟩
    exact ⟨a, mem_chQ.2 ⟨h1, h2.symm⟩⟩
theorem chQ_bit {bs : List Bool} {s i j : Nat} (hi : i ∈ chs bs s) : (mk (chQ bs s) (2 * i + 1)).testBit j = decide (j = i) := by
  rw [mk_bit]
  refine decide_eq_decide.2 ⟨fun h => ?_, fun h => ?_⟩
  · have := (mem_chQ.1 h).2; omega
  · rw [h]; exact mem_chQ.2 ⟨hi, rfl⟩
theorem chQ_ctz {bs : List Bool} {s i : Nat} (hs : s ≤ 32) (hi : i ∈ chs bs s) : Lib.ctz 32 (mk (chQ bs s) (2 * i + 1)) = i := by
  have h0 : mk (chQ bs s) (2 * i + 1) ≠ 0 := mk_zero.2 ⟨i, mem_chQ.2 ⟨hi, rfl⟩⟩
  obtain ⟨_, h2, _⟩ := ctz_low h0 (mk_lt (fun p hp => (chQ_lt hs p hp).1) _)
  rw [chQ_bit hi] at h2
  exact of_decide_eq_true h2
theorem chQ_ok {bs : List Bool} {s : Nat} (hs : s ≤ 32) : ∀ n ∈ ks (chQ bs s), OkC (chQ bs s) s n := fun n hn => by
  rw [chQ_ks hs, List.mem_map] at hn
  obtain ⟨i, hi, rfl⟩ := hn
  refine ⟨?_, by rw [chQ_ctz hs hi]; exact (mem_chs.1 hi).1⟩
  have e : ((List.range 32).countP fun j => (mk (chQ bs s) (2 * i + 1)).testBit j) = (List.range 32).countP fun j => decide (j = i) := List.countP_congr fun j _ => by rw [chQ_bit hi]
  rw [e]
  have := (mem_chs.1 hi).1
  have hall : ∀ i, i < 32 → ((List.range 32).countP fun j => decide (j = i)) ≤ 1 := by decide
  exact hall i (by omega)
theorem count1 : ∀ {l : List Nat} {j : Nat}, l.Pairwise (· < ·) → j ∈ l → (l.countP fun i => decide (i = j)) = 1
  | [], _, _, h => by cases h
  | x :: l, j, h, hm => by
    obtain ⟨h1, h2⟩ := List.pairwise_cons.1 h
    rw [List.countP_cons]
    by_cases q : x = j
    · subst q
      have : (l.countP fun i => decide (i = x)) = 0 := by
        rw [List.countP_eq_zero]
        intro i hi
        have := h1 i hi
        simp only [decide_eq_true_eq]
        omega
      rw [this]
      simp
    · rw [count1 h2 ((List.mem_cons.1 hm).resolve_left fun e => q e.symm), if_neg (by simpa using q)]
theorem chQ_cAt {bs : List Bool} {s : Nat} (hs : s ≤ 32) (j : Nat) : cAt (chQ bs s) j = if j ∈ chs bs s then 1 else 0 := by
  unfold cAt
  rw [chQ_ks hs, List.countP_map]
  have e : ((chs bs s).countP ((fun n => decide (Lib.ctz 32 (mk (chQ bs s) n) = j)) ∘ fun i => 2 * i + 1)) = (chs bs s).countP fun i => decide (i = j) := List.countP_congr fun i hi => by
    simp only [Function.comp]
    rw [chQ_ctz hs hi]
  rw [e]
  by_cases h : j ∈ chs bs s
  · rw [if_pos h]
    exact count1 (chs_srt bs s) h
  · rw [if_neg h, List.countP_eq_zero]
    intro i hi
    simp only [decide_eq_true_eq]
    exact fun e => h (e ▸ hi)
theorem chQ_ents {bs : List Bool} {l : List Nat} {s : Nat} (hs : s ≤ 32) : ents (chQ bs s) l 32 = (chF bs l s).map fun x => (1, x) := by
  unfold ents chF
  rw [List.map_map]
  have e : ((List.range 32).filter fun j => decide (0 < cAt (chQ bs s) j)) = chs bs s := by
    refine srt_ext (List.pairwise_lt_range.sublist (List.filter_sublist ..)) (chs_srt bs s) fun x => ?_
    rw [List.mem_filter, List.mem_range, decide_eq_true_eq, chQ_cAt hs]
    constructor
    · rintro ⟨_, h⟩
      by_cases q : x ∈ chs bs s
      · exact q
      · rw [if_neg q] at h; omega
    · intro h
      rw [if_pos h]
      have := (mem_chs.1 h).1
      omega
  rw [e]
  refine List.map_congr_left fun i hi => ?_
  rw [chQ_cAt hs, if_pos hi]
  rfl
end Go.Proofs.YtlhjpflljokinaaDoor.Hz
namespace Go.Proofs.YtlhjpflljokinaaDoor
open Go.ChangeShapes Go.WideShapes Go.ChangeAt Go.RowKit Hz
variable {H : Type} {enc : TypeId × Value → H} {W : World}
theorem Opn.cells_flt : Tryd.prog.cellsOf 40 = 1 := by kernel_rfl
theorem Opn.cells_blz : Tryd.prog.cellsOf 4 = 1 := by kernel_rfl
theorem Opn.bytes_flt : Tryd.prog.bytesOf 40 = 8 := by kernel_rfl
theorem trod_float {P : Program} {w : World} {base fuel : Nat} {spare : Nat → Bool} {held : Bool} {t : TypeId} {cs : List Value} {x : DataW H × List MemPlace} (ht : P.underlying t = some (.float .f64)) (h : DataW.trod enc P w base spare held fuel t cs = some x) : ∃ n, cs = [.float .f64 n] ∧ n < 18446744073709551616 := by
  cases fuel with
  | zero => simp [DataW.trod] at h
  | succ n =>
    unfold DataW.trod at h
    rw [ht] at h
    split at h <;> try (first | (simp_all; done) | contradiction)
    rename_i k k' b heq
    simp only [Option.some.injEq, TypeDesc.float.injEq] at heq
    subst heq
    split at h
    · rename_i hh
      obtain ⟨rfl, hw⟩ := hh
      exact ⟨_, rfl, by simpa [Lit.wf] using hw⟩
    · cases h
theorem open_HF {base : Nat} {v : Value} {d : DataW H} {p : List MemPlace} (h : DataW.Trod enc Tryd.prog W base (fun _ => true) true 26 v d p) (hv : ∃ a n c, v = .slice a n c) :
    ∃ l, HF W v l ∧ ∀ ts ds (j : Nat), (DataW.weightsEach Tryd.prog ts ds).all (· ≤ reachBytes) = true → ts[j]? = some 26 → ds[j]? = some d → l.length ≤ 17592186044416 := by
  obtain ⟨a, n, c, rfl⟩ := hv
  obtain ⟨fuel, hf⟩ := h
  rcases Go.Deep.open_slice1 Tryd.underlying26 Opn.cells_flt hf with ⟨hcs, hx⟩ | ⟨a, len, cap, m, n, V, D, Pl, hcs, hb, hl, hm, hmm, hx, hel⟩
  · simp only [Value.cells, List.cons.injEq, and_true] at hcs
    rw [hcs]
    exact ⟨[], ⟨⟨none, 0, rfl, Nat.le_refl _, Nat.zero_le _, fun _ => rfl, fun h => absurd rfl h⟩, fun p hp => by cases hp⟩, fun _ _ _ _ _ _ => Nat.zero_le _⟩
  · simp only [Value.cells, List.cons.injEq, and_true] at hcs
    rw [hcs]
    simp only [if_true] at hmm
    subst hmm
    simp only [Prod.mk.injEq] at hx
    obtain ⟨rfl, _⟩ := hx
    have each : ∀ i, i < len → ∃ q : Nat, q < 18446744073709551616 ∧ V i = .float .f64 q := by
      intro i hi
      obtain ⟨_, h3⟩ := hel i (by omega)
      obtain ⟨x, e1, w1⟩ := trod_float Tryd.underlying40 h3
      simp only [List.cons.injEq, and_true] at e1
      exact ⟨x, w1, e1⟩
    have hch : ∃ T : Nat → Nat, ∀ i, i < len → T i < 18446744073709551616 ∧ V i = .float .f64 (T i) := by
      refine ⟨fun i => if hi : i < len then Classical.choose (each i hi) else 0, fun i hi => ?_⟩
      simp only [hi, dif_pos]
      exact Classical.choose_spec (each i hi)
    obtain ⟨T, hT⟩ := hch
    have hlen : ((List.range len).map T).length = len := by simp
    have hat : ∀ j, j < len → ((List.range len).map T).getD j 0 = T j := fun j hj => by
      rw [List.getD_eq_getElem?_getD, List.getElem?_map, List.getElem?_range hj]
      rfl
    refine ⟨(List.range len).map T, ⟨⟨some a, _, by rw [hlen], by rw [hlen]; omega, hm, (fun e => by cases e), fun hne => ?_⟩, fun p hp => ?_⟩, fun ts ds j hs ht hd => ?_⟩
    · have h0 : 0 < len := by rw [← hlen]; exact List.length_pos_iff.2 hne
      obtain ⟨b, off, sp⟩ := a
      obtain ⟨hu, _⟩ := hel 0 (by omega)
      have hsp : sp = none := by simpa [Addr.add] using World.cell?_spot hu
      subst hsp
      refine ⟨b, off, rfl, fun i hi => ?_⟩
      rw [hlen] at hi
      obtain ⟨h1, _⟩ := hel i (by omega)
      rw [Go.WideShapes.add_plain] at h1
      rw [hat i hi, ← (hT i hi).2]
      exact h1
    · obtain ⟨i, hi, rfl⟩ := List.mem_map.1 hp
      exact (hT i (List.mem_range.1 hi)).1
    · have := sized_slice hs ht hd Tryd.underlying26
      rw [Opn.bytes_flt] at this
      simp only [List.length_map, List.length_range, reachBytes] at this
      rw [hlen]
      omega
theorem open_HBr {base : Nat} {v : Value} {d : DataW H} {p : List MemPlace} (h : DataW.Trod enc Tryd.prog W base (fun _ => true) true 53 v d p) (hv : ∃ a n c, v = .slice a n c) : ∃ l, HBr W v l := by
  obtain ⟨a, n, c, rfl⟩ := hv
  obtain ⟨fuel, hf⟩ := h
  rcases Go.Deep.open_bools Tryd.underlying53 Tryd.underlying4 Opn.cells_blz hf with ⟨hcs, _⟩ | ⟨x, len, cap, B, hcs, _, hl, hm, _, hcell⟩
  · simp only [Value.cells, List.cons.injEq, and_true] at hcs
    rw [hcs]
    exact ⟨[], none, 0, rfl, Nat.le_refl _, Nat.zero_le _, fun h => absurd h (by simp)⟩
  · simp only [Value.cells, List.cons.injEq, and_true] at hcs
    rw [hcs]
    have hlen : ((List.range len).map B).length = len := by simp
    refine ⟨(List.range len).map B, some x, cap, by rw [hlen], by rw [hlen]; exact hl, hm, fun h0 => ?_⟩
    rw [hlen] at h0
    obtain ⟨b, off, sp⟩ := x
    have hsp : sp = none := by simpa [Addr.add] using World.cell?_spot (hcell 0 (by omega))
    subst hsp
    refine ⟨b, off, rfl, fun j hj => ?_⟩
    rw [hlen] at hj
    have := hcell j (by omega)
    rw [Go.WideShapes.add_plain] at this
    rw [this]
    simp [List.getD, hj]
end Go.Proofs.YtlhjpflljokinaaDoor
namespace Go.Proofs.YtlhjpflljokinaaDoor
open Go Go.RowKit Hz Go.Proofs.YtlhjpflljokinaaDoor.Fl
def Crisp (x : Nat) : Prop := FloatKind.f64.format.order x 0 = some .eq ∨ FloatKind.f64.format.order x 4607182418800017408 = some .eq
theorem own_apart {w : World} {B B' n m : Nat} {v u : Value} {xs ys : List Value} (h1 : w.ownsRow B 51 2 v n xs) (h2 : w.ownsRow B' 40 1 u m ys) : (v.ownBlock = none ∨ v.ownBlock ≠ u.ownBlock) ∧ (u.ownBlock = none ∨ u.ownBlock ≠ v.ownBlock) := by
  rcases h1.2 with ⟨rfl, _⟩ | ⟨g, cap, cur, rfl, _, hg, _⟩
  · refine ⟨.inl rfl, ?_⟩
    cases h : u.ownBlock with
    | none => exact .inl rfl
    | some k => exact .inr (fun e => by cases e)
  · rcases h2.2 with ⟨rfl, _⟩ | ⟨g', cap', cur', rfl, _, hg', _⟩
    · exact ⟨.inr (fun e => by cases e), .inl rfl⟩
    · have hne : g ≠ g' := fun e => by
        subst e
        rw [hg] at hg'
        simp at hg'
      exact ⟨.inr (fun e => hne (by simpa [Value.ownBlock] using e)), .inr (fun e => hne (by simpa [Value.ownBlock] using e.symm))⟩
theorem own_slcs {w : World} {B n sz : Nat} {e : TypeId} {v : Value} {xs : List Value} (h : w.ownsRow B e sz v n xs) : ∃ p c, v = .slice p n c := by
  rcases h.2 with ⟨rfl, rfl⟩ | ⟨g, cap, cur, rfl, _⟩
  · exact ⟨none, 0, rfl⟩
  · exact ⟨_, _, rfl⟩
theorem below_grown {B n sz : Nat} {e : TypeId} {w w1 w2 : World} {v : Value} {xs : List Value} (hb : Below B w w1) (hB : B ≤ w1.heap.size) (h : w1.ownsRow B e sz v n xs) (hg : w1.grownBy w2 v.ownBlock) : Below B w w2 :=
  ⟨hg.os.trans hb.os, hg.tape.trans hb.tape, hg.output.trans hb.output, Nat.le_trans hb.size hg.size, fun k hk => (hg.block k (by omega) (fun e => by have := h.lt k e.symm; omega)).trans (hb.block k hk)⟩
theorem HF_at {w W : World} {p : Option Addr} {n c : Nat} {l : List Nat} (h : HF w (.slice p n c) l) (hb : Below w.heap.size w W) {i : Nat} (hi : i < l.length) : ∃ b off, p = some ⟨b, off, none⟩ ∧ W.cell? ⟨b, off + i, none⟩ = some (.float .f64 (l.getD i 0)) := by
  obtain ⟨b, off, c', ev, _, _, hc⟩ := h.ne (by omega)
  simp only [Value.slice.injEq] at ev
  obtain ⟨rfl, _, rfl⟩ := ev
  exact ⟨b, off, rfl, (hb.cell (World.block_lt_of_cell? w _ (hc i hi))).trans (hc i hi)⟩
set_option maxRecDepth 100000 in
set_option maxHeartbeats 16000000 in
theorem hlasts_walk (w : World) (v0 v1 : Value) (bs : List Bool) (l : List Nat) (k : Int) (hBr : HBr w v0 bs) (hF : HF w v1 l) (hl : l.length ≤ 17592186044416) (hT : TabAt 0 Lib.deBruijn32tab w) :
    Calls Tryd.prog 6 #[v0, v1, .int .i64 k] w fun e w' => e = .returned (.bool true) ∧ Below w.heap.size w w' := by
  have HBw := hid hBr
  have HFw := hid hF
  have HTw := hid hT
  have CL := hid (lives_any w hT)
  obtain ⟨p0, c0, ev, hc1, hc2, hbc⟩ := hBr
  have HBC := hid hbc
  unfold maxLen at hc2
  obtain ⟨nb, HNB⟩ : ∃ n, Hid (bs.length = n) := ⟨_, rfl⟩
  rw [HNB.out] at ev hc1
  subst ev
  obtain ⟨pf, cf, ev, hf1, hf2⟩ := hF.open
  unfold maxLen at hf2
  obtain ⟨nf, HNF⟩ : ∃ n, Hid (l.length = n) := ⟨_, rfl⟩
  rw [HNF.out] at ev hf1 hl
  subst ev
  clear hbc hF hT
  go_enter Tryd.func6, Tryd.ntmps6
  go_wp2_with fail
  refine CL.out.mono ?_
  rintro e W1 ⟨rfl, hb1⟩
  have HB1 := hid hb1
  clear hb1 CL
  by_cases hbig : 32 < nf
  · obtain ⟨lc, HLC⟩ : ∃ lc, Hid (l.take 32 = lc) := ⟨_, rfl⟩
    have HFc : Hid (HF w (.slice pf 32 cf) lc) := by rw [← HLC.out]; exact hid (HFw.out.take 32 (by rw [HNF.out]; omega))
    have HNC : Hid (lc.length = 32) := by rw [← HLC.out, List.length_take, HNF.out]; exact hid (by omega)
    have hcf32 : (32 : Int) ≤ (cf : Int) := by omega
    clear HFw HLC
    go_wp2
    have hnc : 32 ≤ 32 := Nat.le_refl _
    rw [show decide ((32 : Int) < (nf : Int)) = true from decide_eq_true (by omega)]
    go_loopw [7, 8, 9, 10] (fun vp vf vq x wr => ∃ (s : Nat) (q : Bool) (pp : Option Addr) (mp cp : Nat) (pv : Option Addr) (mv cv : Nat), s ≤ 32 ∧ x = .int .i64 (s : Int) ∧ vq = .bool q ∧ vp = .slice pp mp cp ∧ vf = .slice pv mv cv ∧ Hid (wr.ownsRow w.heap.size 51 2 vp (chP bs s).length (prl (chP bs s))) ∧ Hid (wr.ownsRow w.heap.size 40 1 vf (chF bs lc s).length (flv (chF bs lc s))) ∧ Hid (q = true → ∀ i, i < s → Crisp (lc.getD i 0)) ∧ Hid (Below w.heap.size w wr)) (fun _ _ _ x _ => 32 - (intOf x).toNat)
    case atStart => exact ⟨0, true, _, _, _, _, _, _, Nat.zero_le _, rfl, rfl, rfl, rfl, hid (World.ownsRow_nil ..), hid (World.ownsRow_nil ..), hid (fun _ i hi => absurd hi (Nat.not_lt_zero _)), HB1⟩
    case round =>
      clear HB1
      obtain ⟨s, q, pp, mp, cp, pv, mv, cv, hs, rfl, rfl, rfl, rfl, HOP, HOF, HQ, HB⟩ := hrel
      have hpl : (chP bs s).length ≤ 32 := by have := chs_len bs s; unfold chP; rw [List.length_map]; omega
      have hfl : (chF bs lc s).length ≤ 32 := by have := chs_len bs s; unfold chF; rw [List.length_map]; omega
      by_cases hlt : s < 32
      · have hwd := HFc.out.word s
        have HS0 : Hid (∀ W, Below w.heap.size w W → ∃ b off, pf = some ⟨b, off, none⟩ ∧ W.cell? ⟨b, off + s, none⟩ = some (.float .f64 (lc.getD s 0))) := hid fun W hW => HF_at HFc.out hW (by rw [HNC.out]; exact hlt)
        obtain ⟨y, HY⟩ : ∃ y, Hid (lc.getD s 0 = y) := ⟨_, rfl⟩
        rw [HY.out] at hwd HS0
        obtain ⟨bf, foff, epf, -⟩ := HS0.out wr HB.out
        have HCF : Hid (∀ W, Below w.heap.size w W → W.cell? ⟨bf, foff + s, none⟩ = some (.float .f64 y)) := hid fun W hW => by
          obtain ⟨b', o', e', h'⟩ := HS0.out W hW
          rw [epf] at e'
          simp only [Option.some.injEq, Addr.mk.injEq, and_true] at e'
          obtain ⟨rfl, rfl⟩ := e'
          exact h'
        subst epf
        clear HS0
        cases hch : bs.getD s false with
        | true =>
          have hsb : s < nb := by
            apply Classical.byContradiction
            intro hc
            rw [List.getD_eq_getElem?_getD, List.getElem?_eq_none (by rw [HNB.out]; omega)] at hch
            cases hch
          obtain ⟨b0, boff, eb, hcb⟩ := HBC.out (by rw [HNB.out]; omega)
          subst eb
          have hcb0 := hcb s (by rw [HNB.out]; exact hsb)
          rw [hch] at hcb0
          have hcb1 := (HB.out.cell (World.block_lt_of_cell? w _ hcb0)).trans hcb0
          have HPN : Hid (chP bs (s + 1) = chP bs s ++ [((s : Int), 2 * (s : Int) + 1)]) := by unfold chP; rw [chs_yes hch, List.map_append]; exact hid rfl
          have HFN : Hid (chF bs lc (s + 1) = chF bs lc s ++ [y]) := by unfold chF; rw [chs_yes hch, List.map_append]; exact hid (by simp [← HY.out])
          clear hch hcb hcb0
          obtain ⟨W2, HW2⟩ : ∃ W2, Hid (wr.alloc (.cells #[.int .i64 (s : Int), .int .i64 (2 * (s : Int) + 1)] 51) = W2) := ⟨_, rfl⟩
          have HB12 : Hid (Below wr.heap.size wr W2) := by rw [← HW2.out]; exact hid ((Below.refl _ wr).alloc (Nat.le_refl _) _)
          have HX2 : Hid (W2.heap[wr.heap.size]? = some (.cells #[.int .i64 (s : Int), .int .i64 (2 * (s : Int) + 1)] 51 (0, 0))) := by rw [← HW2.out]; exact heap_alloc_new wr _
          have HB2 : Hid (Below w.heap.size w W2) := hid (HB.out.trans (HB12.out.mono HB.out.size))
          have HOP2 := hid (HOP.out.kept ⟨HB12.out.os, HB12.out.tape, HB12.out.output, HB12.out.size, fun k hk _ => HB12.out.block k hk⟩ (none_or _))
          have HOF2 := hid (HOF.out.kept ⟨HB12.out.os, HB12.out.tape, HB12.out.output, HB12.out.size, fun k hk _ => HB12.out.block k hk⟩ (none_or _))
          have HP2 : Hid (HP W2 (.slice (some ⟨wr.heap.size, 0, none⟩) 1 1) [((s : Int), 2 * (s : Int) + 1)]) := hid (by
            refine ⟨⟨_, 1, rfl, Nat.le_refl _, by decide, (fun e => by cases e), fun _ => ⟨wr.heap.size, 0, rfl, fun j hj => ?_⟩⟩, fun p hp => ?_⟩
            · obtain rfl : j = 0 := by simp only [List.length_cons, List.length_nil] at hj; omega
              exact ⟨(cell_of_row _ _ _ _ _ _ HX2.out).trans rfl, (cell_of_row _ _ _ _ _ _ HX2.out).trans rfl⟩
            · rw [List.mem_singleton.1 hp]
              simp only []
              omega)
          clear HOP HOF
          go_wp2_with (first | (rw [HW2.out]; at_builtin; refine wpList_append_prs rfl _ _ rfl w.heap.size _ _ _ rfl HOP2.out _ [((s : Int), 2 * (s : Int) + 1)] rfl HP2.out ?q2 HB2.out.size ?_) | fail)
          case q2 => simp only [List.length_cons, List.length_nil]; omega
          intro v3 W3 hown3 hgr3
          obtain ⟨p3, c3, e3⟩ := own_slcs hown3
          generalize hm3 : (chP bs s).length + [((s : Int), 2 * (s : Int) + 1)].length = m3 at e3
          subst e3
          clear hm3
          have HB3 := hid (below_grown HB2.out HB2.out.size HOP2.out hgr3)
          have HOP3 : Hid (W3.ownsRow w.heap.size 51 2 (.slice p3 m3 c3) (chP bs (s + 1)).length (prl (chP bs (s + 1)))) := hid (by rw [HPN.out, List.length_append, prl_append]; exact hown3)
          have HOF3 := hid (HOF2.out.kept hgr3 (own_apart HOP2.out HOF2.out).2)
          clear hown3 hgr3 HOP2 HOF2 HP2 HX2 HB12 HW2 hcb1
          have hcf := HCF.out W3 HB3.out
          obtain ⟨W4, HW4⟩ : ∃ W4, Hid (W3.alloc (.cells #[.float .f64 y] 40) = W4) := ⟨_, rfl⟩
          have HB34 : Hid (Below W3.heap.size W3 W4) := by rw [← HW4.out]; exact hid ((Below.refl _ W3).alloc (Nat.le_refl _) _)
          have HX4 : Hid (W4.heap[W3.heap.size]? = some (.cells #[.float .f64 y] 40 (0, 0))) := by rw [← HW4.out]; exact heap_alloc_new W3 _
          have HB4 : Hid (Below w.heap.size w W4) := hid (HB3.out.trans (HB34.out.mono HB3.out.size))
          have HOP4 := hid (HOP3.out.kept ⟨HB34.out.os, HB34.out.tape, HB34.out.output, HB34.out.size, fun k hk _ => HB34.out.block k hk⟩ (none_or _))
          have HOF4 := hid (HOF3.out.kept ⟨HB34.out.os, HB34.out.tape, HB34.out.output, HB34.out.size, fun k hk _ => HB34.out.block k hk⟩ (none_or _))
          have HF4 : Hid (HF W4 (.slice (some ⟨W3.heap.size, 0, none⟩) 1 1) [y]) := hid (by
            refine ⟨⟨_, 1, rfl, Nat.le_refl _, by decide, (fun e => by cases e), fun _ => ⟨W3.heap.size, 0, rfl, fun j hj => ?_⟩⟩, fun p hp => ?_⟩
            · obtain rfl : j = 0 := by simp only [List.length_cons, List.length_nil] at hj; omega
              exact (cell_of_row _ _ _ _ _ _ HX4.out).trans rfl
            · rw [List.mem_singleton.1 hp]; exact hwd)
          clear HOP3 HOF3
          go_wp2_with (first | (rw [HW4.out]; at_builtin; refine wpList_append_fls rfl _ _ rfl w.heap.size _ _ _ rfl HOF4.out _ [y] rfl HF4.out ?q3 HB4.out.size ?_) | fail)
          case q3 => simp only [List.length_cons, List.length_nil]; omega
          intro v5 W5 hown5 hgr5
          obtain ⟨p5, c5, e5⟩ := own_slcs hown5
          generalize hm5 : (chF bs lc s).length + [y].length = m5 at e5
          subst e5
          clear hm5
          have HB5 := hid (below_grown HB4.out HB4.out.size HOF4.out hgr5)
          have HOF5 : Hid (W5.ownsRow w.heap.size 40 1 (.slice p5 m5 c5) (chF bs lc (s + 1)).length (flv (chF bs lc (s + 1)))) := hid (by
            rw [HFN.out, List.length_append]
            unfold flv
            rw [List.map_append]
            exact hown5)
          have HOP5 := hid (HOP4.out.kept hgr5 (own_apart HOP4.out HOF4.out).1)
          clear hown5 hgr5 HOP4 HOF4 HF4 HX4 HB34 HW4 hcf
          have hcf := HCF.out W5 HB5.out
          by_cases hz : FloatKind.f64.format.order y 0 = some .eq
          · have HQ2 : Hid (q = true → ∀ i, i < s + 1 → Crisp (lc.getD i 0)) := hid (fun e i hi => by
              by_cases z : i < s
              · exact HQ.out e i z
              · obtain rfl : i = s := by omega
                rw [HY.out]; exact .inl hz)
            go_wp2
            exact ⟨⟨s + 1, q, _, _, _, _, _, _, by omega, by go_num, rfl, rfl, rfl, HOP5, HOF5, HQ2, HB5⟩, by simp [intOf]; omega⟩
          · by_cases hz1 : FloatKind.f64.format.order y 4607182418800017408 = some .eq
            · have HQ2 : Hid (q = true → ∀ i, i < s + 1 → Crisp (lc.getD i 0)) := hid (fun e i hi => by
                by_cases z : i < s
                · exact HQ.out e i z
                · obtain rfl : i = s := by omega
                  rw [HY.out]; exact .inr hz1)
              go_wp2
              exact ⟨⟨s + 1, q, _, _, _, _, _, _, by omega, by go_num, rfl, rfl, rfl, HOP5, HOF5, HQ2, HB5⟩, by simp [intOf]; omega⟩
            · have hz3 : (FloatKind.f64.format.order y 0 != some .eq) = true := bne_iff_ne.2 hz
              have hz4 : (FloatKind.f64.format.order y 4607182418800017408 != some .eq) = true := bne_iff_ne.2 hz1
              go_wp2
              exact ⟨⟨s + 1, false, _, _, _, _, _, _, by omega, by go_num, rfl, rfl, rfl, HOP5, HOF5, hid (fun e => by cases e), HB5⟩, by simp [intOf]; omega⟩
        | false =>
          have HPN : Hid (chP bs (s + 1) = chP bs s) := by unfold chP; rw [chs_no hch]; exact hid rfl
          have HFN : Hid (chF bs lc (s + 1) = chF bs lc s) := by unfold chF; rw [chs_no hch]; exact hid rfl
          rw [← HPN.out] at HOP
          rw [← HFN.out] at HOF
          have hcf := HCF.out wr HB.out
          by_cases hsb : s < nb
          · obtain ⟨b0, boff, eb, hcb⟩ := HBC.out (by rw [HNB.out]; omega)
            subst eb
            have hcb0 := hcb s (by rw [HNB.out]; exact hsb)
            rw [hch] at hcb0
            have hcb1 := (HB.out.cell (World.block_lt_of_cell? w _ hcb0)).trans hcb0
            clear hch hcb hcb0
            by_cases hz : FloatKind.f64.format.order y 0 = some .eq
            · have HQ2 : Hid (q = true → ∀ i, i < s + 1 → Crisp (lc.getD i 0)) := hid (fun e i hi => by
                by_cases z : i < s
                · exact HQ.out e i z
                · obtain rfl : i = s := by omega
                  rw [HY.out]; exact .inl hz)
              go_wp2
              exact ⟨⟨s + 1, q, _, _, _, _, _, _, by omega, by go_num, rfl, rfl, rfl, HOP, HOF, HQ2, HB⟩, by simp [intOf]; omega⟩
            · by_cases hz1 : FloatKind.f64.format.order y 4607182418800017408 = some .eq
              · have HQ2 : Hid (q = true → ∀ i, i < s + 1 → Crisp (lc.getD i 0)) := hid (fun e i hi => by
                  by_cases z : i < s
                  · exact HQ.out e i z
                  · obtain rfl : i = s := by omega
                    rw [HY.out]; exact .inr hz1)
                go_wp2
                exact ⟨⟨s + 1, q, _, _, _, _, _, _, by omega, by go_num, rfl, rfl, rfl, HOP, HOF, HQ2, HB⟩, by simp [intOf]; omega⟩
              · have hz3 : (FloatKind.f64.format.order y 0 != some .eq) = true := bne_iff_ne.2 hz
                have hz4 : (FloatKind.f64.format.order y 4607182418800017408 != some .eq) = true := bne_iff_ne.2 hz1
                go_wp2
                exact ⟨⟨s + 1, false, _, _, _, _, _, _, by omega, by go_num, rfl, rfl, rfl, HOP, HOF, hid (fun e => by cases e), HB⟩, by simp [intOf]; omega⟩
          · clear hch
            by_cases hz : FloatKind.f64.format.order y 0 = some .eq
            · have HQ2 : Hid (q = true → ∀ i, i < s + 1 → Crisp (lc.getD i 0)) := hid (fun e i hi => by
                by_cases z : i < s
                · exact HQ.out e i z
                · obtain rfl : i = s := by omega
                  rw [HY.out]; exact .inl hz)
              go_wp2
              exact ⟨⟨s + 1, q, _, _, _, _, _, _, by omega, by go_num, rfl, rfl, rfl, HOP, HOF, HQ2, HB⟩, by simp [intOf]; omega⟩
            · by_cases hz1 : FloatKind.f64.format.order y 4607182418800017408 = some .eq
              · have HQ2 : Hid (q = true → ∀ i, i < s + 1 → Crisp (lc.getD i 0)) := hid (fun e i hi => by
                  by_cases z : i < s
                  · exact HQ.out e i z
                  · obtain rfl : i = s := by omega
                    rw [HY.out]; exact .inr hz1)
                go_wp2
                exact ⟨⟨s + 1, q, _, _, _, _, _, _, by omega, by go_num, rfl, rfl, rfl, HOP, HOF, HQ2, HB⟩, by simp [intOf]; omega⟩
              · have hz3 : (FloatKind.f64.format.order y 0 != some .eq) = true := bne_iff_ne.2 hz
                have hz4 : (FloatKind.f64.format.order y 4607182418800017408 != some .eq) = true := bne_iff_ne.2 hz1
                go_wp2
                exact ⟨⟨s + 1, false, _, _, _, _, _, _, by omega, by go_num, rfl, rfl, rfl, HOP, HOF, hid (fun e => by cases e), HB⟩, by simp [intOf]; omega⟩
      · obtain rfl : s = 32 := by omega
        have hmay := chP_may bs 32 hnc
        have hok : ∀ n ∈ ks ((chP bs 32).map natP), OkC ((chP bs 32).map natP) lc.length n := by rw [chP_nat, HNC.out]; exact chQ_ok hnc
        have hval : tot k.toNat (tab (ks ((chP bs 32).map natP)).length (ents ((chP bs 32).map natP) lc 32)) = tot k.toNat (tab (chF bs lc 32).length ((chF bs lc 32).map fun x => (1, x))) := by
          rw [chP_nat, chQ_ents hnc, chQ_ks hnc]
          unfold chF
          rw [List.length_map, List.length_map]
        have hsub : ∀ x ∈ chF bs lc 32, x ∈ lc := fun x hx => by
          obtain ⟨i, hi, rfl⟩ := List.mem_map.1 hx
          exact getD_mem (by rw [HNC.out]; exact (mem_chs.1 hi).1)
        have HSUB := hid hsub
        have HPP : Hid (HP wr (.slice pp mp cp) (chP bs 32)) := hid (HP.of_own HOP.out (fun p hp => by
          obtain ⟨i, hi, rfl⟩ := List.mem_map.1 hp
          have := (mem_chs.1 hi).1
          simp only []
          omega))
        have HFF : Hid (HF wr (.slice pv mv cv) (chF bs lc 32)) := hid (HF.of_own HOF.out (fun x hx => HFc.out.2 x (hsub x hx)))
        have CLa := hid (lasts_any wr _ _ (chP bs 32) lc k HPP.out (HFc.out.below HB.out) (tab_below HTw.out HB.out))
        have HMAY := hid hmay
        have HOKC := hid hok
        have HVAL := hid hval
        clear hmay hok hval hsub HOP HOF
        go_wp2_with fail
        refine CLa.out.mono ?_
        rintro e W6 ⟨hLa, hb6⟩
        have HB6 : Hid (Below w.heap.size w W6) := hid (HB.out.trans (hb6.mono HB.out.size))
        have CO := hid (odds_any W6 _ (chF bs lc 32) k (HFF.out.below hb6) (by omega))
        clear hb6 CLa
        cases hz : azB lc with
        | false =>
          have e1 := hLa.2.2.1 HMAY.out HOKC.out hz
          subst e1
          clear hLa hz
          have h00 := order_self zero_fin
          cases hy : azB (chF bs lc 32) with
          | false =>
            rw [hy] at CO
            rw [if_neg (by decide), if_neg (by decide)] at CO
            clear hy
            go_wp2_with fail
            refine CO.out.mono ?_
            rintro e W7 ⟨rfl, hb7⟩
            have HB7 : Hid (Below w.heap.size w W7) := hid (HB6.out.trans (hb7.mono HB6.out.size))
            clear hb7 CO
            go_wp2
            go_ret
            exact ⟨rfl, HB7.out⟩
          | true =>
            rw [hy] at CO
            rw [if_pos rfl, if_pos rfl] at CO
            clear hy
            go_wp2_with fail
            refine CO.out.mono ?_
            rintro e W7 ⟨rfl, hb7⟩
            have HB7 : Hid (Below w.heap.size w W7) := hid (HB6.out.trans (hb7.mono HB6.out.size))
            clear hb7 CO
            go_wp2
            go_ret
            exact ⟨rfl, HB7.out⟩
        | true =>
          have e1 := hLa.2.2.2 HMAY.out HOKC.out hz
          rw [HVAL.out] at e1
          subst e1
          have hsz : ∀ x ∈ lc, Sz x := fun x hx => (szB_iff (HFc.out.2 x hx)).1 (List.all_eq_true.1 hz x hx)
          have hy : azB (chF bs lc 32) = true := List.all_eq_true.2 fun x hx => List.all_eq_true.1 hz x (HSUB.out x hx)
          have ha : tot k.toNat (tab (chF bs lc 32).length ((chF bs lc 32).map fun x => (1, x))) < INF := (tot_sm _ _ (tab_sm _ _ (fun e he => by
            obtain ⟨x, hx, rfl⟩ := List.mem_map.1 he
            exact hsz x (HSUB.out x hx)))).fin (by omega)
          have hcr : q = true → tot k.toNat (tab (chF bs lc 32).length ((chF bs lc 32).map fun x => (1, x))) = 0 ∨ tot k.toNat (tab (chF bs lc 32).length ((chF bs lc 32).map fun x => (1, x))) = ONE := fun e => odds_01 _ _ _ (fun e' he => by
            obtain ⟨x, hx, rfl⟩ := List.mem_map.1 he
            obtain ⟨i, hi, rfl⟩ := List.mem_map.1 hx
            have hs1 := hsz _ (HSUB.out _ hx)
            rcases HQ.out e i (mem_chs.1 hi).1 with z | z
            · rcases sz_zero hs1 z with z | z
              · exact .inl z
              · exact .inr (.inl z)
            · exact .inr (.inr (sz_one hs1 z)))
          rw [hy] at CO
          rw [if_pos rfl, if_pos rfl] at CO
          generalize tot k.toNat (tab (chF bs lc 32).length ((chF bs lc 32).map fun x => (1, x))) = a at ha hcr CO
          have HCR := hid hcr
          have HA := hid ha
          clear hLa hz hy hsz ha hcr HVAL
          go_wp2_with fail
          refine CO.out.mono ?_
          rintro e W7 ⟨rfl, hb7⟩
          have HB7 : Hid (Below w.heap.size w W7) := hid (HB6.out.trans (hb7.mono HB6.out.size))
          have CS := hid (sameFloat_any W7 a HA.out)
          clear hb7 CO
          go_wp2_with fail
          refine CS.out.mono ?_
          rintro e W8 ⟨rfl, hw8⟩
          rw [hw8]
          clear hw8 CS
          cases q with
          | false =>
            go_wp2
            go_ret
            exact ⟨rfl, HB7.out⟩
          | true =>
            rcases HCR.out rfl with z | z
            · have h00 := order_self zero_fin
              subst z
              go_wp2
              go_ret
              exact ⟨rfl, HB7.out⟩
            · have h01 : ¬ FloatKind.f64.format.order a 0 = some .eq := by rw [z]; decide +kernel
              have h11 : FloatKind.f64.format.order a 4607182418800017408 = some .eq := by rw [z]; exact order_self one_fin
              clear z
              go_wp2
              go_ret
              exact ⟨rfl, HB7.out⟩
  · obtain ⟨nc, hncE⟩ : ∃ nc, nc = nf := ⟨_, rfl⟩
    subst hncE
    obtain ⟨lc, HLC⟩ : ∃ lc, Hid (l = lc) := ⟨_, rfl⟩
    have HFc : Hid (HF w (.slice pf nc cf) lc) := by rw [← HLC.out]; exact HFw
    have HNC : Hid (lc.length = nc) := by rw [← HLC.out]; exact HNF
    have hnc : nc ≤ 32 := by omega
    clear HFw HLC
    go_wp2
    rw [show decide ((32 : Int) < (nc : Int)) = false from decide_eq_false (by omega)]
    go_loopw [7, 8, 9, 10] (fun vp vf vq x wr => ∃ (s : Nat) (q : Bool) (pp : Option Addr) (mp cp : Nat) (pv : Option Addr) (mv cv : Nat), s ≤ nc ∧ x = .int .i64 (s : Int) ∧ vq = .bool q ∧ vp = .slice pp mp cp ∧ vf = .slice pv mv cv ∧ Hid (wr.ownsRow w.heap.size 51 2 vp (chP bs s).length (prl (chP bs s))) ∧ Hid (wr.ownsRow w.heap.size 40 1 vf (chF bs lc s).length (flv (chF bs lc s))) ∧ Hid (q = true → ∀ i, i < s → Crisp (lc.getD i 0)) ∧ Hid (Below w.heap.size w wr)) (fun _ _ _ x _ => nc - (intOf x).toNat)
    case atStart => exact ⟨0, true, _, _, _, _, _, _, Nat.zero_le _, rfl, rfl, rfl, rfl, hid (World.ownsRow_nil ..), hid (World.ownsRow_nil ..), hid (fun _ i hi => absurd hi (Nat.not_lt_zero _)), HB1⟩
    case round =>
      clear HB1
      obtain ⟨s, q, pp, mp, cp, pv, mv, cv, hs, rfl, rfl, rfl, rfl, HOP, HOF, HQ, HB⟩ := hrel
      have hpl : (chP bs s).length ≤ 32 := by have := chs_len bs s; unfold chP; rw [List.length_map]; omega
      have hfl : (chF bs lc s).length ≤ 32 := by have := chs_len bs s; unfold chF; rw [List.length_map]; omega
      by_cases hlt : s < nc
      · have hwd := HFc.out.word s
        have HS0 : Hid (∀ W, Below w.heap.size w W → ∃ b off, pf = some ⟨b, off, none⟩ ∧ W.cell? ⟨b, off + s, none⟩ = some (.float .f64 (lc.getD s 0))) := hid fun W hW => HF_at HFc.out hW (by rw [HNC.out]; exact hlt)
        obtain ⟨y, HY⟩ : ∃ y, Hid (lc.getD s 0 = y) := ⟨_, rfl⟩
        rw [HY.out] at hwd HS0
        obtain ⟨bf, foff, epf, -⟩ := HS0.out wr HB.out
        have HCF : Hid (∀ W, Below w.heap.size w W → W.cell? ⟨bf, foff + s, none⟩ = some (.float .f64 y)) := hid fun W hW => by
          obtain ⟨b', o', e', h'⟩ := HS0.out W hW
          rw [epf] at e'
          simp only [Option.some.injEq, Addr.mk.injEq, and_true] at e'
          obtain ⟨rfl, rfl⟩ := e'
          exact h'
        subst epf
        clear HS0
        cases hch : bs.getD s false with
        | true =>
          have hsb : s < nb := by
            apply Classical.byContradiction
            intro hc
            rw [List.getD_eq_getElem?_getD, List.getElem?_eq_none (by rw [HNB.out]; omega)] at hch
            cases hch
          obtain ⟨b0, boff, eb, hcb⟩ := HBC.out (by rw [HNB.out]; omega)
          subst eb
          have hcb0 := hcb s (by rw [HNB.out]; exact hsb)
          rw [hch] at hcb0
          have hcb1 := (HB.out.cell (World.block_lt_of_cell? w _ hcb0)).trans hcb0
          have HPN : Hid (chP bs (s + 1) = chP bs s ++ [((s : Int), 2 * (s : Int) + 1)]) := by unfold chP; rw [chs_yes hch, List.map_append]; exact hid rfl
          have HFN : Hid (chF bs lc (s + 1) = chF bs lc s ++ [y]) := by unfold chF; rw [chs_yes hch, List.map_append]; exact hid (by simp [← HY.out])
          clear hch hcb hcb0
          obtain ⟨W2, HW2⟩ : ∃ W2, Hid (wr.alloc (.cells #[.int .i64 (s : Int), .int .i64 (2 * (s : Int) + 1)] 51) = W2) := ⟨_, rfl⟩
          have HB12 : Hid (Below wr.heap.size wr W2) := by rw [← HW2.out]; exact hid ((Below.refl _ wr).alloc (Nat.le_refl _) _)
          have HX2 : Hid (W2.heap[wr.heap.size]? = some (.cells #[.int .i64 (s : Int), .int .i64 (2 * (s : Int) + 1)] 51 (0, 0))) := by rw [← HW2.out]; exact heap_alloc_new wr _
          have HB2 : Hid (Below w.heap.size w W2) := hid (HB.out.trans (HB12.out.mono HB.out.size))
          have HOP2 := hid (HOP.out.kept ⟨HB12.out.os, HB12.out.tape, HB12.out.output, HB12.out.size, fun k hk _ => HB12.out.block k hk⟩ (none_or _))
          have HOF2 := hid (HOF.out.kept ⟨HB12.out.os, HB12.out.tape, HB12.out.output, HB12.out.size, fun k hk _ => HB12.out.block k hk⟩ (none_or _))
          have HP2 : Hid (HP W2 (.slice (some ⟨wr.heap.size, 0, none⟩) 1 1) [((s : Int), 2 * (s : Int) + 1)]) := hid (by
            refine ⟨⟨_, 1, rfl, Nat.le_refl _, by decide, (fun e => by cases e), fun _ => ⟨wr.heap.size, 0, rfl, fun j hj => ?_⟩⟩, fun p hp => ?_⟩
            · obtain rfl : j = 0 := by simp only [List.length_cons, List.length_nil] at hj; omega
              exact ⟨(cell_of_row _ _ _ _ _ _ HX2.out).trans rfl, (cell_of_row _ _ _ _ _ _ HX2.out).trans rfl⟩
            · rw [List.mem_singleton.1 hp]
              simp only []
              omega)
          clear HOP HOF
          go_wp2_with (first | (rw [HW2.out]; at_builtin; refine wpList_append_prs rfl _ _ rfl w.heap.size _ _ _ rfl HOP2.out _ [((s : Int), 2 * (s : Int) + 1)] rfl HP2.out ?q2 HB2.out.size ?_) | fail)
          case q2 => simp only [List.length_cons, List.length_nil]; omega
          intro v3 W3 hown3 hgr3
          obtain ⟨p3, c3, e3⟩ := own_slcs hown3
          generalize hm3 : (chP bs s).length + [((s : Int), 2 * (s : Int) + 1)].length = m3 at e3
          subst e3
          clear hm3
          have HB3 := hid (below_grown HB2.out HB2.out.size HOP2.out hgr3)
          have HOP3 : Hid (W3.ownsRow w.heap.size 51 2 (.slice p3 m3 c3) (chP bs (s + 1)).length (prl (chP bs (s + 1)))) := hid (by rw [HPN.out, List.length_append, prl_append]; exact hown3)
          have HOF3 := hid (HOF2.out.kept hgr3 (own_apart HOP2.out HOF2.out).2)
          clear hown3 hgr3 HOP2 HOF2 HP2 HX2 HB12 HW2 hcb1
          have hcf := HCF.out W3 HB3.out
          obtain ⟨W4, HW4⟩ : ∃ W4, Hid (W3.alloc (.cells #[.float .f64 y] 40) = W4) := ⟨_, rfl⟩
          have HB34 : Hid (Below W3.heap.size W3 W4) := by rw [← HW4.out]; exact hid ((Below.refl _ W3).alloc (Nat.le_refl _) _)
          have HX4 : Hid (W4.heap[W3.heap.size]? = some (.cells #[.float .f64 y] 40 (0, 0))) := by rw [← HW4.out]; exact heap_alloc_new W3 _
          have HB4 : Hid (Below w.heap.size w W4) := hid (HB3.out.trans (HB34.out.mono HB3.out.size))
          have HOP4 := hid (HOP3.out.kept ⟨HB34.out.os, HB34.out.tape, HB34.out.output, HB34.out.size, fun k hk _ => HB34.out.block k hk⟩ (none_or _))
          have HOF4 := hid (HOF3.out.kept ⟨HB34.out.os, HB34.out.tape, HB34.out.output, HB34.out.size, fun k hk _ => HB34.out.block k hk⟩ (none_or _))
          have HF4 : Hid (HF W4 (.slice (some ⟨W3.heap.size, 0, none⟩) 1 1) [y]) := hid (by
            refine ⟨⟨_, 1, rfl, Nat.le_refl _, by decide, (fun e => by cases e), fun _ => ⟨W3.heap.size, 0, rfl, fun j hj => ?_⟩⟩, fun p hp => ?_⟩
            · obtain rfl : j = 0 := by simp only [List.length_cons, List.length_nil] at hj; omega
              exact (cell_of_row _ _ _ _ _ _ HX4.out).trans rfl
            · rw [List.mem_singleton.1 hp]; exact hwd)
          clear HOP3 HOF3
          go_wp2_with (first | (rw [HW4.out]; at_builtin; refine wpList_append_fls rfl _ _ rfl w.heap.size _ _ _ rfl HOF4.out _ [y] rfl HF4.out ?q3 HB4.out.size ?_) | fail)
          case q3 => simp only [List.length_cons, List.length_nil]; omega
          intro v5 W5 hown5 hgr5
          obtain ⟨p5, c5, e5⟩ := own_slcs hown5
          generalize hm5 : (chF bs lc s).length + [y].length = m5 at e5
          subst e5
          clear hm5
          have HB5 := hid (below_grown HB4.out HB4.out.size HOF4.out hgr5)
          have HOF5 : Hid (W5.ownsRow w.heap.size 40 1 (.slice p5 m5 c5) (chF bs lc (s + 1)).length (flv (chF bs lc (s + 1)))) := hid (by
            rw [HFN.out, List.length_append]
            unfold flv
            rw [List.map_append]
            exact hown5)
          have HOP5 := hid (HOP4.out.kept hgr5 (own_apart HOP4.out HOF4.out).1)
          clear hown5 hgr5 HOP4 HOF4 HF4 HX4 HB34 HW4 hcf
          have hcf := HCF.out W5 HB5.out
          by_cases hz : FloatKind.f64.format.order y 0 = some .eq
          · have HQ2 : Hid (q = true → ∀ i, i < s + 1 → Crisp (lc.getD i 0)) := hid (fun e i hi => by
              by_cases z : i < s
              · exact HQ.out e i z
              · obtain rfl : i = s := by omega
                rw [HY.out]; exact .inl hz)
            go_wp2
            exact ⟨⟨s + 1, q, _, _, _, _, _, _, by omega, by go_num, rfl, rfl, rfl, HOP5, HOF5, HQ2, HB5⟩, by simp [intOf]; omega⟩
          · by_cases hz1 : FloatKind.f64.format.order y 4607182418800017408 = some .eq
            · have HQ2 : Hid (q = true → ∀ i, i < s + 1 → Crisp (lc.getD i 0)) := hid (fun e i hi => by
                by_cases z : i < s
                · exact HQ.out e i z
                · obtain rfl : i = s := by omega
                  rw [HY.out]; exact .inr hz1)
              go_wp2
              exact ⟨⟨s + 1, q, _, _, _, _, _, _, by omega, by go_num, rfl, rfl, rfl, HOP5, HOF5, HQ2, HB5⟩, by simp [intOf]; omega⟩
            · have hz3 : (FloatKind.f64.format.order y 0 != some .eq) = true := bne_iff_ne.2 hz
              have hz4 : (FloatKind.f64.format.order y 4607182418800017408 != some .eq) = true := bne_iff_ne.2 hz1
              go_wp2
              exact ⟨⟨s + 1, false, _, _, _, _, _, _, by omega, by go_num, rfl, rfl, rfl, HOP5, HOF5, hid (fun e => by cases e), HB5⟩, by simp [intOf]; omega⟩
        | false =>
          have HPN : Hid (chP bs (s + 1) = chP bs s) := by unfold chP; rw [chs_no hch]; exact hid rfl
          have HFN : Hid (chF bs lc (s + 1) = chF bs lc s) := by unfold chF; rw [chs_no hch]; exact hid rfl
          rw [← HPN.out] at HOP
          rw [← HFN.out] at HOF
          have hcf := HCF.out wr HB.out
          by_cases hsb : s < nb
          · obtain ⟨b0, boff, eb, hcb⟩ := HBC.out (by rw [HNB.out]; omega)
            subst eb
            have hcb0 := hcb s (by rw [HNB.out]; exact hsb)
            rw [hch] at hcb0
            have hcb1 := (HB.out.cell (World.block_lt_of_cell? w _ hcb0)).trans hcb0
            clear hch hcb hcb0
            by_cases hz : FloatKind.f64.format.order y 0 = some .eq
            · have HQ2 : Hid (q = true → ∀ i, i < s + 1 → Crisp (lc.getD i 0)) := hid (fun e i hi => by
                by_cases z : i < s
                · exact HQ.out e i z
                · obtain rfl : i = s := by omega
                  rw [HY.out]; exact .inl hz)
              go_wp2
              exact ⟨⟨s + 1, q, _, _, _, _, _, _, by omega, by go_num, rfl, rfl, rfl, HOP, HOF, HQ2, HB⟩, by simp [intOf]; omega⟩
            · by_cases hz1 : FloatKind.f64.format.order y 4607182418800017408 = some .eq
              · have HQ2 : Hid (q = true → ∀ i, i < s + 1 → Crisp (lc.getD i 0)) := hid (fun e i hi => by
                  by_cases z : i < s
                  · exact HQ.out e i z
                  · obtain rfl : i = s := by omega
                    rw [HY.out]; exact .inr hz1)
                go_wp2
                exact ⟨⟨s + 1, q, _, _, _, _, _, _, by omega, by go_num, rfl, rfl, rfl, HOP, HOF, HQ2, HB⟩, by simp [intOf]; omega⟩
              · have hz3 : (FloatKind.f64.format.order y 0 != some .eq) = true := bne_iff_ne.2 hz
                have hz4 : (FloatKind.f64.format.order y 4607182418800017408 != some .eq) = true := bne_iff_ne.2 hz1
                go_wp2
                exact ⟨⟨s + 1, false, _, _, _, _, _, _, by omega, by go_num, rfl, rfl, rfl, HOP, HOF, hid (fun e => by cases e), HB⟩, by simp [intOf]; omega⟩
          · clear hch
            by_cases hz : FloatKind.f64.format.order y 0 = some .eq
            · have HQ2 : Hid (q = true → ∀ i, i < s + 1 → Crisp (lc.getD i 0)) := hid (fun e i hi => by
                by_cases z : i < s
                · exact HQ.out e i z
                · obtain rfl : i = s := by omega
                  rw [HY.out]; exact .inl hz)
              go_wp2
              exact ⟨⟨s + 1, q, _, _, _, _, _, _, by omega, by go_num, rfl, rfl, rfl, HOP, HOF, HQ2, HB⟩, by simp [intOf]; omega⟩
            · by_cases hz1 : FloatKind.f64.format.order y 4607182418800017408 = some .eq
              · have HQ2 : Hid (q = true → ∀ i, i < s + 1 → Crisp (lc.getD i 0)) := hid (fun e i hi => by
                  by_cases z : i < s
                  · exact HQ.out e i z
                  · obtain rfl : i = s := by omega
                    rw [HY.out]; exact .inr hz1)
                go_wp2
                exact ⟨⟨s + 1, q, _, _, _, _, _, _, by omega, by go_num, rfl, rfl, rfl, HOP, HOF, HQ2, HB⟩, by simp [intOf]; omega⟩
              · have hz3 : (FloatKind.f64.format.order y 0 != some .eq) = true := bne_iff_ne.2 hz
                have hz4 : (FloatKind.f64.format.order y 4607182418800017408 != some .eq) = true := bne_iff_ne.2 hz1
                go_wp2
                exact ⟨⟨s + 1, false, _, _, _, _, _, _, by omega, by go_num, rfl, rfl, rfl, HOP, HOF, hid (fun e => by cases e), HB⟩, by simp [intOf]; omega⟩
      · obtain rfl : s = nc := by omega
        have hmay := chP_may bs s hnc
        have hok : ∀ n ∈ ks ((chP bs s).map natP), OkC ((chP bs s).map natP) lc.length n := by rw [chP_nat, HNC.out]; exact chQ_ok hnc
        have hval : tot k.toNat (tab (ks ((chP bs s).map natP)).length (ents ((chP bs s).map natP) lc 32)) = tot k.toNat (tab (chF bs lc s).length ((chF bs lc s).map fun x => (1, x))) := by
          rw [chP_nat, chQ_ents hnc, chQ_ks hnc]
          unfold chF
          rw [List.length_map, List.length_map]
        have hsub : ∀ x ∈ chF bs lc s, x ∈ lc := fun x hx => by
          obtain ⟨i, hi, rfl⟩ := List.mem_map.1 hx
          exact getD_mem (by rw [HNC.out]; exact (mem_chs.1 hi).1)
        have HSUB := hid hsub
        have HPP : Hid (HP wr (.slice pp mp cp) (chP bs s)) := hid (HP.of_own HOP.out (fun p hp => by
          obtain ⟨i, hi, rfl⟩ := List.mem_map.1 hp
          have := (mem_chs.1 hi).1
          simp only []
          omega))
        have HFF : Hid (HF wr (.slice pv mv cv) (chF bs lc s)) := hid (HF.of_own HOF.out (fun x hx => HFc.out.2 x (hsub x hx)))
        have CLa := hid (lasts_any wr _ _ (chP bs s) lc k HPP.out (HFc.out.below HB.out) (tab_below HTw.out HB.out))
        have HMAY := hid hmay
        have HOKC := hid hok
        have HVAL := hid hval
        clear hmay hok hval hsub HOP HOF
        go_wp2_with fail
        refine CLa.out.mono ?_
        rintro e W6 ⟨hLa, hb6⟩
        have HB6 : Hid (Below w.heap.size w W6) := hid (HB.out.trans (hb6.mono HB.out.size))
        have CO := hid (odds_any W6 _ (chF bs lc s) k (HFF.out.below hb6) (by omega))
        clear hb6 CLa
        cases hz : azB lc with
        | false =>
          have e1 := hLa.2.2.1 HMAY.out HOKC.out hz
          subst e1
          clear hLa hz
          have h00 := order_self zero_fin
          cases hy : azB (chF bs lc s) with
          | false =>
            rw [hy] at CO
            rw [if_neg (by decide), if_neg (by decide)] at CO
            clear hy
            go_wp2_with fail
            refine CO.out.mono ?_
            rintro e W7 ⟨rfl, hb7⟩
            have HB7 : Hid (Below w.heap.size w W7) := hid (HB6.out.trans (hb7.mono HB6.out.size))
            clear hb7 CO
            go_wp2
            go_ret
            exact ⟨rfl, HB7.out⟩
          | true =>
            rw [hy] at CO
            rw [if_pos rfl, if_pos rfl] at CO
            clear hy
            go_wp2_with fail
            refine CO.out.mono ?_
            rintro e W7 ⟨rfl, hb7⟩
            have HB7 : Hid (Below w.heap.size w W7) := hid (HB6.out.trans (hb7.mono HB6.out.size))
            clear hb7 CO
            go_wp2
            go_ret
            exact ⟨rfl, HB7.out⟩
        | true =>
          have e1 := hLa.2.2.2 HMAY.out HOKC.out hz
          rw [HVAL.out] at e1
          subst e1
          have hsz : ∀ x ∈ lc, Sz x := fun x hx => (szB_iff (HFc.out.2 x hx)).1 (List.all_eq_true.1 hz x hx)
          have hy : azB (chF bs lc s) = true := List.all_eq_true.2 fun x hx => List.all_eq_true.1 hz x (HSUB.out x hx)
          have ha : tot k.toNat (tab (chF bs lc s).length ((chF bs lc s).map fun x => (1, x))) < INF := (tot_sm _ _ (tab_sm _ _ (fun e he => by
            obtain ⟨x, hx, rfl⟩ := List.mem_map.1 he
            exact hsz x (HSUB.out x hx)))).fin (by omega)
          have hcr : q = true → tot k.toNat (tab (chF bs lc s).length ((chF bs lc s).map fun x => (1, x))) = 0 ∨ tot k.toNat (tab (chF bs lc s).length ((chF bs lc s).map fun x => (1, x))) = ONE := fun e => odds_01 _ _ _ (fun e' he => by
            obtain ⟨x, hx, rfl⟩ := List.mem_map.1 he
            obtain ⟨i, hi, rfl⟩ := List.mem_map.1 hx
            have hs1 := hsz _ (HSUB.out _ hx)
            rcases HQ.out e i (mem_chs.1 hi).1 with z | z
            · rcases sz_zero hs1 z with z | z
              · exact .inl z
              · exact .inr (.inl z)
            · exact .inr (.inr (sz_one hs1 z)))
          rw [hy] at CO
          rw [if_pos rfl, if_pos rfl] at CO
          generalize tot k.toNat (tab (chF bs lc s).length ((chF bs lc s).map fun x => (1, x))) = a at ha hcr CO
          have HCR := hid hcr
          have HA := hid ha
          clear hLa hz hy hsz ha hcr HVAL
          go_wp2_with fail
          refine CO.out.mono ?_
          rintro e W7 ⟨rfl, hb7⟩
          have HB7 : Hid (Below w.heap.size w W7) := hid (HB6.out.trans (hb7.mono HB6.out.size))
          have CS := hid (sameFloat_any W7 a HA.out)
          clear hb7 CO
          go_wp2_with fail
          refine CS.out.mono ?_
          rintro e W8 ⟨rfl, hw8⟩
          rw [hw8]
          clear hw8 CS
          cases q with
          | false =>
            go_wp2
            go_ret
            exact ⟨rfl, HB7.out⟩
          | true =>
            rcases HCR.out rfl with z | z
            · have h00 := order_self zero_fin
              subst z
              go_wp2
              go_ret
              exact ⟨rfl, HB7.out⟩
            · have h01 : ¬ FloatKind.f64.format.order a 0 = some .eq := by rw [z]; decide +kernel
              have h11 : FloatKind.f64.format.order a 4607182418800017408 = some .eq := by rw [z]; exact order_self one_fin
              clear z
              go_wp2
              go_ret
              exact ⟨rfl, HB7.out⟩
end Go.Proofs.YtlhjpflljokinaaDoor
namespace Go.Proofs.YtlhjpflljokinaaDoor
open Go Go.RowKit Go.ChangeShapes Go.WideShapes Go.ChangeAt
def happyLaid : List (String × DataW Unit) := [("math/bits.deBruijn32tab", Rows.laid_math_bits_deBruijn32tab)]
theorem gT32 : Tryd.prog.globalNamed "math/bits.deBruijn32tab" = some 0 := by kernel_rfl
theorem tT32 : (Tryd.prog.globals[0]?).map (·.type) = some 101 := by kernel_rfl
theorem kt_of_laid {W : World} (h : laidMetH Tryd.prog happyLaid W) : TabAt 0 Lib.deBruijn32tab W := by
  rw [MakeChecks.laidMetH_plain _ _ _ (by kernel_rfl)] at h
  have h3 : laidMet Tryd.prog (("math/bits.deBruijn32tab", Lib.tabData .u8 (Lib.deBruijn32tab.map fun k : Nat => (k : Int))) :: []) W := h
  have h4 := Lib.tabIs_of_head gT32 tT32 Tryd.underlying101 Tryd.underlying5 (by kernel_rfl) (by kernel_rfl) h3
  intro j hj
  have h5 := h4.cell gT32 j (by rw [List.length_map]; exact hj)
  rw [h5]
  congr 2
  simp [List.getD, List.getElem?_eq_getElem hj]
end Go.Proofs.YtlhjpflljokinaaDoor
