/- tree.Root, walked. -/
import Derived.Test.YtjmlpkemjafifaaDoorTrBuild
set_option linter.unusedVariables false
set_option linter.unusedSimpArgs false
namespace Go.Proofs.YtjmlpkemjafifaaDoor
open Go.RowKit

set_option maxRecDepth 100000 in
set_option maxHeartbeats 2000000 in
theorem root_ok (w : World) (v : Value) (ls : List (List Int)) (h : HDs w v ls) (h1 : 1 ≤ ls.length) (h2 : ls.length ≤ 512) (hk : KC w) :
    Calls Tryd.prog 11 #[v] w fun e w' => ∃ N, e = .returned (.tuple #[.agg (cellsB (N.getD 0 [])), .int .i64 0]) ∧ IsT ls (wdN ls.length) N ∧ (∀ d ∈ N, D32 d) ∧ Below w.heap.size w w' := by
  obtain ⟨zd, HZD⟩ : ∃ zd, Hid (cellsB zeros32 = zd) := ⟨_, rfl⟩
  obtain ⟨W0, hW0⟩ : ∃ W0, Hid (w.alloc (.cells zd 28) = W0) := ⟨_, rfl⟩
  have HB0 : Hid (Below w.heap.size w W0) := by rw [← hW0.out]; exact (Below.refl _ w).alloc (Nat.le_refl _) _
  have HR0 : Hid (W0.heap[w.heap.size]? = some (.cells zd 28 (0, 0))) := by rw [← hW0.out]; exact heap_alloc_new w _
  have hS0 : W0.heap.size = w.heap.size + 1 := by rw [← hW0.out]; simp
  have CB := hid (build_ok W0 v ls (h.below HB0.out) h1 h2 (hk.below HB0.out))
  have hWl := wdN_le ls.length
  clear h hk
  go_enter Tryd.func11, Tryd.ntmps11
  go_wp2_with (refine wpList_alloc_digest rfl rfl ?_; rw [HZD.out, hW0.out])
  refine CB.out.mono ?_
  rintro e w1 ⟨g, N, rfl, hg, hO, hT, hB1⟩
  have HO := hid hO
  have HT := hid hT
  have BL1 := hid hB1
  obtain ⟨n, HN⟩ : ∃ n, Hid (N.length = n) := ⟨_, rfl⟩
  have hn1 : 1 ≤ n ∧ n ≤ 1100 := by rw [← HN.out, hT.len]; omega
  obtain ⟨d, HD⟩ : ∃ d, Hid (N.getD 0 [] = d) := ⟨_, rfl⟩
  have hdD : D32 d := by rw [← HD.out]; exact getD_D hO.2.2 0 (by rw [HN.out]; omega)
  have R0 : Hid (w1.rangeAt g 0 (dc d)) := by
    have := hO.2.1 0 (by rw [HN.out]; omega)
    rw [Nat.zero_mul, HD.out] at this
    exact this
  rw [HN.out]
  clear hO hT hB1 CB
  obtain ⟨dm, HDM⟩ : ∃ dm, Hid (cellsB d = dm) := ⟨_, rfl⟩
  have hds : dm.size = 32 := by rw [← HDM.out, cellsB_size, hdD.1]
  have SD : Hid ((Tryd.prog.info? 28).map (·.size) = some dm.size) := by rw [hds]; exact size_digest
  have OD : Hid (dm.all (·.oneCell') = true) := by rw [← HDM.out]; exact cellsB_one _
  have ZD : Hid (zd.size = dm.size) := by rw [hds, ← HZD.out]; rfl
  have HR1 : Hid (w1.heap[w.heap.size]? = some (.cells zd 28 (0, 0))) := (BL1.out.block _ (by omega)).trans HR0.out
  have HBF := hid (below_setRow (HB0.out.trans (BL1.out.mono (by omega))) (g := w.heap.size) (Nat.le_refl _) dm)
  have S2 := hid (size_dig hdD)
  clear hds
  go_wp2_with (first
    | (refine wpList_load_mid rfl 28 _ rfl g 0 rfl (dc d) _ R0.out Tryd.underlying28 rfl S2.out ?_; rw [dc_arr, HDM.out])
    | (refine wpList_store_row rfl 28 _ _ rfl w.heap.size dm rfl rfl 28 _ HR1.out SD.out ZD.out OD.out ?_))
  refine bodyPost_ret (v := .tuple #[.agg dm, .int .i64 0]) (results_cellt (p := 2) (u := 3) (ty := 28) rfl _ _ w.heap.size 28 dm (0, 0) _ rfl (setRow_heap _ _ _ _ _ _ HR1.out) Tryd.underlying28 rfl SD.out _ rfl) rfl ?_
  exact ⟨N, by rw [HD.out, HDM.out], HT.out, HO.out.2.2, HBF.out⟩
end Go.Proofs.YtjmlpkemjafifaaDoor
