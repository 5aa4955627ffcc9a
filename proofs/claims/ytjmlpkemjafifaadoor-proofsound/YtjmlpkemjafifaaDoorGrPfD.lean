/- Texts laid together: PfChain, PfSnd, PfSound, PfClone, PfWay. -/
import Derived.Test.YtjmlpkemjafifaaDoorGrPfC
import Derived.Test.YtjmlpkemjafifaaDoorGrTrR
import Derived.Test.YtjmlpkemjafifaaDoorTrLv
import Derived.Test.YtjmlpkemjafifaaDoorTrBox
import Derived.Test.YtjmlpkemjafifaaDoorGrPfB
import Derived.Shelf.SlMaps.Clone

/- Chain and Whole of a proof, walked. -/
set_option linter.unusedVariables false
set_option linter.unusedSimpArgs false
namespace Go.Proofs.YtjmlpkemjafifaaDoor
open Go.RowKit

/-- Block g is a row of the nodes ns, of the call's own. -/
def ON (w : World) (g : Nat) (ns : List NdT) : Prop :=
  (∃ cur, w.heap[g]? = some (.cells cur 60 (0, 0)) ∧ cur.size = ns.length * 33) ∧ (∀ i, i < ns.length → w.rangeAt g (i * 33) (nc (ns.getD i (0, [])))) ∧ ∀ n ∈ ns, Nd n
theorem ON.lt {w : World} {g : Nat} {N : List NdT} (h : ON w g N) : g < w.heap.size := by
  obtain ⟨cur, h1, _⟩ := h.1
  exact (Array.getElem?_eq_some_iff.1 h1).1
theorem ON.there {w : World} {g : Nat} {N : List NdT} (h : ON w g N) (i : Nat) (hi : i < N.length) : w.there g (i * 33) 33 := by
  obtain ⟨cur, h1, h2⟩ := h.1
  intro j hj
  have : i * 33 + j < cur.size := by rw [h2]; omega
  refine ⟨?_, frozen_of_row w g _ cur _ h1⟩
  rw [cell_of_row w g _ _ _ _ h1, Array.getElem?_eq_getElem this]
  rfl
theorem ON.below {w w' : World} {g : Nat} {N : List NdT} (h : ON w g N) (hB : Below w.heap.size w w') : ON w' g N := by
  have hl := h.lt
  obtain ⟨⟨cur, q1, q2⟩, q3, q4⟩ := h
  exact ⟨⟨cur, (hB.block _ hl).trans q1, q2⟩, fun i hi => range_below (q3 i hi) hB hl, q4⟩
theorem ON.HNd {w : World} {g : Nat} {N : List NdT} (h : ON w g N) (hn : N.length ≤ 1000000) : HNd w (.slice (some ⟨g, 0, none⟩) N.length N.length) N :=
  ⟨⟨_, _, rfl, Nat.le_refl _, by unfold maxLen; omega, fun _ => ⟨g, 0, rfl, fun i hi => by rw [Nat.zero_add]; exact h.2.1 i hi⟩⟩, h.2.2⟩
theorem getD_setN (N : List NdT) (i j : Nat) (d : NdT) (hi : i < N.length) : (N.set i d).getD j (0, []) = if i = j then d else N.getD j (0, []) := by
  by_cases e : i = j
  · subst e; simp [List.getD, hi]
  · rw [if_neg e]; simp [List.getD, List.getElem?_set_ne e]
theorem ON.store {w : World} {g : Nat} {N : List NdT} (h : ON w g N) (i : Nat) (hi : i < N.length) {d : NdT} (hd : Nd d) : ON (w.setCells g (i * 33) (nc d)) g (N.set i d) := by
  obtain ⟨cur, h1, h2⟩ := h.1
  obtain ⟨cur', h3, h4⟩ := shape_setCells g _ (nc d) (i * 33) w cur h1
  refine ⟨⟨cur', h3, by rw [h4, h2, List.length_set]⟩, fun j hj => ?_, fun x hx => ?_⟩
  · rw [List.length_set] at hj
    rw [getD_setN N i j d hi]
    by_cases e : i = j
    · subst e
      rw [if_pos rfl]
      exact World.rangeAt_setCells_same w g (i * 33) (nc d) (by rw [nc_length hd]; exact h.there i hi)
    · rw [if_neg e]
      refine World.rangeAt_setCells_apart (h.2.1 j hj) g (i * 33) (nc d) ?_
      have hl : Nd (N.getD j (0, [])) := h.2.2 _ (by
        rw [show N.getD j (0, []) = N[j] by simp [List.getD, List.getElem?_eq_getElem hj]]
        exact List.getElem_mem hj)
      rw [nc_length hl, nc_length hd]
      omega
  · rcases List.mem_or_eq_of_mem_set hx with q | rfl
    · exact h.2.2 x q
    · exact hd
theorem info_nodeB : (Tryd.prog.info? 60).map (fun i => (i.zero, i.size, i.bytes)) = some (some (.agg (nc (0, zeros32)).toArray), 33, 40) := by kernel_rfl
theorem nd_zero : Nd (0, zeros32) := ⟨⟨zeros32_length, fun x hx => by have := (List.mem_replicate.1 hx).2; omega⟩, by simp, by simp⟩
theorem run_make_nodes (w : World) (n : Nat) (hn : n ≤ 1000000) : ∃ C, (Instr.makeSlice 53 (.int .i64 (n : Int)) (.int .i64 (n : Int))).run Tryd.prog w = .ok (.slice (some ⟨w.heap.size, 0, none⟩) n n) (w.alloc (.cells C 60)) ∧ ON (w.alloc (.cells C 60)) w.heap.size (List.replicate n (0, zeros32)) := by
  obtain ⟨i0, hi, hz0, hz1, hz2⟩ := info_parts info_nodeB
  have hr := run_make (P := Tryd.prog) w 53 60 i0 _ Tryd.underlying53 hi hz0 .i64 .i64 n n (by omega) (Int.le_refl _) (by rw [hz2]; omega) (by omega)
  simp only [Int.toNat_natCast] at hr
  have hzl : (nc (0, zeros32)).length = 33 := nc_length nd_zero
  refine ⟨_, hr, ⟨_, heap_alloc_new w _, by rw [size_madeCells, hz1, List.length_replicate]⟩, fun i hi => ?_, fun d hd => ?_⟩
  · rw [List.length_replicate] at hi
    have e : (List.replicate n ((0 : Int), zeros32)).getD i (0, []) = (0, zeros32) := by simp [List.getD, hi]
    rw [e]
    intro j v hj
    have hj2 : j < 33 := by
      have := (List.getElem?_eq_some_iff.1 hj).1
      rwa [hzl] at this
    rw [cell_of_row _ _ _ _ _ _ (heap_alloc_new w _)]
    unfold madeCells
    rw [Array.getElem?_map, Array.getElem?_range, hz1]
    rw [if_pos (by omega)]
    have e2 : (Value.agg (nc (0, zeros32)).toArray).cells = (nc (0, zeros32)).toArray := rfl
    rw [e2, List.size_toArray, hzl, Option.map_some, show (i * 33 + j) % 33 = j by omega]
    have h5 : (nc (0, zeros32)).toArray[j]? = some v := by rw [List.getElem?_toArray]; exact hj
    rw [getElem!_def, h5]
  · rw [(List.mem_replicate.1 hd).2]
    exact nd_zero
/-- The nodes of a chain. -/
def chN (K : Kn) (l : List Nat) : List NdT := l.map fun x : Nat => ((x : Int), kAt K (x : Int))
theorem chN_length (K : Kn) (l : List Nat) : (chN K l).length = l.length := by simp [chN]
set_option maxRecDepth 100000 in
set_option maxHeartbeats 4000000 in
theorem pch_bad (w : World) (g b L W : Nat) (K : Kn) (h : HPf w g b L W K) (h1 : 1 ≤ L) (h2 : L ≤ 512) (i : Int) (hi : ¬ (0 ≤ i ∧ i < L)) :
    Calls Tryd.prog 29 #[.pointer (some ⟨g, 0, none⟩), .int .i64 i] w fun e w' => e = .returned (.tuple #[.slice none 0 0, .int .i64 111]) ∧ Below w.heap.size w w' := by
  have CM := hid (pmade_ok w g b L W K h)
  have HP := hid h
  clear h
  go_enter Tryd.func29, Tryd.ntmps29
  go_wp2_with fail
  refine CM.out.mono ?_
  rintro e w1 ⟨rfl, hB1⟩
  have hc := (HP.out.below hB1).c0
  have BL := hid hB1
  have CC := hid (chain_bad w1 (L : Int) i (by omega))
  rw [show nodeE (L : Int) i = 111 from if_pos (by omega)] at CC
  clear hB1 CM hi
  go_wp2_with fail
  refine CC.out.mono ?_
  rintro e w2 ⟨rfl, hB2⟩
  have BL2 := hid (BL.out.trans (hB2.mono BL.out.size))
  clear hB2 CC
  go_wp2
  go_ret2
  exact ⟨rfl, BL2.out⟩
/-- What Chain answers. -/
def PchQ (w : World) (K : Kn) (k x : Nat) (e : Ending) (w' : World) : Prop :=
  (K x = none ∧ e = .returned (.tuple #[.slice none 0 0, .int .i64 124]) ∧ Below w.heap.size w w') ∨
  ((K x).isSome = true ∧ ∃ v, e = .returned (.tuple #[v, .int .i64 0]) ∧ HNd w' v (chN K (chL k x)) ∧ Below w.heap.size w w')
set_option maxRecDepth 100000 in
set_option maxHeartbeats 8000000 in
theorem pch_ok (w : World) (g b L k : Nat) (Kk : Kn) (h : HPf w g b L (wdN L) Kk) (h1 : 1 ≤ L) (h2 : L ≤ 512) (hk : wdN L = 2 ^ k) (hk9 : k < 10) (i : Nat) (hi : i < L) :
    Calls Tryd.prog 29 #[.pointer (some ⟨g, 0, none⟩), .int .i64 (i : Int)] w fun e w' => PchQ w Kk k (wdN L + i) e w' := by
  have CM := hid (pmade_ok w g b L (wdN L) Kk h)
  have HP := hid h
  have HK := hid hk
  clear h hk
  have hWg := wdN_ge L h2
  have hWl := (wdN_le L).1
  obtain ⟨cl, HCL⟩ : ∃ c, Hid (chL k (wdN L + i) = c) := ⟨_, rfl⟩
  obtain ⟨W, HW⟩ : ∃ W, Hid (wdN L = W) := ⟨_, rfl⟩
  unfold PchQ
  rw [HCL.out]
  rw [HW.out] at HP hWg hWl ⊢
  go_enter Tryd.func29, Tryd.ntmps29
  go_wp2_with fail
  refine CM.out.mono ?_
  rintro e w1 ⟨rfl, hB1⟩
  have hc := (HP.out.below hB1).c0
  have BL := hid hB1
  have HP1 := hid (HP.out.below hB1)
  have CC := hid (chain_ok w1 L i k h1 h2 hi HK.out hk9)
  clear hB1 CM
  go_wp2_with fail
  refine CC.out.mono ?_
  rintro e w2 ⟨v, rfl, hN, _, hB2⟩
  have BL2 := hid (BL.out.trans (hB2.mono BL.out.size))
  have HP2 := hid (HP1.out.below hB2)
  have hcl := chL_length k (wdN L + i)
  have hx10 : ∀ y ∈ chL k (wdN L + i), y < 1024 := by
    intro y hy
    unfold chL at hy
    obtain ⟨j, _, rfl⟩ := List.mem_map.1 hy
    exact Nat.xor_lt_two_pow (n := 10) (Nat.lt_of_le_of_lt (Nat.div_le_self _ _) (by rw [HW.out]; omega)) (by decide)
  have HX := hid hx10
  rw [HCL.out] at hN hcl HX
  have HCLN := hid hcl
  obtain ⟨p, c, ev, hcells⟩ := hN
  rw [HCLN.out] at ev
  have HC := hid hcells
  subst ev
  have hc1 := HP2.out.c1
  have ew : IntKind.i64.wrap ((W : Int) + (i : Int)) = (W : Int) + (i : Int) := by rw [IntKind.wrap_i64]; omega
  have CK := hid (knows_nat w2 g b L W Kk HP2.out ((W : Int) + (i : Int)) (W + i) (by omega))
  clear hB2 CC hcl hcells hc hx10
  go_wp2_with fail
  refine CK.out.mono ?_
  rintro e w3 ⟨rfl, hB3⟩
  have HP3 := hid (HP2.out.below hB3)
  have BL3 := hid (BL2.out.trans (hB3.mono BL2.out.size))
  have HC3 : Hid (0 < cl.length → ∃ b off, p = some ⟨b, off, none⟩ ∧ ∀ j, j < cl.length → w3.cell? ⟨b, off + j, none⟩ = some (.int .i64 ((cl.getD j 0 : Nat) : Int))) := fun h0 => by
    obtain ⟨b, off, q1, q2⟩ := HC.out h0
    exact ⟨b, off, q1, fun j hj => (hB3.cell (World.block_lt_of_cell? w2 _ (q2 j hj))).trans (q2 j hj)⟩
  clear hB3 CK hc1
  cases hkn : Kk (W + i) with
  | none =>
    rw [Option.isSome_none]
    have HKN := hid hkn
    clear hkn
    go_wp2
    go_ret2
    exact Or.inl ⟨HKN.out, rfl, BL3.out⟩
  | some dd =>
    rw [Option.isSome_some]
    have HKS : Hid ((Kk (W + i)).isSome = true) := by rw [hkn]; exact rfl
    clear hkn
    obtain ⟨C, hmk, hon⟩ := run_make_nodes w3 k (by omega)
    obtain ⟨W4, hW4⟩ : ∃ W4, Hid (w3.alloc (.cells C 60) = W4) := ⟨_, rfl⟩
    rw [hW4.out] at hmk hon
    have HON := hid hon
    have B4 : Hid (Below w3.heap.size w3 W4) := by rw [← hW4.out]; exact (Below.refl _ w3).alloc (Nat.le_refl _) _
    have HDK := hid (fun a => kAt_D HP3.out.2 a)
    clear hon
    go_wp2
    go_loopw [40] (fun q wr => ∃ (j : Nat) (ns : List NdT), j ≤ k ∧ q = .int .i64 j ∧ Hid (ON wr w3.heap.size ns) ∧ Hid (ns.length = k) ∧ Hid (∀ t, t < j → ns.getD t (0, []) = (chN Kk cl).getD t (0, [])) ∧ Hid (Below w3.heap.size w3 wr)) (fun q _ => k - (intOf q).toNat)
    case atStart => exact ⟨0, _, Nat.zero_le _, rfl, HON, by rw [List.length_replicate]; exact rfl, (fun t ht => by omega), B4⟩
    case round =>
      clear hmk HON B4
      obtain ⟨j, ns, hj, rfl, HO, HL, HE, HB⟩ := hrel
      by_cases hlt : j < k
      · obtain ⟨bb, off, rfl, hcell⟩ := HC3.out (by rw [HCLN.out]; omega)
        have hjl : j < cl.length := by rw [HCLN.out]; exact hlt
        have hcj := hcell j hjl
        have hcj' : wr.cell? ⟨bb, off + j, none⟩ = some (.int .i64 ((cl.getD j 0 : Nat) : Int)) := (HB.out.cell (World.block_lt_of_cell? w3 _ hcj)).trans hcj
        have HY10 : Hid (cl.getD j 0 < 1024) := HX.out _ (by
          rw [show cl.getD j 0 = cl[j] by simp [List.getD, List.getElem?_eq_getElem hjl]]
          exact List.getElem_mem hjl)
        have HEJ : Hid ((chN Kk cl).getD j (0, []) = ((cl.getD j 0 : Int), kAt Kk (cl.getD j 0 : Int))) := by refine hid ?_; simp [chN, List.getD, hjl]
        have HPr := hid (HP3.out.below HB.out)
        clear hcj hcell
        generalize cl.getD j 0 = y at hcj' HY10 HEJ
        have hc2 := HPr.out.c2
        have hl := run_look HPr.out.2 (y : Int)
        obtain ⟨yd, HYD⟩ : ∃ d, Hid (kAt Kk (y : Int) = d) := ⟨_, rfl⟩
        have ydD : Hid (D32 yd) := by rw [← HYD.out]; exact HDK.out _
        rw [HYD.out] at hl HEJ
        obtain ⟨cy, HCY⟩ : ∃ c, Hid (cellsB yd = c) := ⟨_, rfl⟩
        have HBN := hid (fun w => run_build_node w (y : Int) yd ydD.out)
        rw [HCY.out] at hl HBN
        have hNd : Nd ((y : Int), yd) := ⟨ydD.out, by show _ ≤ (y : Int); omega, by have := HY10.out; show (y : Int) < _; omega⟩
        have HND := hid hNd
        obtain ⟨nn, HNN⟩ : ∃ x, Hid ((nc ((y : Int), yd)).toArray = x) := ⟨_, rfl⟩
        rw [HNN.out] at HBN
        have hns : nn.size = 33 := by rw [← HNN.out, List.size_toArray, nc_length hNd]
        have HTH : Hid (wr.there w3.heap.size (j * 33) nn.size) := by rw [hns]; exact HO.out.there j (by rw [HL.out]; exact hlt)
        have SN : Hid ((Tryd.prog.info? 60).map (·.size) = some nn.size) := by rw [hns]; exact size_node
        have ON1 : Hid (nn.all (·.oneCell') = true) := by rw [← HNN.out]; exact nc_one _
        have HLIST : Hid (nn.toList = nc ((y : Int), yd)) := by rw [← HNN.out]; refine hid ?_; simp
        clear hns hNd
        go_wp2_with (first | (refine wpList_build_run rfl 60 _ rfl #[(0, .int .i64 (y : Int)), (1, .agg cy)] (by go_simp) _ (HBN.out _) ?_) | (refine wpList_store_mid rfl 60 _ _ rfl w3.heap.size (j * 33) nn rfl rfl HTH.out SN.out ON1.out ?_))
        rw [HLIST.out]
        refine ⟨⟨j + 1, ns.set j ((y : Int), yd), by omega, by go_num, HO.out.store j (by rw [HL.out]; exact hlt) HND.out, by rw [List.length_set]; exact HL, fun t ht => ?_, below_setCells HB.out (Nat.le_refl _) _ _⟩, by simp [intOf]; omega⟩
        rw [getD_setN ns j t _ (by rw [HL.out]; exact hlt)]
        by_cases e : j = t
        · subst e
          rw [if_pos rfl, HEJ.out]
        · rw [if_neg e]
          exact HE.out t (by omega)
      · have hjk : j = k := by omega
        subst hjk
        have HEQ : Hid (ns = chN Kk cl) := by
          refine List.ext_getElem (by rw [HL.out, chN_length, HCLN.out]) fun t q1 q2 => ?_
          have := HE.out t (by rw [HL.out] at q1; exact q1)
          simpa [List.getD, List.getElem?_eq_getElem q1, List.getElem?_eq_getElem q2] using this
        have HFN : Hid (HNd wr (.slice (some ⟨w3.heap.size, 0, none⟩) j j) (chN Kk cl)) := by
          have := HO.out.HNd (by rw [HL.out]; omega)
          rw [HL.out, HEQ.out] at this
          exact this
        go_wp2
        go_ret2
        exact Or.inr ⟨HKS.out, _, rfl, HFN.out, BL3.out.trans (HB.out.mono BL3.out.size)⟩
end Go.Proofs.YtjmlpkemjafifaaDoor

/- climbs of the law, walked. -/
set_option linter.unusedVariables false
set_option linter.unusedSimpArgs false
namespace Go.Proofs.YtjmlpkemjafifaaDoor
open Go.RowKit

theorem run_litD (w : World) (d : List Int) (hd : D32 d) : (Instr.buildSlice 22 1 #[(0, .agg (cellsB d))]).run Tryd.prog w = .ok (.slice (some ⟨w.heap.size, 0, none⟩) 1 1) (w.alloc (.cells (dc d).toArray 28)) := by
  have h := run_lit_digs w [d] (fun x hx => by rw [List.mem_singleton.1 hx]; exact hd) (by simp) (by simp)
  have e : [d].flatMap dc = dc d := by simp
  rw [e] at h
  exact h
set_option maxRecDepth 100000 in
set_option maxHeartbeats 8000000 in
theorem lclimbs_ok (w : World) (n i k : Nat) (d root : List Int) (v : Value) (ns : List NdT) (hd : D32 d) (hr : D32 root) (hv : HNd w v ns) (h1 : 1 ≤ n) (h2 : n ≤ 512) (hi : i < n) (hk : wdN n = 2 ^ k) (hk9 : k < 10) (hl : ns.length = k) (ht : clV (ns.map Prod.snd) (wdN n + i) d = root) :
    Calls Tryd.prog 35 #[.int .i64 (n : Int), .int .i64 (i : Int), .agg (cellsB d), .agg (cellsB root), v] w fun e w' => e = .returned (.bool true) ∧ Below w.heap.size w w' := by
  obtain ⟨p, c, ev, hc1, hc2, hv4⟩ := hv.open
  unfold maxLen at hc2
  have ND := hid hv.get
  have HV := hid hv4
  obtain ⟨ds, HDS⟩ : ∃ ds, Hid (ns.map Prod.snd = ds) := ⟨_, rfl⟩
  have HDL : Hid (ds.length = k) := by rw [← HDS.out, List.length_map]; exact hl
  have HDD : Hid (∀ x ∈ ds, D32 x) := by
    rw [← HDS.out]
    intro x hx
    obtain ⟨y, hy, rfl⟩ := List.mem_map.1 hx
    exact (hv.2 y hy).1
  rw [HDS.out] at ht
  have HL := hid hl
  rw [hl] at ev hc1
  subst ev
  obtain ⟨xa, HXA⟩ : ∃ c, Hid (cellsB d = c) := ⟨_, rfl⟩
  obtain ⟨xb, HXB⟩ : ∃ c, Hid (cellsB root = c) := ⟨_, rfl⟩
  rw [HXA.out, HXB.out]
  obtain ⟨W0, hW0⟩ : ∃ W0, Hid ((w.alloc (.cells xa 28)).alloc (.cells xb 28) = W0) := ⟨_, rfl⟩
  have HB0 : Hid (Below w.heap.size w W0) := by rw [← hW0.out]; exact ((Below.refl _ w).alloc (Nat.le_refl _) _).alloc (by simp) _
  have H7 : Hid (W0.heap[w.heap.size]? = some (.cells xa 28 (0, 0))) := by
    rw [← hW0.out]; refine hid ?_; rw [heap_alloc_old _ _ (by simp)]; exact heap_alloc_new w _
  have H8 : Hid (W0.heap[w.heap.size + 1]? = some (.cells xb 28 (0, 0))) := by
    rw [← hW0.out]; refine hid ?_; rw [show w.heap.size + 1 = (w.alloc (.cells xa 28)).heap.size by simp]; exact heap_alloc_new _ _
  have hsa : xa.size = 32 := by rw [← HXA.out, cellsB_size, hd.1]
  have hsb : xb.size = 32 := by rw [← HXB.out, cellsB_size, hr.1]
  have SA : Hid ((Tryd.prog.info? 28).map (·.size) = some xa.size) := by rw [hsa]; exact size_digest
  have SB : Hid ((Tryd.prog.info? 28).map (·.size) = some xb.size) := by rw [hsb]; exact size_digest
  have OB : Hid (xb.all (·.oneCell') = true) := by rw [← HXB.out]; exact cellsB_one _
  obtain ⟨zd, HZD⟩ : ∃ zd, Hid (cellsB zeros32 = zd) := ⟨_, rfl⟩
  have hzs : zd.size = 32 := by rw [← HZD.out, cellsB_size, zeros32_length]
  have ZB : Hid (zd.size = xb.size) := by refine hid ?_; rw [hzs, hsb]
  obtain ⟨zn, HZN⟩ : ∃ z, Hid ((nc (0, zeros32)).toArray = z) := ⟨_, rfl⟩
  have HZ0 : Hid ((Tryd.prog.info? 60).map (·.zero) = some (some (.agg zn))) := by rw [← HZN.out]; exact zero_node
  have hzns : zn.size = 33 := by rw [← HZN.out]; simp [nc, dc_length, zeros32_length]
  have HZS := hid hzns
  have DD := hid hd
  have DR := hid hr
  have HT := hid ht
  have HWK := hid hk
  clear hd hr hv hv4 hl ht hsa hsb hzs hzns hk
  go_enter Tryd.func35, Tryd.ntmps35
  go_wp2
  rw [hW0.out]
  go_loopw [11, 18] (fun sl j wr => ∃ q : Nat, q ≤ k ∧ j = .int .i64 q ∧ Hid (wr.ownsRow W0.heap.size 28 32 sl (ds.take q).length ((ds.take q).flatMap dc)) ∧ Hid (Below W0.heap.size W0 wr)) (fun _ j _ => k - (intOf j).toNat)
  case atStart => exact ⟨0, Nat.zero_le _, rfl, World.ownsRow_nil _ _ _ _, Below.refl _ _⟩
  case round =>
    obtain ⟨q, hq, rfl, HOW, HB⟩ := hrel
    have hbase := HB.out.size
    by_cases hlt : q < k
    · obtain ⟨bn, off, rfl, hbn, hrg⟩ := HV.out (by rw [HL.out]; omega)
      have hnd := ND.out q (by rw [HL.out]; exact hlt)
      have HR := hid (hrg q (by rw [HL.out]; exact hlt))
      have HEJ : Hid ((ns.getD q (0, [])).2 = ds.getD q []) := by
        rw [← HDS.out]
        have hq2 : q < ns.length := by rw [HL.out]; exact hlt
        refine hid ?_
        simp [List.getD, hq2]
      have HST : Hid (ds.take q ++ [ds.getD q []] = ds.take (q + 1)) := by
        have hq2 : q < ds.length := by rw [HDL.out]; exact hlt
        rw [List.take_succ_eq_append_getElem hq2]
        refine hid ?_
        simp [List.getD, hq2]
      rw [← HEJ.out] at HST
      generalize ns.getD q (0, []) = nd at hnd HR HST HEJ
      obtain ⟨a, dd⟩ := nd
      simp only at HST HEJ
      have hbW0 : bn < W0.heap.size := by have := HB0.out.size; omega
      have HRw : Hid (wr.rangeAt bn (off + q * 33) (nc (a, dd))) := range_below (range_below HR.out HB0.out hbn) HB.out hbW0
      obtain ⟨yn, HYN⟩ : ∃ y, Hid ((nc (a, dd)).toArray = y) := ⟨_, rfl⟩
      have HNS : Hid ((Tryd.prog.info? 60).map (·.size) = some (nc (a, dd)).length) := size_nd hnd
      have hys : yn.size = 33 := by rw [← HYN.out, List.size_toArray, nc_length hnd]
      have HIy : Hid ((Tryd.prog.info? 60).map (·.size) = some yn.size) := by rw [hys]; exact size_node
      have H1y : Hid (yn.all (·.oneCell') = true) := by rw [← HYN.out]; exact nc_one _
      have HZY : Hid (zn.size = yn.size) := by rw [HZS.out, hys]; exact rfl
      obtain ⟨W1, hW1⟩ : ∃ W1, Hid (wr.alloc (.cells yn 60) = W1) := ⟨_, rfl⟩
      have HB1 : Hid (Below W0.heap.size W0 W1) := by rw [← hW1.out]; exact HB.out.alloc HB.out.size _
      have HX1 : Hid (W1.rangeAt wr.heap.size 1 (dc dd)) := fun j u hj => by
        rw [← hW1.out, cell_of_row _ wr.heap.size (1 + j) _ _ _ (heap_alloc_new wr _), ← HYN.out, List.getElem?_toArray, Nat.add_comm 1 j]
        exact hj
      have HO1 : Hid (W1.ownsRow W0.heap.size 28 32 u11 (ds.take q).length ((ds.take q).flatMap dc)) := by rw [← hW1.out]; exact HOW.out.alloc _
      have hb1 : W0.heap.size ≤ W1.heap.size := HB1.out.size
      have yD : Hid (D32 dd) := hnd.1
      have HSy := hid (size_dig yD.out)
      obtain ⟨cy, HCY⟩ : ∃ c, Hid (cellsB dd = c) := ⟨_, rfl⟩
      have hlit : (Instr.buildSlice 22 1 #[(0, .agg cy)]).run Tryd.prog W1 = .ok (.slice (some ⟨W1.heap.size, 0, none⟩) 1 1) (W1.alloc (.cells (dc dd).toArray 28)) := by
        have := run_litD W1 dd yD.out
        rw [HCY.out] at this
        exact this
      have HLIT := hid hlit
      have HA1 : Hid (∀ q, q < [dd].length → (W1.alloc (.cells (dc dd).toArray 28)).rangeAt W1.heap.size (0 + q * 32) (dc ([dd].getD q []))) := fun q hq a b hab => by
        have hq0 : q = 0 := by simp at hq; omega
        subst hq0
        rw [Nat.zero_mul, Nat.add_zero, Nat.zero_add, cell_of_row _ W1.heap.size a _ _ _ (heap_alloc_new W1 _), List.getElem?_toArray]
        exact hab
      have htl : (ds.take q).length ≤ 10 := by rw [List.length_take]; omega
      clear hlit hys hnd
      go_wp2_with (first | (refine wpList_load_mid rfl 60 _ rfl bn (off + q * 33) rfl (nc (a, dd)) _ HRw.out Tryd.underlying60 rfl HNS.out ?_; rw [HYN.out]) | (refine wpList_alloc_zero HZ0.out rfl rfl ?_) | (refine wpList_store_row rfl 60 _ _ rfl wr.heap.size yn rfl rfl 60 zn (heap_alloc_new wr _) HIy.out HZY.out H1y.out ?_; rw [setRow_alloc_new', hW1.out]) | (refine wpList_load_mid rfl 28 _ rfl wr.heap.size 1 rfl (dc dd) _ HX1.out Tryd.underlying28 rfl HSy.out ?_; rw [dc_arr, HCY.out]) | (refine wpList_lit_run rfl 22 1 _ rfl #[(0, .agg cy)] (by go_simp) _ _ HLIT.out ?_) | (refine wpList_append_digs rfl _ _ rfl W0.heap.size _ (ds.take q) [dd] rfl (HO1.out.alloc _) (by intro d hd; rw [List.mem_singleton.1 hd]; exact yD.out) W1.heap.size 0 1 rfl HA1.out (by simp only [List.length_cons, List.length_nil]; omega) (by simp; omega) ?_; intro v' w8 ho8 hg8))
      have HO8 : Hid (w8.ownsRow W0.heap.size 28 32 v' (ds.take (q + 1)).length ((ds.take (q + 1)).flatMap dc)) := by rw [← HST.out]; exact ho8
      have HB8 : Hid (Below W0.heap.size W0 w8) := (HB1.out.alloc HB1.out.size _).grown hg8 (by simp; omega) (fun q hq => (HO1.out.lt q hq).1)
      clear ho8 hg8
      exact ⟨⟨q + 1, by omega, by go_num, HO8, HB8⟩, by simp [intOf]; omega⟩
    · have hqk : q = k := by omega
      have HDC : Hid (HDs wr u11 ds) := by
        have := HOW.out
        rw [List.take_of_length_le (by rw [HDL.out]; omega)] at this
        exact HDs.of_own this HDD.out
      subst hqk
      have H7r : Hid (wr.heap[w.heap.size]? = some (.cells xa 28 (0, 0))) := (HB.out.block _ (Array.getElem?_eq_some_iff.1 H7.out).1).trans H7.out
      have H8r : Hid (wr.heap[w.heap.size + 1]? = some (.cells xb 28 (0, 0))) := (HB.out.block _ (Array.getElem?_eq_some_iff.1 H8.out).1).trans H8.out
      have BLr := hid (HB0.out.trans (HB.out.mono HB0.out.size))
      have CC := hid (rclimb_ok wr n i q d _ ds DD.out HDC.out h1 h2 hi HWK.out hk9 HDL.out)
      rw [HT.out, HXA.out, HXB.out] at CC
      have hqe := fun w => run_eql_bytes w 32 28 Tryd.underlying28 root root DR.out.1 DR.out.1
      rw [HXB.out, decide_eq_true rfl] at hqe
      go_wp2_with (first | (refine wpList_load_row rfl 28 _ rfl w.heap.size rfl 28 xa (0, 0) _ H7r.out Tryd.underlying28 rfl SA.out ?_) | fail)
      refine CC.out.mono ?_
      rintro e w2 ⟨rfl, hB2⟩
      obtain ⟨W3, hW3⟩ : ∃ W3, Hid (w2.alloc (.cells xb 28) = W3) := ⟨_, rfl⟩
      have B3 : Hid (Below wr.heap.size wr W3) := by rw [← hW3.out]; exact hB2.alloc hB2.size _
      have BL3 := hid (BLr.out.trans (B3.out.mono BLr.out.size))
      have HR3 : Hid (W3.heap[w2.heap.size]? = some (.cells xb 28 (0, 0))) := by rw [← hW3.out]; exact heap_alloc_new w2 _
      have H83 : Hid (W3.heap[w.heap.size + 1]? = some (.cells xb 28 (0, 0))) := (B3.out.block _ (Array.getElem?_eq_some_iff.1 H8r.out).1).trans H8r.out
      clear hB2 CC
      go_wp2_with (first | (refine wpList_alloc_digest rfl rfl ?_; rw [HZD.out]) | (refine wpList_store_row rfl 28 _ _ rfl w2.heap.size xb rfl rfl 28 zd (heap_alloc_new w2 _) SB.out ZB.out OB.out ?_; rw [setRow_alloc_newT, hW3.out]) | (refine wpList_load_row_on rfl 28 _ rfl w2.heap.size rfl 28 xb (0, 0) _ HR3.out Tryd.underlying28 rfl SB.out ?_) | (refine wpList_load_row_on rfl 28 _ rfl (w.heap.size + 1) rfl 28 xb (0, 0) _ H83.out Tryd.underlying28 rfl SB.out ?_) | fail)
      go_ret
      exact ⟨rfl, BL3.out⟩
end Go.Proofs.YtjmlpkemjafifaaDoor

/- sound of the law, walked. -/
set_option linter.unusedVariables false
set_option linter.unusedSimpArgs false
namespace Go.Proofs.YtjmlpkemjafifaaDoor
open Go.RowKit

theorem kIs_fromS {K : Kn} {a : Int} {x : Nat} {d : List Int} (h : K x = some d) (ha : a = (x : Int)) : kIs K a = true := by subst ha; rw [kIs_nat, h]; rfl
set_option maxRecDepth 100000 in
set_option maxHeartbeats 16000000 in
theorem lsound_ok (w : World) (g bm g' bm' L W : Nat) (K1 K0 : Kn) (hp : HPf w g bm L W K1) (hp' : HPf w g' bm' L W K0) (hW5 : W ≤ 512) (hW1 : 1 ≤ W) (hs : Snd W K0 K1) :
    Calls Tryd.prog 34 #[.pointer (some ⟨g, 0, none⟩), .pointer (some ⟨g', 0, none⟩)] w fun e w' => e = .returned (.bool true) ∧ Below w.heap.size w w' := by
  have HP4 := hid hp
  have HQ4 := hid hp'
  have HSN := hid hs
  obtain ⟨zd, HZD⟩ : ∃ zd, Hid (cellsB zeros32 = zd) := ⟨_, rfl⟩
  have hzs : zd.size = 32 := by rw [← HZD.out, cellsB_size, zeros32_length]
  have HZS := hid hzs
  clear hp hp' hs hzs
  go_enter Tryd.func34, Tryd.ntmps34
  go_wp2
  go_loopw [5] (fun i wr => ∃ k : Nat, 2 ≤ k ∧ k ≤ 2 * W ∧ i = .int .i64 k ∧ Hid (HPf wr g bm L W K1) ∧ Hid (HPf wr g' bm' L W K0) ∧ Hid (Below w.heap.size w wr)) (fun i _ => 2 * W - (intOf i).toNat)
  case atStart => exact ⟨2, Nat.le_refl _, by omega, rfl, HP4, HQ4, Below.refl _ _⟩
  case round =>
    clear HP4 HQ4
    obtain ⟨k, hk1, hk2, rfl, HP, HQ, HBel⟩ := hrel
    have CWd := hid (wi_any wr g bm L W K1 HP.out)
    have ew : IntKind.i64.wrap (2 * (W : Int)) = 2 * (W : Int) := by rw [IntKind.wrap_i64]; omega
    go_wp2_with fail
    refine CWd.out.mono ?_
    rintro e wq ⟨rfl, hBq⟩
    have HPq := hid (HP.out.below hBq)
    have HQq := hid (HQ.out.below hBq)
    have BLq := hid (HBel.out.trans (hBq.mono HBel.out.size))
    clear hBq CWd HP HQ
    by_cases hlt : k < 2 * W
    case neg =>
      have hlt2 : ¬ (k : Int) < 2 * (W : Int) := by omega
      go_wp2
      go_ret
      exact ⟨rfl, BLq.out⟩
    case pos =>
      have hlt2 : (k : Int) < 2 * (W : Int) := by omega
      have CK1 := hid (kn_any wq g bm L W K1 HPq.out (k : Int))
      obtain ⟨y1, HY1⟩ : ∃ y, Hid (kAt K1 (k : Int) = y) := ⟨_, rfl⟩
      obtain ⟨z1, HZ1⟩ : ∃ z, Hid (kIs K1 (k : Int) = z) := ⟨_, rfl⟩
      have D1 : Hid (D32 y1) := by rw [← HY1.out]; exact kAt_D HPq.out.2 _
      obtain ⟨c1, HC1⟩ : ∃ c, Hid (cellsB y1 = c) := ⟨_, rfl⟩
      have hcs1 : c1.size = 32 := by rw [← HC1.out, cellsB_size, D1.out.1]
      have SD1 : Hid ((Tryd.prog.info? 28).map (·.size) = some c1.size) := by rw [hcs1]; exact size_digest
      have O1 : Hid (c1.all (·.oneCell') = true) := by rw [← HC1.out]; exact cellsB_one _
      have ZC1 : Hid (zd.size = c1.size) := by refine hid ?_; rw [HZS.out, hcs1]
      rw [HY1.out, HZ1.out, HC1.out] at CK1
      clear hcs1
      go_wp2_with fail
      refine CK1.out.mono ?_
      rintro e w1 ⟨rfl, hB1⟩
      clear CK1
      obtain ⟨V1, hV1⟩ : ∃ V, Hid (w1.alloc (.cells c1 28) = V) := ⟨_, rfl⟩
      have BB1 : Hid (Below wq.heap.size wq V1) := by rw [← hV1.out]; exact hB1.alloc hB1.size _
      have HR1_1 : Hid (V1.heap[w1.heap.size]? = some (.cells c1 28 (0, 0))) := by rw [← hV1.out]; exact heap_alloc_new w1 _
      clear hB1
      have HPa1 := hid (HPq.out.below BB1.out)
      have HQa1 := hid (HQq.out.below BB1.out)
      have CK2 := hid (kn_any V1 g' bm' L W K0 HQa1.out (k : Int))
      obtain ⟨y2, HY2⟩ : ∃ y, Hid (kAt K0 (k : Int) = y) := ⟨_, rfl⟩
      obtain ⟨z2, HZ2⟩ : ∃ z, Hid (kIs K0 (k : Int) = z) := ⟨_, rfl⟩
      have D2 : Hid (D32 y2) := by rw [← HY2.out]; exact kAt_D HQa1.out.2 _
      obtain ⟨c2, HC2⟩ : ∃ c, Hid (cellsB y2 = c) := ⟨_, rfl⟩
      have hcs2 : c2.size = 32 := by rw [← HC2.out, cellsB_size, D2.out.1]
      have SD2 : Hid ((Tryd.prog.info? 28).map (·.size) = some c2.size) := by rw [hcs2]; exact size_digest
      have O2 : Hid (c2.all (·.oneCell') = true) := by rw [← HC2.out]; exact cellsB_one _
      have ZC2 : Hid (zd.size = c2.size) := by refine hid ?_; rw [HZS.out, hcs2]
      rw [HY2.out, HZ2.out, HC2.out] at CK2
      clear hcs2
      go_wp2_with (first | (refine wpList_alloc_digest rfl rfl ?_; rw [HZD.out]) | (refine wpList_store_row rfl 28 _ _ rfl w1.heap.size c1 rfl rfl 28 zd (heap_alloc_new w1 _) SD1.out ZC1.out O1.out ?_; rw [setRow_alloc_new', hV1.out]) | fail)
      refine CK2.out.mono ?_
      rintro e w2 ⟨rfl, hB2⟩
      clear CK2
      obtain ⟨V2, hV2⟩ : ∃ V, Hid (w2.alloc (.cells c2 28) = V) := ⟨_, rfl⟩
      have BB2 : Hid (Below V1.heap.size V1 V2) := by rw [← hV2.out]; exact hB2.alloc hB2.size _
      have HR2_2 : Hid (V2.heap[w2.heap.size]? = some (.cells c2 28 (0, 0))) := by rw [← hV2.out]; exact heap_alloc_new w2 _
      clear hB2
      have HR1_2 : Hid (V2.heap[w1.heap.size]? = some (.cells c1 28 (0, 0))) := (BB2.out.block _ (Array.getElem?_eq_some_iff.1 HR1_1.out).1).trans HR1_1.out
      have HPa2 := hid (HPa1.out.below BB2.out)
      have HQa2 := hid (HQa1.out.below BB2.out)
      have BLV : Hid (Below w.heap.size w V2) := (BLq.out.trans (BB1.out.mono BLq.out.size)).trans (BB2.out.mono (Nat.le_trans BLq.out.size BB1.out.size))
      have ewk : IntKind.i64.wrap ((k : Int) + 1) = (k : Int) + 1 := by rw [IntKind.wrap_i64]; omega
      have hcs : z1 = false ∨ (z1 = true ∧ z2 = true) ∨ (z1 = true ∧ z2 = false) := by
        cases z1 <;> cases z2 <;> simp
      rcases hcs with rfl | ⟨rfl, rfl⟩ | ⟨rfl, rfl⟩
      · go_wp2_with (first | (refine wpList_alloc_digest rfl rfl ?_; rw [HZD.out]) | (refine wpList_store_row rfl 28 _ _ rfl w2.heap.size c2 rfl rfl 28 zd (heap_alloc_new w2 _) SD2.out ZC2.out O2.out ?_; rw [setRow_alloc_new', hV2.out]) | fail)
        exact ⟨⟨k + 1, by omega, by omega, by go_num, HPa2, HQa2, BLV⟩, by simp [intOf]; omega⟩
      · go_wp2_with (first | (refine wpList_alloc_digest rfl rfl ?_; rw [HZD.out]) | (refine wpList_store_row rfl 28 _ _ rfl w2.heap.size c2 rfl rfl 28 zd (heap_alloc_new w2 _) SD2.out ZC2.out O2.out ?_; rw [setRow_alloc_new', hV2.out]) | fail)
        exact ⟨⟨k + 1, by omega, by omega, by go_num, HPa2, HQa2, BLV⟩, by simp [intOf]; omega⟩
      ·
        have hk0 : ∃ d, K1 k = some d ∧ y1 = d ∧ K0 k = none := by
          have a1 := HZ1.out
          have a2 := HZ2.out
          rw [kIs_nat] at a1 a2
          obtain ⟨d, hd⟩ := Option.isSome_iff_exists.1 a1
          refine ⟨d, hd, ?_, by simpa using a2⟩
          rw [← HY1.out, kAt_some hd rfl]
        obtain ⟨d, hd1, hd2, hd3⟩ := hk0
        obtain ⟨bb, uu, hb1, hu1, hu2⟩ := HSN.out k d hk1 hlt hd1 hd3
        rw [← hd2] at hu2
        have HBR := hid hb1
        have HUP := hid hu1
        have HUU := hid hu2
        clear hd1 hd2 hd3 hb1 hu1 hu2
        have hxo := bits_xor1 k (by omega)
        have etd := qdiv2 k
        have ewd : IntKind.i64.wrap (((k / 2 : Nat) : Int)) = ((k / 2 : Nat) : Int) := by rw [IntKind.wrap_i64]; omega
        obtain ⟨x3, HX3⟩ : ∃ x3, Hid (k ^^^ 1 = x3) := ⟨_, rfl⟩
        obtain ⟨x4, HX4⟩ : ∃ x4, Hid (k / 2 = x4) := ⟨_, rfl⟩
        rw [HX3.out] at hxo HBR
        rw [HX4.out] at etd ewd HUP
        have CK3 := hid (kn_any V2 g bm L W K1 HPa2.out (x3 : Int))
        obtain ⟨y3, HY3⟩ : ∃ y, Hid (kAt K1 (x3 : Int) = y) := ⟨_, rfl⟩
        obtain ⟨z3, HZ3⟩ : ∃ z, Hid (kIs K1 (x3 : Int) = z) := ⟨_, rfl⟩
        have D3 : Hid (D32 y3) := by rw [← HY3.out]; exact kAt_D HPa2.out.2 _
        obtain ⟨c3, HC3⟩ : ∃ c, Hid (cellsB y3 = c) := ⟨_, rfl⟩
        have hcs3 : c3.size = 32 := by rw [← HC3.out, cellsB_size, D3.out.1]
        have SD3 : Hid ((Tryd.prog.info? 28).map (·.size) = some c3.size) := by rw [hcs3]; exact size_digest
        have O3 : Hid (c3.all (·.oneCell') = true) := by rw [← HC3.out]; exact cellsB_one _
        have ZC3 : Hid (zd.size = c3.size) := by refine hid ?_; rw [HZS.out, hcs3]
        rw [HY3.out, HZ3.out, HC3.out] at CK3
        clear hcs3
        go_wp2_with (first | (refine wpList_alloc_digest rfl rfl ?_; rw [HZD.out]) | (refine wpList_store_row rfl 28 _ _ rfl w2.heap.size c2 rfl rfl 28 zd (heap_alloc_new w2 _) SD2.out ZC2.out O2.out ?_; rw [setRow_alloc_new', hV2.out]) | fail)
        refine CK3.out.mono ?_
        rintro e w3 ⟨rfl, hB3⟩
        clear CK3
        obtain ⟨V3, hV3⟩ : ∃ V, Hid (w3.alloc (.cells c3 28) = V) := ⟨_, rfl⟩
        have BB3 : Hid (Below V2.heap.size V2 V3) := by rw [← hV3.out]; exact hB3.alloc hB3.size _
        have HR3_3 : Hid (V3.heap[w3.heap.size]? = some (.cells c3 28 (0, 0))) := by rw [← hV3.out]; exact heap_alloc_new w3 _
        clear hB3
        have HR1_3 : Hid (V3.heap[w1.heap.size]? = some (.cells c1 28 (0, 0))) := (BB3.out.block _ (Array.getElem?_eq_some_iff.1 HR1_2.out).1).trans HR1_2.out
        have HR2_3 : Hid (V3.heap[w2.heap.size]? = some (.cells c2 28 (0, 0))) := (BB3.out.block _ (Array.getElem?_eq_some_iff.1 HR2_2.out).1).trans HR2_2.out
        have HPa3 := hid (HPa2.out.below BB3.out)
        have HQa3 := hid (HQa2.out.below BB3.out)
        have CK4 := hid (kn_any V3 g bm L W K1 HPa3.out (x4 : Int))
        obtain ⟨y4, HY4⟩ : ∃ y, Hid (kAt K1 (x4 : Int) = y) := ⟨_, rfl⟩
        obtain ⟨z4, HZ4⟩ : ∃ z, Hid (kIs K1 (x4 : Int) = z) := ⟨_, rfl⟩
        have D4 : Hid (D32 y4) := by rw [← HY4.out]; exact kAt_D HPa3.out.2 _
        obtain ⟨c4, HC4⟩ : ∃ c, Hid (cellsB y4 = c) := ⟨_, rfl⟩
        have hcs4 : c4.size = 32 := by rw [← HC4.out, cellsB_size, D4.out.1]
        have SD4 : Hid ((Tryd.prog.info? 28).map (·.size) = some c4.size) := by rw [hcs4]; exact size_digest
        have O4 : Hid (c4.all (·.oneCell') = true) := by rw [← HC4.out]; exact cellsB_one _
        have ZC4 : Hid (zd.size = c4.size) := by refine hid ?_; rw [HZS.out, hcs4]
        rw [HY4.out, HZ4.out, HC4.out] at CK4
        clear hcs4
        go_wp2_with (first | (refine wpList_alloc_digest rfl rfl ?_; rw [HZD.out]) | (refine wpList_store_row rfl 28 _ _ rfl w3.heap.size c3 rfl rfl 28 zd (heap_alloc_new w3 _) SD3.out ZC3.out O3.out ?_; rw [setRow_alloc_new', hV3.out]) | fail)
        refine CK4.out.mono ?_
        rintro e w4 ⟨rfl, hB4⟩
        clear CK4
        obtain ⟨V4, hV4⟩ : ∃ V, Hid (w4.alloc (.cells c4 28) = V) := ⟨_, rfl⟩
        have BB4 : Hid (Below V3.heap.size V3 V4) := by rw [← hV4.out]; exact hB4.alloc hB4.size _
        have HR4_4 : Hid (V4.heap[w4.heap.size]? = some (.cells c4 28 (0, 0))) := by rw [← hV4.out]; exact heap_alloc_new w4 _
        clear hB4
        have HR1_4 : Hid (V4.heap[w1.heap.size]? = some (.cells c1 28 (0, 0))) := (BB4.out.block _ (Array.getElem?_eq_some_iff.1 HR1_3.out).1).trans HR1_3.out
        have HR2_4 : Hid (V4.heap[w2.heap.size]? = some (.cells c2 28 (0, 0))) := (BB4.out.block _ (Array.getElem?_eq_some_iff.1 HR2_3.out).1).trans HR2_3.out
        have HR3_4 : Hid (V4.heap[w3.heap.size]? = some (.cells c3 28 (0, 0))) := (BB4.out.block _ (Array.getElem?_eq_some_iff.1 HR3_3.out).1).trans HR3_3.out
        have HPa4 := hid (HPa3.out.below BB4.out)
        have HQa4 := hid (HQa3.out.below BB4.out)
        have hz3 : z3 = true := by rw [← HZ3.out]; exact kIs_fromS HBR.out rfl
        have hz4 : z4 = true := by rw [← HZ4.out]; exact kIs_fromS HUP.out rfl
        have HY3' : Hid (y3 = bb) := by rw [← HY3.out]; exact kAt_some HBR.out rfl
        have HY4' : Hid (y4 = uu) := by rw [← HY4.out]; exact kAt_some HUP.out rfl
        subst hz3 hz4
        have HU4 : Hid (y4 = if k % 2 = 1 then ndL y3 y1 else ndL y1 y3) := by rw [HY4'.out, HY3'.out]; exact HUU
        obtain ⟨V5, hV5⟩ : ∃ V, Hid (V4.alloc (.cells c1 28) = V) := ⟨_, rfl⟩
        obtain ⟨V6, hV6⟩ : ∃ V, Hid (V5.alloc (.cells c3 28) = V) := ⟨_, rfl⟩
        have BB5 : Hid (Below V4.heap.size V4 V5) := by rw [← hV5.out]; exact (Below.refl _ V4).alloc (Nat.le_refl _) _
        have BB6 : Hid (Below V5.heap.size V5 V6) := by rw [← hV6.out]; exact (Below.refl _ V5).alloc (Nat.le_refl _) _
        have HS45 : Hid (V5.heap.size = V4.heap.size + 1) := by refine hid ?_; rw [← hV5.out]; simp
        have HRp_5 : Hid (V5.heap[V4.heap.size]? = some (.cells c1 28 (0, 0))) := by rw [← hV5.out]; exact heap_alloc_new V4 _
        have HR1_5 : Hid (V5.heap[w1.heap.size]? = some (.cells c1 28 (0, 0))) := (BB5.out.block _ (Array.getElem?_eq_some_iff.1 HR1_4.out).1).trans HR1_4.out
        have HR3_5 : Hid (V5.heap[w3.heap.size]? = some (.cells c3 28 (0, 0))) := (BB5.out.block _ (Array.getElem?_eq_some_iff.1 HR3_4.out).1).trans HR3_4.out
        have HR4_5 : Hid (V5.heap[w4.heap.size]? = some (.cells c4 28 (0, 0))) := (BB5.out.block _ (Array.getElem?_eq_some_iff.1 HR4_4.out).1).trans HR4_4.out
        have HRq_6 : Hid (V6.heap[V5.heap.size]? = some (.cells c3 28 (0, 0))) := by rw [← hV6.out]; exact heap_alloc_new V5 _
        have HRp_6 : Hid (V6.heap[V4.heap.size]? = some (.cells c1 28 (0, 0))) := (BB6.out.block _ (Array.getElem?_eq_some_iff.1 HRp_5.out).1).trans HRp_5.out
        have HR1_6 : Hid (V6.heap[w1.heap.size]? = some (.cells c1 28 (0, 0))) := (BB6.out.block _ (Array.getElem?_eq_some_iff.1 HR1_5.out).1).trans HR1_5.out
        have HR3_6 : Hid (V6.heap[w3.heap.size]? = some (.cells c3 28 (0, 0))) := (BB6.out.block _ (Array.getElem?_eq_some_iff.1 HR3_5.out).1).trans HR3_5.out
        have HR4_6 : Hid (V6.heap[w4.heap.size]? = some (.cells c4 28 (0, 0))) := (BB6.out.block _ (Array.getElem?_eq_some_iff.1 HR4_5.out).1).trans HR4_5.out
        have hl1 : w1.heap.size < V4.heap.size := (Array.getElem?_eq_some_iff.1 HR1_4.out).1
        have hl4 : w4.heap.size < V4.heap.size := (Array.getElem?_eq_some_iff.1 HR4_4.out).1
        have BL46 : Hid (Below V4.heap.size V4 V6) := BB5.out.trans (BB6.out.mono BB5.out.size)
        have BLW : Hid (Below w.heap.size w V4) := (BLV.out.trans (BB3.out.mono BLV.out.size)).trans (BB4.out.mono (Nat.le_trans BLV.out.size BB3.out.size))
        have Z13 : Hid (c1.size = c3.size) := ZC1.out.symm.trans ZC3.out
        have Z31 : Hid (c3.size = c1.size) := ZC3.out.symm.trans ZC1.out
        have etm := qmod2 k
        have ewm : IntKind.i64.wrap ((k % 2 : Nat) : Int) = ((k % 2 : Nat) : Int) := by rw [IntKind.wrap_i64]; omega
        by_cases hod : k % 2 = 1
        case neg =>
          have HEQ : Hid (ndL y1 y3 = y4) := by rw [HU4.out, if_neg hod]; exact rfl
          have etm0 : ((k % 2 : Nat) : Int) = 0 := by rw [show k % 2 = 0 by omega]; rfl
          rw [etm0] at etm ewm
          clear hod etm0
          go_wp2_with (first | (refine wpList_alloc_digest rfl rfl ?_; rw [HZD.out]) | (refine wpList_store_row rfl 28 _ _ rfl w4.heap.size c4 rfl rfl 28 zd (heap_alloc_new w4 _) SD4.out ZC4.out O4.out ?_; rw [setRow_alloc_new', hV4.out]) | (refine wpList_load_row rfl 28 _ rfl w1.heap.size rfl 28 c1 (0, 0) _ HR1_4.out Tryd.underlying28 rfl SD1.out ?_) | (refine wpList_store_row rfl 28 _ _ rfl V4.heap.size c1 rfl rfl 28 zd (heap_alloc_new V4 _) SD1.out ZC1.out O1.out ?_; rw [setRow_alloc_new', hV5.out]) | (refine wpList_load_row rfl 28 _ rfl w3.heap.size rfl 28 c3 (0, 0) _ HR3_5.out Tryd.underlying28 rfl SD3.out ?_) | (refine wpList_store_row rfl 28 _ _ rfl V5.heap.size c3 rfl rfl 28 zd (heap_alloc_new V5 _) SD3.out ZC3.out O3.out ?_; rw [setRow_alloc_new', hV6.out]) | fail)
          have HXl : Hid (V6.rangeAt V4.heap.size 0 (dc y1)) := fun j v hj => by rw [Nat.zero_add, cell_of_row V6 _ j _ _ _ HRp_6.out, ← HC1.out, ← dc_arr, List.getElem?_toArray]; exact hj
          have HXr : Hid (V6.rangeAt V5.heap.size 0 (dc y3)) := fun j v hj => by rw [Nat.zero_add, cell_of_row V6 _ j _ _ _ HRq_6.out, ← HC3.out, ← dc_arr, List.getElem?_toArray]; exact hj
          have HX4b : Hid (V6.rangeAt w4.heap.size 0 (dc y4)) := fun j v hj => by rw [Nat.zero_add, cell_of_row V6 _ j _ _ _ HR4_6.out, ← HC4.out, ← dc_arr, List.getElem?_toArray]; exact hj
          have HLl := hid (Array.getElem?_eq_some_iff.1 HRp_6.out).1
          have HLr := hid (Array.getElem?_eq_some_iff.1 HRq_6.out).1
          have HL4 := hid (Array.getElem?_eq_some_iff.1 HR4_6.out).1
          have hq3 := fun w => run_neq_bytes w 32 28 Tryd.underlying28 (ndL y1 y3) y4 (ndL_D _ _).1 D4.out.1
          rw [show decide (ndL y1 y3 = y4) = true from decide_eq_true HEQ.out] at hq3
          have CNa := hid (fun w' => rnode_any w' y1 y3 D1.out D3.out)
          refine wp_region_held_drew (S := Below V6.heap.size V6) (by kernel_rfl) (Below.refl _ _).drew (fun hHeld => ?_)
          have HS := hid hHeld
          clear hHeld
          change wpAnyH _ _ _ _ _ _ _ _ (World.drew _)
          refine wpAnyH_take (i := 0) rfl (by kernel_rfl) (by kernel_rfl) (by kernel_rfl) (fun _ _ _ h => h) (yieldsIf_load_mid (by rfl) 28 _ rfl V4.heap.size 0 rfl (dc y1) _ (fun W hW => range_below HXl.out hW HLl.out) Tryd.underlying28 rfl (size_dig D1.out)) HS.out ?_
          simp only [Act.put, List.getElem_toArray, List.getElem_cons_zero, List.getElem_cons_succ, List.setIfInBounds_toArray, List.set_cons_zero, List.set_cons_succ]
          refine wpAnyH_take (i := 1) rfl (by kernel_rfl) (by kernel_rfl) (by kernel_rfl) (fun _ _ _ h => h) (yieldsIf_load_mid (by rfl) 28 _ rfl V5.heap.size 0 rfl (dc y3) _ (fun W hW => range_below HXr.out hW HLr.out) Tryd.underlying28 rfl (size_dig D3.out)) HS.out ?_
          simp only [Act.put, List.getElem_toArray, List.getElem_cons_zero, List.getElem_cons_succ, List.setIfInBounds_toArray, List.set_cons_zero, List.set_cons_succ]
          refine wpAnyH_take (i := 3) rfl (by kernel_rfl) (by kernel_rfl) (by kernel_rfl) (fun _ _ _ h => h) (yieldsIf_load_mid (by rfl) 28 _ rfl w4.heap.size 0 rfl (dc y4) _ (fun W hW => range_below HX4b.out hW HL4.out) Tryd.underlying28 rfl (size_dig D4.out)) HS.out ?_
          simp only [Act.put, List.getElem_toArray, List.getElem_cons_zero, List.getElem_cons_succ, List.setIfInBounds_toArray, List.set_cons_zero, List.set_cons_succ]
          rw [dc_arr, dc_arr, dc_arr]
          refine wpAnyH_ready (rs := [2]) (by kernel_rfl) (by simp) ?_
          refine AllReadyH.cons rfl (fun K hK => ?_) AllReadyH.nil
          go_simp
          refine (CNa.out _).mono ?_
          rintro e v9 ⟨rfl, hB9⟩
          have HS9 := hid (HS.out.trans (hB9.mono HS.out.size))
          clear hB9
          refine hK.out _ _ HS9.out (fun _ => ?_)
          clear hK K
          have HS := hid HS9.out
          clear HS9
          refine wpAnyH_take (i := 4) (v := .bool false) rfl (by kernel_rfl) (by kernel_rfl) (by kernel_rfl) (fun _ _ _ h => h) (Or.inl ⟨by rfl, ?q4⟩) HS.out ?_
          case q4 => intro w hSw; go_simp
          simp only [Act.put, List.getElem_toArray, List.getElem_cons_zero, List.getElem_cons_succ, List.setIfInBounds_toArray, List.set_cons_zero, List.set_cons_succ]
          refine wpAnyH_done (by kernel_rfl) ?_ _
          go_wp2
          have BF := hid (BL46.out.trans (HS.out.mono BL46.out.size))
          exact ⟨⟨k + 1, by omega, by omega, by go_num, hid (HPa4.out.below BF.out), hid (HQa4.out.below BF.out), hid (BLW.out.trans (BF.out.mono BLW.out.size))⟩, by simp [intOf]; omega⟩
        case pos =>
          have HEQ : Hid (ndL y3 y1 = y4) := by rw [HU4.out, if_pos hod]; exact rfl
          have etm0 : ((k % 2 : Nat) : Int) = 1 := by rw [hod]; rfl
          rw [etm0] at etm ewm
          clear hod etm0
          obtain ⟨V7, hV7⟩ : ∃ V, Hid (V6.setRow V4.heap.size c3 = V) := ⟨_, rfl⟩
          have HRp_7 : Hid (V7.heap[V4.heap.size]? = some (.cells c3 28 (0, 0))) := by rw [← hV7.out]; exact setRow_heap _ _ _ _ _ _ HRp_6.out
          have HRq_7 : Hid (V7.heap[V5.heap.size]? = some (.cells c3 28 (0, 0))) := by rw [← hV7.out]; exact (setRow_other _ _ _ _ (by have := HS45.out; omega)).trans HRq_6.out
          have HR1_7 : Hid (V7.heap[w1.heap.size]? = some (.cells c1 28 (0, 0))) := by rw [← hV7.out]; exact (setRow_other _ _ _ _ (by have := HS45.out; omega)).trans HR1_6.out
          have HR4_7 : Hid (V7.heap[w4.heap.size]? = some (.cells c4 28 (0, 0))) := by rw [← hV7.out]; exact (setRow_other _ _ _ _ (by have := HS45.out; omega)).trans HR4_6.out
          obtain ⟨V8, hV8⟩ : ∃ V, Hid (V7.setRow V5.heap.size c1 = V) := ⟨_, rfl⟩
          have HRq_8 : Hid (V8.heap[V5.heap.size]? = some (.cells c1 28 (0, 0))) := by rw [← hV8.out]; exact setRow_heap _ _ _ _ _ _ HRq_7.out
          have HRp_8 : Hid (V8.heap[V4.heap.size]? = some (.cells c3 28 (0, 0))) := by rw [← hV8.out]; exact (setRow_other _ _ _ _ (by have := HS45.out; omega)).trans HRp_7.out
          have HR4_8 : Hid (V8.heap[w4.heap.size]? = some (.cells c4 28 (0, 0))) := by rw [← hV8.out]; exact (setRow_other _ _ _ _ (by have := HS45.out; omega)).trans HR4_7.out
          have BL48 : Hid (Below V4.heap.size V4 V8) := by rw [← hV8.out, ← hV7.out]; exact below_setRow (below_setRow BL46.out (Nat.le_refl _) _) (by have := HS45.out; omega) _
          go_wp2_with (first | (refine wpList_alloc_digest rfl rfl ?_; rw [HZD.out]) | (refine wpList_store_row rfl 28 _ _ rfl w4.heap.size c4 rfl rfl 28 zd (heap_alloc_new w4 _) SD4.out ZC4.out O4.out ?_; rw [setRow_alloc_new', hV4.out]) | (refine wpList_load_row rfl 28 _ rfl w1.heap.size rfl 28 c1 (0, 0) _ HR1_4.out Tryd.underlying28 rfl SD1.out ?_) | (refine wpList_store_row rfl 28 _ _ rfl V4.heap.size c1 rfl rfl 28 zd (heap_alloc_new V4 _) SD1.out ZC1.out O1.out ?_; rw [setRow_alloc_new', hV5.out]) | (refine wpList_load_row rfl 28 _ rfl w3.heap.size rfl 28 c3 (0, 0) _ HR3_5.out Tryd.underlying28 rfl SD3.out ?_) | (refine wpList_store_row rfl 28 _ _ rfl V5.heap.size c3 rfl rfl 28 zd (heap_alloc_new V5 _) SD3.out ZC3.out O3.out ?_; rw [setRow_alloc_new', hV6.out]) | (refine wpList_load_row rfl 28 _ rfl w3.heap.size rfl 28 c3 (0, 0) _ HR3_6.out Tryd.underlying28 rfl SD3.out ?_) | (refine wpList_store_row rfl 28 _ _ rfl V4.heap.size c3 rfl rfl 28 c1 HRp_6.out SD3.out Z13.out O3.out ?_; rw [hV7.out]) | (refine wpList_load_row rfl 28 _ rfl w1.heap.size rfl 28 c1 (0, 0) _ HR1_7.out Tryd.underlying28 rfl SD1.out ?_) | (refine wpList_store_row rfl 28 _ _ rfl V5.heap.size c1 rfl rfl 28 c3 HRq_7.out SD1.out Z31.out O1.out ?_; rw [hV8.out]) | fail)
          have HXl : Hid (V8.rangeAt V4.heap.size 0 (dc y3)) := fun j v hj => by rw [Nat.zero_add, cell_of_row V8 _ j _ _ _ HRp_8.out, ← HC3.out, ← dc_arr, List.getElem?_toArray]; exact hj
          have HXr : Hid (V8.rangeAt V5.heap.size 0 (dc y1)) := fun j v hj => by rw [Nat.zero_add, cell_of_row V8 _ j _ _ _ HRq_8.out, ← HC1.out, ← dc_arr, List.getElem?_toArray]; exact hj
          have HX4b : Hid (V8.rangeAt w4.heap.size 0 (dc y4)) := fun j v hj => by rw [Nat.zero_add, cell_of_row V8 _ j _ _ _ HR4_8.out, ← HC4.out, ← dc_arr, List.getElem?_toArray]; exact hj
          have HLl := hid (Array.getElem?_eq_some_iff.1 HRp_8.out).1
          have HLr := hid (Array.getElem?_eq_some_iff.1 HRq_8.out).1
          have HL4 := hid (Array.getElem?_eq_some_iff.1 HR4_8.out).1
          have hq3 := fun w => run_neq_bytes w 32 28 Tryd.underlying28 (ndL y3 y1) y4 (ndL_D _ _).1 D4.out.1
          rw [show decide (ndL y3 y1 = y4) = true from decide_eq_true HEQ.out] at hq3
          have CNa := hid (fun w' => rnode_any w' y3 y1 D3.out D1.out)
          refine wp_region_held_drew (S := Below V8.heap.size V8) (by kernel_rfl) (Below.refl _ _).drew (fun hHeld => ?_)
          have HS := hid hHeld
          clear hHeld
          change wpAnyH _ _ _ _ _ _ _ _ (World.drew _)
          refine wpAnyH_take (i := 0) rfl (by kernel_rfl) (by kernel_rfl) (by kernel_rfl) (fun _ _ _ h => h) (yieldsIf_load_mid (by rfl) 28 _ rfl V4.heap.size 0 rfl (dc y3) _ (fun W hW => range_below HXl.out hW HLl.out) Tryd.underlying28 rfl (size_dig D3.out)) HS.out ?_
          simp only [Act.put, List.getElem_toArray, List.getElem_cons_zero, List.getElem_cons_succ, List.setIfInBounds_toArray, List.set_cons_zero, List.set_cons_succ]
          refine wpAnyH_take (i := 1) rfl (by kernel_rfl) (by kernel_rfl) (by kernel_rfl) (fun _ _ _ h => h) (yieldsIf_load_mid (by rfl) 28 _ rfl V5.heap.size 0 rfl (dc y1) _ (fun W hW => range_below HXr.out hW HLr.out) Tryd.underlying28 rfl (size_dig D1.out)) HS.out ?_
          simp only [Act.put, List.getElem_toArray, List.getElem_cons_zero, List.getElem_cons_succ, List.setIfInBounds_toArray, List.set_cons_zero, List.set_cons_succ]
          refine wpAnyH_take (i := 3) rfl (by kernel_rfl) (by kernel_rfl) (by kernel_rfl) (fun _ _ _ h => h) (yieldsIf_load_mid (by rfl) 28 _ rfl w4.heap.size 0 rfl (dc y4) _ (fun W hW => range_below HX4b.out hW HL4.out) Tryd.underlying28 rfl (size_dig D4.out)) HS.out ?_
          simp only [Act.put, List.getElem_toArray, List.getElem_cons_zero, List.getElem_cons_succ, List.setIfInBounds_toArray, List.set_cons_zero, List.set_cons_succ]
          rw [dc_arr, dc_arr, dc_arr]
          refine wpAnyH_ready (rs := [2]) (by kernel_rfl) (by simp) ?_
          refine AllReadyH.cons rfl (fun K hK => ?_) AllReadyH.nil
          go_simp
          refine (CNa.out _).mono ?_
          rintro e v9 ⟨rfl, hB9⟩
          have HS9 := hid (HS.out.trans (hB9.mono HS.out.size))
          clear hB9
          refine hK.out _ _ HS9.out (fun _ => ?_)
          clear hK K
          have HS := hid HS9.out
          clear HS9
          refine wpAnyH_take (i := 4) (v := .bool false) rfl (by kernel_rfl) (by kernel_rfl) (by kernel_rfl) (fun _ _ _ h => h) (Or.inl ⟨by rfl, ?q4⟩) HS.out ?_
          case q4 => intro w hSw; go_simp
          simp only [Act.put, List.getElem_toArray, List.getElem_cons_zero, List.getElem_cons_succ, List.setIfInBounds_toArray, List.set_cons_zero, List.set_cons_succ]
          refine wpAnyH_done (by kernel_rfl) ?_ _
          go_wp2
          have BF := hid (BL48.out.trans (HS.out.mono BL48.out.size))
          exact ⟨⟨k + 1, by omega, by omega, by go_num, hid (HPa4.out.below BF.out), hid (HQa4.out.below BF.out), hid (BLW.out.trans (BF.out.mono BLW.out.size))⟩, by simp [intOf]; omega⟩
end Go.Proofs.YtjmlpkemjafifaaDoor

/- Clone of a proof, walked. -/
set_option linter.unusedVariables false
set_option linter.unusedSimpArgs false
namespace Go.Proofs.YtjmlpkemjafifaaDoor
open Go.RowKit

set_option maxRecDepth 100000 in
set_option maxHeartbeats 2000000 in
theorem mclone_any (w : World) (b : Nat) (es : Array MapEntry) (clock : Nat) (hb : w.heap[b]? = some (.map es clock)) :
    Calls Tryd.prog 62 #[.map (some b)] w fun e w' => e = .returned (.map (some w.heap.size)) ∧ w' = w.alloc (.map es clock) := by
  have hq := fun w => run_eql_map_nil_sl (P := Tryd.prog) w 61 _ _ (some b) Tryd.underlying61
  go_enter Tryd.func62, Tryd.ntmps62
  go_wp2
  rw [run_callFunc_extern Tryd.func77 (by kernel_rfl) (by kernel_rfl) (by kernel_rfl) (e := Extern.MapsClone.clone) (by kernel_rfl), run_maps_clone_sl w 61 hb]
  simp only [Result.andThen]
  rw [Oper.upon_value]
  go_wp2
  rw [run_typeAssert_map_sl _ 61 20 _ _ _ Tryd.underlying61]
  simp only [Result.andThen]
  rw [Oper.upon_value]
  go_wp2
  go_ret
  exact ⟨rfl, rfl⟩
/-- What Clone leaves. -/
def CloQ (w : World) (L W : Nat) (K : Kn) (e : Ending) (w' : World) : Prop :=
  ∃ g b : Nat, e = .returned (.pointer (some ⟨g, 0, none⟩)) ∧ w.heap.size ≤ g ∧ w.heap.size ≤ b ∧ HPf w' g b L W K ∧ Below w.heap.size w w'
set_option maxRecDepth 100000 in
set_option maxHeartbeats 2000000 in
theorem clo_any (w : World) (g b L W : Nat) (Kk : Kn) (h : HPf w g b L W Kk) : Calls Tryd.prog 33 #[.pointer (some ⟨g, 0, none⟩)] w fun e w' => CloQ w L W Kk e w' := by
  have CM := hid (pmade_ok w g b L W Kk h)
  have HP := hid h
  clear h
  go_enter Tryd.func33, Tryd.ntmps33
  go_wp2_with fail
  refine CM.out.mono ?_
  rintro e w1 ⟨rfl, hB1⟩
  have HP1 := hid (HP.out.below hB1)
  have BL := hid hB1
  clear hB1 CM
  go_wp2
  refine wp_region_held_drew (S := fun W' => W'.cell? ⟨g, 0, none⟩ = some (.int .i64 (L : Int)) ∧ W'.cell? ⟨g, 1, none⟩ = some (.int .i64 (W : Int)) ∧ W'.cell? ⟨g, 2, none⟩ = some (.map (some b))) (by kernel_rfl) ⟨HP1.out.c0, HP1.out.c1, HP1.out.c2⟩ (fun hHeld => ?_)
  have HS := hid hHeld
  clear hHeld
  change wpAnyH _ _ _ _ _ _ _ _ (World.drew _)
  refine wpAnyH_take (i := 0) (v := ?_) rfl (by kernel_rfl) (by kernel_rfl) (by kernel_rfl) (fun _ _ _ h => h) (Or.inl ⟨by rfl, ?q0⟩) HS.out ?_
  case q0 => intro w hSw; obtain ⟨s0, s1, s2⟩ := hSw; go_simp; rfl
  simp only [Act.put, List.getElem_toArray, List.getElem_cons_zero, List.getElem_cons_succ, List.setIfInBounds_toArray, List.set_cons_zero, List.set_cons_succ]
  refine wpAnyH_take (i := 1) (v := ?_) rfl (by kernel_rfl) (by kernel_rfl) (by kernel_rfl) (fun _ _ _ h => h) (Or.inl ⟨by rfl, ?q1⟩) HS.out ?_
  case q1 => intro w hSw; obtain ⟨s0, s1, s2⟩ := hSw; go_simp; rfl
  simp only [Act.put, List.getElem_toArray, List.getElem_cons_zero, List.getElem_cons_succ, List.setIfInBounds_toArray, List.set_cons_zero, List.set_cons_succ]
  refine wpAnyH_take (i := 2) (v := ?_) rfl (by kernel_rfl) (by kernel_rfl) (by kernel_rfl) (fun _ _ _ h => h) (Or.inl ⟨by rfl, ?q2⟩) HS.out ?_
  case q2 => intro w hSw; obtain ⟨s0, s1, s2⟩ := hSw; go_simp; rfl
  simp only [Act.put, List.getElem_toArray, List.getElem_cons_zero, List.getElem_cons_succ, List.setIfInBounds_toArray, List.set_cons_zero, List.set_cons_succ]
  refine wpAnyH_take (i := 3) (v := .int .i64 (L : Int)) rfl (by kernel_rfl) (by kernel_rfl) (by kernel_rfl) (fun _ _ _ h => h) (Or.inl ⟨by rfl, ?q3⟩) HS.out ?_
  case q3 => intro w hSw; obtain ⟨s0, s1, s2⟩ := hSw; go_simp
  simp only [Act.put, List.getElem_toArray, List.getElem_cons_zero, List.getElem_cons_succ, List.setIfInBounds_toArray, List.set_cons_zero, List.set_cons_succ]
  refine wpAnyH_take (i := 4) (v := ?_) rfl (by kernel_rfl) (by kernel_rfl) (by kernel_rfl) (fun _ _ _ h => h) (Or.inl ⟨by rfl, ?q4⟩) HS.out ?_
  case q4 => intro w hSw; obtain ⟨s0, s1, s2⟩ := hSw; go_simp; rfl
  simp only [Act.put, List.getElem_toArray, List.getElem_cons_zero, List.getElem_cons_succ, List.setIfInBounds_toArray, List.set_cons_zero, List.set_cons_succ]
  refine wpAnyH_take (i := 5) (v := ?_) rfl (by kernel_rfl) (by kernel_rfl) (by kernel_rfl) (fun _ _ _ h => h) (Or.inl ⟨by rfl, ?q5⟩) HS.out ?_
  case q5 => intro w hSw; obtain ⟨s0, s1, s2⟩ := hSw; go_simp; rfl
  simp only [Act.put, List.getElem_toArray, List.getElem_cons_zero, List.getElem_cons_succ, List.setIfInBounds_toArray, List.set_cons_zero, List.set_cons_succ]
  refine wpAnyH_take (i := 6) (v := ?_) rfl (by kernel_rfl) (by kernel_rfl) (by kernel_rfl) (fun _ _ _ h => h) (Or.inl ⟨by rfl, ?q6⟩) HS.out ?_
  case q6 => intro w hSw; obtain ⟨s0, s1, s2⟩ := hSw; go_simp; rfl
  simp only [Act.put, List.getElem_toArray, List.getElem_cons_zero, List.getElem_cons_succ, List.setIfInBounds_toArray, List.set_cons_zero, List.set_cons_succ]
  refine wpAnyH_take (i := 7) (v := .int .i64 (W : Int)) rfl (by kernel_rfl) (by kernel_rfl) (by kernel_rfl) (fun _ _ _ h => h) (Or.inl ⟨by rfl, ?q7⟩) HS.out ?_
  case q7 => intro w hSw; obtain ⟨s0, s1, s2⟩ := hSw; go_simp
  simp only [Act.put, List.getElem_toArray, List.getElem_cons_zero, List.getElem_cons_succ, List.setIfInBounds_toArray, List.set_cons_zero, List.set_cons_succ]
  refine wpAnyH_take (i := 8) (v := ?_) rfl (by kernel_rfl) (by kernel_rfl) (by kernel_rfl) (fun _ _ _ h => h) (Or.inl ⟨by rfl, ?q8⟩) HS.out ?_
  case q8 => intro w hSw; obtain ⟨s0, s1, s2⟩ := hSw; go_simp; rfl
  simp only [Act.put, List.getElem_toArray, List.getElem_cons_zero, List.getElem_cons_succ, List.setIfInBounds_toArray, List.set_cons_zero, List.set_cons_succ]
  refine wpAnyH_take (i := 9) (v := ?_) rfl (by kernel_rfl) (by kernel_rfl) (by kernel_rfl) (fun _ _ _ h => h) (Or.inl ⟨by rfl, ?q9⟩) HS.out ?_
  case q9 => intro w hSw; obtain ⟨s0, s1, s2⟩ := hSw; go_simp; rfl
  simp only [Act.put, List.getElem_toArray, List.getElem_cons_zero, List.getElem_cons_succ, List.setIfInBounds_toArray, List.set_cons_zero, List.set_cons_succ]
  refine wpAnyH_take (i := 10) (v := ?_) rfl (by kernel_rfl) (by kernel_rfl) (by kernel_rfl) (fun _ _ _ h => h) (Or.inl ⟨by rfl, ?q10⟩) HS.out ?_
  case q10 => intro w hSw; obtain ⟨s0, s1, s2⟩ := hSw; go_simp; rfl
  simp only [Act.put, List.getElem_toArray, List.getElem_cons_zero, List.getElem_cons_succ, List.setIfInBounds_toArray, List.set_cons_zero, List.set_cons_succ]
  refine wpAnyH_take (i := 11) (v := .map (some b)) rfl (by kernel_rfl) (by kernel_rfl) (by kernel_rfl) (fun _ _ _ h => h) (Or.inl ⟨by rfl, ?q11⟩) HS.out ?_
  case q11 => intro w hSw; obtain ⟨s0, s1, s2⟩ := hSw; go_simp
  simp only [Act.put, List.getElem_toArray, List.getElem_cons_zero, List.getElem_cons_succ, List.setIfInBounds_toArray, List.set_cons_zero, List.set_cons_succ]
  obtain ⟨es, cl, hbm, hE, hcl⟩ := HP1.out.2
  refine wpAnyH_ready (rs := [12]) (by kernel_rfl) (by simp) ?_
  refine AllReadyH.cons rfl (fun K hK => ?_) AllReadyH.nil
  go_simp
  refine (mclone_any w1.drew b es cl hbm).mono ?_
  rintro e w2 ⟨rfl, rfl⟩
  have HB2 : Hid (Below w1.heap.size w1 (w1.drew.alloc (.map es cl))) := ((Below.refl _ w1).drew).alloc (Nat.le_refl _) _
  have HP2 := hid (HP1.out.below HB2.out)
  have HM2 : Hid (HMp (w1.drew.alloc (.map es cl)) w1.heap.size Kk) := ⟨es, cl, heap_alloc_new w1.drew _, hE, hcl⟩
  obtain ⟨W2, hW2⟩ : ∃ W2, Hid (w1.drew.alloc (.map es cl) = W2) := ⟨_, rfl⟩
  have hz2 : Hid (W2.heap.size = w1.heap.size + 1) := by rw [← hW2.out]; refine hid ?_; simp
  rw [hW2.out] at HB2 HP2 HM2 ⊢
  rw [show w1.drew.heap.size = w1.heap.size from rfl]
  refine hK.out _ _ ⟨HP2.out.c0, HP2.out.c1, HP2.out.c2⟩ (fun _ => ?_)
  clear hK K
  have HS := hid (p := W2.cell? ⟨g, 0, none⟩ = some (.int .i64 (L : Int)) ∧ W2.cell? ⟨g, 1, none⟩ = some (.int .i64 (W : Int)) ∧ W2.cell? ⟨g, 2, none⟩ = some (.map (some b))) ⟨HP2.out.c0, HP2.out.c1, HP2.out.c2⟩
  refine wpAnyH_take (i := 13) (v := .agg #[.int .i64 (L : Int), .int .i64 (W : Int), .map (some w1.heap.size)]) rfl (by kernel_rfl) (by kernel_rfl) (by kernel_rfl) (fun _ _ _ h => h) (Or.inl ⟨by rfl, ?q13⟩) HS.out ?_
  case q13 => intro w hSw; obtain ⟨s0, s1, s2⟩ := hSw; go_simp
  simp only [Act.put, List.getElem_toArray, List.getElem_cons_zero, List.getElem_cons_succ, List.setIfInBounds_toArray, List.set_cons_zero, List.set_cons_succ]
  refine wpAnyH_ready (rs := [14]) (by kernel_rfl) (by simp) ?_
  refine AllReadyH.cons rfl (fun K hK => ?_) AllReadyH.nil
  go_simp
  have HB3 : Hid (Below W2.heap.size W2 (W2.alloc (.cells #[.int .i64 (L : Int), .int .i64 (W : Int), .map (some w1.heap.size)] 63))) := (Below.refl _ W2).alloc (Nat.le_refl _) _
  have HP3 := hid (HP2.out.below HB3.out)
  have HQ3 : Hid (HPf (W2.alloc (.cells #[.int .i64 (L : Int), .int .i64 (W : Int), .map (some w1.heap.size)] 63)) W2.heap.size w1.heap.size L W Kk) := ⟨heap_alloc_new W2 _, HM2.out.below HB3.out⟩
  refine hK.out _ _ ⟨HP3.out.c0, HP3.out.c1, HP3.out.c2⟩ (fun _ => ?_)
  clear hK K
  have HS := hid (p := (W2.alloc (.cells #[.int .i64 (L : Int), .int .i64 (W : Int), .map (some w1.heap.size)] 63)).cell? ⟨g, 0, none⟩ = some (.int .i64 (L : Int)) ∧ (W2.alloc (.cells #[.int .i64 (L : Int), .int .i64 (W : Int), .map (some w1.heap.size)] 63)).cell? ⟨g, 1, none⟩ = some (.int .i64 (W : Int)) ∧ (W2.alloc (.cells #[.int .i64 (L : Int), .int .i64 (W : Int), .map (some w1.heap.size)] 63)).cell? ⟨g, 2, none⟩ = some (.map (some b))) ⟨HP3.out.c0, HP3.out.c1, HP3.out.c2⟩
  refine wpAnyH_take (i := 15) (v := ?_) rfl (by kernel_rfl) (by kernel_rfl) (by kernel_rfl) (fun _ _ _ h => h) (Or.inl ⟨by rfl, ?q15⟩) HS.out ?_
  case q15 => intro w hSw; obtain ⟨s0, s1, s2⟩ := hSw; go_simp; rfl
  simp only [Act.put, List.getElem_toArray, List.getElem_cons_zero, List.getElem_cons_succ, List.setIfInBounds_toArray, List.set_cons_zero, List.set_cons_succ]
  refine wpAnyH_done (by kernel_rfl) ?_ _
  go_wp2
  go_ret
  have h1 := BL.out.size
  have h2 := hz2.out
  exact ⟨_, _, rfl, by omega, by omega, HQ3.out, BL.out.trans ((HB2.out.trans (HB3.out.mono HB2.out.size)).mono h1)⟩
end Go.Proofs.YtjmlpkemjafifaaDoor

/- What is proved leads to the root; rows of rows of nodes. -/
set_option linter.unusedVariables false
set_option linter.unusedSimpArgs false
namespace Go.Proofs.YtjmlpkemjafifaaDoor
open Go.RowKit

theorem chN_snd (K : Kn) (l : List Nat) : (chN K l).map Prod.snd = l.map fun y : Nat => kAt K (y : Int) := by simp [chN]
theorem way_snd {L W k i : Nat} {root d : List Int} {K : Kn} (hW : W = 2 ^ k) (hL : L ≤ W) (hi : i < L) (hs : Snd W (newF L W root) K) (hd : K (W + i) = some d) :
    ∀ q, q ≤ k → K ((W + i) / 2 ^ q) = some (clTo ((chL k (W + i)).map fun y : Nat => kAt K (y : Int)) (W + i) d q)
  | 0, _ => by rw [Nat.pow_zero, Nat.div_one]; exact hd
  | q + 1, hq => by
    have ih := way_snd hW hL hi hs hd q (by omega)
    have hnw := new_way (root := root) i hi hL q
    have hx1 : W ≤ W + i := by omega
    have hx2 : W + i < 2 * W := by omega
    have hlen : ((chL k (W + i)).map fun y : Nat => kAt K (y : Int)).length = k := by rw [List.length_map, chL_length]
    have hst := clTo_step q ((chL k (W + i)).map fun y : Nat => kAt K (y : Int)) (W + i) d (by rw [hlen]; omega)
    have hgd : ((chL k (W + i)).map fun y : Nat => kAt K (y : Int)).getD q [] = kAt K ((((W + i) / 2 ^ q) ^^^ 1 : Nat) : Int) := by
      simp [chL, List.getD, show q < k by omega]
    rw [hgd] at hst
    have hge : 2 ≤ (W + i) / 2 ^ q := by
      rw [Nat.le_div_iff_mul_le (Nat.pow_pos (by decide))]
      have : 2 * 2 ^ q ≤ 2 ^ k := by rw [← Nat.pow_succ']; exact Nat.pow_le_pow_right (by decide) hq
      omega
    have hlt : (W + i) / 2 ^ q < 2 * W := Nat.lt_of_le_of_lt (Nat.div_le_self _ _) hx2
    have hdd : (W + i) / 2 ^ (q + 1) = (W + i) / 2 ^ q / 2 := by rw [Nat.pow_succ, Nat.div_div_eq_div_mul]
    rw [hdd, hst]
    generalize clTo ((chL k (W + i)).map fun y : Nat => kAt K (y : Int)) (W + i) d q = e at ih
    generalize (W + i) / 2 ^ q = x at ih hnw hge hlt
    obtain ⟨b, u, h1, h2, h3⟩ := hs x e hge hlt ih (hnw (by omega))
    rw [kAt_some h1 rfl, h2, h3]
theorem way_root {L W k i : Nat} {root d : List Int} {K : Kn} (hW : W = 2 ^ k) (hL : L ≤ W) (hi : i < L) (hs : Snd W (newF L W root) K) (h1 : K 1 = some root) (hd : K (W + i) = some d) :
    clV ((chN K (chL k (W + i))).map Prod.snd) (W + i) d = root := by
  have h := way_snd hW hL hi hs hd k (Nat.le_refl _)
  have hlen : ((chL k (W + i)).map fun y : Nat => kAt K (y : Int)).length = k := by rw [List.length_map, chL_length]
  have hone : (W + i) / 2 ^ k = 1 := by
    rw [Nat.div_eq_of_lt_le]
    · rw [Nat.one_mul]; omega
    · omega
  rw [hone, h1] at h
  unfold clTo at h
  rw [List.take_of_length_le (by omega)] at h
  rw [chN_snd]
  cases h
  rfl
/-- v is a row of rows of nodes. -/
def HNL (w : World) (v : Value) (ls : List (List NdT)) : Prop :=
  ∃ (p : Option Addr) (c : Nat), v = .slice p ls.length c ∧ ls.length ≤ c ∧ c ≤ maxLen ∧
    (ls ≠ [] → ∃ b off, p = some ⟨b, off, none⟩ ∧ ∀ j, j < ls.length → ∃ u, w.cell? ⟨b, off + j, none⟩ = some u ∧ HNd w u (ls.getD j []))
end Go.Proofs.YtjmlpkemjafifaaDoor
