/- Texts laid together: PfChain. -/
import Derived.Test.YtjmlpkemjafifaaDoorGrPfC

/- Chain and Whole of a proof, walked. -/
set_option linter.unusedVariables false
set_option linter.unusedSimpArgs false
namespace Go.Proofs.YtjmlpkemjafifaaDoor
open Go.RowKit

/-- Block g is a row of the nodes ns, of the call's own. -/
def ON (w : World) (g : Nat) (ns : List NdT) : Prop :=
  (∃ cur, w.heap[g]? = some (.cells cur 60 (0, 0)) ∧ cur.size = ns.length * 33) ∧ (∀ i, i < ns.length → w.rangeAt g (i * 33) (nc (ns.getD i (0, [])))) ∧ ∀ n ∈ ns, Nd n
theorem ON.lt {w : World} {g : Nat} {N : List NdT} (h : ON w g N) : g < w.heap.size := by
  obtain ⟨cur, h1, _⟩ := h.1
  exact (Array.getElem?_eq_some_iff.1 h1).1
theorem ON.there {w : World} {g : Nat} {N : List NdT} (h : ON w g N) (i : Nat) (hi : i < N.length) : w.there g (i * 33) 33 := by
  obtain ⟨cur, h1, h2⟩ := h.1
  intro j hj
  have : i * 33 + j < cur.size := by rw [h2]; omega
  refine ⟨?_, frozen_of_row w g _ cur _ h1⟩
  rw [cell_of_row w g _ _ _ _ h1, Array.getElem?_eq_getElem this]
  rfl
theorem ON.below {w w' : World} {g : Nat} {N : List NdT} (h : ON w g N) (hB : Below w.heap.size w w') : ON w' g N := by
  have hl := h.lt
  obtain ⟨⟨cur, q1, q2⟩, q3, q4⟩ := h
  exact ⟨⟨cur, (hB.block _ hl).trans q1, q2⟩, fun i hi => range_below (q3 i hi) hB hl, q4⟩
theorem ON.HNd {w : World} {g : Nat} {N : List NdT} (h : ON w g N) (hn : N.length ≤ 1000000) : HNd w (.slice (some ⟨g, 0, none⟩) N.length N.length) N :=
  ⟨⟨_, _, rfl, Nat.le_refl _, by unfold maxLen; omega, fun _ => ⟨g, 0, rfl, fun i hi => by rw [Nat.zero_add]; exact h.2.1 i hi⟩⟩, h.2.2⟩
theorem getD_setN (N : List NdT) (i j : Nat) (d : NdT) (hi : i < N.length) : (N.set i d).getD j (0, []) = if i = j then d else N.getD j (0, []) := by
  by_cases e : i = j
  · subst e; simp [List.getD, hi]
  · rw [if_neg e]; simp [List.getD, List.getElem?_set_ne e]
theorem ON.store {w : World} {g : Nat} {N : List NdT} (h : ON w g N) (i : Nat) (hi : i < N.length) {d : NdT} (hd : Nd d) : ON (w.setCells g (i * 33) (nc d)) g (N.set i d) := by
  obtain ⟨cur, h1, h2⟩ := h.1
  obtain ⟨cur', h3, h4⟩ := shape_setCells g _ (nc d) (i * 33) w cur h1
  refine ⟨⟨cur', h3, by rw [h4, h2, List.length_set]⟩, fun j hj => ?_, fun x hx => ?_⟩
  · rw [List.length_set] at hj
    rw [getD_setN N i j d hi]
    by_cases e : i = j
    · subst e
      rw [if_pos rfl]
      exact World.rangeAt_setCells_same w g (i * 33) (nc d) (by rw [nc_length hd]; exact h.there i hi)
    · rw [if_neg e]
      refine World.rangeAt_setCells_apart (h.2.1 j hj) g (i * 33) (nc d) ?_
      have hl : Nd (N.getD j (0, [])) := h.2.2 _ (by
        rw [show N.getD j (0, []) = N[j] by simp [List.getD, List.getElem?_eq_getElem hj]]
        exact List.getElem_mem hj)
      rw [nc_length hl, nc_length hd]
      omega
  · rcases List.mem_or_eq_of_mem_set hx with q | rfl
    · exact h.2.2 x q
    · exact hd
theorem info_nodeB : (Tryd.prog.info? 60).map (fun i => (i.zero, i.size, i.bytes)) = some (some (.agg (nc (0, zeros32)).toArray), 33, 40) := by kernel_rfl
theorem nd_zero : Nd (0, zeros32) := ⟨⟨zeros32_length, fun x hx => by have := (List.mem_replicate.1 hx).2; omega⟩, by simp, by simp⟩
theorem run_make_nodes (w : World) (n : Nat) (hn : n ≤ 1000000) : ∃ C, (Instr.makeSlice 53 (.int .i64 (n : Int)) (.int .i64 (n : Int))).run Tryd.prog w = .ok (.slice (some ⟨w.heap.size, 0, none⟩) n n) (w.alloc (.cells C 60)) ∧ ON (w.alloc (.cells C 60)) w.heap.size (List.replicate n (0, zeros32)) := by
  obtain ⟨i0, hi, hz0, hz1, hz2⟩ := info_parts info_nodeB
  have hr := run_make (P := Tryd.prog) w 53 60 i0 _ Tryd.underlying53 hi hz0 .i64 .i64 n n (by omega) (Int.le_refl _) (by rw [hz2]; omega) (by omega)
  simp only [Int.toNat_natCast] at hr
  have hzl : (nc (0, zeros32)).length = 33 := nc_length nd_zero
  refine ⟨_, hr, ⟨_, heap_alloc_new w _, by rw [size_madeCells, hz1, List.length_replicate]⟩, fun i hi => ?_, fun d hd => ?_⟩
  · rw [List.length_replicate] at hi
    have e : (List.replicate n ((0 : Int), zeros32)).getD i (0, []) = (0, zeros32) := by simp [List.getD, hi]
    rw [e]
    intro j v hj
    have hj2 : j < 33 := by
      have := (List.getElem?_eq_some_iff.1 hj).1
      rwa [hzl] at this
    rw [cell_of_row _ _ _ _ _ _ (heap_alloc_new w _)]
    unfold madeCells
    rw [Array.getElem?_map, Array.getElem?_range, hz1]
    rw [if_pos (by omega)]
    have e2 : (Value.agg (nc (0, zeros32)).toArray).cells = (nc (0, zeros32)).toArray := rfl
    rw [e2, List.size_toArray, hzl, Option.map_some, show (i * 33 + j) % 33 = j by omega]
    have h5 : (nc (0, zeros32)).toArray[j]? = some v := by rw [List.getElem?_toArray]; exact hj
    rw [getElem!_def, h5]
  · rw [(List.mem_replicate.1 hd).2]
    exact nd_zero
/-- The nodes of a chain. -/
def chN (K : Kn) (l : List Nat) : List NdT := l.map fun x : Nat => ((x : Int), kAt K (x : Int))
theorem chN_length (K : Kn) (l : List Nat) : (chN K l).length = l.length := by simp [chN]
set_option maxRecDepth 100000 in
set_option maxHeartbeats 4000000 in
theorem pch_bad (w : World) (g b L W : Nat) (K : Kn) (h : HPf w g b L W K) (h1 : 1 ≤ L) (h2 : L ≤ 512) (i : Int) (hi : ¬ (0 ≤ i ∧ i < L)) :
    Calls Tryd.prog 29 #[.pointer (some ⟨g, 0, none⟩), .int .i64 i] w fun e w' => e = .returned (.tuple #[.slice none 0 0, .int .i64 111]) ∧ Below w.heap.size w w' := by
  have CM := hid (pmade_ok w g b L W K h)
  have HP := hid h
  clear h
  go_enter Tryd.func29, Tryd.ntmps29
  go_wp2_with fail
  refine CM.out.mono ?_
  rintro e w1 ⟨rfl, hB1⟩
  have hc := (HP.out.below hB1).c0
  have BL := hid hB1
  have CC := hid (chain_bad w1 (L : Int) i (by omega))
  rw [show nodeE (L : Int) i = 111 from if_pos (by omega)] at CC
  clear hB1 CM hi
  go_wp2_with fail
  refine CC.out.mono ?_
  rintro e w2 ⟨rfl, hB2⟩
  have BL2 := hid (BL.out.trans (hB2.mono BL.out.size))
  clear hB2 CC
  go_wp2
  go_ret2
  exact ⟨rfl, BL2.out⟩
/-- What Chain answers. -/
def PchQ (w : World) (K : Kn) (k x : Nat) (e : Ending) (w' : World) : Prop :=
  (K x = none ∧ e = .returned (.tuple #[.slice none 0 0, .int .i64 124]) ∧ Below w.heap.size w w') ∨
  ((K x).isSome = true ∧ ∃ v, e = .returned (.tuple #[v, .int .i64 0]) ∧ HNd w' v (chN K (chL k x)) ∧ Below w.heap.size w w')
set_option maxRecDepth 100000 in
set_option maxHeartbeats 8000000 in
theorem pch_ok (w : World) (g b L k : Nat) (Kk : Kn) (h : HPf w g b L (wdN L) Kk) (h1 : 1 ≤ L) (h2 : L ≤ 512) (hk : wdN L = 2 ^ k) (hk9 : k < 10) (i : Nat) (hi : i < L) :
    Calls Tryd.prog 29 #[.pointer (some ⟨g, 0, none⟩), .int .i64 (i : Int)] w fun e w' => PchQ w Kk k (wdN L + i) e w' := by
  have CM := hid (pmade_ok w g b L (wdN L) Kk h)
  have HP := hid h
  have HK := hid hk
  clear h hk
  have hWg := wdN_ge L h2
  have hWl := (wdN_le L).1
  obtain ⟨cl, HCL⟩ : ∃ c, Hid (chL k (wdN L + i) = c) := ⟨_, rfl⟩
  obtain ⟨W, HW⟩ : ∃ W, Hid (wdN L = W) := ⟨_, rfl⟩
  unfold PchQ
  rw [HCL.out]
  rw [HW.out] at HP hWg hWl ⊢
  go_enter Tryd.func29, Tryd.ntmps29
  go_wp2_with fail
  refine CM.out.mono ?_
  rintro e w1 ⟨rfl, hB1⟩
  have hc := (HP.out.below hB1).c0
  have BL := hid hB1
  have HP1 := hid (HP.out.below hB1)
  have CC := hid (chain_ok w1 L i k h1 h2 hi HK.out hk9)
  clear hB1 CM
  go_wp2_with fail
  refine CC.out.mono ?_
  rintro e w2 ⟨v, rfl, hN, _, hB2⟩
  have BL2 := hid (BL.out.trans (hB2.mono BL.out.size))
  have HP2 := hid (HP1.out.below hB2)
  have hcl := chL_length k (wdN L + i)
  have hx10 : ∀ y ∈ chL k (wdN L + i), y < 1024 := by
    intro y hy
    unfold chL at hy
    obtain ⟨j, _, rfl⟩ := List.mem_map.1 hy
    exact Nat.xor_lt_two_pow (n := 10) (Nat.lt_of_le_of_lt (Nat.div_le_self _ _) (by rw [HW.out]; omega)) (by decide)
  have HX := hid hx10
  rw [HCL.out] at hN hcl HX
  have HCLN := hid hcl
  obtain ⟨p, c, ev, hcells⟩ := hN
  rw [HCLN.out] at ev
  have HC := hid hcells
  subst ev
  have hc1 := HP2.out.c1
  have ew : IntKind.i64.wrap ((W : Int) + (i : Int)) = (W : Int) + (i : Int) := by rw [IntKind.wrap_i64]; omega
  have CK := hid (knows_nat w2 g b L W Kk HP2.out ((W : Int) + (i : Int)) (W + i) (by omega))
  clear hB2 CC hcl hcells hc hx10
  go_wp2_with fail
  refine CK.out.mono ?_
  rintro e w3 ⟨rfl, hB3⟩
  have HP3 := hid (HP2.out.below hB3)
  have BL3 := hid (BL2.out.trans (hB3.mono BL2.out.size))
  have HC3 : Hid (0 < cl.length → ∃ b off, p = some ⟨b, off, none⟩ ∧ ∀ j, j < cl.length → w3.cell? ⟨b, off + j, none⟩ = some (.int .i64 ((cl.getD j 0 : Nat) : Int))) := fun h0 => by
    obtain ⟨b, off, q1, q2⟩ := HC.out h0
    exact ⟨b, off, q1, fun j hj => (hB3.cell (World.block_lt_of_cell? w2 _ (q2 j hj))).trans (q2 j hj)⟩
  clear hB3 CK hc1
  cases hkn : Kk (W + i) with
  | none =>
    rw [Option.isSome_none]
    have HKN := hid hkn
    clear hkn
    go_wp2
    go_ret2
    exact Or.inl ⟨HKN.out, rfl, BL3.out⟩
  | some dd =>
    rw [Option.isSome_some]
    have HKS : Hid ((Kk (W + i)).isSome = true) := by rw [hkn]; exact rfl
    clear hkn
    obtain ⟨C, hmk, hon⟩ := run_make_nodes w3 k (by omega)
    obtain ⟨W4, hW4⟩ : ∃ W4, Hid (w3.alloc (.cells C 60) = W4) := ⟨_, rfl⟩
    rw [hW4.out] at hmk hon
    have HON := hid hon
    have B4 : Hid (Below w3.heap.size w3 W4) := by rw [← hW4.out]; exact (Below.refl _ w3).alloc (Nat.le_refl _) _
    have HDK := hid (fun a => kAt_D HP3.out.2 a)
    clear hon
    go_wp2
    go_loopw [40] (fun q wr => ∃ (j : Nat) (ns : List NdT), j ≤ k ∧ q = .int .i64 j ∧ Hid (ON wr w3.heap.size ns) ∧ Hid (ns.length = k) ∧ Hid (∀ t, t < j → ns.getD t (0, []) = (chN Kk cl).getD t (0, [])) ∧ Hid (Below w3.heap.size w3 wr)) (fun q _ => k - (intOf q).toNat)
    case atStart => exact ⟨0, _, Nat.zero_le _, rfl, HON, by rw [List.length_replicate]; exact rfl, (fun t ht => by omega), B4⟩
    case round =>
      clear hmk HON B4
      obtain ⟨j, ns, hj, rfl, HO, HL, HE, HB⟩ := hrel
      by_cases hlt : j < k
      · obtain ⟨bb, off, rfl, hcell⟩ := HC3.out (by rw [HCLN.out]; omega)
        have hjl : j < cl.length := by rw [HCLN.out]; exact hlt
        have hcj := hcell j hjl
        have hcj' : wr.cell? ⟨bb, off + j, none⟩ = some (.int .i64 ((cl.getD j 0 : Nat) : Int)) := (HB.out.cell (World.block_lt_of_cell? w3 _ hcj)).trans hcj
        have HY10 : Hid (cl.getD j 0 < 1024) := HX.out _ (by
          rw [show cl.getD j 0 = cl[j] by simp [List.getD, List.getElem?_eq_getElem hjl]]
          exact List.getElem_mem hjl)
        have HEJ : Hid ((chN Kk cl).getD j (0, []) = ((cl.getD j 0 : Int), kAt Kk (cl.getD j 0 : Int))) := by refine hid ?_; simp [chN, List.getD, hjl]
        have HPr := hid (HP3.out.below HB.out)
        clear hcj hcell
        generalize cl.getD j 0 = y at hcj' HY10 HEJ
        have hc2 := HPr.out.c2
        have hl := run_look HPr.out.2 (y : Int)
        obtain ⟨yd, HYD⟩ : ∃ d, Hid (kAt Kk (y : Int) = d) := ⟨_, rfl⟩
        have ydD : Hid (D32 yd) := by rw [← HYD.out]; exact HDK.out _
        rw [HYD.out] at hl HEJ
        obtain ⟨cy, HCY⟩ : ∃ c, Hid (cellsB yd = c) := ⟨_, rfl⟩
        have HBN := hid (fun w => run_build_node w (y : Int) yd ydD.out)
        rw [HCY.out] at hl HBN
        have hNd : Nd ((y : Int), yd) := ⟨ydD.out, by show _ ≤ (y : Int); omega, by have := HY10.out; show (y : Int) < _; omega⟩
        have HND := hid hNd
        obtain ⟨nn, HNN⟩ : ∃ x, Hid ((nc ((y : Int), yd)).toArray = x) := ⟨_, rfl⟩
        rw [HNN.out] at HBN
        have hns : nn.size = 33 := by rw [← HNN.out, List.size_toArray, nc_length hNd]
        have HTH : Hid (wr.there w3.heap.size (j * 33) nn.size) := by rw [hns]; exact HO.out.there j (by rw [HL.out]; exact hlt)
        have SN : Hid ((Tryd.prog.info? 60).map (·.size) = some nn.size) := by rw [hns]; exact size_node
        have ON1 : Hid (nn.all (·.oneCell') = true) := by rw [← HNN.out]; exact nc_one _
        have HLIST : Hid (nn.toList = nc ((y : Int), yd)) := by rw [← HNN.out]; refine hid ?_; simp
        clear hns hNd
        go_wp2_with (first | (refine wpList_build_run rfl 60 _ rfl #[(0, .int .i64 (y : Int)), (1, .agg cy)] (by go_simp) _ (HBN.out _) ?_) | (refine wpList_store_mid rfl 60 _ _ rfl w3.heap.size (j * 33) nn rfl rfl HTH.out SN.out ON1.out ?_))
        rw [HLIST.out]
        refine ⟨⟨j + 1, ns.set j ((y : Int), yd), by omega, by go_num, HO.out.store j (by rw [HL.out]; exact hlt) HND.out, by rw [List.length_set]; exact HL, fun t ht => ?_, below_setCells HB.out (Nat.le_refl _) _ _⟩, by simp [intOf]; omega⟩
        rw [getD_setN ns j t _ (by rw [HL.out]; exact hlt)]
        by_cases e : j = t
        · subst e
          rw [if_pos rfl, HEJ.out]
        · rw [if_neg e]
          exact HE.out t (by omega)
      · have hjk : j = k := by omega
        subst hjk
        have HEQ : Hid (ns = chN Kk cl) := by
          refine List.ext_getElem (by rw [HL.out, chN_length, HCLN.out]) fun t q1 q2 => ?_
          have := HE.out t (by rw [HL.out] at q1; exact q1)
          simpa [List.getD, List.getElem?_eq_getElem q1, List.getElem?_eq_getElem q2] using this
        have HFN : Hid (HNd wr (.slice (some ⟨w3.heap.size, 0, none⟩) j j) (chN Kk cl)) := by
          have := HO.out.HNd (by rw [HL.out]; omega)
          rw [HL.out, HEQ.out] at this
          exact this
        go_wp2
        go_ret2
        exact Or.inr ⟨HKS.out, _, rfl, HFN.out, BL3.out.trans (HB.out.mono BL3.out.size)⟩
end Go.Proofs.YtjmlpkemjafifaaDoor
