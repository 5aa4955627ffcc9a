/- Of the road to tagCallsUptoCard_holds: TgTwo, RgRef, TcEach, AptL1. -/
import Derived.Test.YtcpchhigiohlnaaDoorG10
import Derived.Test.YtcpchhigiohlnaaDoorG08
import Derived.Test.YtcpchhigiohlnaaDoorG11
import Derived.Test.YtcpchhigiohlnaaDoorG09
set_option linter.unusedVariables false
set_option linter.unusedSimpArgs false
set_option maxRecDepth 100000
set_option maxHeartbeats 16000000
namespace Go.Proofs.YtcpchhigiohlnaaDoor
open Go.RowKit
theorem rpad5_any (w : World) (x : Nat) (hx : x < 4294967296) : Calls Tryd.prog 56 #[.int .u32 (x : Int)] w fun e w' => e = .returned (.agg (cellsB (pdL x))) /\ Below w.heap.size w w' := by
 obtain ⟨zd, HZD⟩ : ∃ zd, Hid (cellsB zeros32 = zd) := ⟨_, rfl⟩
 obtain ⟨W0, hW0⟩ : ∃ W0, Hid (w.alloc (.cells zd 34) = W0) := ⟨_, rfl⟩
 have HB0 : Hid (Below w.heap.size w W0) := by rw [<- hW0.out]; exact (Below.refl _ w).alloc (Nat.le_refl _) _
 have HR0 : Hid (W0.heap[w.heap.size]? = some (.cells zd 34 (0, 0))) := by rw [<- hW0.out]; exact heap_alloc_new w _
 have hS0 : W0.heap.size = w.heap.size + 1 := by rw [<- hW0.out]; simp
 have hxi : (x : Int) < 4294967296 := by omega
 go_enter Tryd.func56, Tryd.ntmps56
 go_wp2_with (refine wpList_alloc_digest rfl rfl ?_; rw [HZD.out, hW0.out])
 refine (rbig5_any W0 x 4 (by omega) (by omega)).mono ?_
 rintro e w1 ⟨v1, rfl, ho1, hB1⟩
 obtain ⟨p1, c1, rfl⟩ := own_slc ho1
 have HB1 := hid (HB.of_own (l := bigL 4 x) (by rw [bigL_length]; exact ho1) (bigL_byt 4 x))
 have BL1 := hid hB1
 clear ho1 hB1
 go_wp2_with fail
 have hlr : Hid (HL (w1.alloc (.cells #[.slice p1 4 c1] 30)) (.slice (some ⟨w1.heap.size, 0, none⟩) 1 1) [bigL 4 x]) := by
  refine hid ⟨_, 1, rfl, by simp, by unfold maxLen; omega, (fun e => by cases e), fun _ => ⟨w1.heap.size, 0, rfl, fun j hj => ?_⟩⟩
  have hj0 : j = 0 := by simp at hj; omega
  subst hj0
  exact ⟨_, by rw [cell_of_row _ w1.heap.size (0 + 0) _ _ _ (heap_alloc_new w1 _)]; rfl, HB1.out.below ((Below.refl _ w1).alloc (Nat.le_refl _) _)⟩
 have BA : Hid (Below w1.heap.size w1 (w1.alloc (.cells #[.slice p1 4 c1] 30))) := (Below.refl _ w1).alloc (Nat.le_refl _) _
 refine (rdigest_pad _ _ [bigL 4 x] hlr.out (fun w' hb => rfits_pad w' _ _ (hlr.out.below hb) (bigL_length 4 x)) (by simp [bigL_length]) (fun q hq => by
  have : q = bigL 4 x := by simpa using hq
  rw [this]; exact bigL_byt 4 x)).mono ?_
 rintro e w2 ⟨rfl, hB2⟩
 rw [framed_pad]
 obtain ⟨dm, HD⟩ : ∃ dm, Hid (cellsB (digL (pdB x)) = dm) := ⟨_, rfl⟩
 have hds : dm.size = 32 := by rw [<- HD.out]; simp [cellsB, digL_length]
 have SD : Hid ((Tryd.prog.info? 34).map (·.size) = some dm.size) := by rw [hds]; exact size_digest
 have OD : Hid (dm.all (·.oneCell') = true) := by rw [<- HD.out]; exact cellsB_one _
 have ZD : Hid (zd.size = dm.size) := by rw [hds, <- HZD.out]; rfl
 have HR2 : Hid (w2.heap[w.heap.size]? = some (.cells zd 34 (0, 0))) := by
  show _ = _
  rw [hB2.block _ (by have := BL1.out.size; have := BA.out.size; omega), BA.out.block _ (by have := BL1.out.size; omega), BL1.out.block _ (by omega)]
  exact HR0.out
 have HBF := hid (below_setRow (((HB0.out.trans (BL1.out.mono (by omega))).trans (BA.out.mono (by have := BL1.out.size; omega))).trans (hB2.mono (by have := BL1.out.size; have := BA.out.size; omega))) (g := w.heap.size) (Nat.le_refl _) dm)
 rw [HD.out]
 clear hB2 hds
 go_wp2_with (refine wpList_store_row rfl 34 _ _ rfl w.heap.size dm rfl rfl 34 _ HR2.out SD.out ZD.out OD.out ?_)
 refine bodyPost_ret (v := .agg dm) (results_cell_row (p := 2) (ty := 34) rfl _ _ w.heap.size 34 dm (0, 0) _ rfl (setRow_heap _ _ _ _ _ _ HR2.out) Tryd.underlying34 rfl SD.out) rfl ?_
 exact ⟨by rw [<- HD.out]; rfl, HBF.out⟩
def sring : ByteArray := ⟨(wRing.map fun x => UInt8.ofNat x.toNat).toArray⟩
theorem sring_strI : strI sring = wRing := by decide
theorem rword_ring (w : World) : Calls Tryd.prog 24 #[.int .u8 9] w fun e w' => e = .returned (.string sring) /\ w' = w := by
 go_enter Tryd.func24, Tryd.ntmps24
 go_wp2
 go_ret
 exact ⟨rfl, rfl⟩
theorem rfits_ring (w : World) (v : Value) (l r : List Int) (h : HL w v [l, r]) (hl : l.length = 16) (hr : r.length = 4) : Calls Tryd.prog 35 #[.int .u8 9, v] w fun e w' => e = .returned (.bool true) /\ w' = w := by
 obtain ⟨b, off, c, rfl, hc1, hc2, hh⟩ := h.ne (by simp)
 obtain ⟨u0, h0, hb0⟩ := hh 0 (by simp)
 obtain ⟨u1, h1, hb1⟩ := hh 1 (by simp)
 obtain ⟨p0, c0, rfl, _, _⟩ := hb0.open
 obtain ⟨p1, c1, rfl, _, _⟩ := hb1.open
 simp only [List.getD_cons_zero, List.getD_cons_succ, hl, hr, List.length_cons, List.length_nil, Nat.add_zero, Nat.zero_add, Nat.reduceAdd] at h0 h1 ⊢
 clear hh hb0 hb1 h
 go_enter Tryd.func35, Tryd.ntmps35
 go_wp2
 go_ret
 exact ⟨rfl, rfl⟩
theorem rbytes_ring (w : World) (v : Value) (ps : List (List Int)) (h : HL w v ps) (hF : ∀ w', Below w.heap.size w w' -> Calls Tryd.prog 35 #[.int .u8 9, v] w' fun e w'' => e = .returned (.bool true) /\ w'' = w') (hbig : ps.flatten.length + 8 * ps.length <= 100000000000000) :
  Calls Tryd.prog 14 #[.int .u8 9, v] w fun e w' => ∃ v', e = .returned (.tuple #[v', .int .i64 0]) /\ w'.ownsRow w.heap.size 5 1 v' (framed (strI sring :: ps)).length ((framed (strI sring :: ps)).map (Value.int .u8)) /\ Below w.heap.size w w' := by
 have hsz : sring.size <= 1000 := by decide
 have hse : sring.toList.isEmpty = false := by decide +kernel
 have A0 := hid h
 obtain ⟨p, c, e, hlc, hm⟩ := h.open
 unfold maxLen at hm
 have A : Hid (0 < ps.length -> ∃ b off, p = some ⟨b, off, none⟩ /\ ∀ j, j < ps.length -> ∃ u, w.cell? ⟨b, off + j, none⟩ = some u /\ HB w u (ps.getD j [])) := by
  intro h0
  obtain ⟨b, off, c', e', _, _, hh⟩ := h.ne h0
  rw [e] at e'
  simp only [Value.slice.injEq, true_and] at e'
  exact ⟨b, off, e'.1, hh⟩
 have HF := hid hF
 obtain ⟨n, HN⟩ : ∃ n, Hid (ps.length = n) := ⟨_, rfl⟩
 have HBig := hid hbig
 rw [HN.out] at e hlc hbig
 subst e
 clear h hF
 go_enter Tryd.func14, Tryd.ntmps14
 go_wp2_with fail
 refine (rword_ring _).mono ?_
 rintro e w1 ⟨rfl, rfl⟩
 go_wp2_with fail
 refine (HF.out _ (Below.refl _ _)).mono ?_
 rintro e w2 ⟨rfl, rfl⟩
 go_wp2_with fail
 refine (rword_ring _).mono ?_
 rintro e w3 ⟨rfl, rfl⟩
 go_wp2_with (refine wpList_bytes_str rfl _ rfl sring rfl hsz ?_)
 intro v4 w4 hb4 hB4
 have HB4 := hid hb4
 have BL4 := hid hB4
 clear hb4 hB4
 go_wp2_with fail
 refine (rframe_any w4 v4 _ HB4.out (by rw [strI_length]; omega)).mono ?_
 rintro e w5 ⟨v5, rfl, ho5, hB5⟩
 have HO5 : Hid (w5.ownsRow w3.heap.size 5 1 v5 (frK (strI sring) ps 0).length ((frK (strI sring) ps 0).map (Value.int .u8))) := by
  rw [frK_zero]
  exact own_mono ho5 BL4.out.size
 have BL5 := hid (BL4.out.trans (hB5.mono BL4.out.size))
 clear ho5 hB5
 go_wp2
 go_loopw [6, 7] (fun o i wr => ∃ k : Nat, k <= n /\ i = .int .i64 k /\ Hid (wr.ownsRow w3.heap.size 5 1 o (frK (strI sring) ps k).length ((frK (strI sring) ps k).map (Value.int .u8))) /\ Hid (Below w3.heap.size w3 wr)) (fun _ i _ => n - (intOf i).toNat)
 case atStart => exact ⟨0, Nat.zero_le _, rfl, HO5, BL5⟩
 case round =>
  obtain ⟨k, hk, rfl, HO, HBel⟩ := hrel
  by_cases hlt : k < n
  ·obtain ⟨b, off, rfl, hh⟩ := A.out (by rw [HN.out]; omega)
   obtain ⟨u, hu0, hb⟩ := hh k (by rw [HN.out]; exact hlt)
   have hu : wr.cell? ⟨b, off + k, none⟩ = some u := (HBel.out.cell (World.block_lt_of_cell? w3 _ hu0)).trans hu0
   have HBu := hid (hb.below HBel.out)
   have hls : (ps.getD k []).length <= 100000000000000 := by
    have h1 := flat_take_le ps (k + 1)
    rw [flat_snoc ps k (by rw [HN.out]; exact hlt), List.length_append] at h1
    have := HBig.out
    omega
   have HS := hid (frK_snoc (strI sring) ps k (by rw [HN.out]; exact hlt))
   have HLe := hid (frK_le (strI sring) ps (k + 1))
   rw [HS.out, List.length_append, strI_length] at HLe
   clear hh hb hu0
   go_wp2_with fail
   refine (rframe_any wr u _ HBu.out (by omega)).mono ?_
   rintro e w6 ⟨v6, rfl, ho6, hB6⟩
   have HB6 : Hid (HB w6 v6 (fr1 (ps.getD k []))) := HB.of_own ho6 (fr1_byt HBu.out.2)
   have HO6 := hid (own_below HO.out hB6)
   have BL6 := hid (HBel.out.trans (hB6.mono HBel.out.size))
   clear ho6 hB6
   go_wp2_with (at_builtin; refine wpList_append_HB rfl _ _ rfl w3.heap.size _ _ _ rfl HO6.out _ _ rfl HB6.out ?q1 ?q2 ?_)
   case q1 => have := HLe.out; have := HBig.out; omega
   case q2 => exact BL6.out.size
   intro v7 w7 ho7 hg7
   have HO7 : Hid (w7.ownsRow w3.heap.size 5 1 v7 (frK (strI sring) ps (k + 1)).length ((frK (strI sring) ps (k + 1)).map (Value.int .u8))) := by
    rw [HS.out, List.length_append, List.map_append]
    exact ho7
   have BL7 : Hid (Below w3.heap.size w3 w7) := BL6.out.grown hg7 BL6.out.size (fun k e => (HO6.out.lt k e).1)
   clear ho7 hg7
   go_wp2
   exact ⟨⟨k + 1, by omega, by go_num, HO7, BL7⟩, by simp [intOf]; omega⟩
  ·have hkn : k = ps.length := by rw [HN.out]; omega
   have HO8 := hid HO.out
   rw [hkn, frK_all] at HO8
   go_wp2
   go_ret2
   exact ⟨_, rfl, HO8.out, HBel.out⟩
theorem framed_ring (x : List Int) (s : Nat) (hx : x.length = 16) : framed (strI sring :: [x, bigL 4 s]) = rgB x s := by
 rw [sring_strI]
 simp [framed, pcs, rgB, hx, bigL_length, num8, wRing]
 simp [bigL]
theorem rdigest_ring (w : World) (v : Value) (ps : List (List Int)) (h : HL w v ps) (hF : ∀ w', Below w.heap.size w w' -> Calls Tryd.prog 35 #[.int .u8 9, v] w' fun e w'' => e = .returned (.bool true) /\ w'' = w') (hbig : ps.flatten.length + 8 * ps.length <= 1000) (hby : ∀ l ∈ ps, ∀ x ∈ l, 0 <= x /\ x < 256) :
  Calls Tryd.prog 71 #[.int .u8 9, v] w fun e w' => e = .returned (.agg (cellsB (digL (framed (strI sring :: ps))))) /\ Below w.heap.size w w' := by
 have hsz : sring.size <= 1000 := by decide
 obtain ⟨zd, HZD⟩ : ∃ zd, Hid (cellsB zeros32 = zd) := ⟨_, rfl⟩
 obtain ⟨W0, hW0⟩ : ∃ W0, Hid (w.alloc (.cells zd 34) = W0) := ⟨_, rfl⟩
 have HB0 : Hid (Below w.heap.size w W0) := by rw [<- hW0.out]; exact (Below.refl _ w).alloc (Nat.le_refl _) _
 have HR0 : Hid (W0.heap[w.heap.size]? = some (.cells zd 34 (0, 0))) := by rw [<- hW0.out]; exact heap_alloc_new w _
 have hS0 : W0.heap.size = w.heap.size + 1 := by rw [<- hW0.out]; simp
 have HF := hid hF
 have HL0 := hid (h.below HB0.out)
 obtain ⟨m, HM⟩ : ∃ m, Hid (framed (strI sring :: ps) = m) := ⟨_, rfl⟩
 have hmb : ∀ x ∈ m, 0 <= x /\ x < 256 := by
  rw [<- HM.out]
  refine framed_byt _ fun l hl => ?_
  rcases List.mem_cons.1 hl with rfl | hl
  ·intro x hx
   unfold strI at hx
   obtain ⟨b, _, rfl⟩ := List.mem_map.1 hx
   have := b.toNat_lt
   omega
  ·exact hby l hl
 have hml : m.length <= 3000 := by
  rw [<- HM.out, framed_length]
  simp only [List.flatten_cons, List.length_append, List.length_cons, strI_length]
  omega
 clear h hF
 go_enter Tryd.func71, Tryd.ntmps71
 go_wp2_with (refine wpList_alloc_digest rfl rfl ?_; rw [HZD.out, hW0.out])
 refine (rbytes_ring W0 v ps HL0.out (fun w' hb => HF.out w' (HB0.out.trans (hb.mono HB0.out.size))) (by omega)).mono ?_
 rintro e w1 ⟨v1, rfl, ho1, hB1⟩
 rw [HM.out] at ho1
 have HB1 := hid (HB.of_own ho1 hmb)
 have BL1 := hid hB1
 clear ho1 hB1
 go_wp2_with fail
 refine (rsum_any w1 v1 m HB1.out (by omega)).mono ?_
 rintro e w2 ⟨rfl, hB2⟩
 obtain ⟨dm, HD⟩ : ∃ dm, Hid (cellsB (digL m) = dm) := ⟨_, rfl⟩
 have hds : dm.size = 32 := by rw [<- HD.out]; simp [cellsB, digL_length]
 have SD : Hid ((Tryd.prog.info? 34).map (·.size) = some dm.size) := by rw [hds]; exact size_digest
 have OD : Hid (dm.all (·.oneCell') = true) := by rw [<- HD.out]; exact cellsB_one _
 have ZD : Hid (zd.size = dm.size) := by rw [hds, <- HZD.out]; rfl
 have HR2 : Hid (w2.heap[w.heap.size]? = some (.cells zd 34 (0, 0))) := by
  show _ = _
  rw [hB2.block _ (by have := BL1.out.size; omega), BL1.out.block _ (by omega)]
  exact HR0.out
 have HBF := hid (below_setRow ((HB0.out.trans (BL1.out.mono (by omega))).trans (hB2.mono (by have := BL1.out.size; omega))) (g := w.heap.size) (Nat.le_refl _) dm)
 rw [HD.out]
 clear hB2 hds
 go_wp2_with (refine wpList_store_row rfl 34 _ _ rfl w.heap.size dm rfl rfl 34 _ HR2.out SD.out ZD.out OD.out ?_)
 refine bodyPost_ret (v := .agg dm) (results_cell_row (p := 4) (ty := 34) rfl _ _ w.heap.size 34 dm (0, 0) _ rfl (setRow_heap _ _ _ _ _ _ HR2.out) Tryd.underlying34 rfl SD.out) rfl ?_
 exact ⟨by rw [HM.out, HD.out], HBF.out⟩
theorem rring_any (w : World) (x : List Int) (s : Nat) (hx : X16 x) (hs : s < 4294967296) : Calls Tryd.prog 58 #[.agg (cellsB x), .int .u32 (s : Int)] w fun e w' => e = .returned (.agg (cellsB (rgL x s))) /\ Below w.heap.size w w' := by
 obtain ⟨zd, HZD⟩ : ∃ zd, Hid (cellsB zeros32 = zd) := ⟨_, rfl⟩
 obtain ⟨cl, HCL⟩ : ∃ c, Hid (cellsB x = c) := ⟨_, rfl⟩
 rw [HCL.out]
 have hsi : (s : Int) < 4294967296 := by omega
 go_enter Tryd.func58, Tryd.ntmps58
 go_wp2_with (refine wpList_alloc_digest rfl rfl ?_; rw [HZD.out])
 have e3 : (w.alloc (.cells cl 84)).heap.size = w.heap.size + 1 := by simp
 rw [e3]
 obtain ⟨W0, hW0⟩ : ∃ W0, Hid ((w.alloc (.cells cl 84)).alloc (.cells zd 34) = W0) := ⟨_, rfl⟩
 have HB0 : Hid (Below w.heap.size w W0) := by
  rw [<- hW0.out]
  exact ((Below.refl _ w).alloc (Nat.le_refl _) _).alloc (by simp) _
 have HS0 : Hid (W0.heap.size = w.heap.size + 2) := by rw [<- hW0.out]; refine hid ?_; simp
 have H1 : Hid (W0.heap[w.heap.size]? = some (.cells cl 84 (0, 0))) := by
  rw [<- hW0.out]
  refine hid ?_
  rw [heap_alloc_old _ _ (by simp)]
  exact heap_alloc_new w _
 have H3 : Hid (W0.heap[w.heap.size + 1]? = some (.cells zd 34 (0, 0))) := by
  rw [<- hW0.out, <- e3]
  exact heap_alloc_new _ _
 rw [hW0.out]
 simp only [Act.put, lay6]
 refine wp_region_any (by kernel_rfl) ?_
 change wpAny _ _ _ _ _ _ _ (World.drew _)
 refine wpAny_take (i := 0) (v := ?_) rfl (by kernel_rfl) (by kernel_rfl) (by kernel_rfl) (fun _ _ _ h => h) (Or.inl ⟨by rfl, ?q0⟩) ?_
 case q0 => intro w; go_simp; rfl
 refine wpAny_take (i := 1) (v := ?_) rfl (by kernel_rfl) (by kernel_rfl) (by kernel_rfl) (fun _ _ _ h => h) (Or.inl ⟨by rfl, ?q1⟩) ?_
 case q1 => intro w; go_simp; rfl
 refine wpAny_take (i := 2) (v := .int .u64 (s : Int)) rfl (by kernel_rfl) (by kernel_rfl) (by kernel_rfl) (fun _ _ _ h => h) (Or.inl ⟨by rfl, ?q2⟩) ?_
 case q2 => intro w; go_simp; rw [IntKind.wrap_u64]; omega
 have CB : Hid (∀ W : World, Calls Tryd.prog 66 #[.int .u64 (s : Int), .int .i64 4] W fun e W' => ∃ v', e = .returned v' /\ W'.ownsRow W.heap.size 5 1 v' 4 ((bigL 4 s).map (Value.int .u8)) /\ Below W.heap.size W W') := hid fun W => rbig5_any W s 4 (by omega) (by omega)
 refine wpAny_ready (rs := [3]) (by kernel_rfl) (by simp) ?_
 refine AllReady.cons rfl (fun K hK => ?_) AllReady.nil
 go_simp
 refine (CB.out _).mono ?_
 rintro e w1 ⟨v1, rfl, ho1, hB1⟩
 obtain ⟨p1, c1, rfl⟩ := own_slc ho1
 have HB1 := hid (HB.of_own (l := bigL 4 s) (by rw [bigL_length]; exact ho1) (bigL_byt 4 s))
 have BL1 : Hid (Below W0.heap.size W0 w1) := hid (((Below.refl W0.heap.size W0).drew).trans hB1)
 clear ho1 hB1
 refine hK _ _ ?_
 clear hK
 refine wpAny_ready (rs := [4]) (by kernel_rfl) (by simp) ?_
 refine AllReady.cons rfl (fun K hK => ?_) AllReady.nil
 go_simp
 obtain ⟨W4, hW4⟩ : ∃ W4, Hid (w1.alloc (.cells #[.slice (some ⟨w.heap.size, 0, none⟩) 16 16, .slice p1 4 c1] 30) = W4) := ⟨_, rfl⟩
 have HB4 : Hid (Below w1.heap.size w1 W4) := by rw [<- hW4.out]; exact (Below.refl _ w1).alloc (Nat.le_refl _) _
 have hs1 := BL1.out.size
 have hs2 := HS0.out
 have HLv : Hid (HL W4 (.slice (some ⟨w1.heap.size, 0, none⟩) 2 2) [x, bigL 4 s]) := by
  refine hid ⟨_, 2, rfl, by simp, by unfold maxLen; omega, (fun e => by cases e), fun _ => ⟨w1.heap.size, 0, rfl, fun j hj => ?_⟩⟩
  have h4 : W4.heap[w1.heap.size]? = some (.cells #[.slice (some ⟨w.heap.size, 0, none⟩) 16 16, .slice p1 4 c1] 30 (0, 0)) := by rw [<- hW4.out]; exact heap_alloc_new w1 _
  have hj2 : j = 0 \/ j = 1 := by simp at hj; omega
  rcases hj2 with rfl | rfl
  ·refine ⟨_, by rw [cell_of_row W4 _ (0 + 0) _ _ _ h4]; rfl, ⟨⟨some ⟨w.heap.size, 0, none⟩, 16, by rw [List.getD_cons_zero, hx.1]; rfl, by rw [List.getD_cons_zero, hx.1]; omega, by unfold maxLen; omega, (fun e => by cases e), fun _ => ⟨w.heap.size, 0, rfl, fun i hi => ?_⟩⟩, hx.2⟩⟩
   have h5 : W4.heap[w.heap.size]? = some (.cells (cellsB x) 84 (0, 0)) := by rw [HB4.out.block _ (by omega), BL1.out.block _ (by omega), H1.out, HCL.out]
   have hi' : i < x.length := hi
   rw [cell_of_row W4 _ (0 + i) _ _ _ h5]
   simp [cellsB, List.getD, List.getElem?_eq_getElem hi']
  ·exact ⟨_, by rw [cell_of_row W4 _ (0 + 1) _ _ _ h4]; rfl, HB1.out.below HB4.out⟩
 have CD := hid (rdigest_ring W4 _ [x, bigL 4 s] HLv.out (fun w' hb => rfits_ring w' _ x _ (HLv.out.below hb) hx.1 (bigL_length 4 s)) (by simp [hx.1, bigL_length]) (fun q hq => by
  rcases List.mem_cons.1 hq with rfl | hq
  ·exact hx.2
  ·have : q = bigL 4 s := by simpa using hq
   rw [this]; exact bigL_byt 4 s))
 rw [framed_ring x s hx.1] at CD
 refine hK _ _ ?_
 rw [hW4.out]
 clear hK
 refine wpAny_ready (rs := [5]) (by kernel_rfl) (by simp) ?_
 refine AllReady.cons rfl (fun K hK => ?_) AllReady.nil
 go_simp
 refine CD.out.mono ?_
 rintro e w5 ⟨rfl, hB5⟩
 obtain ⟨dm, HD⟩ : ∃ dm, Hid (cellsB (digL (rgB x s)) = dm) := ⟨_, rfl⟩
 have hds : dm.size = 32 := by rw [<- HD.out]; simp [cellsB, digL_length]
 have SD : Hid ((Tryd.prog.info? 34).map (·.size) = some dm.size) := by rw [hds]; exact size_digest
 have OD : Hid (dm.all (·.oneCell') = true) := by rw [<- HD.out]; exact cellsB_one _
 have ZD : Hid (zd.size = dm.size) := by rw [hds, <- HZD.out]; rfl
 have hs4 := HB4.out.size
 have HR5 : Hid (w5.heap[w.heap.size + 1]? = some (.cells zd 34 (0, 0))) := by
  refine hid ?_
  show w5.heap[w.heap.size + 1]? = _
  rw [hB5.block _ (by omega), HB4.out.block _ (by omega), BL1.out.block _ (by omega)]
  exact H3.out
 have BL5 : Hid (Below w.heap.size w w5) := (((HB0.out.trans (BL1.out.mono (by omega))).trans (HB4.out.mono (by omega))).trans (hB5.mono (by omega)))
 have HBF := hid (below_setRow BL5.out (g := w.heap.size + 1) (by omega) dm)
 rw [HD.out]
 clear hB5 hds CD
 refine hK _ _ ?_
 clear hK
 refine wpAny_ready (rs := [6]) (by kernel_rfl) (by simp) ?_
 refine AllReady.cons rfl (fun K hK => ?_) AllReady.nil
 rw [if_pos (by rfl)]
 refine wp_store_row 34 _ _ rfl (w.heap.size + 1) dm rfl rfl 34 _ HR5.out SD.out ZD.out OD.out ?_
 refine hK _ _ ?_
 clear hK
 refine wpAny_done (by kernel_rfl) ?_ _
 go_wp2
 refine bodyPost_ret (v := .agg dm) (results_cell_row (p := 4) (ty := 34) rfl _ _ (w.heap.size + 1) 34 dm (0, 0) _ rfl (setRow_heap _ _ _ _ _ _ HR5.out) Tryd.underlying34 rfl SD.out) rfl ?_
 exact ⟨by rw [<- HD.out]; rfl, HBF.out⟩
end Go.Proofs.YtcpchhigiohlnaaDoor
namespace Go.Proofs.YtcpchhigiohlnaaDoor
open Go Go.RowKit
theorem yieldsIf_load_arrT {ops : Array Oper} {S : World -> Prop} {op : Oper} {a : Act} (hw : Region.wanted op (yielded ops a.tmps) = true) (t : TypeId) (x : Operand) (ho : op.op = .load t x)
  (b o : Nat) (hx : a.eval x = .pointer (some ⟨b, o, none⟩)) (cs : List Value) (dm : Array Value) (d : TypeDesc) (he : cs.toArray = dm) (hS : ∀ w, S w -> w.rangeAt b o cs) (hu : Tryd.prog.underlying t = some d) (hd : d.isRow = true)
  (hi : (Tryd.prog.info? t).map (·.size) = some cs.length) : YieldsIf Tryd.prog ops S op (.agg dm) a := by
 subst he
 exact yieldsIf_load_mid hw t x ho b o hx cs d hS hu hd hi
theorem rangeT_all {w : World} {g : Nat} {T : TypeId} {D : List Int} (h : w.heap[g]? = some (.cells (cellsB D) T (0, 0))) : w.rangeAt g 0 (D.map (Value.int .u8)) := by
 have := rangeT_take D.length h
 rwa [List.take_length] at this
theorem tag_ok1 {t : Nat} {l : List Int} (h : (t = 2 /\ l.length = 16) \/ (t = 5 /\ l.length = 32)) : TagOk t [l] := by
 rcases h with ⟨rfl, hl⟩ | ⟨rfl, hl⟩
 ·refine ⟨by omega, rfl, fun j hj => ?_⟩
  have : j = 0 := by simp at hj; omega
  subst this
  show decide (l.length = 16) = true
  exact decide_eq_true hl
 ·refine ⟨by omega, rfl, fun j hj => ?_⟩
  have : j = 0 := by simp at hj; omega
  subst this
  show decide (l.length = 32) = true
  exact decide_eq_true hl
theorem leachC (w : World) (o : Tc) (ho : o.ok) (ht : HTc w o) (hk : KC w) : Calls Tryd.prog 25 #[.agg o.cs.toArray] w fun e w' => e = .returned (.bool true) /\ Below w.heap.size w w' := by
 have HO := hid ho
 have HK := hid hk
 obtain ⟨hp, hd⟩ := ht
 have HD := hid hd
 obtain ⟨pd, cd, edv, hdc, _⟩ := hd.open
 obtain ⟨A, HA⟩ : ∃ A, Hid (o.cs.toArray = A) := ⟨_, rfl⟩
 rw [HA.out]
 obtain ⟨ds, HDS⟩ : ∃ x, Hid (o.ds = x) := ⟨_, rfl⟩
 have hds : ds.length <= 1048576 := by rw [<- HDS.out]; exact ho.ds
 rw [HDS.out] at hdc edv HD
 rw [edv] at HD
 have HDSL := hid hds
 obtain ⟨nd, HND⟩ : ∃ x, Hid (ds.length = x) := ⟨_, rfl⟩
 rw [HND.out] at edv HD hdc hds
 obtain ⟨ky, HKY⟩ : ∃ x, Hid (o.ky = x) := ⟨_, rfl⟩
 have H16 : Hid (X16 ky) := by rw [<- HKY.out]; exact hid ho.ky
 have CELL : Hid (∀ (W : World) (t : Nat), W.heap[t]? = some (.cells A 37 (0, 0)) -> W.cell? ⟨t, 3, none⟩ = some (.slice pd nd cd)) := hid fun W t hW => by
  rw [<- HA.out] at hW
  obtain ⟨_, _, _, q3, _, _, _⟩ := Tc.at hW
  rw [edv] at q3
  exact q3
 have RANG : Hid (∀ (W : World) (t : Nat), W.heap[t]? = some (.cells A 37 (0, 0)) -> W.rangeAt t 7 (ky.map (Value.int .u8)) /\ W.rangeAt t 23 (o.a.map (Value.int .u8)) /\ W.rangeAt t 55 (o.b.map (Value.int .u8)) /\ W.cell? ⟨t, 87, none⟩ = some (.int .u32 (o.nu : Int))) := hid fun W t hW => by
  rw [<- HA.out] at hW
  have := Tc.range HO.out hW
  rwa [HKY.out] at this
 obtain ⟨zi, HZI⟩ : ∃ zd, Hid (cellsB zeros16 = zd) := ⟨_, rfl⟩
 have HZ0 : Hid ((Tryd.prog.info? 84).map (·.zero) = some (some (.agg zi))) := by rw [<- HZI.out]; exact hid zero_index
 have e3 : (w.alloc (.cells A 37)).heap.size = w.heap.size + 1 := by simp
 obtain ⟨W0, hW0⟩ : ∃ W0, Hid ((w.alloc (.cells A 37)).alloc (.cells zi 84) = W0) := ⟨_, rfl⟩
 have B0 : Hid (Below w.heap.size w W0) := by rw [<- hW0.out]; exact ((Below.refl _ w).alloc (Nat.le_refl _) _).alloc (by simp) _
 have Z0 : Hid (W0.heap.size = w.heap.size + 2) := by rw [<- hW0.out]; refine hid ?_; simp
 have X0 : Hid (W0.heap[w.heap.size]? = some (.cells A 37 (0, 0))) := by
  rw [<- hW0.out]
  refine hid ?_
  rw [heap_alloc_old _ _ (by simp)]
  exact heap_alloc_new w _
 obtain ⟨L, HL⟩ : ∃ L, Hid (ky.reverse = L) := ⟨_, rfl⟩
 have HLL : Hid (L.length = 16) := by rw [<- HL.out, List.length_reverse, H16.out.1]; exact hid rfl
 have HL16 : Hid (X16 L) := hid ⟨HLL.out, by rw [<- HL.out]; intro y hy; exact H16.out.2 y (List.mem_reverse.1 hy)⟩
 have I0 : Hid (W0.heap[w.heap.size + 1]? = some (.cells (cellsB (partT L 0)) 84 (0, 0))) := by
  have e : zi = cellsB (partT L 0) := by rw [partT_none, HLL.out, <- HZI.out]; rfl
  rw [<- hW0.out, <- e3, <- e]
  exact heap_alloc_new _ _
 clear ho hk hp hd
 go_enter Tryd.func25, Tryd.ntmps25
 go_wp2_with (first | (refine wpList_alloc_aggT HZ0.out rfl rfl ?_; rw [hW0.out, e3]) | fail)
 go_loopw [4] (fun i wr => ∃ I : Nat, I <= 16 /\ i = .int .i64 (I : Int) /\ Hid (wr.heap[w.heap.size + 1]? = some (.cells (cellsB (partT L I)) 84 (0, 0))) /\ Hid (W0.grownBy wr (some (w.heap.size + 1)))) (fun i _ => 16 - (intOf i).toNat)
 case atStart => exact ⟨0, Nat.zero_le _, rfl, I0, ⟨rfl, rfl, rfl, Nat.le_refl _, fun _ _ _ => rfl⟩⟩
 case round =>
  obtain ⟨I, hI, rfl, HF, HG⟩ := hrel
  have X1 : Hid (wr.heap[w.heap.size]? = some (.cells A 37 (0, 0))) := hid ((HG.out.block _ (Array.getElem?_eq_some_iff.1 X0.out).1 (fun e => by have e' : w.heap.size = w.heap.size + 1 := Option.some.inj e; omega)).trans X0.out)
  by_cases hlt : I < 16
  ·obtain ⟨x, HX⟩ : ∃ x, Hid (ky.getD (15 - I) 0 = x) := ⟨_, rfl⟩
   have hx : wr.cell? ⟨w.heap.size, 7 + (15 - I), none⟩ = some (.int .u8 x) := (RANG.out wr _ X1.out).1 (15 - I) _ (by
    have := H16.out.1
    rw [List.getElem?_map, List.getElem?_eq_getElem (by omega), <- HX.out]
    simp [List.getD, List.getElem?_eq_getElem (show 15 - I < ky.length by omega)])
   have hcs := partT_length L I (by rw [HLL.out]; exact hI)
   have hci : ∃ z, wr.cell? ⟨w.heap.size + 1, I, none⟩ = some z := by
    rw [cell_of_row wr (w.heap.size + 1) I _ _ _ HF.out]
    exact ⟨_, Array.getElem?_eq_getElem (by rw [cellsB_size, hcs, HLL.out]; exact hlt)⟩
   obtain ⟨z, hz⟩ := hci
   have hfz : wr.frozen? ⟨w.heap.size + 1, I, none⟩ = false := by simp [World.frozen?, HF.out]
   have HST : Hid (partT L (I + 1) = (partT L I).set I x) := by
    show _ = _
    have e : L.getD I 0 = x := by
     have := H16.out.1
     rw [<- HX.out, <- HL.out]
     simp only [List.getD]
     rw [List.getElem?_reverse (by omega), H16.out.1, show 16 - 1 - I = 15 - I by omega]
    rw [<- e]
    exact (partT_step L I (by rw [HLL.out]; exact hlt)).symm
   obtain ⟨J, HJ⟩ : ∃ J, Hid (15 - I = J) := ⟨_, rfl⟩
   rw [HJ.out] at hx
   have hwr : IntKind.i64.wrap (15 - (I : Int)) = (J : Int) := by rw [IntKind.wrap_i64]; have := HJ.out; omega
   have hJ : (15 : Int) - (I : Int) = (J : Int) := by have := HJ.out; omega
   have hI16 : (I : Int) < 16 := by omega
   have hJ16 : (J : Int) < 16 := by have := HJ.out; omega
   clear hcs
   go_wp2
   refine ⟨⟨I + 1, by omega, by go_num, ?_, ?_⟩, by simp [intOf]; omega⟩
   ·rw [HST.out, <- cellsB_setT]
    exact heap_setCell_same wr (w.heap.size + 1) I _ _ _ HF.out
   ·exact grown_trans HG.out (grown_set _ _ _ _)
  ·have hI' : I = 16 := by omega
   subst hI'
   have IX1 : Hid (wr.heap[w.heap.size + 1]? = some (.cells (cellsB L) 84 (0, 0))) := by
    have q := HF.out
    rw [show partT L 16 = L by rw [<- HLL.out]; exact partT_all L] at q
    exact q
   have B1 : Hid (Below w.heap.size w wr) := hid (B0.out.grown HG.out B0.out.size (fun q e => by have e' : w.heap.size + 1 = q := Option.some.inj e; omega))
   have c3 := CELL.out wr _ X1.out
   have CL := hid (lent_any wr _ ds (HD.out.below B1.out) (by have := HDSL.out; omega))
   clear HF HG hI hlt
   go_wp2_with fail
   refine CL.out.mono ?_
   rintro e w1 ⟨v1, rfl, ho1, hb1⟩
   obtain ⟨g1, c1, rfl, hg1, hg1b, hc1, hc1b, hbl, _⟩ := lent_part ho1 HD.out.2
   rw [HND.out] at hc1 hbl
   have O1 := hid ho1
   have HBL := hid hbl
   have b1 := hid hb1
   have B2 := hid (B1.out.trans (hb1.mono B1.out.size))
   have X2 := hid ((hb1.block _ (Array.getElem?_eq_some_iff.1 X1.out).1).trans X1.out)
   have IX2 := hid ((hb1.block _ (Array.getElem?_eq_some_iff.1 IX1.out).1).trans IX1.out)
   have G1 := hid (show wr.heap.size <= g1 /\ g1 < w1.heap.size from ⟨hg1, hg1b⟩)
   have HC1 := hid hc1
   clear ho1 hb1 hbl c3 CL hg1 hg1b
   rw [HND.out]
   have c3 := CELL.out w1 _ X2.out
   have r1 : ∀ W, (Instr.slice 30 (.slice (some ⟨g1, 0, none⟩) (nd + 70) c1) none (some (.int .i64 (nd : Int))) none).run Tryd.prog W = .ok (.slice (some ⟨g1, 0, none⟩) nd c1) W := fun W => slice_hT W g1 (nd + 70) c1 nd (by have := HC1.out; omega) (by have := HC1.out; omega)
   obtain ⟨da1, HDa1⟩ : ∃ x, Hid (cellsB (digL (byL 3 [ds])) = x) := ⟨_, rfl⟩
   have Na1 : Hid (∀ W, (binOp .neq 34 (.agg da1) (.agg da1)).run Tryd.prog W = .ok (.bool false) W) := hid fun W => by
    have := run_neq_bytes W 32 34 Tryd.underlying34 _ _ (digL_length (byL 3 [ds])) (digL_length (byL 3 [ds]))
    rw [decide_eq_true rfl, HDa1.out] at this
    exact this
   have Ma1 : Hid (∀ W, (Op.equalIn 10000 34 (.agg da1) (.agg da1)).run Tryd.prog W = .ok true W) := hid fun W => by
    have := run_equalIn_bytes W 9998 32 34 Tryd.underlying34 _ _ (digL_length (byL 3 [ds])) (digL_length (byL 3 [ds]))
    rw [decide_eq_true rfl, HDa1.out] at this
    exact this
   have Ta1 : Hid (∀ W' : World, Below w1.heap.size w1 W' -> Calls Tryd.prog 44 #[.slice (some ⟨g1, 0, none⟩) nd c1] W' fun e w' => e = .returned (.agg da1) /\ Below W'.heap.size W' w') := hid fun W' hh => by
    rw [<- HDa1.out, <- td_one (by omega) ds]
    exact tblockC W' _ ds (HBL.out.below hh) (by have := HDSL.out; omega) (HK.out.below (B2.out.trans (hh.mono B2.out.size)))
   obtain ⟨db1, HDb1⟩ : ∃ x, Hid (cellsB (digL (byL 4 [ds])) = x) := ⟨_, rfl⟩
   have Nb1 : Hid (∀ W, (binOp .neq 34 (.agg db1) (.agg db1)).run Tryd.prog W = .ok (.bool false) W) := hid fun W => by
    have := run_neq_bytes W 32 34 Tryd.underlying34 _ _ (digL_length (byL 4 [ds])) (digL_length (byL 4 [ds]))
    rw [decide_eq_true rfl, HDb1.out] at this
    exact this
   have Mb1 : Hid (∀ W, (Op.equalIn 10000 34 (.agg db1) (.agg db1)).run Tryd.prog W = .ok true W) := hid fun W => by
    have := run_equalIn_bytes W 9998 32 34 Tryd.underlying34 _ _ (digL_length (byL 4 [ds])) (digL_length (byL 4 [ds]))
    rw [decide_eq_true rfl, HDb1.out] at this
    exact this
   have Tb1 : Hid (∀ W' : World, Below w1.heap.size w1 W' -> Calls Tryd.prog 46 #[.slice (some ⟨g1, 0, none⟩) nd c1] W' fun e w' => e = .returned (.agg db1) /\ Below W'.heap.size W' w') := hid fun W' hh => by
    rw [<- HDb1.out, <- td_one (by omega) ds]
    exact tsegmentC W' _ ds (HBL.out.below hh) (by have := HDSL.out; omega) (HK.out.below (B2.out.trans (hh.mono B2.out.size)))
   obtain ⟨dc1, HDc1⟩ : ∃ x, Hid (cellsB (digL (byL 8 [ds])) = x) := ⟨_, rfl⟩
   have Nc1 : Hid (∀ W, (binOp .neq 34 (.agg dc1) (.agg dc1)).run Tryd.prog W = .ok (.bool false) W) := hid fun W => by
    have := run_neq_bytes W 32 34 Tryd.underlying34 _ _ (digL_length (byL 8 [ds])) (digL_length (byL 8 [ds]))
    rw [decide_eq_true rfl, HDc1.out] at this
    exact this
   have Mc1 : Hid (∀ W, (Op.equalIn 10000 34 (.agg dc1) (.agg dc1)).run Tryd.prog W = .ok true W) := hid fun W => by
    have := run_equalIn_bytes W 9998 32 34 Tryd.underlying34 _ _ (digL_length (byL 8 [ds])) (digL_length (byL 8 [ds]))
    rw [decide_eq_true rfl, HDc1.out] at this
    exact this
   have Tc1 : Hid (∀ W' : World, Below w1.heap.size w1 W' -> Calls Tryd.prog 48 #[.slice (some ⟨g1, 0, none⟩) nd c1] W' fun e w' => e = .returned (.agg dc1) /\ Below W'.heap.size W' w') := hid fun W' hh => by
    rw [<- HDc1.out, <- td_one (by omega) ds]
    exact tuebC W' _ ds (HBL.out.below hh) (by have := HDSL.out; omega) (HK.out.below (B2.out.trans (hh.mono B2.out.size)))
   have Ra1 : Hid (∀ W' : World, Below w1.heap.size w1 W' -> Calls Tryd.prog 45 #[.slice pd nd cd] W' fun e w' => e = .returned (.agg da1) /\ Below W'.heap.size W' w') := hid fun W' hh => by
    rw [<- HDa1.out]
    exact rblockC W' _ ds (HD.out.below (B2.out.trans (hh.mono B2.out.size))) (by have := HDSL.out; omega)
   have Rb1 : Hid (∀ W' : World, Below w1.heap.size w1 W' -> Calls Tryd.prog 47 #[.slice pd nd cd] W' fun e w' => e = .returned (.agg db1) /\ Below W'.heap.size W' w') := hid fun W' hh => by
    rw [<- HDb1.out]
    exact rsegmentC W' _ ds (HD.out.below (B2.out.trans (hh.mono B2.out.size))) (by have := HDSL.out; omega)
   have Rc1 : Hid (∀ W' : World, Below w1.heap.size w1 W' -> Calls Tryd.prog 49 #[.slice pd nd cd] W' fun e w' => e = .returned (.agg dc1) /\ Below W'.heap.size W' w') := hid fun W' hh => by
    rw [<- HDc1.out]
    exact ruebC W' _ ds (HD.out.below (B2.out.trans (hh.mono B2.out.size))) (by have := HDSL.out; omega)
   have CK : Hid (∀ W' : World, Below w1.heap.size w1 W' -> Calls Tryd.prog 20 #[.slice (some ⟨g1, 0, none⟩) (nd + 70) c1, .slice pd nd cd] W' fun e w' => e = .returned (.bool true) /\ Below W'.heap.size W' w') := hid fun W' hh => by
    have q := kept_any W' _ _ (lent ds) ds (HB.of_own (own_below O1.out hh) (lent_byt HD.out.2)) (HD.out.below (B2.out.trans (hh.mono B2.out.size))) (by have := HDSL.out; omega)
    rw [decide_eq_true rfl] at q
    simp only [HND.out] at q
    exact q
   have ZC : Hid (∀ W' : World, Below w1.heap.size w1 W' -> W'.cell? ⟨w.heap.size, 3, none⟩ = some (.slice pd nd cd)) := hid fun W' hh => CELL.out W' _ ((hh.block _ (Array.getElem?_eq_some_iff.1 X2.out).1).trans X2.out)
   go_wp2_with fail
   refine wp_region_held_drew (S := fun W' => Below w1.heap.size w1 W') (by kernel_rfl) ((Below.refl _ w1).drew) (fun hHeld => ?_)
   have HS := hid hHeld
   clear hHeld
   change wpAnyH _ _ _ _ _ _ _ _ (World.drew _)
   refine wpAnyH_take (i := 0) (v := ?_) rfl (by kernel_rfl) (by kernel_rfl) (by kernel_rfl) (fun _ _ _ h => h) (Or.inl ⟨by rfl, ?q0_1⟩) HS.out ?_
   case q0_1 => intro w hSw; have z3 := ZC.out _ hSw; go_simp; rfl
   simp only [Act.put, lay6]
   refine wpAnyH_take (i := 2) (v := ?_) rfl (by kernel_rfl) (by kernel_rfl) (by kernel_rfl) (fun _ _ _ h => h) (Or.inl ⟨by rfl, ?q2_1⟩) HS.out ?_
   case q2_1 => intro w hSw; have z3 := ZC.out _ hSw; go_simp; rfl
   simp only [Act.put, lay6]
   refine wpAnyH_take (i := 3) (v := ?_) rfl (by kernel_rfl) (by kernel_rfl) (by kernel_rfl) (fun _ _ _ h => h) (Or.inl ⟨by rfl, ?q3_1⟩) HS.out ?_
   case q3_1 => intro w hSw; have z3 := ZC.out _ hSw; go_simp; rfl
   simp only [Act.put, lay6]
   refine wpAnyH_ready (rs := [1]) (by kernel_rfl) (by simp) ?_
   refine AllReadyH.cons rfl (fun K hK => ?_) AllReadyH.nil
   replace hK := hid hK
   go_simp
   refine (Ta1.out _ HS.out).mono ?_
   rintro e wc1 ⟨rfl, hB8⟩
   have S8 : Hid (Below w1.heap.size w1 wc1) := hid (HS.out.trans (hB8.mono HS.out.size))
   clear hB8
   refine hK.out _ _ S8.out (fun _ => ?_)
   clear hK K
   try simp only [Act.put, lay6]
   replace HS := S8
   refine wpAnyH_ready (rs := [4]) (by kernel_rfl) (by simp) ?_
   refine AllReadyH.cons rfl (fun K hK => ?_) AllReadyH.nil
   replace hK := hid hK
   go_simp
   refine (Ra1.out _ HS.out).mono ?_
   rintro e wc2 ⟨rfl, hB8⟩
   have S8 : Hid (Below w1.heap.size w1 wc2) := hid (HS.out.trans (hB8.mono HS.out.size))
   clear hB8
   refine hK.out _ _ S8.out (fun _ => ?_)
   clear hK K
   try simp only [Act.put, lay6]
   replace HS := S8
   refine wpAnyH_take (i := 5) (v := ?_) rfl (by kernel_rfl) (by kernel_rfl) (by kernel_rfl) (fun _ _ _ h => h) (Or.inl ⟨by rfl, ?q5_1⟩) HS.out ?_
   case q5_1 => intro w hSw; have nn := Ma1.out w; go_simp; rfl
   simp only [Act.put, lay6]
   refine wpAnyH_take (i := 6) (v := ?_) rfl (by kernel_rfl) (by kernel_rfl) (by kernel_rfl) (fun _ _ _ h => h) (Or.inl ⟨by rfl, ?q6_1⟩) HS.out ?_
   case q6_1 => intro w hSw; go_simp; rfl
   simp only [Act.put, lay6]
   refine wpAnyH_take (i := 7) (v := ?_) rfl (by kernel_rfl) (by kernel_rfl) (by kernel_rfl) (fun _ _ _ h => h) (Or.inl ⟨by rfl, ?q7_1⟩) HS.out ?_
   case q7_1 => intro w hSw; have z3 := ZC.out _ hSw; go_simp; rfl
   simp only [Act.put, lay6]
   refine wpAnyH_take (i := 9) (v := ?_) rfl (by kernel_rfl) (by kernel_rfl) (by kernel_rfl) (fun _ _ _ h => h) (Or.inl ⟨by rfl, ?q9_1⟩) HS.out ?_
   case q9_1 => intro w hSw; have z3 := ZC.out _ hSw; go_simp; rfl
   simp only [Act.put, lay6]
   refine wpAnyH_take (i := 10) (v := ?_) rfl (by kernel_rfl) (by kernel_rfl) (by kernel_rfl) (fun _ _ _ h => h) (Or.inl ⟨by rfl, ?q10_1⟩) HS.out ?_
   case q10_1 => intro w hSw; have z3 := ZC.out _ hSw; go_simp; rfl
   simp only [Act.put, lay6]
   refine wpAnyH_ready (rs := [8]) (by kernel_rfl) (by simp) ?_
   refine AllReadyH.cons rfl (fun K hK => ?_) AllReadyH.nil
   replace hK := hid hK
   go_simp
   refine (Tb1.out _ HS.out).mono ?_
   rintro e wc3 ⟨rfl, hB8⟩
   have S8 : Hid (Below w1.heap.size w1 wc3) := hid (HS.out.trans (hB8.mono HS.out.size))
   clear hB8
   refine hK.out _ _ S8.out (fun _ => ?_)
   clear hK K
   try simp only [Act.put, lay6]
   replace HS := S8
   refine wpAnyH_ready (rs := [11]) (by kernel_rfl) (by simp) ?_
   refine AllReadyH.cons rfl (fun K hK => ?_) AllReadyH.nil
   replace hK := hid hK
   go_simp
   refine (Rb1.out _ HS.out).mono ?_
   rintro e wc4 ⟨rfl, hB8⟩
   have S8 : Hid (Below w1.heap.size w1 wc4) := hid (HS.out.trans (hB8.mono HS.out.size))
   clear hB8
   refine hK.out _ _ S8.out (fun _ => ?_)
   clear hK K
   try simp only [Act.put, lay6]
   replace HS := S8
   refine wpAnyH_take (i := 12) (v := ?_) rfl (by kernel_rfl) (by kernel_rfl) (by kernel_rfl) (fun _ _ _ h => h) (Or.inl ⟨by rfl, ?q12_1⟩) HS.out ?_
   case q12_1 => intro w hSw; have nn := Mb1.out w; go_simp; rfl
   simp only [Act.put, lay6]
   refine wpAnyH_take (i := 13) (v := ?_) rfl (by kernel_rfl) (by kernel_rfl) (by kernel_rfl) (fun _ _ _ h => h) (Or.inl ⟨by rfl, ?q13_1⟩) HS.out ?_
   case q13_1 => intro w hSw; go_simp; rfl
   simp only [Act.put, lay6]
   refine wpAnyH_take (i := 14) (v := ?_) rfl (by kernel_rfl) (by kernel_rfl) (by kernel_rfl) (fun _ _ _ h => h) (Or.inl ⟨by rfl, ?q14_1⟩) HS.out ?_
   case q14_1 => intro w hSw; go_simp; rfl
   simp only [Act.put, lay6]
   refine wpAnyH_take (i := 15) (v := ?_) rfl (by kernel_rfl) (by kernel_rfl) (by kernel_rfl) (fun _ _ _ h => h) (Or.inl ⟨by rfl, ?q15_1⟩) HS.out ?_
   case q15_1 => intro w hSw; have z3 := ZC.out _ hSw; go_simp; rfl
   simp only [Act.put, lay6]
   refine wpAnyH_take (i := 17) (v := ?_) rfl (by kernel_rfl) (by kernel_rfl) (by kernel_rfl) (fun _ _ _ h => h) (Or.inl ⟨by rfl, ?q17_1⟩) HS.out ?_
   case q17_1 => intro w hSw; have z3 := ZC.out _ hSw; go_simp; rfl
   simp only [Act.put, lay6]
   refine wpAnyH_take (i := 18) (v := ?_) rfl (by kernel_rfl) (by kernel_rfl) (by kernel_rfl) (fun _ _ _ h => h) (Or.inl ⟨by rfl, ?q18_1⟩) HS.out ?_
   case q18_1 => intro w hSw; have z3 := ZC.out _ hSw; go_simp; rfl
   simp only [Act.put, lay6]
   refine wpAnyH_ready (rs := [16]) (by kernel_rfl) (by simp) ?_
   refine AllReadyH.cons rfl (fun K hK => ?_) AllReadyH.nil
   replace hK := hid hK
   go_simp
   refine (Tc1.out _ HS.out).mono ?_
   rintro e wc5 ⟨rfl, hB8⟩
   have S8 : Hid (Below w1.heap.size w1 wc5) := hid (HS.out.trans (hB8.mono HS.out.size))
   clear hB8
   refine hK.out _ _ S8.out (fun _ => ?_)
   clear hK K
   try simp only [Act.put, lay6]
   replace HS := S8
   refine wpAnyH_ready (rs := [19]) (by kernel_rfl) (by simp) ?_
   refine AllReadyH.cons rfl (fun K hK => ?_) AllReadyH.nil
   replace hK := hid hK
   go_simp
   refine (Rc1.out _ HS.out).mono ?_
   rintro e wc6 ⟨rfl, hB8⟩
   have S8 : Hid (Below w1.heap.size w1 wc6) := hid (HS.out.trans (hB8.mono HS.out.size))
   clear hB8
   refine hK.out _ _ S8.out (fun _ => ?_)
   clear hK K
   try simp only [Act.put, lay6]
   replace HS := S8
   refine wpAnyH_take (i := 20) (v := ?_) rfl (by kernel_rfl) (by kernel_rfl) (by kernel_rfl) (fun _ _ _ h => h) (Or.inl ⟨by rfl, ?q20_1⟩) HS.out ?_
   case q20_1 => intro w hSw; have nn := Mc1.out w; go_simp; rfl
   simp only [Act.put, lay6]
   refine wpAnyH_take (i := 21) (v := ?_) rfl (by kernel_rfl) (by kernel_rfl) (by kernel_rfl) (fun _ _ _ h => h) (Or.inl ⟨by rfl, ?q21_1⟩) HS.out ?_
   case q21_1 => intro w hSw; go_simp; rfl
   simp only [Act.put, lay6]
   refine wpAnyH_take (i := 22) (v := ?_) rfl (by kernel_rfl) (by kernel_rfl) (by kernel_rfl) (fun _ _ _ h => h) (Or.inl ⟨by rfl, ?q22_1⟩) HS.out ?_
   case q22_1 => intro w hSw; go_simp; rfl
   simp only [Act.put, lay6]
   refine wpAnyH_take (i := 23) (v := ?_) rfl (by kernel_rfl) (by kernel_rfl) (by kernel_rfl) (fun _ _ _ h => h) (Or.inl ⟨by rfl, ?q23_1⟩) HS.out ?_
   case q23_1 => intro w hSw; have z3 := ZC.out _ hSw; go_simp; rfl
   simp only [Act.put, lay6]
   refine wpAnyH_take (i := 24) (v := ?_) rfl (by kernel_rfl) (by kernel_rfl) (by kernel_rfl) (fun _ _ _ h => h) (Or.inl ⟨by rfl, ?q24_1⟩) HS.out ?_
   case q24_1 => intro w hSw; have z3 := ZC.out _ hSw; go_simp; rfl
   simp only [Act.put, lay6]
   refine wpAnyH_take (i := 25) (v := ?_) rfl (by kernel_rfl) (by kernel_rfl) (by kernel_rfl) (fun _ _ _ h => h) (Or.inl ⟨by rfl, ?q25_1⟩) HS.out ?_
   case q25_1 => intro w hSw; have z3 := ZC.out _ hSw; go_simp; rfl
   simp only [Act.put, lay6]
   refine wpAnyH_ready (rs := [26]) (by kernel_rfl) (by simp) ?_
   refine AllReadyH.cons rfl (fun K hK => ?_) AllReadyH.nil
   replace hK := hid hK
   go_simp
   refine (CK.out _ HS.out).mono ?_
   rintro e w2 ⟨rfl, hB8⟩
   have S8 : Hid (Below w1.heap.size w1 w2) := hid (HS.out.trans (hB8.mono HS.out.size))
   clear hB8
   refine hK.out _ _ S8.out (fun _ => ?_)
   clear hK K
   try simp only [Act.put, lay6]
   replace HS := S8
   refine wpAnyH_take (i := 27) (v := ?_) rfl (by kernel_rfl) (by kernel_rfl) (by kernel_rfl) (fun _ _ _ h => h) (Or.inl ⟨by rfl, ?q27_1⟩) HS.out ?_
   case q27_1 => intro w hSw; go_simp; rfl
   simp only [Act.put, lay6]
   refine wpAnyH_take (i := 28) (v := ?_) rfl (by kernel_rfl) (by kernel_rfl) (by kernel_rfl) (fun _ _ _ h => h) (Or.inl ⟨by rfl, ?q28_1⟩) HS.out ?_
   case q28_1 => intro w hSw; go_simp; rfl
   simp only [Act.put, lay6]
   refine wpAnyH_done (by kernel_rfl) ?_ _
   have B12 := hid HS.out
   have B3 := hid (B2.out.trans (B12.out.mono B2.out.size))
   have CO1 := hid (over_byt w2 _ _ (lent ds) (own_below O1.out B12.out) (lent_byt HD.out.2) (by rw [lent_length]; have := HDSL.out; omega))
   simp only [lent_length, HND.out] at CO1
   clear HS S8 ZC CK Ma1 Mb1 Mc1 Ta1 Tb1 Tc1 Ra1 Rb1 Rc1 Na1 Nb1 Nc1 HDa1 HDb1 HDc1 c3 r1
   go_wp2_with fail
   refine CO1.out.mono ?_
   rintro e w3 ⟨rfl, ⟨l1, hl1, hl1b, ho8⟩, hg8⟩
   have O3 := hid ho8
   have L1B := hid hl1b
   have L1L : Hid (l1.length = nd + 70) := hid hl1
   have Q23 : Hid (∀ b, b < w2.heap.size -> b ≠ g1 -> w3.heap[b]? = w2.heap[b]?) := hid fun b q1 q2 => hg8.block b q1 (fun e => q2 (by have e' : some b = some g1 := e; cases e'; rfl))
   have X3 : Hid (w3.heap[w.heap.size]? = some (.cells A 37 (0, 0))) := hid ((Q23.out _ (by have := (Array.getElem?_eq_some_iff.1 X2.out).1; have := B12.out.size; omega) (by have := G1.out; have := (Array.getElem?_eq_some_iff.1 X1.out).1; omega)).trans ((B12.out.block _ (Array.getElem?_eq_some_iff.1 X2.out).1).trans X2.out))
   have IX3 : Hid (w3.heap[w.heap.size + 1]? = some (.cells (cellsB L) 84 (0, 0))) := hid ((Q23.out _ (by have := (Array.getElem?_eq_some_iff.1 IX2.out).1; have := B12.out.size; omega) (by have := G1.out; have := (Array.getElem?_eq_some_iff.1 IX1.out).1; omega)).trans ((B12.out.block _ (Array.getElem?_eq_some_iff.1 IX2.out).1).trans IX2.out))
   have B4 : Hid (Below w.heap.size w w3) := hid (B3.out.grown hg8 B3.out.size (fun q e => by have e' : some g1 = some q := e; cases e'; have := G1.out; have := B1.out.size; omega))
   have HB3 : Hid (HB w3 (.slice (some ⟨g1, 0, none⟩) nd c1) (l1.take nd)) := hid (over_pre O3.out L1B.out L1L.out HC1.out)
   obtain ⟨x1, HX1⟩ : ∃ x, Hid (l1.take nd = x) := ⟨_, rfl⟩
   rw [HX1.out] at HB3
   have HX1L : Hid (x1.length <= 1048576) := hid (by rw [<- HX1.out, List.length_take]; have := HND.out; have := HDSL.out; omega)
   clear ho8 hg8 hl1 hl1b CO1
   obtain ⟨da2, HDa2⟩ : ∃ x, Hid (cellsB (digL (byL 3 [x1])) = x) := ⟨_, rfl⟩
   have Na2 : Hid (∀ W, (binOp .neq 34 (.agg da2) (.agg da2)).run Tryd.prog W = .ok (.bool false) W) := hid fun W => by
    have := run_neq_bytes W 32 34 Tryd.underlying34 _ _ (digL_length (byL 3 [x1])) (digL_length (byL 3 [x1]))
    rw [decide_eq_true rfl, HDa2.out] at this
    exact this
   have Ma2 : Hid (∀ W, (Op.equalIn 10000 34 (.agg da2) (.agg da2)).run Tryd.prog W = .ok true W) := hid fun W => by
    have := run_equalIn_bytes W 9998 32 34 Tryd.underlying34 _ _ (digL_length (byL 3 [x1])) (digL_length (byL 3 [x1]))
    rw [decide_eq_true rfl, HDa2.out] at this
    exact this
   have Ta2 : Hid (∀ W' : World, Below w3.heap.size w3 W' -> Calls Tryd.prog 44 #[.slice (some ⟨g1, 0, none⟩) nd c1] W' fun e w' => e = .returned (.agg da2) /\ Below W'.heap.size W' w') := hid fun W' hh => by
    rw [<- HDa2.out, <- td_one (by omega) x1]
    exact tblockC W' _ x1 (HB3.out.below hh) (by have := HX1L.out; omega) (HK.out.below (B4.out.trans (hh.mono B4.out.size)))
   obtain ⟨db2, HDb2⟩ : ∃ x, Hid (cellsB (digL (byL 4 [x1])) = x) := ⟨_, rfl⟩
   have Nb2 : Hid (∀ W, (binOp .neq 34 (.agg db2) (.agg db2)).run Tryd.prog W = .ok (.bool false) W) := hid fun W => by
    have := run_neq_bytes W 32 34 Tryd.underlying34 _ _ (digL_length (byL 4 [x1])) (digL_length (byL 4 [x1]))
    rw [decide_eq_true rfl, HDb2.out] at this
    exact this
   have Mb2 : Hid (∀ W, (Op.equalIn 10000 34 (.agg db2) (.agg db2)).run Tryd.prog W = .ok true W) := hid fun W => by
    have := run_equalIn_bytes W 9998 32 34 Tryd.underlying34 _ _ (digL_length (byL 4 [x1])) (digL_length (byL 4 [x1]))
    rw [decide_eq_true rfl, HDb2.out] at this
    exact this
   have Tb2 : Hid (∀ W' : World, Below w3.heap.size w3 W' -> Calls Tryd.prog 46 #[.slice (some ⟨g1, 0, none⟩) nd c1] W' fun e w' => e = .returned (.agg db2) /\ Below W'.heap.size W' w') := hid fun W' hh => by
    rw [<- HDb2.out, <- td_one (by omega) x1]
    exact tsegmentC W' _ x1 (HB3.out.below hh) (by have := HX1L.out; omega) (HK.out.below (B4.out.trans (hh.mono B4.out.size)))
   obtain ⟨dc2, HDc2⟩ : ∃ x, Hid (cellsB (digL (byL 8 [x1])) = x) := ⟨_, rfl⟩
   have Nc2 : Hid (∀ W, (binOp .neq 34 (.agg dc2) (.agg dc2)).run Tryd.prog W = .ok (.bool false) W) := hid fun W => by
    have := run_neq_bytes W 32 34 Tryd.underlying34 _ _ (digL_length (byL 8 [x1])) (digL_length (byL 8 [x1]))
    rw [decide_eq_true rfl, HDc2.out] at this
    exact this
   have Mc2 : Hid (∀ W, (Op.equalIn 10000 34 (.agg dc2) (.agg dc2)).run Tryd.prog W = .ok true W) := hid fun W => by
    have := run_equalIn_bytes W 9998 32 34 Tryd.underlying34 _ _ (digL_length (byL 8 [x1])) (digL_length (byL 8 [x1]))
    rw [decide_eq_true rfl, HDc2.out] at this
    exact this
   have Tc2 : Hid (∀ W' : World, Below w3.heap.size w3 W' -> Calls Tryd.prog 48 #[.slice (some ⟨g1, 0, none⟩) nd c1] W' fun e w' => e = .returned (.agg dc2) /\ Below W'.heap.size W' w') := hid fun W' hh => by
    rw [<- HDc2.out, <- td_one (by omega) x1]
    exact tuebC W' _ x1 (HB3.out.below hh) (by have := HX1L.out; omega) (HK.out.below (B4.out.trans (hh.mono B4.out.size)))
   have Ra2 : Hid (∀ W' : World, Below w3.heap.size w3 W' -> Calls Tryd.prog 45 #[.slice (some ⟨g1, 0, none⟩) nd c1] W' fun e w' => e = .returned (.agg da2) /\ Below W'.heap.size W' w') := hid fun W' hh => by
    rw [<- HDa2.out]
    exact rblockC W' _ x1 (HB3.out.below hh) (by have := HX1L.out; omega)
   have Rb2 : Hid (∀ W' : World, Below w3.heap.size w3 W' -> Calls Tryd.prog 47 #[.slice (some ⟨g1, 0, none⟩) nd c1] W' fun e w' => e = .returned (.agg db2) /\ Below W'.heap.size W' w') := hid fun W' hh => by
    rw [<- HDb2.out]
    exact rsegmentC W' _ x1 (HB3.out.below hh) (by have := HX1L.out; omega)
   have Rc2 : Hid (∀ W' : World, Below w3.heap.size w3 W' -> Calls Tryd.prog 49 #[.slice (some ⟨g1, 0, none⟩) nd c1] W' fun e w' => e = .returned (.agg dc2) /\ Below W'.heap.size W' w') := hid fun W' hh => by
    rw [<- HDc2.out]
    exact ruebC W' _ x1 (HB3.out.below hh) (by have := HX1L.out; omega)
   have nn0 := Na2.out
   go_wp2_with fail
   refine (Ta2.out _ (Below.refl _ _)).mono ?_
   rintro e v0 ⟨rfl, hb⟩
   have BB0 : Hid (Below w3.heap.size w3 v0) := hid (hb)
   clear hb
   go_wp2_with fail
   refine (Ra2.out _ BB0.out).mono ?_
   rintro e v1 ⟨rfl, hb⟩
   have BB1 : Hid (Below w3.heap.size w3 v1) := hid (BB0.out.trans (hb.mono BB0.out.size))
   clear hb
   have nn2 := Nb2.out
   go_wp2_with fail
   refine (Tb2.out _ BB1.out).mono ?_
   rintro e v2 ⟨rfl, hb⟩
   have BB2 : Hid (Below w3.heap.size w3 v2) := hid (BB1.out.trans (hb.mono BB1.out.size))
   clear hb
   go_wp2_with fail
   refine (Rb2.out _ BB2.out).mono ?_
   rintro e v3 ⟨rfl, hb⟩
   have BB3 : Hid (Below w3.heap.size w3 v3) := hid (BB2.out.trans (hb.mono BB2.out.size))
   clear hb
   have nn4 := Nc2.out
   go_wp2_with fail
   refine (Tc2.out _ BB3.out).mono ?_
   rintro e v4 ⟨rfl, hb⟩
   have BB4 : Hid (Below w3.heap.size w3 v4) := hid (BB3.out.trans (hb.mono BB3.out.size))
   clear hb
   go_wp2_with fail
   refine (Rc2.out _ BB4.out).mono ?_
   rintro e v5 ⟨rfl, hb⟩
   have BB5 : Hid (Below w3.heap.size w3 v5) := hid (BB4.out.trans (hb.mono BB4.out.size))
   clear hb
   have X5 := hid ((BB5.out.block _ (Array.getElem?_eq_some_iff.1 X3.out).1).trans X3.out)
   have IX5 := hid ((BB5.out.block _ (Array.getElem?_eq_some_iff.1 IX3.out).1).trans IX3.out)
   have B5 := hid (B4.out.trans (BB5.out.mono B4.out.size))
   have HA1 := hid HO.out.a
   have HB1 := hid HO.out.b
   have HNU := hid HO.out.nu
   obtain ⟨a, HAe⟩ : ∃ x, Hid (o.a = x) := ⟨_, rfl⟩
   obtain ⟨b, HBe⟩ : ∃ x, Hid (o.b = x) := ⟨_, rfl⟩
   obtain ⟨nu, HNe⟩ : ∃ x, Hid (o.nu = x) := ⟨_, rfl⟩
   rw [HAe.out] at HA1
   rw [HBe.out] at HB1
   rw [HNe.out] at HNU
   obtain ⟨ak, HAK⟩ : ∃ x, Hid (cellsB ky = x) := ⟨_, rfl⟩
   obtain ⟨aa, HAA⟩ : ∃ x, Hid (cellsB a = x) := ⟨_, rfl⟩
   obtain ⟨ab, HAB⟩ : ∃ x, Hid (cellsB b = x) := ⟨_, rfl⟩
   obtain ⟨al, HAL⟩ : ∃ x, Hid (cellsB L = x) := ⟨_, rfl⟩
   have EAK : Hid ((ky.map (Value.int .u8)).toArray = ak) := HAK
   have EAA : Hid ((a.map (Value.int .u8)).toArray = aa) := HAA
   have EAB : Hid ((b.map (Value.int .u8)).toArray = ab) := HAB
   have EAL : Hid ((L.map (Value.int .u8)).toArray = al) := HAL
   have SKY : Hid ((Tryd.prog.info? 32).map (·.size) = some (ky.map (Value.int .u8)).length) := by refine hid ?_; rw [List.length_map, H16.out.1]; exact size_key
   have SAA : Hid ((Tryd.prog.info? 34).map (·.size) = some (a.map (Value.int .u8)).length) := by refine hid ?_; rw [List.length_map, HA1.out.1]; exact size_digest
   have SAB : Hid ((Tryd.prog.info? 34).map (·.size) = some (b.map (Value.int .u8)).length) := by refine hid ?_; rw [List.length_map, HB1.out.1]; exact size_digest
   have SAL : Hid ((Tryd.prog.info? 84).map (·.size) = some (L.map (Value.int .u8)).length) := by refine hid ?_; rw [List.length_map, HLL.out]; exact size_index
   have RNG : Hid (∀ W' : World, Below v5.heap.size v5 W' -> W'.rangeAt w.heap.size 7 (ky.map (Value.int .u8)) /\ W'.rangeAt w.heap.size 23 (a.map (Value.int .u8)) /\ W'.rangeAt w.heap.size 55 (b.map (Value.int .u8)) /\ W'.cell? ⟨w.heap.size, 87, none⟩ = some (.int .u32 (nu : Int)) /\ W'.rangeAt (w.heap.size + 1) 0 (L.map (Value.int .u8))) := hid fun W' hh => by
    obtain ⟨q1, q2, q3, q4⟩ := RANG.out W' _ ((hh.block _ (Array.getElem?_eq_some_iff.1 X5.out).1).trans X5.out)
    rw [HAe.out] at q2
    rw [HBe.out] at q3
    rw [HNe.out] at q4
    exact ⟨q1, q2, q3, q4, rangeT_all ((hh.block _ (Array.getElem?_eq_some_iff.1 IX5.out).1).trans IX5.out)⟩
   have KB : Hid (∀ W' : World, Below v5.heap.size v5 W' -> KC W') := hid fun W' hh => HK.out.below (B5.out.trans (hh.mono B5.out.size))
   obtain ⟨xi, HXI⟩ : ∃ x, Hid (cellsB ((digL (byL 2 [ky])).take 16) = x) := ⟨_, rfl⟩
   have TI : Hid (∀ W' : World, Below v5.heap.size v5 W' -> Calls Tryd.prog 50 #[.agg ak] W' fun e w' => e = .returned (.agg xi) /\ Below W'.heap.size W' w') := hid fun W' hh => by
    rw [<- HXI.out, <- HAK.out, <- td_ok (tag_ok1 (.inl ⟨rfl, H16.out.1⟩))]
    exact tindexC W' ky H16.out (KB.out _ hh)
   have RI : Hid (∀ W' : World, Below v5.heap.size v5 W' -> Calls Tryd.prog 51 #[.agg ak] W' fun e w' => e = .returned (.agg xi) /\ Below W'.heap.size W' w') := hid fun W' hh => by
    rw [<- HXI.out, <- HAK.out]
    exact rindexC W' ky H16.out
   have NI : Hid (∀ W, (binOp .eql 84 (.agg xi) (.agg xi)).run Tryd.prog W = .ok (.bool true) W) := hid fun W => by
    have hl : ((digL (byL 2 [ky])).take 16).length = 16 := by rw [List.length_take, digL_length]; rfl
    have := run_eql_bytes W 16 84 Tryd.underlying84 _ _ hl hl
    rw [decide_eq_true rfl, HXI.out] at this
    exact this
   have MI : Hid (∀ W, (Op.equalIn 10000 84 (.agg xi) (.agg xi)).run Tryd.prog W = .ok true W) := hid fun W => by
    have hl : ((digL (byL 2 [ky])).take 16).length = 16 := by rw [List.length_take, digL_length]; rfl
    have := run_equalIn_bytes W 9998 16 84 Tryd.underlying84 _ _ hl hl
    rw [decide_eq_true rfl, HXI.out] at this
    exact this
   have EQE : Hid (∀ (l : List Int), l.length = 32 -> ∀ W, (Op.equalIn 10000 34 (.agg (cellsB l)) (.agg (cellsB l))).run Tryd.prog W = .ok true W) := hid fun l hl W => by
    have := run_equalIn_bytes W 9998 32 34 Tryd.underlying34 l l hl hl
    rw [decide_eq_true rfl] at this
    exact this
   obtain ⟨xr, HXR⟩ : ∃ x, Hid (cellsB (digL (byL 5 [a])) = x) := ⟨_, rfl⟩
   have TR : Hid (∀ W' : World, Below v5.heap.size v5 W' -> Calls Tryd.prog 52 #[.agg aa] W' fun e w' => e = .returned (.agg xr) /\ Below W'.heap.size W' w') := hid fun W' hh => by
    rw [<- HXR.out, <- HAA.out, <- td_ok (tag_ok1 (.inr ⟨rfl, HA1.out.1⟩))]
    exact trootC W' a HA1.out (KB.out _ hh)
   have RR : Hid (∀ W' : World, Below v5.heap.size v5 W' -> Calls Tryd.prog 53 #[.agg aa] W' fun e w' => e = .returned (.agg xr) /\ Below W'.heap.size W' w') := hid fun W' hh => by
    rw [<- HXR.out, <- HAA.out]
    exact rrootC W' a HA1.out
   have EQD : Hid (∀ (l : List Int), l.length = 32 -> ∀ W, (binOp .eql 34 (.agg (cellsB l)) (.agg (cellsB l))).run Tryd.prog W = .ok (.bool true) W) := hid fun l hl W => by
    have := run_eql_bytes W 32 34 Tryd.underlying34 l l hl hl
    rw [decide_eq_true rfl] at this
    exact this
   have NR := hid (EQD.out (digL (byL 5 [a])) (digL_length _))
   rw [HXR.out] at NR
   have MR := hid (EQE.out (digL (byL 5 [a])) (digL_length _))
   rw [HXR.out] at MR
   obtain ⟨xn, HXN⟩ : ∃ x, Hid (cellsB (ndL a b) = x) := ⟨_, rfl⟩
   have TN : Hid (∀ W' : World, Below v5.heap.size v5 W' -> Calls Tryd.prog 54 #[.agg aa, .agg ab] W' fun e w' => e = .returned (.agg xn) /\ Below W'.heap.size W' w') := hid fun W' hh => by
    rw [<- HXN.out, <- HAA.out, <- HAB.out]
    exact node_any W' a b HA1.out HB1.out (KB.out _ hh)
   have RN : Hid (∀ W' : World, Below v5.heap.size v5 W' -> Calls Tryd.prog 55 #[.agg aa, .agg ab] W' fun e w' => e = .returned (.agg xn) /\ Below W'.heap.size W' w') := hid fun W' hh => by
    rw [<- HXN.out, <- HAA.out, <- HAB.out]
    exact rnode_any W' a b HA1.out HB1.out
   have NN := hid (EQD.out (ndL a b) (ndL_D a b).1)
   rw [HXN.out] at NN
   have MN := hid (EQE.out (ndL a b) (ndL_D a b).1)
   rw [HXN.out] at MN
   obtain ⟨xp, HXP⟩ : ∃ x, Hid (cellsB (pdL nu) = x) := ⟨_, rfl⟩
   have TP : Hid (∀ W' : World, Below v5.heap.size v5 W' -> Calls Tryd.prog 10 #[.int .u32 (nu : Int)] W' fun e w' => e = .returned (.agg xp) /\ Below W'.heap.size W' w') := hid fun W' hh => by
    rw [<- HXP.out]
    exact tpad_any W' nu HNU.out (KB.out _ hh)
   have RP : Hid (∀ W' : World, Below v5.heap.size v5 W' -> Calls Tryd.prog 56 #[.int .u32 (nu : Int)] W' fun e w' => e = .returned (.agg xp) /\ Below W'.heap.size W' w') := hid fun W' hh => by
    rw [<- HXP.out]
    exact rpad5_any W' nu HNU.out
   have NP := hid (EQD.out (pdL nu) (pdL_D nu).1)
   rw [HXP.out] at NP
   have MP := hid (EQE.out (pdL nu) (pdL_D nu).1)
   rw [HXP.out] at MP
   obtain ⟨xg, HXG⟩ : ∃ x, Hid (cellsB (rgL L nu) = x) := ⟨_, rfl⟩
   have TG : Hid (∀ W' : World, Below v5.heap.size v5 W' -> Calls Tryd.prog 57 #[.agg al, .int .u32 (nu : Int)] W' fun e w' => e = .returned (.agg xg) /\ Below W'.heap.size W' w') := hid fun W' hh => by
    rw [<- HXG.out, <- HAL.out]
    exact tring_any W' L nu HL16.out HNU.out (KB.out _ hh)
   have RG : Hid (∀ W' : World, Below v5.heap.size v5 W' -> Calls Tryd.prog 58 #[.agg al, .int .u32 (nu : Int)] W' fun e w' => e = .returned (.agg xg) /\ Below W'.heap.size W' w') := hid fun W' hh => by
    rw [<- HXG.out, <- HAL.out]
    exact rring_any W' L nu HL16.out HNU.out
   have NG := hid (EQD.out (rgL L nu) (rgL_D L nu).1)
   rw [HXG.out] at NG
   have MG := hid (EQE.out (rgL L nu) (rgL_D L nu).1)
   rw [HXG.out] at MG
   clear nn0 nn2
   go_wp2_with fail
   refine wp_region_held_drew (S := fun W' => Below v5.heap.size v5 W') (by kernel_rfl) ((Below.refl _ v5).drew) (fun hHeld => ?_)
   have HS := hid hHeld
   clear hHeld
   change wpAnyH _ _ _ _ _ _ _ _ (World.drew _)
   refine wpAnyH_take (i := 0) (v := ?_) rfl (by kernel_rfl) (by kernel_rfl) (by kernel_rfl) (fun _ _ _ h => h) (Or.inl ⟨by rfl, ?q0_2⟩) HS.out ?_
   case q0_2 => intro w hSw; go_simp; rfl
   simp only [Act.put, lay6]
   refine wpAnyH_take (i := 1) rfl (by kernel_rfl) (by kernel_rfl) (by kernel_rfl) (fun _ _ _ h => h) (yieldsIf_load_arrT (by rfl) 32 _ rfl w.heap.size 7 rfl (ky.map (Value.int .u8)) ak _ EAK.out (fun W hW => (RNG.out W hW).1) Tryd.underlying32 rfl SKY.out) HS.out ?_
   simp only [Act.put, lay6]
   refine wpAnyH_take (i := 3) (v := ?_) rfl (by kernel_rfl) (by kernel_rfl) (by kernel_rfl) (fun _ _ _ h => h) (Or.inl ⟨by rfl, ?q3_2⟩) HS.out ?_
   case q3_2 => intro w hSw; go_simp; rfl
   simp only [Act.put, lay6]
   refine wpAnyH_take (i := 4) rfl (by kernel_rfl) (by kernel_rfl) (by kernel_rfl) (fun _ _ _ h => h) (yieldsIf_load_arrT (by rfl) 32 _ rfl w.heap.size 7 rfl (ky.map (Value.int .u8)) ak _ EAK.out (fun W hW => (RNG.out W hW).1) Tryd.underlying32 rfl SKY.out) HS.out ?_
   simp only [Act.put, lay6]
   refine wpAnyH_ready (rs := [2]) (by kernel_rfl) (by simp) ?_
   refine AllReadyH.cons rfl (fun K hK => ?_) AllReadyH.nil
   replace hK := hid hK
   go_simp
   refine (TI.out _ HS.out).mono ?_
   rintro e u1 ⟨rfl, hB8⟩
   have S8 : Hid (Below v5.heap.size v5 u1) := hid (HS.out.trans (hB8.mono HS.out.size))
   clear hB8
   refine hK.out _ _ S8.out (fun _ => ?_)
   clear hK K
   try simp only [Act.put, lay6]
   replace HS := S8
   refine wpAnyH_ready (rs := [5]) (by kernel_rfl) (by simp) ?_
   refine AllReadyH.cons rfl (fun K hK => ?_) AllReadyH.nil
   replace hK := hid hK
   go_simp
   refine (RI.out _ HS.out).mono ?_
   rintro e u2 ⟨rfl, hB8⟩
   have S8 : Hid (Below v5.heap.size v5 u2) := hid (HS.out.trans (hB8.mono HS.out.size))
   clear hB8
   refine hK.out _ _ S8.out (fun _ => ?_)
   clear hK K
   try simp only [Act.put, lay6]
   replace HS := S8
   refine wpAnyH_take (i := 6) (v := ?_) rfl (by kernel_rfl) (by kernel_rfl) (by kernel_rfl) (fun _ _ _ h => h) (Or.inl ⟨by rfl, ?q6_2⟩) HS.out ?_
   case q6_2 => intro w hSw; have nn := MI.out w; go_simp; rfl
   simp only [Act.put, lay6]
   refine wpAnyH_take (i := 7) (v := ?_) rfl (by kernel_rfl) (by kernel_rfl) (by kernel_rfl) (fun _ _ _ h => h) (Or.inl ⟨by rfl, ?q7_2⟩) HS.out ?_
   case q7_2 => intro w hSw; go_simp; rfl
   simp only [Act.put, lay6]
   refine wpAnyH_take (i := 8) (v := ?_) rfl (by kernel_rfl) (by kernel_rfl) (by kernel_rfl) (fun _ _ _ h => h) (Or.inl ⟨by rfl, ?q8_2⟩) HS.out ?_
   case q8_2 => intro w hSw; go_simp; rfl
   simp only [Act.put, lay6]
   refine wpAnyH_take (i := 9) rfl (by kernel_rfl) (by kernel_rfl) (by kernel_rfl) (fun _ _ _ h => h) (yieldsIf_load_arrT (by rfl) 34 _ rfl w.heap.size 23 rfl (a.map (Value.int .u8)) aa _ EAA.out (fun W hW => (RNG.out W hW).2.1) Tryd.underlying34 rfl SAA.out) HS.out ?_
   simp only [Act.put, lay6]
   refine wpAnyH_take (i := 11) (v := ?_) rfl (by kernel_rfl) (by kernel_rfl) (by kernel_rfl) (fun _ _ _ h => h) (Or.inl ⟨by rfl, ?q11_2⟩) HS.out ?_
   case q11_2 => intro w hSw; go_simp; rfl
   simp only [Act.put, lay6]
   refine wpAnyH_take (i := 12) rfl (by kernel_rfl) (by kernel_rfl) (by kernel_rfl) (fun _ _ _ h => h) (yieldsIf_load_arrT (by rfl) 34 _ rfl w.heap.size 23 rfl (a.map (Value.int .u8)) aa _ EAA.out (fun W hW => (RNG.out W hW).2.1) Tryd.underlying34 rfl SAA.out) HS.out ?_
   simp only [Act.put, lay6]
   refine wpAnyH_ready (rs := [10]) (by kernel_rfl) (by simp) ?_
   refine AllReadyH.cons rfl (fun K hK => ?_) AllReadyH.nil
   replace hK := hid hK
   go_simp
   refine (TR.out _ HS.out).mono ?_
   rintro e u3 ⟨rfl, hB8⟩
   have S8 : Hid (Below v5.heap.size v5 u3) := hid (HS.out.trans (hB8.mono HS.out.size))
   clear hB8
   refine hK.out _ _ S8.out (fun _ => ?_)
   clear hK K
   try simp only [Act.put, lay6]
   replace HS := S8
   refine wpAnyH_ready (rs := [13]) (by kernel_rfl) (by simp) ?_
   refine AllReadyH.cons rfl (fun K hK => ?_) AllReadyH.nil
   replace hK := hid hK
   go_simp
   refine (RR.out _ HS.out).mono ?_
   rintro e u4 ⟨rfl, hB8⟩
   have S8 : Hid (Below v5.heap.size v5 u4) := hid (HS.out.trans (hB8.mono HS.out.size))
   clear hB8
   refine hK.out _ _ S8.out (fun _ => ?_)
   clear hK K
   try simp only [Act.put, lay6]
   replace HS := S8
   refine wpAnyH_take (i := 14) (v := ?_) rfl (by kernel_rfl) (by kernel_rfl) (by kernel_rfl) (fun _ _ _ h => h) (Or.inl ⟨by rfl, ?q14_2⟩) HS.out ?_
   case q14_2 => intro w hSw; have nn := MR.out w; go_simp; rfl
   simp only [Act.put, lay6]
   refine wpAnyH_take (i := 15) (v := ?_) rfl (by kernel_rfl) (by kernel_rfl) (by kernel_rfl) (fun _ _ _ h => h) (Or.inl ⟨by rfl, ?q15_2⟩) HS.out ?_
   case q15_2 => intro w hSw; go_simp; rfl
   simp only [Act.put, lay6]
   refine wpAnyH_take (i := 16) (v := ?_) rfl (by kernel_rfl) (by kernel_rfl) (by kernel_rfl) (fun _ _ _ h => h) (Or.inl ⟨by rfl, ?q16_2⟩) HS.out ?_
   case q16_2 => intro w hSw; go_simp; rfl
   simp only [Act.put, lay6]
   refine wpAnyH_take (i := 17) (v := ?_) rfl (by kernel_rfl) (by kernel_rfl) (by kernel_rfl) (fun _ _ _ h => h) (Or.inl ⟨by rfl, ?q17_2⟩) HS.out ?_
   case q17_2 => intro w hSw; go_simp; rfl
   simp only [Act.put, lay6]
   refine wpAnyH_take (i := 18) rfl (by kernel_rfl) (by kernel_rfl) (by kernel_rfl) (fun _ _ _ h => h) (yieldsIf_load_arrT (by rfl) 34 _ rfl w.heap.size 23 rfl (a.map (Value.int .u8)) aa _ EAA.out (fun W hW => (RNG.out W hW).2.1) Tryd.underlying34 rfl SAA.out) HS.out ?_
   simp only [Act.put, lay6]
   refine wpAnyH_take (i := 19) (v := ?_) rfl (by kernel_rfl) (by kernel_rfl) (by kernel_rfl) (fun _ _ _ h => h) (Or.inl ⟨by rfl, ?q19_2⟩) HS.out ?_
   case q19_2 => intro w hSw; go_simp; rfl
   simp only [Act.put, lay6]
   refine wpAnyH_take (i := 20) rfl (by kernel_rfl) (by kernel_rfl) (by kernel_rfl) (fun _ _ _ h => h) (yieldsIf_load_arrT (by rfl) 34 _ rfl w.heap.size 55 rfl (b.map (Value.int .u8)) ab _ EAB.out (fun W hW => (RNG.out W hW).2.2.1) Tryd.underlying34 rfl SAB.out) HS.out ?_
   simp only [Act.put, lay6]
   refine wpAnyH_take (i := 22) (v := ?_) rfl (by kernel_rfl) (by kernel_rfl) (by kernel_rfl) (fun _ _ _ h => h) (Or.inl ⟨by rfl, ?q22_2⟩) HS.out ?_
   case q22_2 => intro w hSw; go_simp; rfl
   simp only [Act.put, lay6]
   refine wpAnyH_take (i := 23) rfl (by kernel_rfl) (by kernel_rfl) (by kernel_rfl) (fun _ _ _ h => h) (yieldsIf_load_arrT (by rfl) 34 _ rfl w.heap.size 23 rfl (a.map (Value.int .u8)) aa _ EAA.out (fun W hW => (RNG.out W hW).2.1) Tryd.underlying34 rfl SAA.out) HS.out ?_
   simp only [Act.put, lay6]
   refine wpAnyH_take (i := 24) (v := ?_) rfl (by kernel_rfl) (by kernel_rfl) (by kernel_rfl) (fun _ _ _ h => h) (Or.inl ⟨by rfl, ?q24_2⟩) HS.out ?_
   case q24_2 => intro w hSw; go_simp; rfl
   simp only [Act.put, lay6]
   refine wpAnyH_take (i := 25) rfl (by kernel_rfl) (by kernel_rfl) (by kernel_rfl) (fun _ _ _ h => h) (yieldsIf_load_arrT (by rfl) 34 _ rfl w.heap.size 55 rfl (b.map (Value.int .u8)) ab _ EAB.out (fun W hW => (RNG.out W hW).2.2.1) Tryd.underlying34 rfl SAB.out) HS.out ?_
   simp only [Act.put, lay6]
   refine wpAnyH_ready (rs := [21]) (by kernel_rfl) (by simp) ?_
   refine AllReadyH.cons rfl (fun K hK => ?_) AllReadyH.nil
   replace hK := hid hK
   go_simp
   refine (TN.out _ HS.out).mono ?_
   rintro e u5 ⟨rfl, hB8⟩
   have S8 : Hid (Below v5.heap.size v5 u5) := hid (HS.out.trans (hB8.mono HS.out.size))
   clear hB8
   refine hK.out _ _ S8.out (fun _ => ?_)
   clear hK K
   try simp only [Act.put, lay6]
   replace HS := S8
   refine wpAnyH_ready (rs := [26]) (by kernel_rfl) (by simp) ?_
   refine AllReadyH.cons rfl (fun K hK => ?_) AllReadyH.nil
   replace hK := hid hK
   go_simp
   refine (RN.out _ HS.out).mono ?_
   rintro e u6 ⟨rfl, hB8⟩
   have S8 : Hid (Below v5.heap.size v5 u6) := hid (HS.out.trans (hB8.mono HS.out.size))
   clear hB8
   refine hK.out _ _ S8.out (fun _ => ?_)
   clear hK K
   try simp only [Act.put, lay6]
   replace HS := S8
   refine wpAnyH_take (i := 27) (v := ?_) rfl (by kernel_rfl) (by kernel_rfl) (by kernel_rfl) (fun _ _ _ h => h) (Or.inl ⟨by rfl, ?q27_2⟩) HS.out ?_
   case q27_2 => intro w hSw; have nn := MN.out w; go_simp; rfl
   simp only [Act.put, lay6]
   refine wpAnyH_take (i := 28) (v := ?_) rfl (by kernel_rfl) (by kernel_rfl) (by kernel_rfl) (fun _ _ _ h => h) (Or.inl ⟨by rfl, ?q28_2⟩) HS.out ?_
   case q28_2 => intro w hSw; go_simp; rfl
   simp only [Act.put, lay6]
   refine wpAnyH_take (i := 29) (v := ?_) rfl (by kernel_rfl) (by kernel_rfl) (by kernel_rfl) (fun _ _ _ h => h) (Or.inl ⟨by rfl, ?q29_2⟩) HS.out ?_
   case q29_2 => intro w hSw; go_simp; rfl
   simp only [Act.put, lay6]
   refine wpAnyH_take (i := 30) (v := ?_) rfl (by kernel_rfl) (by kernel_rfl) (by kernel_rfl) (fun _ _ _ h => h) (Or.inl ⟨by rfl, ?q30_2⟩) HS.out ?_
   case q30_2 => intro w hSw; go_simp; rfl
   simp only [Act.put, lay6]
   refine wpAnyH_take (i := 31) (v := ?_) rfl (by kernel_rfl) (by kernel_rfl) (by kernel_rfl) (fun _ _ _ h => h) (Or.inl ⟨by rfl, ?q31_2⟩) HS.out ?_
   case q31_2 => intro w hSw; obtain ⟨_, _, _, z87, _⟩ := RNG.out _ hSw; go_simp; rfl
   simp only [Act.put, lay6]
   refine wpAnyH_take (i := 33) (v := ?_) rfl (by kernel_rfl) (by kernel_rfl) (by kernel_rfl) (fun _ _ _ h => h) (Or.inl ⟨by rfl, ?q33_2⟩) HS.out ?_
   case q33_2 => intro w hSw; go_simp; rfl
   simp only [Act.put, lay6]
   refine wpAnyH_take (i := 34) (v := ?_) rfl (by kernel_rfl) (by kernel_rfl) (by kernel_rfl) (fun _ _ _ h => h) (Or.inl ⟨by rfl, ?q34_2⟩) HS.out ?_
   case q34_2 => intro w hSw; obtain ⟨_, _, _, z87, _⟩ := RNG.out _ hSw; go_simp; rfl
   simp only [Act.put, lay6]
   refine wpAnyH_ready (rs := [32]) (by kernel_rfl) (by simp) ?_
   refine AllReadyH.cons rfl (fun K hK => ?_) AllReadyH.nil
   replace hK := hid hK
   go_simp
   refine (TP.out _ HS.out).mono ?_
   rintro e u7 ⟨rfl, hB8⟩
   have S8 : Hid (Below v5.heap.size v5 u7) := hid (HS.out.trans (hB8.mono HS.out.size))
   clear hB8
   refine hK.out _ _ S8.out (fun _ => ?_)
   clear hK K
   try simp only [Act.put, lay6]
   replace HS := S8
   refine wpAnyH_ready (rs := [35]) (by kernel_rfl) (by simp) ?_
   refine AllReadyH.cons rfl (fun K hK => ?_) AllReadyH.nil
   replace hK := hid hK
   go_simp
   refine (RP.out _ HS.out).mono ?_
   rintro e u8 ⟨rfl, hB8⟩
   have S8 : Hid (Below v5.heap.size v5 u8) := hid (HS.out.trans (hB8.mono HS.out.size))
   clear hB8
   refine hK.out _ _ S8.out (fun _ => ?_)
   clear hK K
   try simp only [Act.put, lay6]
   replace HS := S8
   refine wpAnyH_take (i := 36) (v := ?_) rfl (by kernel_rfl) (by kernel_rfl) (by kernel_rfl) (fun _ _ _ h => h) (Or.inl ⟨by rfl, ?q36_2⟩) HS.out ?_
   case q36_2 => intro w hSw; have nn := MP.out w; go_simp; rfl
   simp only [Act.put, lay6]
   refine wpAnyH_take (i := 37) (v := ?_) rfl (by kernel_rfl) (by kernel_rfl) (by kernel_rfl) (fun _ _ _ h => h) (Or.inl ⟨by rfl, ?q37_2⟩) HS.out ?_
   case q37_2 => intro w hSw; go_simp; rfl
   simp only [Act.put, lay6]
   refine wpAnyH_take (i := 38) (v := ?_) rfl (by kernel_rfl) (by kernel_rfl) (by kernel_rfl) (fun _ _ _ h => h) (Or.inl ⟨by rfl, ?q38_2⟩) HS.out ?_
   case q38_2 => intro w hSw; go_simp; rfl
   simp only [Act.put, lay6]
   refine wpAnyH_take (i := 39) rfl (by kernel_rfl) (by kernel_rfl) (by kernel_rfl) (fun _ _ _ h => h) (yieldsIf_load_arrT (by rfl) 84 _ rfl (w.heap.size + 1) 0 rfl (L.map (Value.int .u8)) al _ EAL.out (fun W hW => (RNG.out W hW).2.2.2.2) Tryd.underlying84 rfl SAL.out) HS.out ?_
   simp only [Act.put, lay6]
   refine wpAnyH_take (i := 40) (v := ?_) rfl (by kernel_rfl) (by kernel_rfl) (by kernel_rfl) (fun _ _ _ h => h) (Or.inl ⟨by rfl, ?q40_2⟩) HS.out ?_
   case q40_2 => intro w hSw; go_simp; rfl
   simp only [Act.put, lay6]
   refine wpAnyH_take (i := 41) (v := ?_) rfl (by kernel_rfl) (by kernel_rfl) (by kernel_rfl) (fun _ _ _ h => h) (Or.inl ⟨by rfl, ?q41_2⟩) HS.out ?_
   case q41_2 => intro w hSw; obtain ⟨_, _, _, z87, _⟩ := RNG.out _ hSw; go_simp; rfl
   simp only [Act.put, lay6]
   refine wpAnyH_take (i := 43) rfl (by kernel_rfl) (by kernel_rfl) (by kernel_rfl) (fun _ _ _ h => h) (yieldsIf_load_arrT (by rfl) 84 _ rfl (w.heap.size + 1) 0 rfl (L.map (Value.int .u8)) al _ EAL.out (fun W hW => (RNG.out W hW).2.2.2.2) Tryd.underlying84 rfl SAL.out) HS.out ?_
   simp only [Act.put, lay6]
   refine wpAnyH_take (i := 44) (v := ?_) rfl (by kernel_rfl) (by kernel_rfl) (by kernel_rfl) (fun _ _ _ h => h) (Or.inl ⟨by rfl, ?q44_2⟩) HS.out ?_
   case q44_2 => intro w hSw; go_simp; rfl
   simp only [Act.put, lay6]
   refine wpAnyH_take (i := 45) (v := ?_) rfl (by kernel_rfl) (by kernel_rfl) (by kernel_rfl) (fun _ _ _ h => h) (Or.inl ⟨by rfl, ?q45_2⟩) HS.out ?_
   case q45_2 => intro w hSw; obtain ⟨_, _, _, z87, _⟩ := RNG.out _ hSw; go_simp; rfl
   simp only [Act.put, lay6]
   refine wpAnyH_ready (rs := [42]) (by kernel_rfl) (by simp) ?_
   refine AllReadyH.cons rfl (fun K hK => ?_) AllReadyH.nil
   replace hK := hid hK
   go_simp
   refine (TG.out _ HS.out).mono ?_
   rintro e u9 ⟨rfl, hB8⟩
   have S8 : Hid (Below v5.heap.size v5 u9) := hid (HS.out.trans (hB8.mono HS.out.size))
   clear hB8
   refine hK.out _ _ S8.out (fun _ => ?_)
   clear hK K
   try simp only [Act.put, lay6]
   replace HS := S8
   refine wpAnyH_ready (rs := [46]) (by kernel_rfl) (by simp) ?_
   refine AllReadyH.cons rfl (fun K hK => ?_) AllReadyH.nil
   replace hK := hid hK
   go_simp
   refine (RG.out _ HS.out).mono ?_
   rintro e ua ⟨rfl, hB8⟩
   have S8 : Hid (Below v5.heap.size v5 ua) := hid (HS.out.trans (hB8.mono HS.out.size))
   clear hB8
   refine hK.out _ _ S8.out (fun _ => ?_)
   clear hK K
   try simp only [Act.put, lay6]
   replace HS := S8
   refine wpAnyH_take (i := 47) (v := ?_) rfl (by kernel_rfl) (by kernel_rfl) (by kernel_rfl) (fun _ _ _ h => h) (Or.inl ⟨by rfl, ?q47_2⟩) HS.out ?_
   case q47_2 => intro w hSw; have nn := MG.out w; go_simp; rfl
   simp only [Act.put, lay6]
   refine wpAnyH_take (i := 48) (v := ?_) rfl (by kernel_rfl) (by kernel_rfl) (by kernel_rfl) (fun _ _ _ h => h) (Or.inl ⟨by rfl, ?q48_2⟩) HS.out ?_
   case q48_2 => intro w hSw; go_simp; rfl
   simp only [Act.put, lay6]
   refine wpAnyH_take (i := 49) (v := ?_) rfl (by kernel_rfl) (by kernel_rfl) (by kernel_rfl) (fun _ _ _ h => h) (Or.inl ⟨by rfl, ?q49_2⟩) HS.out ?_
   case q49_2 => intro w hSw; go_simp; rfl
   simp only [Act.put, lay6]
   refine wpAnyH_done (by kernel_rfl) ?_ _
   have B6 := hid (B5.out.trans (HS.out.mono B5.out.size))
   clear HS S8
   go_wp2
   go_ret
   exact ⟨rfl, B6.out⟩
end Go.Proofs.YtcpchhigiohlnaaDoor
namespace Go.Proofs.YtcpchhigiohlnaaDoor
open Go.RowKit
theorem HVL.at {w : World} {v : Value} {us : List Value} (h : HVL w v us) {b off n c : Nat} (e : v = .slice (some ⟨b, off, none⟩) n c) {k : Nat} (hk : k < us.length) : w.cell? ⟨b, off + k, none⟩ = some (us.getD k undef) := by
 obtain ⟨p, c', e', _, _, h4⟩ := h
 obtain ⟨b', off', e2, _, hc⟩ := h4 (by intro x; subst x; simp at hk)
 rw [e] at e'
 simp only [Value.slice.injEq] at e'
 rw [<- e'.1] at e2
 simp only [Option.some.injEq, Addr.mk.injEq, and_true] at e2
 obtain ⟨rfl, rfl⟩ := e2
 exact hc k hk
theorem HVL.keep {w w' : World} {v : Value} {us : List Value} (h : HVL w v us) (hk : ∀ (b : Nat) (cs : Array Value), w.heap[b]? = some (.cells cs 24 (0, 0)) -> w'.heap[b]? = w.heap[b]?) : HVL w' v us := by
 obtain ⟨p, c, e, h1, h2, h4⟩ := h
 refine ⟨p, c, e, h1, h2, fun hne => ?_⟩
 obtain ⟨b, off, e2, ⟨cs, hb⟩, hc⟩ := h4 hne
 have e3 := hk b cs hb
 refine ⟨b, off, e2, ⟨cs, e3.trans hb⟩, fun k hk' => ?_⟩
 rw [<- hc k hk']
 exact World.cell?_of_block e3
theorem HVL.below {w w' : World} {v : Value} {us : List Value} (h : HVL w v us) (hb : Below w.heap.size w w') : HVL w' v us := h.keep fun b cs q => hb.block b (Array.getElem?_eq_some_iff.1 q).1
def cntL (ns : List Nat) (k i k' : Nat) : Nat := if k' < k then ns.getD k' 0 else if k' = k then i else 0
structure P3 (B : Nat) (w0 w : World) (v : Value) (us : List Value) (ns : List Nat) (k i : Nat) : Prop where
 hv : HVL w v us
 row : ∀ k', k' < us.length -> RowI B w (us.getD k' undef) (ns.getD k' 0) k' (cntL ns k i k')
 bel : Below B w0 w
def DisU (us : List Value) : Prop := ∀ i j, i < us.length -> j < us.length -> i ≠ j -> (us.getD i undef).ownBlock = none \/ (us.getD i undef).ownBlock ≠ (us.getD j undef).ownBlock
theorem u8w (k : Int) : IntKind.u8.wrap k = k % 256 := by rw [IntKind.wrap_u8]
theorem quo256 (i : Nat) : Int.tdiv (i : Int) 256 = (i : Int) / 256 := by
 rw [Int.tdiv_eq_ediv_of_nonneg (by omega)]
theorem P3.step {B : Nat} {w0 w : World} {v : Value} {us : List Value} {ns : List Nat} {k i g c : Nat} (h : P3 B w0 w v us ns k i) (hd : DisU us) (hk : k < us.length) (hi : i < ns.getD k 0) (hu : us.getD k undef = .slice (some ⟨g, 0, none⟩) (ns.getD k 0) c) (hB : B <= w.heap.size) :
  P3 B w0 ((w.alloc (.cells (mkA k i) 5)).setCell ⟨g, i, none⟩ (.slice (some ⟨w.heap.size, 0, none⟩) 3 3)) v us ns k (i + 1) := by
 obtain ⟨W1, HW1⟩ : ∃ W : World, w.alloc (.cells (mkA k i) 5) = W := ⟨_, rfl⟩
 have b1 : Below w.heap.size w W1 := by rw [<- HW1]; exact (Below.refl _ w).alloc (Nat.le_refl _) _
 have hmk : Mkd W1 (.slice (some ⟨w.heap.size, 0, none⟩) 3 3) k i := ⟨_, rfl, by rw [<- HW1]; exact heap_alloc_new w _⟩
 rw [HW1]
 have r1 : ∀ k', k' < us.length -> RowI B W1 (us.getD k' undef) (ns.getD k' 0) k' (cntL ns k i k') := fun k' hk' => by
  obtain ⟨xs, q1, q2⟩ := h.row k' hk'
  exact RowI.keep ⟨xs, q1, q2⟩ (KT.below b1) (fun b hb => b1.block b (own_atL q1 hb).1)
 obtain ⟨xs, q1, q2⟩ := r1 k hk
 rw [hu] at q1
 obtain ⟨_, hgB, cs, hg⟩ := own_atL q1 (b := g) rfl
 obtain ⟨s1, s2⟩ := q1.stored i (.slice (some ⟨w.heap.size, 0, none⟩) 3 3)
 have kt : KT W1 (W1.setCell ⟨g, i, none⟩ (.slice (some ⟨w.heap.size, 0, none⟩) 3 3)) := KT.grown s2 (fun b e => by cases e; exact ⟨cs, _, hg, by decide⟩)
 refine ⟨(h.hv.below b1).keep (fun b cs' q => s2.block b (Array.getElem?_eq_some_iff.1 q).1 (fun e => by
   cases e
   rw [hg] at q
   simp only [Option.some.injEq, Obj.cells.injEq] at q
   exact absurd q.2.1 (by decide))), fun k' hk' => ?_, (h.bel.trans (b1.mono hB)).setCell hgB _⟩
 by_cases e : k' = k
 ·subst e
  rw [hu]
  refine ⟨_, s1, fun j hj hn => ?_⟩
  have hc : cntL ns k' (i + 1) k' = i + 1 := by simp [cntL]
  rw [hc] at hj
  have hxl : xs.length = ns.getD k' 0 := by have := q1.1; omega
  by_cases ej : j = i
  ·subst ej
   have : (xs.set j (.slice (some ⟨w.heap.size, 0, none⟩) 3 3)).getD j undef = .slice (some ⟨w.heap.size, 0, none⟩) 3 3 := by simp [List.getD, show j < xs.length by omega]
   rw [this]
   exact hmk.keep kt
  ·have : (xs.set i (.slice (some ⟨w.heap.size, 0, none⟩) 3 3)).getD j undef = xs.getD j undef := by simp [List.getD, List.getElem?_set, show i ≠ j from fun x => ej x.symm]
   rw [this]
   exact (q2 j (by simp [cntL]; omega) hn).keep kt
 ·have ec : cntL ns k (i + 1) k' = cntL ns k i k' := by simp [cntL, e]
  rw [ec]
  refine (r1 k' hk').keep kt (fun b hb => ?_)
  obtain ⟨ys, y1, _⟩ := r1 k' hk'
  refine s2.block b (own_atL y1 hb).1 (fun x => ?_)
  rcases hd k' k hk' hk e with z | z
  ·rw [z] at hb; cases hb
  ·rw [hb, hu] at z
   exact z x
theorem P3.next {B : Nat} {w0 w : World} {v : Value} {us : List Value} {ns : List Nat} {k i : Nat} (h : P3 B w0 w v us ns k i) (hi : ns.getD k 0 <= i) : P3 B w0 w v us ns (k + 1) 0 := by
 refine ⟨h.hv, fun k' hk' => ?_, h.bel⟩
 have hr0 := h.row k' hk'
 by_cases e : k' < k + 1
 ·have e1 : cntL ns (k + 1) 0 k' = ns.getD k' 0 := by simp [cntL, e]
  rw [e1]
  by_cases e2 : k' < k
  ·have e3 : cntL ns k i k' = ns.getD k' 0 := by simp [cntL, e2]
   rw [e3] at hr0
   exact hr0
  ·obtain rfl : k' = k := by omega
   have e3 : cntL ns k' i k' = i := by simp [cntL]
   rw [e3] at hr0
   exact hr0.less hi
 ·have e1 : cntL ns (k + 1) 0 k' = 0 := by simp [cntL]; omega
  rw [e1]
  exact hr0.less (Nat.zero_le _)
structure P4 (B : Nat) (w0 w : World) (v : Value) (us : List Value) (ns : List Nat) (k : Nat) (gl : List Value) : Prop where
 hv : HVL w v us
 len : gl.length = k
 row : ∀ k', k' < us.length -> RowI B w (us.getD k' undef) (ns.getD k' 0) k' (ns.getD k' 0)
 big : ∀ k', k' < k -> RowI B w (gl.getD k' undef) (ns.getD k' 0 + 70) k' (ns.getD k' 0 + 70)
 dis : ∀ k' j, k' < k -> k <= j -> j < us.length -> (gl.getD k' undef).ownBlock = none \/ (gl.getD k' undef).ownBlock ≠ (us.getD j undef).ownBlock
 bel : Below B w0 w
structure P5 (B : Nat) (w0 w : World) (v : Value) (us : List Value) (ns : List Nat) (k : Nat) (gl : List Value) (x : Value) (m : Nat) : Prop where
 hv : HVL w v us
 len : gl.length = k
 oth : ∀ k', k' < us.length -> k' ≠ k -> RowI B w (us.getD k' undef) (ns.getD k' 0) k' (ns.getD k' 0)
 big : ∀ k', k' < k -> RowI B w (gl.getD k' undef) (ns.getD k' 0 + 70) k' (ns.getD k' 0 + 70)
 dis : ∀ k' j, k' < k -> k <= j -> j < us.length -> (gl.getD k' undef).ownBlock = none \/ (gl.getD k' undef).ownBlock ≠ (us.getD j undef).ownBlock
 bel : Below B w0 w
 cur : RowI B w x (ns.getD k 0 + m) k (ns.getD k 0 + m)
 own : (∃ g c, us.getD k undef = .slice (some ⟨g, 0, none⟩) (ns.getD k 0) c /\ x = .slice (some ⟨g, 0, none⟩) (ns.getD k 0 + m) c) \/ ((x.ownBlock = none \/ x.ownBlock ≠ (us.getD k undef).ownBlock) /\ RowI B w (us.getD k undef) (ns.getD k 0) k (ns.getD k 0))
 apu : ∀ j, j < us.length -> j ≠ k -> x.ownBlock = none \/ x.ownBlock ≠ (us.getD j undef).ownBlock
 apg : ∀ k', k' < k -> x.ownBlock = none \/ x.ownBlock ≠ (gl.getD k' undef).ownBlock
theorem P4.start {B : Nat} {w0 w : World} {v : Value} {us : List Value} {ns : List Nat} (h : P3 B w0 w v us ns us.length 0) : P4 B w0 w v us ns 0 [] :=
 ⟨h.hv, rfl, fun k' hk' => by have := h.row k' hk'; simpa [cntL, hk'] using this, fun k' hk' => by omega, fun k' j hk' => by omega, h.bel⟩
theorem P5.start {B : Nat} {w0 w : World} {v : Value} {us : List Value} {ns : List Nat} {k : Nat} {gl : List Value} (h : P4 B w0 w v us ns k gl) (hd : DisU us) (hk : k < us.length) : P5 B w0 w v us ns k gl (us.getD k undef) 0 := by
 have hr := h.row k hk
 refine ⟨h.hv, h.len, fun k' q _ => h.row k' q, h.big, h.dis, h.bel, hr, ?_, fun j hj hne => hd k j hk hj (Ne.symm hne), fun k' hk' => ?_⟩
 ·obtain ⟨xs, q1, _⟩ := hr
  rcases q1.2 with ⟨e, _⟩ | ⟨g, cap, cur, e, _⟩
  ·exact .inr ⟨.inl (by rw [e]; rfl), h.row k hk⟩
  ·exact .inl ⟨g, cap, e, e⟩
 ·rcases h.dis k' k hk' (Nat.le_refl _) hk with q | q
  ·cases q2 : (us.getD k undef).ownBlock with
   | none => exact .inl rfl
   | some b => exact .inr (by rw [q]; intro e; cases e)
  ·exact .inr fun e => q e.symm
theorem P5.below {B : Nat} {w0 w w' : World} {v : Value} {us : List Value} {ns : List Nat} {k : Nat} {gl : List Value} {x : Value} {m : Nat} (h : P5 B w0 w v us ns k gl x m) (hb : Below w.heap.size w w') (hB : B <= w.heap.size) : P5 B w0 w' v us ns k gl x m := by
 have kp : ∀ {v : Value} {n k i : Nat}, RowI B w v n k i -> RowI B w' v n k i := fun {v n k i} q => by
  obtain ⟨xs, q1, q2⟩ := q
  exact RowI.keep ⟨xs, q1, q2⟩ (KT.below hb) (fun b e => hb.block b (own_atL q1 e).1)
 exact ⟨h.hv.below hb, h.len, fun k' a b => kp (h.oth k' a b), fun k' a => kp (h.big k' a), h.dis, h.bel.trans (hb.mono hB), kp h.cur, h.own.imp id (fun ⟨a, b⟩ => ⟨a, kp b⟩), h.apu, h.apg⟩
theorem P5.step {B : Nat} {w0 w w' : World} {v : Value} {us : List Value} {ns : List Nat} {k : Nat} {gl : List Value} {x x' u : Value} {m : Nat} {xs : List Value} (h : P5 B w0 w v us ns k gl x m) (hk : k < us.length) (hxs : w.ownsRow B TE 1 x (ns.getD k 0 + m) xs) (hm : ∀ j, j < ns.getD k 0 + m -> Mkd w (xs.getD j undef) k j) (hu : Mkd w u k (ns.getD k 0 + m)) (ho : w'.ownsRow B TE 1 x' (ns.getD k 0 + m + 1) (xs ++ [u])) (hg : w.grownBy w' x.ownBlock)
  (hw : (∃ g cap, x = .slice (some ⟨g, 0, none⟩) (ns.getD k 0 + m) cap /\ x' = .slice (some ⟨g, 0, none⟩) (ns.getD k 0 + m + 1) cap) \/ (x'.ownBlock = some w.heap.size /\ w.grownBy w' none)) (hB : B <= w.heap.size) : P5 B w0 w' v us ns k gl x' (m + 1) := by
 have kt : KT w w' := KT.grown hg (fun b e => by obtain ⟨_, _, cs, q⟩ := own_atL hxs e; exact ⟨cs, _, q, by decide⟩)
 have hxl : xs.length = ns.getD k 0 + m := by have := hxs.1; omega
 have kp : ∀ {z : Value} {n k i : Nat}, (x.ownBlock = none \/ x.ownBlock ≠ z.ownBlock) -> RowI B w z n k i -> RowI B w' z n k i := fun {z n k i} hd q => by
  obtain ⟨ys, q1, q2⟩ := q
  refine RowI.keep ⟨ys, q1, q2⟩ kt (fun b e => hg.block b (own_atL q1 e).1 (fun e2 => ?_))
  rcases hd with d | d
  ·rw [d] at e2; cases e2
  ·exact d (e2.symm.trans e.symm)
 have new : ∀ z : Value, (x.ownBlock = none \/ x.ownBlock ≠ z.ownBlock) -> (∀ b, z.ownBlock = some b -> b < w.heap.size) -> (x'.ownBlock = none \/ x'.ownBlock ≠ z.ownBlock) := fun z hd hz => by
  rcases hw with ⟨g, cap, rfl, rfl⟩ | ⟨e, _⟩
  ·exact hd
  ·refine .inr fun q => ?_
   rw [e] at q
   have := hz _ q.symm
   omega
 have cur : RowI B w' x' (ns.getD k 0 + (m + 1)) k (ns.getD k 0 + (m + 1)) := by
  refine ⟨xs ++ [u], ho, fun j hj _ => ?_⟩
  by_cases e : j < ns.getD k 0 + m
  ·have : (xs ++ [u]).getD j undef = xs.getD j undef := by rw [getD_app, if_pos (by omega)]
   rw [this]
   exact (hm j e).keep kt
  ·obtain rfl : j = ns.getD k 0 + m := by omega
   have : (xs ++ [u]).getD (ns.getD k 0 + m) undef = u := by rw [getD_app, if_neg (by omega), hxl, Nat.sub_self]; rfl
   rw [this]
   exact hu.keep kt
 refine ⟨h.hv.keep (fun b cs q => hg.block b (Array.getElem?_eq_some_iff.1 q).1 (fun e => by
   obtain ⟨_, _, cs', q2⟩ := own_atL hxs e.symm
   rw [q] at q2
   simp only [Option.some.injEq, Obj.cells.injEq] at q2
   exact absurd q2.2.1 (by decide))), h.len, fun k' a b => kp (h.apu k' a b) (h.oth k' a b), fun k' a => kp (h.apg k' a) (h.big k' a), h.dis, h.bel.grown hg (Nat.le_trans hB (Nat.le_refl _)) (fun b e => (own_atL hxs e).2.1), cur, ?_, fun j hj hne => new _ (h.apu j hj hne) (fun b e => by obtain ⟨ys, q1, _⟩ := h.oth j hj hne; exact (own_atL q1 e).1), fun k' hk' => new _ (h.apg k' hk') (fun b e => by obtain ⟨ys, q1, _⟩ := h.big k' hk'; exact (own_atL q1 e).1)⟩
 rcases h.own with ⟨g, c, e1, e2⟩ | ⟨e1, e2⟩
 ·rcases hw with ⟨g', cap, e3, e4⟩ | ⟨e3, e4⟩
  ·rw [e2] at e3
   simp only [Value.slice.injEq, Option.some.injEq, Addr.mk.injEq, and_true, true_and] at e3
   obtain ⟨rfl, rfl⟩ := e3
   exact .inl ⟨g, c, e1, e4⟩
  ·refine .inr ⟨.inr fun q => ?_, ?_⟩
   ·rw [e3, e1] at q
    have := (own_atL hxs (b := g) (by rw [e2]; rfl)).1
    simp only [Value.ownBlock, Option.some.injEq] at q
    omega
   ·have hc := h.cur
    rw [e2] at hc
    rw [e1]
    have hp := hc.pre (n' := ns.getD k 0) (by omega)
    obtain ⟨ys, q1, q2⟩ := hp
    exact RowI.keep ⟨ys, q1, q2⟩ kt (fun b e => e4.block b (own_atL q1 e).1 (fun x => by cases x))
 ·refine .inr ⟨new _ e1 (fun b e => by obtain ⟨ys, q1, _⟩ := e2; exact (own_atL q1 e).1), kp e1 e2⟩
theorem P5.finish {B : Nat} {w0 w : World} {v : Value} {us : List Value} {ns : List Nat} {k : Nat} {gl : List Value} {x : Value} (h : P5 B w0 w v us ns k gl x 70) (hk : k < us.length) : P4 B w0 w v us ns (k + 1) (gl ++ [x]) := by
 refine ⟨h.hv, by simp [h.len], fun k' hk' => ?_, fun k' hk' => ?_, fun k' j hk' hj hju => ?_, h.bel⟩
 ·by_cases e : k' = k
  ·subst e
   rcases h.own with ⟨g, c, e1, e2⟩ | ⟨_, e2⟩
   ·have hc := h.cur
    rw [e2] at hc
    rw [e1]
    exact hc.pre (by omega)
   ·exact e2
  ·exact h.oth k' hk' e
 ·rw [getD_app, h.len]
  split
  ·rename_i q; exact h.big k' q
  ·obtain rfl : k' = k := by omega
   rw [Nat.sub_self]
   exact h.cur
 ·rw [getD_app, h.len]
  split
  ·rename_i q; exact h.dis k' j q (by omega) hju
  ·obtain rfl : k' = k := by omega
   rw [Nat.sub_self]
   exact h.apu j hju (by omega)
theorem P4.below {B : Nat} {w0 w w' : World} {v : Value} {us : List Value} {ns : List Nat} {k : Nat} {gl : List Value} (h : P4 B w0 w v us ns k gl) (hb : Below w.heap.size w w') (hB : B <= w.heap.size) : P4 B w0 w' v us ns k gl := by
 have kp : ∀ {v : Value} {n k i : Nat}, RowI B w v n k i -> RowI B w' v n k i := fun {v n k i} q => by
  obtain ⟨xs, q1, q2⟩ := q
  exact RowI.keep ⟨xs, q1, q2⟩ (KT.below hb) (fun b e => hb.block b (own_atL q1 e).1)
 exact ⟨h.hv.below hb, h.len, fun k' a => kp (h.row k' a), fun k' a => kp (h.big k' a), h.dis, h.bel.trans (hb.mono hB)⟩
theorem P4.grown {B N : Nat} {w0 w w' : World} {v : Value} {us : List Value} {ns : List Nat} {k : Nat} {gl : List Value} (h : P4 B w0 w v us ns k gl) {r : Option Nat} (hg : w.grownBy w' r) (hr : ∀ b, r = some b -> N <= b /\ ∃ cs, w.heap[b]? = some (.cells cs 24 (0, 0))) (hB : B <= N) (hBw : B <= w.heap.size) (hv : ∀ b off n c, v = .slice (some ⟨b, off, none⟩) n c -> 0 < us.length -> b < N) : P4 B w0 w' v us ns k gl := by
 have kt : KT w w' := KT.grown hg (fun b e => by obtain ⟨_, cs, q⟩ := hr b e; exact ⟨cs, _, q, by decide⟩)
 have kp : ∀ {z : Value} {n k i : Nat}, RowI B w z n k i -> RowI B w' z n k i := fun {z n k i} q => by
  obtain ⟨xs, q1, q2⟩ := q
  refine RowI.keep ⟨xs, q1, q2⟩ kt (fun b e => hg.block b (own_atL q1 e).1 (fun e2 => ?_))
  obtain ⟨_, cs, q3⟩ := hr b e2.symm
  obtain ⟨_, _, cs', q4⟩ := own_atL q1 e
  rw [q3] at q4
  simp only [Option.some.injEq, Obj.cells.injEq] at q4
  exact absurd q4.2.1 (by decide)
 refine ⟨?_, h.len, fun k' a => kp (h.row k' a), fun k' a => kp (h.big k' a), h.dis, h.bel.grown hg hBw (fun b e => Nat.le_trans hB (hr b e).1)⟩
 obtain ⟨p, c, e, h1, h2, h4⟩ := h.hv
 refine ⟨p, c, e, h1, h2, fun hne => ?_⟩
 obtain ⟨b, off, e2, ⟨cs, hb⟩, hc⟩ := h4 hne
 have hbN := hv b off us.length c (by rw [e, e2]) (List.length_pos_iff.2 hne)
 have e3 : w'.heap[b]? = w.heap[b]? := hg.block b (Array.getElem?_eq_some_iff.1 hb).1 (fun x => by have := (hr b x.symm).1; omega)
 refine ⟨b, off, e2, ⟨cs, e3.trans hb⟩, fun k hk' => ?_⟩
 rw [<- hc k hk']
 exact World.cell?_of_block e3
theorem wanted_litL {P : Program} {ops : Array Oper} {o : Oper} {a : Act} {w w' : World} {K : Act -> World -> Prop} {Q : Exit -> Act -> World -> Prop} {X : Prop} (hw : Region.wanted o (yielded ops a.tmps) = true) (t : TypeId) (len : Nat) (parts : Array (Nat × Operand)) (ho : o.op = .buildSlice t len parts) (ps : Array (Nat × Value)) (hps : (parts.map fun (i, x) => (i, a.eval x)) = ps) (v : Value)
  (hr : (Instr.buildSlice t len ps).run P w = .ok v w') (h : K (a.put o.dst v) w') : if Region.wanted o (yielded ops a.tmps) = true then Oper.wp P o a w K Q else X := by
 rw [if_pos hw]
 unfold Oper.wp execOp
 simp only [ho, Sem.run_bind, hps, hr, Result.andThen_ok]
 exact h
theorem run_lit3 (w : World) (a b c : Int) : (Instr.buildSlice 30 3 #[(0, .int .u8 a), (1, .int .u8 b), (2, .int .u8 c)]).run Tryd.prog w = .ok (.slice (some ⟨w.heap.size, 0, none⟩) 3 3) (w.alloc (.cells #[.int .u8 a, .int .u8 b, .int .u8 c] 5)) := by kernel_rfl
theorem run_lit1 (w : World) (p : Option Addr) (n c : Nat) : (Instr.buildSlice 24 1 #[(0, .slice p n c)]).run Tryd.prog w = .ok (.slice (some ⟨w.heap.size, 0, none⟩) 1 1) (w.alloc (.cells #[.slice p n c] TE)) := by kernel_rfl
theorem flat_takeL {α : Type} (l : List (List α)) (k : Nat) (h : k < l.length) : (l.take (k + 1)).flatten = (l.take k).flatten ++ l.getD k [] := by
 rw [List.take_succ_eq_append_getElem h, List.flatten_append]
 simp [List.getD, List.getElem?_eq_getElem h]
end Go.Proofs.YtcpchhigiohlnaaDoor
