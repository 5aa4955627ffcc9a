/- Of the road to shareOneCard_holds: RefShaConst, RefShaMix. -/
import Derived.Test.YtdgollnapbonjaaGreatDoorG02
set_option linter.unusedVariables false
set_option linter.unusedSimpArgs false
set_option maxRecDepth 100000
set_option maxHeartbeats 16000000
namespace Go.Proofs.YtdgollnapbonjaaGreatDoor
open Go.RowKit
theorem rinitial_any (w : World) : Calls Tryz.prog 45 #[] w fun e w' => e = .returned (.agg (cellsW iv)) /\ Below w.heap.size w w' := by
 obtain ⟨z8, HZ8⟩ : ∃ z8, Hid (cellsW (zerosW 8) = z8) := ⟨_, rfl⟩
 have hz8 := zero_w8
 rw [HZ8.out] at hz8
 have HZ1 := hid hz8
 have HIm : Hid ((Tryz.prog.info? 76).map (·.size) = some (cellsW iv).size) := size_w8
 have H1m : Hid ((cellsW iv).all (·.oneCell') = true) := cellsW_one _
 have HZM : Hid (z8.size = (cellsW iv).size) := by rw [<- HZ8.out, cellsW_size, zerosW_length]; exact rfl
 have HR : Hid ((w.alloc (.cells z8 76)).heap[w.heap.size]? = some (.cells z8 76 (0, 0))) := heap_alloc_new w _
 have HB := hid (below_setRow ((Below.refl _ w).alloc (Nat.le_refl _) (.cells z8 76)) (g := w.heap.size) (Nat.le_refl _) (cellsW iv))
 clear hz8
 go_enter Tryz.func45, Tryz.ntmps45
 go_wp2_with (first | (refine wpList_alloc_agg HZ1.out rfl rfl ?_) | (refine wpList_store_row rfl 76 _ _ rfl w.heap.size (cellsW iv) rfl rfl 76 _ HR.out HIm.out HZM.out H1m.out ?_))
 refine bodyPost_ret (v := .agg (cellsW iv)) (results_cell_row (p := 0) (ty := 76) rfl _ _ w.heap.size 76 (cellsW iv) (0, 0) _ rfl (setRow_heap _ _ _ _ _ _ HR.out) Tryz.underlying76 rfl HIm.out) rfl ?_
 exact ⟨rfl, HB.out⟩
theorem rconst_any (w : World) : Calls Tryz.prog 68 #[] w fun e w' => e = .returned (.agg (cellsW kW)) /\ Below w.heap.size w w' := by
 obtain ⟨z8, HZ8⟩ : ∃ z8, Hid (cellsW (zerosW 64) = z8) := ⟨_, rfl⟩
 have hz8 := zero_w64
 rw [HZ8.out] at hz8
 have HZ1 := hid hz8
 have HIm : Hid ((Tryz.prog.info? 106).map (·.size) = some (cellsW kW).size) := size_w64
 have H1m : Hid ((cellsW kW).all (·.oneCell') = true) := cellsW_one _
 have HZM : Hid (z8.size = (cellsW kW).size) := by rw [<- HZ8.out, cellsW_size, zerosW_length]; exact rfl
 have HR : Hid ((w.alloc (.cells z8 106)).heap[w.heap.size]? = some (.cells z8 106 (0, 0))) := heap_alloc_new w _
 have HB := hid (below_setRow ((Below.refl _ w).alloc (Nat.le_refl _) (.cells z8 106)) (g := w.heap.size) (Nat.le_refl _) (cellsW kW))
 clear hz8
 go_enter Tryz.func68, Tryz.ntmps68
 go_wp2_with (first | (refine wpList_alloc_agg HZ1.out rfl rfl ?_) | (refine wpList_store_row rfl 106 _ _ rfl w.heap.size (cellsW kW) rfl rfl 106 _ HR.out HIm.out HZM.out H1m.out ?_))
 refine bodyPost_ret (v := .agg (cellsW kW)) (results_cell_row (p := 0) (ty := 106) rfl _ _ w.heap.size 106 (cellsW kW) (0, 0) _ rfl (setRow_heap _ _ _ _ _ _ HR.out) Tryz.underlying106 rfl HIm.out) rfl ?_
 exact ⟨rfl, HB.out⟩
theorem rturn_i (w : World) (x : Nat) (i : Int) (hx : x < 4294967296) (hi : i = 6 \/ i = 11 \/ i = 25 \/ i = 2 \/ i = 13 \/ i = 22) : Calls Tryz.prog 69 #[.int .u32 (x : Int), .int .u64 i] w fun e w' => e = .returned (.int .u32 ((rot x i.toNat : Nat) : Int)) /\ w' = w := by
 rcases hi with rfl | rfl | rfl | rfl | rfl | rfl
 ·exact rturn_6 w x hx
 ·exact rturn_11 w x hx
 ·exact rturn_25 w x hx
 ·exact rturn_2 w x hx
 ·exact rturn_13 w x hx
 ·exact rturn_22 w x hx
theorem grown_setRow2 (w : World) (g : Nat) (cs : Array Value) : w.grownBy (w.setRow g cs) (some g) :=
 ⟨rfl, rfl, rfl, by simp [World.setRow], fun i _ hne => by
  have h1 : g ≠ i := fun e => hne (by rw [e])
  simp [World.setRow, Array.getElem?_modify, h1]⟩
theorem rnd_open {k x a b c d e f g h : Nat} : rnd k x [a, b, c, d, e, f, g, h] = [((h + bs1 e + chW e f g + k + x) % 4294967296 + (bs0 a + majW a b c) % 4294967296) % 4294967296, a, b, c, (d + (h + bs1 e + chW e f g + k + x) % 4294967296) % 4294967296, e, f, g] := rfl
theorem rmix_core (w : World) (hs ws : List Nat) (l : List Int) (h8 : W8 hs) (hl : l.length = 64) (hwl : ws.length = 64) (hwb : ∀ x ∈ ws, x < 4294967296)
  (hS : ∀ W, Calls Tryz.prog 67 #[.agg (cellsB l)] W fun e w' => e = .returned (.agg (cellsW ws)) /\ Below W.heap.size W w') :
  Calls Tryz.prog 46 #[.agg (cellsW hs), .agg (cellsB l)] w fun e w' => e = .returned (.agg (cellsW (List.zipWith add32 hs (rnds hs ws 64)))) /\ Below w.heap.size w w' := by
 obtain ⟨z, HZ⟩ : ∃ z, Hid (cellsW (zerosW 64) = z) := ⟨_, rfl⟩
 obtain ⟨z8, HZ8⟩ : ∃ z8, Hid (cellsW (zerosW 8) = z8) := ⟨_, rfl⟩
 have hz := zero_w64
 rw [HZ.out] at hz
 have HZ0 := hid hz
 have hz8 := zero_w8
 rw [HZ8.out] at hz8
 have HZ1 := hid hz8
 obtain ⟨bl, HBL⟩ : ∃ bl, Hid (cellsB l = bl) := ⟨_, rfl⟩
 obtain ⟨hw, HHW⟩ : ∃ hw, Hid (cellsW hs = hw) := ⟨_, rfl⟩
 obtain ⟨kc, HKC⟩ : ∃ kc, Hid (cellsW kW = kc) := ⟨_, rfl⟩
 rw [HBL.out, HHW.out]
 have HWB := hid hwb
 clear hz hz8 hwb
 obtain ⟨W0, hW0⟩ : ∃ W0, Hid (((w.alloc (.cells hw 76)).alloc (.cells bl 78)).alloc (.cells z8 76) = W0) := ⟨_, rfl⟩
 have HB0 : Hid (Below w.heap.size w W0) := by rw [<- hW0.out]; exact (((Below.refl _ w).alloc (Nat.le_refl _) _).alloc (by simp) _).alloc (by simp; omega) _
 have hS0 : W0.heap.size = w.heap.size + 3 := by rw [<- hW0.out]; simp
 have H0 : Hid (W0.heap[w.heap.size]? = some (.cells hw 76 (0, 0))) := by
  rw [<- hW0.out]
  exact (Below.heap_alloc _ _ _ (by simp; omega)).trans ((Below.heap_alloc _ _ _ (by simp)).trans (heap_alloc_new w _))
 have H1 : Hid (W0.heap[w.heap.size + 1]? = some (.cells bl 78 (0, 0))) := by
  rw [<- hW0.out]
  refine (Below.heap_alloc _ _ _ (by simp)).trans ?_
  have := heap_alloc_new (w.alloc (.cells hw 76)) (.cells bl 78)
  rwa [World.size_alloc] at this
 have H2 : Hid (W0.heap[w.heap.size + 2]? = some (.cells z8 76 (0, 0))) := by
  have := heap_alloc_new ((w.alloc (.cells hw 76)).alloc (.cells bl 78)) (.cells z8 76)
  rw [World.size_alloc, World.size_alloc, hW0.out] at this
  exact this
 have hbs : bl.size = 64 := by rw [<- HBL.out, cellsB_size, hl]
 have HIb : Hid ((Tryz.prog.info? 78).map (·.size) = some bl.size) := by rw [hbs]; exact size_b64
 have CS := hS W0
 clear hS
 rw [HBL.out] at CS
 obtain ⟨y, HY⟩ : ∃ y, Hid (cellsW ws = y) := ⟨_, rfl⟩
 rw [HY.out] at CS
 have C1 := hid CS
 have hys : y.size = 64 := by rw [<- HY.out, cellsW_size, hwl]
 have HIy : Hid ((Tryz.prog.info? 106).map (·.size) = some y.size) := by rw [hys]; exact size_w64
 have H1y : Hid (y.all (·.oneCell') = true) := by rw [<- HY.out]; exact cellsW_one _
 have HZY : Hid (z.size = y.size) := by rw [hys, <- HZ.out, cellsW_size, zerosW_length]; exact rfl
 have hks : kc.size = 64 := by rw [<- HKC.out, cellsW_size]; rfl
 have HIk : Hid ((Tryz.prog.info? 106).map (·.size) = some kc.size) := by rw [hks]; exact size_w64
 have H1k : Hid (kc.all (·.oneCell') = true) := by rw [<- HKC.out]; exact cellsW_one _
 have HZK : Hid (z.size = kc.size) := by rw [hks, <- HZ.out, cellsW_size, zerosW_length]; exact rfl
 have hhs : hw.size = 8 := by rw [<- HHW.out, cellsW_size, h8.1]
 have HIh : Hid ((Tryz.prog.info? 76).map (·.size) = some hw.size) := by rw [hhs]; exact size_w8
 have H1h : Hid (hw.all (·.oneCell') = true) := by rw [<- HHW.out]; exact cellsW_one _
 have HZH : Hid (z8.size = hw.size) := by rw [hhs, <- HZ8.out, cellsW_size, zerosW_length]; exact rfl
 clear CS hbs hys hks hhs
 go_enter Tryz.func46, Tryz.ntmps46
 go_wp2_with (first | (refine wpList_alloc_agg HZ1.out rfl rfl ?_; rw [hW0.out]) | refine wpList_load_row rfl 78 _ rfl (w.heap.size + 1) rfl 78 bl (0, 0) _ H1.out Tryz.underlying78 rfl HIb.out ?_)
 refine C1.out.mono ?_
 rintro e w1 ⟨rfl, hB1⟩
 have HF1 : Hid ((w1.alloc (.cells z 106)).heap[w1.heap.size]? = some (.cells z 106 (0, 0))) := heap_alloc_new w1 _
 have HB1 := hid hB1
 have hs1 := hB1.size
 clear hB1 C1
 obtain ⟨W2, hW2⟩ : ∃ W2, Hid ((w1.alloc (.cells z 106)).setRow w1.heap.size y = W2) := ⟨_, rfl⟩
 have HB2 : Hid (Below W0.heap.size W0 W2) := by
  rw [<- hW2.out]
  exact below_setRow (HB1.out.alloc hs1 _) hs1 y
 have HY2 : Hid (W2.heap[w1.heap.size]? = some (.cells y 106 (0, 0))) := by
  rw [<- hW2.out]
  exact setRow_heap _ _ _ _ _ _ HF1.out
 have hS2 : W2.heap.size = w1.heap.size + 1 := by rw [<- hW2.out]; simp [World.setRow]
 have CK := hid (rconst_any W2)
 rw [HKC.out] at CK
 go_wp2_with (first | (refine wpList_alloc_agg HZ0.out rfl rfl ?_) | (refine wpList_store_row rfl 106 _ _ rfl w1.heap.size y rfl rfl 106 _ HF1.out HIy.out HZY.out H1y.out ?_; rw [hW2.out]))
 refine CK.out.mono ?_
 rintro e w3 ⟨rfl, hB3⟩
 have hs3 := hB3.size
 have HB3 : Hid (Below W0.heap.size W0 w3) := HB2.out.trans (hB3.mono HB2.out.size)
 have HY3 : Hid (w3.heap[w1.heap.size]? = some (.cells y 106 (0, 0))) := (hB3.block _ (by omega)).trans HY2.out
 have HF3 : Hid ((w3.alloc (.cells z 106)).heap[w3.heap.size]? = some (.cells z 106 (0, 0))) := heap_alloc_new w3 _
 obtain ⟨W4, hW4⟩ : ∃ W4, Hid ((w3.alloc (.cells z 106)).setRow w3.heap.size kc = W4) := ⟨_, rfl⟩
 have HB34 : Hid (Below w3.heap.size w3 W4) := by rw [<- hW4.out]; exact below_setRow ((Below.refl _ w3).alloc (Nat.le_refl _) _) (Nat.le_refl _) kc
 have HB4 : Hid (Below W0.heap.size W0 W4) := HB3.out.trans (HB34.out.mono HB3.out.size)
 have HK4 : Hid (W4.heap[w3.heap.size]? = some (.cells kc 106 (0, 0))) := by rw [<- hW4.out]; exact setRow_heap _ _ _ _ _ _ HF3.out
 have HY4 : Hid (W4.heap[w1.heap.size]? = some (.cells y 106 (0, 0))) := (HB34.out.block _ (by omega)).trans HY3.out
 have hS4 : W4.heap.size = w3.heap.size + 1 := by rw [<- hW4.out]; simp [World.setRow]
 have HH4 : Hid (W4.heap[w.heap.size]? = some (.cells hw 76 (0, 0))) := (HB4.out.block w.heap.size (by omega)).trans H0.out
 have HR4 : Hid (W4.heap[w.heap.size + 2]? = some (.cells z8 76 (0, 0))) := (HB4.out.block (w.heap.size + 2) (by omega)).trans H2.out
 have HF5 : Hid ((W4.alloc (.cells z8 76)).heap[W4.heap.size]? = some (.cells z8 76 (0, 0))) := heap_alloc_new W4 _
 obtain ⟨W6, hW6⟩ : ∃ W6, Hid ((W4.alloc (.cells z8 76)).setRow W4.heap.size hw = W6) := ⟨_, rfl⟩
 have HB46 : Hid (Below W4.heap.size W4 W6) := by rw [<- hW6.out]; exact below_setRow ((Below.refl _ W4).alloc (Nat.le_refl _) _) (Nat.le_refl _) hw
 have HS6 : Hid (W6.heap[W4.heap.size]? = some (.cells (cellsW (rnds hs ws 0)) 76 (0, 0))) := by
  rw [<- hW6.out, show cellsW (rnds hs ws 0) = hw from HHW.out]
  exact setRow_heap _ _ _ _ _ _ HF5.out
 have hS6 : W6.heap.size = W4.heap.size + 1 := by rw [<- hW6.out]; simp [World.setRow]
 clear hB3 CK hW2 HF1
 go_wp2_with (first | (refine wpList_alloc_agg HZ0.out rfl rfl ?_) | (refine wpList_alloc_agg HZ1.out rfl rfl ?_) | (refine wpList_store_row rfl 106 _ _ rfl w3.heap.size kc rfl rfl 106 _ HF3.out HIk.out HZK.out H1k.out ?_; rw [hW4.out]) | (refine wpList_load_row rfl 76 _ rfl w.heap.size rfl 76 hw (0, 0) _ HH4.out Tryz.underlying76 rfl HIh.out ?_) | (refine wpList_store_row rfl 76 _ _ rfl W4.heap.size hw rfl rfl 76 _ HF5.out HIh.out HZH.out H1h.out ?_; rw [hW6.out]))
 clear hW4 hW6 HF3 HF5
 rw [hS4] at HS6 hS6 HB46
 have HH6 : Hid (W6.heap[w.heap.size]? = some (.cells hw 76 (0, 0))) := (HB46.out.block _ (by omega)).trans HH4.out
 have HR6 : Hid (W6.heap[w.heap.size + 2]? = some (.cells z8 76 (0, 0))) := (HB46.out.block _ (by omega)).trans HR4.out
 have HY6 : Hid (W6.heap[w1.heap.size]? = some (.cells y 106 (0, 0))) := (HB46.out.block _ (by omega)).trans HY4.out
 have HK6 : Hid (W6.heap[w3.heap.size]? = some (.cells kc 106 (0, 0))) := (HB46.out.block _ (by omega)).trans HK4.out
 have HB6 : Hid (Below w.heap.size w W6) := HB0.out.trans ((HB4.out.trans (HB46.out.mono (by omega))).mono (by omega))
 have H8 := hid h8
 clear h8 HH4 HR4 HY4 HK4 H0 H1 H2 HIb HB34 HB4 HB3 HY3 HY2 HB2 HB1
 go_loopw [8] (fun i wr => ∃ t : Nat, t <= 64 /\ i = .int .i64 t /\ Hid (wr.heap[w3.heap.size + 1]? = some (.cells (cellsW (rnds hs ws t)) 76 (0, 0))) /\ Hid (W6.grownBy wr (some (w3.heap.size + 1)))) (fun i _ => 64 - (intOf i).toNat)
 case atStart => exact ⟨0, by decide, rfl, HS6, ⟨rfl, rfl, rfl, Nat.le_refl _, fun _ _ _ => rfl⟩⟩
 case round =>
  obtain ⟨t, ht, rfl, HF, HG⟩ := hrel
  obtain ⟨a, b, c, d, e, f, g, h, ers, ha, hb, hc, hd, he, hf, hg, hh⟩ := (W8.rnds (ws := ws) H8.out t).open
  have HRS := hid ers
  rw [ers] at HF
  clear ers
  by_cases hlt : t < 64
  ·obtain ⟨k, HK⟩ : ∃ k, Hid (kW.getD t 0 = k) := ⟨_, rfl⟩
   obtain ⟨x, HX⟩ : ∃ x, Hid (ws.getD t 0 = x) := ⟨_, rfl⟩
   have ck : wr.cell? ⟨w3.heap.size, t, none⟩ = some (.int .u32 (k : Int)) := by
    rw [cell_of_row wr w3.heap.size t _ _ _ ((HG.out.block w3.heap.size (by omega) (by simp)).trans HK6.out), <- HKC.out, cellsW_get (by rw [kW_length]; exact hlt), HK.out]
   have cx : wr.cell? ⟨w1.heap.size, t, none⟩ = some (.int .u32 (x : Int)) := by
    rw [cell_of_row wr w1.heap.size t _ _ _ ((HG.out.block w1.heap.size (by omega) (by simp; omega)).trans HY6.out), <- HY.out, cellsW_get (by rw [hwl]; exact hlt), HX.out]
   have hkl : k < 4294967296 := by rw [<- HK.out]; exact getW_lt kW_lt t
   have hxl : x < 4294967296 := by rw [<- HX.out]; exact getW_lt HWB.out t
   have cs : ∀ j, j < 8 -> wr.cell? ⟨w3.heap.size + 1, j, none⟩ = some (.int .u32 ((([a, b, c, d, e, f, g, h] : List Nat).getD j 0 : Nat) : Int)) := fun j hj => by
    rw [cell_of_row wr (w3.heap.size + 1) j _ _ _ HF.out]
    exact cellsW_get hj
   have s0 := cs 0 (by decide)
   have s1 := cs 1 (by decide)
   have s2 := cs 2 (by decide)
   have s3 := cs 3 (by decide)
   have s4 := cs 4 (by decide)
   have s5 := cs 5 (by decide)
   have s6 := cs 6 (by decide)
   have s7 := cs 7 (by decide)
   simp only [List.getD_cons_zero, List.getD_cons_succ] at s0 s1 s2 s3 s4 s5 s6 s7
   clear cs
   have B1 := hid (bs1_bits e he)
   have B0 := hid (bs0_bits a ha)
   have BC := hid (ch_bits e f g he hf hg)
   have BM := hid (maj_bits a b c ha hb hc)
   go_wp2
   go_quiet ((go_at_call 69; exact Calls.quiet_of_same (rturn_i _ _ _ (by assumption) (by decide))))
   rw [B1.out, BC.out]
   obtain ⟨u, HU⟩ : ∃ u : Nat, Hid ((((h : Int) + ((bs1 e : Nat) : Int) + ((chW e f g : Nat) : Int) + (k : Int)) % 4294967296 + (x : Int)) % 4294967296 = (u : Int)) := ⟨((h + bs1 e + chW e f g + k) % 4294967296 + x) % 4294967296, by show _ = _; omega⟩
   rw [HU.out]
   have hu : u < 4294967296 := by have := HU.out; omega
   obtain ⟨wa, Hq1, Hd1⟩ : ∃ wa, Hid (wr.drewN nq = wa) /\ Hid (Dr wr wa) := ⟨_, rfl, Dr.one _ _⟩
   rw [Hq1.out]
   clear Hq1 nq
   replace s0 := (Hd1.out.cell _).trans s0
   replace s1 := (Hd1.out.cell _).trans s1
   replace s2 := (Hd1.out.cell _).trans s2
   replace s3 := (Hd1.out.cell _).trans s3
   replace s4 := (Hd1.out.cell _).trans s4
   replace s5 := (Hd1.out.cell _).trans s5
   replace s6 := (Hd1.out.cell _).trans s6
   replace s7 := (Hd1.out.cell _).trans s7
   go_wp2
   go_quiet ((go_at_call 69; exact Calls.quiet_of_same (rturn_i _ _ _ (by assumption) (by decide))))
   rw [B0.out, BM.out]
   obtain ⟨v, HV⟩ : ∃ v : Nat, Hid ((((bs0 a : Nat) : Int) + ((majW a b c : Nat) : Int)) % 4294967296 = (v : Int)) := ⟨(bs0 a + majW a b c) % 4294967296, by show _ = _; omega⟩
   rw [HV.out]
   have hv : v < 4294967296 := by have := HV.out; omega
   obtain ⟨p, hp⟩ : ∃ p : Nat, ((u : Int) + (v : Int)) % 4294967296 = (p : Int) := ⟨(u + v) % 4294967296, by omega⟩
   obtain ⟨q, hq⟩ : ∃ q : Nat, ((d : Int) + (u : Int)) % 4294967296 = (q : Int) := ⟨(d + u) % 4294967296, by omega⟩
   have HN : Hid (rnds hs ws (t + 1) = [p, a, b, c, q, e, f, g]) := by
    show rnd (kW.getD t 0) (ws.getD t 0) (rnds hs ws t) = _
    rw [HRS.out, HK.out, HX.out, rnd_open]
    have h1 := HU.out
    have h2 := HV.out
    have e1 : (h + bs1 e + chW e f g + k + x) % 4294967296 = u := by omega
    have e2 : (bs0 a + majW a b c) % 4294967296 = v := by omega
    rw [e1, e2, show (u + v) % 4294967296 = p by omega, show (d + u) % 4294967296 = q by omega]
   have HIm : Hid ((Tryz.prog.info? 76).map (·.size) = some (cellsW [p, a, b, c, q, e, f, g]).size) := size_w8
   have H1m : Hid ((cellsW [p, a, b, c, q, e, f, g]).all (·.oneCell') = true) := cellsW_one _
   have HZM : Hid ((cellsW [a, b, c, d, e, f, g, h]).size = (cellsW [p, a, b, c, q, e, f, g]).size) := rfl
   obtain ⟨wb, Hq2, Hd2⟩ : ∃ wb, Hid (wa.drewN nq = wb) /\ Hid (Dr wa wb) := ⟨_, rfl, Dr.one _ _⟩
   rw [Hq2.out]
   clear Hq2 nq
   replace s0 := (Hd2.out.cell _).trans s0
   replace s1 := (Hd2.out.cell _).trans s1
   replace s2 := (Hd2.out.cell _).trans s2
   replace s3 := (Hd2.out.cell _).trans s3
   replace s4 := (Hd2.out.cell _).trans s4
   replace s5 := (Hd2.out.cell _).trans s5
   replace s6 := (Hd2.out.cell _).trans s6
   replace s7 := (Hd2.out.cell _).trans s7
   have HFb : Hid (wb.heap[w3.heap.size + 1]? = some (.cells (cellsW [a, b, c, d, e, f, g, h]) 76 (0, 0))) := by
    show _ = _
    rw [Hd2.out.heap, Hd1.out.heap]
    exact HF.out
   have HGb : Hid (W6.grownBy wb (some (w3.heap.size + 1))) := by
    obtain ⟨n1, r1⟩ := Hd1.out
    obtain ⟨n2, r2⟩ := Hd2.out
    rw [r2, r1]
    exact grown_tr HG.out ⟨rfl, rfl, rfl, Nat.le_refl _, fun _ _ _ => rfl⟩
   clear HU HV B0 B1 BC BM
   go_wp2_with (refine wpList_store_row rfl 76 _ _ rfl (w3.heap.size + 1) (cellsW [p, a, b, c, q, e, f, g]) rfl rfl 76 _ HFb.out HIm.out HZM.out H1m.out ?_)
   refine ⟨⟨t + 1, by omega, by go_num, ?_, grown_tr HGb.out (grown_setRow2 _ _ _)⟩, by simp [intOf]; omega⟩
   show _ = _
   rw [HN.out]
   exact setRow_heap _ _ _ _ _ _ HFb.out
  ·have H64 : Hid (t = 64) := by show _ = _; omega
   rw [H64.out] at HRS
   obtain ⟨st, HST⟩ : ∃ st, Hid (([a, b, c, d, e, f, g, h] : List Nat) = st) := ⟨_, rfl⟩
   have hst8 : st.length = 8 := by rw [<- HST.out]; rfl
   have hstb : ∀ x ∈ st, x < 4294967296 := by
    rw [<- HST.out, <- HRS.out]
    exact (W8.rnds (ws := ws) H8.out 64).2
   rw [HST.out] at HF HRS
   have HSB := hid hstb
   have hnlt : ¬ ((t : Int) < 64) := by omega
   obtain ⟨wo, rfl⟩ : ∃ wo, wo = wr := ⟨_, rfl⟩
   have HM0 : Hid (wo.heap[w.heap.size]? = some (.cells (cellsW (curM hs st 0)) 76 (0, 0))) := by
    rw [show curM hs st 0 = hs from by simp [curM], HHW.out]
    exact (HG.out.block w.heap.size (by omega) (by simp; omega)).trans HH6.out
   have HR7 : Hid (wo.heap[w.heap.size + 2]? = some (.cells z8 76 (0, 0))) := (HG.out.block (w.heap.size + 2) (by omega) (by simp; omega)).trans HR6.out
   have HB7 : Hid (Below w.heap.size w wo) := HB6.out.grown HG.out HB6.out.size (fun q e => by cases e; omega)
   have hso : w3.heap.size + 1 < wo.heap.size := (Array.getElem?_eq_some_iff.1 HF.out).1
   clear hlt ht hstb ha hb hc hd he hf hg hh HST
   go_wp2
   clear hnlt
   go_loopw [13] (fun i wq => ∃ I : Nat, I <= 8 /\ i = .int .i64 I /\ Hid (wq.heap[w.heap.size]? = some (.cells (cellsW (curM hs st I)) 76 (0, 0))) /\ Hid (wo.grownBy wq (some w.heap.size))) (fun i _ => 8 - (intOf i).toNat)
   case atStart => exact ⟨0, by decide, rfl, HM0, ⟨rfl, rfl, rfl, Nat.le_refl _, fun _ _ _ => rfl⟩⟩
   case round =>
    obtain ⟨I, hI, rfl, HFI, HGI⟩ := hrel
    by_cases hlt : I < 8
    ·have hci := cell_of_row wr w.heap.size I _ _ _ HFI.out
     rw [cellsW_get (by rw [curM_length H8.out.1 hst8]; exact hlt), curM_get H8.out.1 hst8 hlt] at hci
     have hcs : wr.cell? ⟨w3.heap.size + 1, I, none⟩ = some (.int .u32 ((st.getD I 0 : Nat) : Int)) := by
      rw [cell_of_row wr (w3.heap.size + 1) I _ _ _ ((HGI.out.block (w3.heap.size + 1) hso (by simp; omega)).trans HF.out)]
      exact cellsW_get (by rw [hst8]; exact hlt)
     obtain ⟨p, HP⟩ : ∃ p, Hid (hs.getD I 0 = p) := ⟨_, rfl⟩
     obtain ⟨q, HQ⟩ : ∃ q, Hid (st.getD I 0 = q) := ⟨_, rfl⟩
     rw [HP.out] at hci
     rw [HQ.out] at hcs
     have hpl : p < 4294967296 := by rw [<- HP.out]; exact getW_lt H8.out.2 I
     have hql : q < 4294967296 := by rw [<- HQ.out]; exact getW_lt HSB.out I
     have hfz : wr.frozen? ⟨w.heap.size, I, none⟩ = false := by simp [World.frozen?, HFI.out]
     go_wp2
     go_region
     all_goals go_wp2
     refine ⟨⟨I + 1, by omega, by go_num, ?_, grown_tr HGI.out (grown_setd _ _ _ _)⟩, by simp [intOf]; omega⟩
     show _ = _
     rw [<- curM_step H8.out.1 hst8 hlt, HP.out, HQ.out, <- cellsW_set, show ((add32 p q : Nat) : Int) = ((p : Int) + (q : Int)) % 4294967296 by unfold add32; omega]
     exact heap_setCell_same _ w.heap.size I _ _ _ HFI.out
    ·have hI8 : I = 8 := by omega
     have HCM : Hid (curM hs st I = List.zipWith add32 hs (rnds hs ws 64)) := by
      show _ = _
      rw [hI8, HRS.out]
      unfold curM
      rw [List.take_of_length_le (by simp; omega), List.drop_eq_nil_of_le (by rw [H8.out.1]; exact Nat.le_refl _), List.append_nil]
     rw [HCM.out] at HFI
     obtain ⟨m, HMM⟩ : ∃ m, Hid (cellsW (List.zipWith add32 hs (rnds hs ws 64)) = m) := ⟨_, rfl⟩
     rw [HMM.out] at HFI
     have hms : m.size = 8 := by
      rw [<- HMM.out, cellsW_size, <- HCM.out, curM_length H8.out.1 hst8]
     have HIm : Hid ((Tryz.prog.info? 76).map (·.size) = some m.size) := by rw [hms]; exact size_w8
     have H1m : Hid (m.all (·.oneCell') = true) := by rw [<- HMM.out]; exact cellsW_one _
     have HR8 : Hid (wr.heap[w.heap.size + 2]? = some (.cells z8 76 (0, 0))) := (HGI.out.block (w.heap.size + 2) (by omega) (by simp)).trans HR7.out
     have HZM : Hid (z8.size = m.size) := by rw [hms, <- HZ8.out, cellsW_size, zerosW_length]; exact rfl
     have HBF := hid (below_setRow (HB7.out.grown HGI.out HB7.out.size (fun k e => by cases e; exact Nat.le_refl _)) (g := w.heap.size + 2) (by omega) m)
     have hnl : ¬ ((I : Int) < 8) := by omega
     clear hms hlt hI8
     go_wp2_with (first | (refine wpList_load_row rfl 76 _ rfl w.heap.size rfl 76 m (0, 0) _ HFI.out Tryz.underlying76 rfl HIm.out ?_) | (refine wpList_store_row rfl 76 _ _ rfl (w.heap.size + 2) m rfl rfl 76 _ HR8.out HIm.out HZM.out H1m.out ?_))
     refine bodyPost_ret (v := .agg m) (results_cell_row (p := 4) (ty := 76) rfl _ _ (w.heap.size + 2) 76 m (0, 0) _ rfl (setRow_heap _ _ _ _ _ _ HR8.out) Tryz.underlying76 rfl HIm.out) rfl ?_
     rw [HMM.out]
     exact ⟨rfl, HBF.out⟩
theorem rmix_any (w : World) (hs : List Nat) (l : List Int) (h8 : W8 hs) (hl : l.length = 64) (hby : ∀ x ∈ l, 0 <= x /\ x < 256) :
  Calls Tryz.prog 46 #[.agg (cellsW hs), .agg (cellsB l)] w fun e w' => e = .returned (.agg (cellsW (mixL hs l))) /\ Below w.heap.size w w' :=
 rmix_core w hs (wordsTo l 64) l h8 hl (wordsTo_length l 64) (wordsTo_lt hby 64) (fun W => rwords_any W l hl hby)
end Go.Proofs.YtdgollnapbonjaaGreatDoor
