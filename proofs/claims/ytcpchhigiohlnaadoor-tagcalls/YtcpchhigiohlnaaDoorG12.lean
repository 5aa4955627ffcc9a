/- Of the road to tagCallsUptoCard_holds: TcKeyL. -/
import Derived.Test.YtcpchhigiohlnaaDoorG11
import Derived.Test.YtcpchhigiohlnaaDoorG09
import Derived.Deep.DeepCutAuto
import Derived.Deep.CutBlock
set_option linter.unusedVariables false
set_option linter.unusedSimpArgs false
set_option maxRecDepth 100000
set_option maxHeartbeats 16000000
namespace Go.Proofs.YtcpchhigiohlnaaDoor
open Go Go.RowKit
theorem lkeyC (w : World) (o : Tc) (ho : o.ok) (ht : HTc w o) (hk : KC w) : Calls Tryd.prog 23 #[.agg o.cs.toArray] w fun e w' => e = .returned (.bool true) /\ Below w.heap.size w w' := by
 have HO := hid ho
 have HK := hid hk
 obtain ⟨hp, hd⟩ := ht
 have HP := hid hp
 have HD := hid hd
 obtain ⟨pp, cp, epv, hpc, _⟩ := hp.open
 obtain ⟨pd, cd, edv, hdc, _⟩ := hd.open
 obtain ⟨A, HA⟩ : ∃ A, Hid (o.cs.toArray = A) := ⟨_, rfl⟩
 rw [HA.out]
 obtain ⟨k, HKk⟩ : ∃ x, Hid (o.k = x) := ⟨_, rfl⟩
 obtain ⟨n, HNn⟩ : ∃ x, Hid (o.n = x) := ⟨_, rfl⟩
 obtain ⟨g, HGg⟩ : ∃ x, Hid (o.g = x) := ⟨_, rfl⟩
 obtain ⟨ps, HPS⟩ : ∃ x, Hid (o.ps = x) := ⟨_, rfl⟩
 obtain ⟨ds, HDS⟩ : ∃ x, Hid (o.ds = x) := ⟨_, rfl⟩
 have hps : ps.flatten.length + ps.length + 1 <= 1048576 := by rw [<- HPS.out]; exact ho.ps
 have hds : ds.length <= 1048576 := by rw [<- HDS.out]; exact ho.ds
 rw [HPS.out] at hpc epv HP
 rw [HDS.out] at hdc edv HD
 rw [epv] at HP
 rw [edv] at HD
 have HPSL := hid hps
 have HDSL := hid hds
 obtain ⟨np, HNP⟩ : ∃ x, Hid (ps.length = x) := ⟨_, rfl⟩
 obtain ⟨nd, HND⟩ : ∃ x, Hid (ds.length = x) := ⟨_, rfl⟩
 rw [HNP.out] at epv HP hpc
 rw [HND.out] at edv HD hdc hds
 have CELL : Hid (∀ (W : World) (t : Nat), W.heap[t]? = some (.cells A 37 (0, 0)) -> W.cell? ⟨t, 2, none⟩ = some (.slice pp np cp) /\ W.cell? ⟨t, 3, none⟩ = some (.slice pd nd cd) /\ W.cell? ⟨t, 4, none⟩ = some (.int .i64 k) /\ W.cell? ⟨t, 5, none⟩ = some (.int .i64 n) /\ W.cell? ⟨t, 6, none⟩ = some (.int .i64 g)) := hid fun W t hW => by
  rw [<- HA.out] at hW
  obtain ⟨_, _, q2, q3, q4, q5, q6⟩ := Tc.at hW
  rw [epv] at q2
  rw [edv] at q3
  rw [HKk.out] at q4
  rw [HNn.out] at q5
  rw [HGg.out] at q6
  exact ⟨q2, q3, q4, q5, q6⟩
 obtain ⟨W0, hW0⟩ : ∃ W0, Hid (w.alloc (.cells A 37) = W0) := ⟨_, rfl⟩
 have B0 : Hid (Below w.heap.size w W0) := by rw [<- hW0.out]; exact (Below.refl _ w).alloc (Nat.le_refl _) _
 have X0 : Hid (W0.heap[w.heap.size]? = some (.cells A 37 (0, 0))) := by rw [<- hW0.out]; exact heap_alloc_new w _
 have S0 : Hid (w.heap.size < W0.heap.size) := hid (Array.getElem?_eq_some_iff.1 X0.out).1
 obtain ⟨c2, c3, -, -, -⟩ := CELL.out W0 _ X0.out
 have CL := hid (lent_any W0 _ ds (HD.out.below B0.out) (by have := HDSL.out; omega))
 clear ho hk hp hd hps
 go_enter Tryd.func23, Tryd.ntmps23
 go_wp2_with (first | rw [hW0.out] | fail)
 refine CL.out.mono ?_
 rintro e w1 ⟨v1, rfl, ho1, hb1⟩
 obtain ⟨g1, c1, rfl, hg1, hg1b, hc1, hc1b, _, hf1⟩ := lent_part ho1 HD.out.2
 rw [HND.out] at hc1
 have O1 := hid ho1
 have b1 := hid hb1
 have B1 := hid (B0.out.trans (hb1.mono B0.out.size))
 have X1 := hid ((hb1.block _ S0.out).trans X0.out)
 have G1 := hid (show W0.heap.size <= g1 /\ g1 < w1.heap.size from ⟨hg1, hg1b⟩)
 have HC1 := hid hc1
 have HC1B := hid hc1b
 clear ho1 hb1 c2 c3 CL hf1 hg1 hg1b
 rw [HND.out]
 obtain ⟨c2, c3, -, -, -⟩ := CELL.out w1 _ X1.out
 go_upto_if 16 with fail
 go_cut [4] (fun v4 wc => ∃ (pf : Option Addr) (nf cf : Nat) (f : List Int), v4 = .slice pf nf cf /\ Hid (HB w (.slice pf nf cf) f) /\ Hid (f.length = nf) /\ Hid (f.length <= 1048576) /\ wc = w1)
 case first =>
  by_cases hn0 : np = 0
  ·subst hn0
   go_wp2
   go_meet
   case rel => exact ⟨none, 0, 0, [], rfl, hid (HB.nil w), hid rfl, hid (by simp), rfl⟩
  ·obtain ⟨b, off, c', e', _, _, hh⟩ := HP.out.ne (by rw [HNP.out]; omega)
   rw [HNP.out] at e'
   simp only [Value.slice.injEq, true_and] at e'
   obtain ⟨e1, e2⟩ := e'
   subst e1 e2
   obtain ⟨u0, hu0, hbu⟩ := hh 0 (by rw [HNP.out]; omega)
   rw [Nat.add_zero] at hu0
   obtain ⟨f, HFe⟩ : ∃ f : List Int, Hid (ps.getD 0 [] = f) := ⟨_, rfl⟩
   rw [HFe.out] at hbu
   obtain ⟨pf, cf, efv, _, _⟩ := hbu.open
   obtain ⟨nf, HNF⟩ : ∃ x, Hid (f.length = x) := ⟨_, rfl⟩
   rw [HNF.out] at efv
   subst efv
   have HF := hid hbu
   have HFL : Hid (f.length <= 1048576) := hid (by
    have h1 : ps.getD 0 [] ∈ ps := by
     have : ps.getD 0 [] = ps[0]'(by rw [HNP.out]; omega) := by simp [List.getD, show 0 < ps.length by rw [HNP.out]; omega]
     rw [this]; exact List.getElem_mem _
    have h2 := (List.sublist_flatten_of_mem h1).length_le
    rw [HFe.out] at h2
    have := HPSL.out
    omega)
   have hu1 : w1.cell? ⟨b, off, none⟩ = some (.slice pf nf cf) := (B1.out.cell (World.block_lt_of_cell? w _ hu0)).trans hu0
   have hnp : (0 : Int) < (np : Int) := by omega
   have hnpn : 0 < np := by omega
   clear hbu hu0 hh hn0
   go_wp2
   go_meet
   case rel => exact ⟨_, _, _, f, rfl, HF, HNF, HFL, rfl⟩
 case rest =>
 obtain ⟨pf, nf, cf, f, rfl, HF, HNF, HFL, hwc⟩ := hcut
 have hwc' := hwc.symm
 subst hwc'
 clear hwc
 obtain ⟨c2, c3, -, -, -⟩ := CELL.out w1 _ X1.out
 go_wp2_with fail
 have CL2 := hid (lent_any w1 _ f (HF.out.below B1.out) (by have := HFL.out; omega))
 go_wp2_with fail
 refine CL2.out.mono ?_
 rintro e w2 ⟨v2, rfl, ho2, hb2⟩
 obtain ⟨g2, c2', rfl, hg2, hg2b, hc2, hc2b, _, _⟩ := lent_part ho2 HF.out.2
 rw [HNF.out] at hc2
 have O2 := hid ho2
 have O12 := hid (own_below O1.out hb2)
 have B2 := hid (B1.out.trans (hb2.mono B1.out.size))
 have X2 := hid ((hb2.block _ (Array.getElem?_eq_some_iff.1 X1.out).1).trans X1.out)
 have G2 := hid (show w1.heap.size <= g2 /\ g2 < w2.heap.size from ⟨hg2, hg2b⟩)
 have HC2 := hid hc2
 have HC2B := hid hc2b
 clear ho2 hb2 c2 c3 CL2 hg2 hg2b hc2b hc1b
 rw [HNF.out]
 have r1 : ∀ W, (Instr.slice 30 (.slice (some ⟨g1, 0, none⟩) (nd + 70) c1) none (some (.int .i64 (nd : Int))) none).run Tryd.prog W = .ok (.slice (some ⟨g1, 0, none⟩) nd c1) W := fun W => slice_hT W g1 (nd + 70) c1 nd (by have := HC1.out; omega) (by have := HC1.out; omega)
 have r2 : ∀ W, (Instr.slice 30 (.slice (some ⟨g2, 0, none⟩) (nf + 70) c2') none (some (.int .i64 (nf : Int))) none).run Tryd.prog W = .ok (.slice (some ⟨g2, 0, none⟩) nf c2') W := fun W => slice_hT W g2 (nf + 70) c2' nf (by have := HC2.out; omega) (by have := HC2.out; omega)
 have R1 := hid r1
 have R2 := hid r2
 obtain ⟨E, HE⟩ : ∃ x, Hid (kyE ds f k n g = x) := ⟨_, rfl⟩
 obtain ⟨ka, HKA⟩ : ∃ x, Hid (cellsB (kyL ds f k n g) = x) := ⟨_, rfl⟩
 obtain ⟨zi, HZI⟩ : ∃ zd, Hid (cellsB zeros16 = zd) := ⟨_, rfl⟩
 have HZ0 : Hid ((Tryd.prog.info? 32).map (·.zero) = some (some (.agg zi))) := by rw [<- HZI.out]; exact hid zero_key
 have SK : Hid ((Tryd.prog.info? 32).map (·.size) = some ka.size) := by refine hid ?_; rw [<- HKA.out, cellsB_size, kyL_len]; exact size_key
 have OK : Hid (ka.all (·.oneCell') = true) := by refine hid ?_; rw [<- HKA.out]; exact cellsB_one _
 have ZK : Hid (zi.size = ka.size) := by refine hid ?_; rw [<- HZI.out, <- HKA.out, cellsB_size, cellsB_size, kyL_len]; rfl
 have HB12 : Hid (HB w2 (.slice (some ⟨g1, 0, none⟩) nd c1) ds) := hid (by
  have q := own_pre O12.out (lent_byt HD.out.2) ds.length (by rw [lent_length]; omega) (by have := HC1.out; have := HND.out; omega)
  rw [lent_take, HND.out] at q
  exact q)
 have HB22 : Hid (HB w2 (.slice (some ⟨g2, 0, none⟩) nf c2') f) := hid (by
  have q := own_pre O2.out (lent_byt HF.out.2) f.length (by rw [lent_length]; omega) (by have := HC2.out; have := HNF.out; omega)
  rw [lent_take, HNF.out] at q
  exact q)
 have CT : Hid (∀ W' : World, Below w2.heap.size w2 W' -> Calls Tryd.prog 42 #[.slice (some ⟨g1, 0, none⟩) nd c1, .int .i64 k, .int .i64 n, .int .i64 g, .slice (some ⟨g2, 0, none⟩) nf c2'] W' fun e w' => e = .returned (.tuple #[.agg ka, .int .i64 E]) /\ Below W'.heap.size W' w') := hid fun W' hh => by
  rw [<- HKA.out, <- HE.out]
  exact tkyC W' _ _ ds f k n g (HB12.out.below hh) (HB22.out.below hh) (HK.out.below (B2.out.trans (hh.mono B2.out.size)))
 have ZC : Hid (∀ W' : World, Below w2.heap.size w2 W' -> W'.cell? ⟨w.heap.size, 3, none⟩ = some (.slice pd nd cd) /\ W'.cell? ⟨w.heap.size, 4, none⟩ = some (.int .i64 k) /\ W'.cell? ⟨w.heap.size, 5, none⟩ = some (.int .i64 n) /\ W'.cell? ⟨w.heap.size, 6, none⟩ = some (.int .i64 g)) := hid fun W' hh => by
  obtain ⟨_, q3, q4, q5, q6⟩ := CELL.out W' _ ((hh.block _ (Array.getElem?_eq_some_iff.1 X2.out).1).trans X2.out)
  exact ⟨q3, q4, q5, q6⟩
 clear r1 r2
 go_wp2_with fail
 rename_i Kx hKx
 refine keyedT (P := fun d W' => w2.heap.size <= d /\ W'.heap[d]? = some (.cells ka 32 (0, 0)) /\ Below w2.heap.size w2 W') (K := Kx) ?AA1 ?key1 (fun key => ?main1)
 case main1 =>
  refine wp_region_held_drew (S := fun W' => Below w2.heap.size w2 W') (by kernel_rfl) ((Below.refl _ w2).drew) (fun hHeld => ?_)
  have HS := hid hHeld
  clear hHeld
  change wpAnyH _ _ _ _ _ _ _ _ (World.drew _)
  refine wpAnyH_take (i := 0) (v := ?_) rfl (by kernel_rfl) (by kernel_rfl) (by kernel_rfl) (fun _ _ _ h => h) (Or.inl ⟨by rfl, ?q0_2⟩) HS.out ?_
  case q0_2 => intro w hSw; obtain ⟨z3, z4, z5, z6⟩ := ZC.out _ hSw; go_simp; rfl
  simp only [Act.put, lay6]
  refine wpAnyH_take (i := 1) (v := ?_) rfl (by kernel_rfl) (by kernel_rfl) (by kernel_rfl) (fun _ _ _ h => h) (Or.inl ⟨by rfl, ?q1_2⟩) HS.out ?_
  case q1_2 => intro w hSw; obtain ⟨z3, z4, z5, z6⟩ := ZC.out _ hSw; go_simp; rfl
  simp only [Act.put, lay6]
  refine wpAnyH_take (i := 2) (v := ?_) rfl (by kernel_rfl) (by kernel_rfl) (by kernel_rfl) (fun _ _ _ h => h) (Or.inl ⟨by rfl, ?q2_2⟩) HS.out ?_
  case q2_2 => intro w hSw; obtain ⟨z3, z4, z5, z6⟩ := ZC.out _ hSw; go_simp; rfl
  simp only [Act.put, lay6]
  refine wpAnyH_take (i := 3) (v := ?_) rfl (by kernel_rfl) (by kernel_rfl) (by kernel_rfl) (fun _ _ _ h => h) (Or.inl ⟨by rfl, ?q3_2⟩) HS.out ?_
  case q3_2 => intro w hSw; obtain ⟨z3, z4, z5, z6⟩ := ZC.out _ hSw; go_simp; rfl
  simp only [Act.put, lay6]
  refine wpAnyH_take (i := 4) (v := ?_) rfl (by kernel_rfl) (by kernel_rfl) (by kernel_rfl) (fun _ _ _ h => h) (Or.inl ⟨by rfl, ?q4_2⟩) HS.out ?_
  case q4_2 => intro w hSw; obtain ⟨z3, z4, z5, z6⟩ := ZC.out _ hSw; have rr := R1.out; go_simp; rfl
  simp only [Act.put, lay6]
  refine wpAnyH_take (i := 5) (v := ?_) rfl (by kernel_rfl) (by kernel_rfl) (by kernel_rfl) (fun _ _ _ h => h) (Or.inl ⟨by rfl, ?q5_2⟩) HS.out ?_
  case q5_2 => intro w hSw; obtain ⟨z3, z4, z5, z6⟩ := ZC.out _ hSw; go_simp; rfl
  simp only [Act.put, lay6]
  refine wpAnyH_take (i := 6) (v := ?_) rfl (by kernel_rfl) (by kernel_rfl) (by kernel_rfl) (fun _ _ _ h => h) (Or.inl ⟨by rfl, ?q6_2⟩) HS.out ?_
  case q6_2 => intro w hSw; obtain ⟨z3, z4, z5, z6⟩ := ZC.out _ hSw; go_simp; rfl
  simp only [Act.put, lay6]
  refine wpAnyH_take (i := 7) (v := ?_) rfl (by kernel_rfl) (by kernel_rfl) (by kernel_rfl) (fun _ _ _ h => h) (Or.inl ⟨by rfl, ?q7_2⟩) HS.out ?_
  case q7_2 => intro w hSw; obtain ⟨z3, z4, z5, z6⟩ := ZC.out _ hSw; go_simp; rfl
  simp only [Act.put, lay6]
  refine wpAnyH_take (i := 8) (v := ?_) rfl (by kernel_rfl) (by kernel_rfl) (by kernel_rfl) (fun _ _ _ h => h) (Or.inl ⟨by rfl, ?q8_2⟩) HS.out ?_
  case q8_2 => intro w hSw; obtain ⟨z3, z4, z5, z6⟩ := ZC.out _ hSw; go_simp; rfl
  simp only [Act.put, lay6]
  refine wpAnyH_take (i := 9) (v := ?_) rfl (by kernel_rfl) (by kernel_rfl) (by kernel_rfl) (fun _ _ _ h => h) (Or.inl ⟨by rfl, ?q9_2⟩) HS.out ?_
  case q9_2 => intro w hSw; obtain ⟨z3, z4, z5, z6⟩ := ZC.out _ hSw; go_simp; rfl
  simp only [Act.put, lay6]
  refine wpAnyH_take (i := 10) (v := ?_) rfl (by kernel_rfl) (by kernel_rfl) (by kernel_rfl) (fun _ _ _ h => h) (Or.inl ⟨by rfl, ?q10_2⟩) HS.out ?_
  case q10_2 => intro w hSw; obtain ⟨z3, z4, z5, z6⟩ := ZC.out _ hSw; go_simp; rfl
  simp only [Act.put, lay6]
  refine wpAnyH_take (i := 11) (v := ?_) rfl (by kernel_rfl) (by kernel_rfl) (by kernel_rfl) (fun _ _ _ h => h) (Or.inl ⟨by rfl, ?q11_2⟩) HS.out ?_
  case q11_2 => intro w hSw; obtain ⟨z3, z4, z5, z6⟩ := ZC.out _ hSw; go_simp; rfl
  simp only [Act.put, lay6]
  refine wpAnyH_take (i := 12) (v := ?_) rfl (by kernel_rfl) (by kernel_rfl) (by kernel_rfl) (fun _ _ _ h => h) (Or.inl ⟨by rfl, ?q12_2⟩) HS.out ?_
  case q12_2 => intro w hSw; obtain ⟨z3, z4, z5, z6⟩ := ZC.out _ hSw; go_simp; rfl
  simp only [Act.put, lay6]
  refine wpAnyH_take (i := 13) (v := ?_) rfl (by kernel_rfl) (by kernel_rfl) (by kernel_rfl) (fun _ _ _ h => h) (Or.inl ⟨by rfl, ?q13_2⟩) HS.out ?_
  case q13_2 => intro w hSw; obtain ⟨z3, z4, z5, z6⟩ := ZC.out _ hSw; go_simp; rfl
  simp only [Act.put, lay6]
  refine wpAnyH_take (i := 14) (v := ?_) rfl (by kernel_rfl) (by kernel_rfl) (by kernel_rfl) (fun _ _ _ h => h) (Or.inl ⟨by rfl, ?q14_2⟩) HS.out ?_
  case q14_2 => intro w hSw; obtain ⟨z3, z4, z5, z6⟩ := ZC.out _ hSw; have rr := R2.out; go_simp; rfl
  simp only [Act.put, lay6]
  refine wpAnyH_ready (rs := [15, 19]) (by kernel_rfl) (by simp) ?_
  refine AllReadyH.cons rfl (fun K hK => ?_) (AllReadyH.cons rfl (fun K hK => ?_) AllReadyH.nil)
  ·replace hK := hid hK
   go_simp
   refine (CT.out _ HS.out).mono ?_
   rintro e Wc ⟨rfl, hB8⟩
   have S8 : Hid (Below w2.heap.size w2 Wc) := hid (HS.out.trans (hB8.mono HS.out.size))
   clear hB8
   refine hK.out _ _ S8.out (fun _ => ?_)
   clear hK K
   try simp only [Act.put, lay6]
   replace HS := S8
   refine wpAnyH_take (i := 16) (v := ?_) rfl (by kernel_rfl) (by kernel_rfl) (by kernel_rfl) (fun _ _ _ h => h) (Or.inl ⟨by rfl, ?q16_4⟩) HS.out ?_
   case q16_4 => intro w hSw; go_simp; rfl
   simp only [Act.put, lay6]
   refine wpAnyH_take (i := 17) (v := ?_) rfl (by kernel_rfl) (by kernel_rfl) (by kernel_rfl) (fun _ _ _ h => h) (Or.inl ⟨by rfl, ?q17_4⟩) HS.out ?_
   case q17_4 => intro w hSw; go_simp; rfl
   simp only [Act.put, lay6]
   refine wpAnyH_take (i := 18) (v := ?_) rfl (by kernel_rfl) (by kernel_rfl) (by kernel_rfl) (fun _ _ _ h => h) (Or.inl ⟨by rfl, ?q18_4⟩) HS.out ?_
   case q18_4 => intro w hSw; go_simp; rfl
   simp only [Act.put, lay6]
   refine wpAnyH_ready (rs := [19]) (by kernel_rfl) (by simp) ?_
   refine AllReadyH.cons rfl (fun K hK => ?_) AllReadyH.nil
   replace hK := hid hK
   rw [if_pos (by rfl)]
   refine wp_alloc_aggT HZ0.out rfl ?_
   have HSa : Hid (Below w2.heap.size w2 (Wc.alloc (.cells zi 32))) := hid (S8.out.alloc S8.out.size _)
   have HR9 : Hid ((Wc.alloc (.cells zi 32)).heap[Wc.heap.size]? = some (.cells zi 32 (0, 0))) := hid (heap_alloc_new Wc _)
   have hdl : w2.heap.size <= Wc.heap.size := S8.out.size
   refine hK.out _ _ HSa.out (fun _ => ?_)
   clear hK K
   try simp only [Act.put, lay6]
   refine wpAnyH_ready (rs := [20]) (by kernel_rfl) (by simp) ?_
   refine AllReadyH.cons rfl (fun K hK => ?_) AllReadyH.nil
   replace hK := hid hK
   rw [if_pos (by rfl)]
   refine wp_store_row 32 _ _ rfl Wc.heap.size ka rfl rfl 32 _ HR9.out SK.out ZK.out OK.out ?_
   have S9 : Hid (Below w2.heap.size w2 ((Wc.alloc (.cells zi 32)).setRow Wc.heap.size ka)) := hid (bel_set5 HSa.out hdl _)
   refine hK.out _ _ S9.out (fun _ => ?_)
   clear hK K
   try simp only [Act.put, lay6]
   replace HS := S9
   refine wpAnyH_take (i := 21) (v := ?_) rfl (by kernel_rfl) (by kernel_rfl) (by kernel_rfl) (fun _ _ _ h => h) (Or.inl ⟨by rfl, ?q21_4⟩) HS.out ?_
   case q21_4 => intro w hSw; go_simp; rfl
   simp only [Act.put, lay6]
   refine wpAnyH_done (by kernel_rfl) ?_ _
   have hP := And.intro hdl (And.intro (setRow_heap _ _ _ ka _ _ HR9.out) S9.out)
   show Kx _ _
   revert hP
   clear S9 HS HR9 HSa hdl
   generalize Wc.heap.size = dd
   intro hP
   exact key dd _ hP
  ·replace hK := hid hK
   rw [if_pos (by rfl)]
   refine wp_alloc_aggT HZ0.out rfl ?_
   obtain ⟨Wa, HWa⟩ : ∃ Wa, Hid (w2.drew.alloc (.cells zi 32) = Wa) := ⟨_, rfl⟩
   rw [HWa.out]
   have Sa : Hid (Below w2.heap.size w2 Wa) := hid (by rw [<- HWa.out]; exact HS.out.alloc HS.out.size _)
   have Ra : Hid (Wa.heap[w2.drew.heap.size]? = some (.cells zi 32 (0, 0))) := hid (by rw [<- HWa.out]; exact heap_alloc_new w2.drew _)
   refine hK.out _ _ Sa.out (fun _ => ?_)
   clear hK K
   try simp only [Act.put, lay6]
   replace HS := Sa
   refine wpAnyH_ready (rs := [15]) (by kernel_rfl) (by simp) ?_
   refine AllReadyH.cons rfl (fun K hK => ?_) AllReadyH.nil
   replace hK := hid hK
   go_simp
   refine (CT.out _ HS.out).mono ?_
   rintro e Wc ⟨rfl, hB8⟩
   have S8 : Hid (Below w2.heap.size w2 Wc) := hid (HS.out.trans (hB8.mono HS.out.size))
   have HR9 : Hid (Wc.heap[w2.drew.heap.size]? = some (.cells zi 32 (0, 0))) := hid ((hB8.block _ (Array.getElem?_eq_some_iff.1 Ra.out).1).trans Ra.out)
   have hdl : w2.heap.size <= w2.drew.heap.size := Nat.le_refl _
   clear hB8
   refine hK.out _ _ S8.out (fun _ => ?_)
   clear hK K
   try simp only [Act.put, lay6]
   replace HS := S8
   refine wpAnyH_take (i := 16) (v := ?_) rfl (by kernel_rfl) (by kernel_rfl) (by kernel_rfl) (fun _ _ _ h => h) (Or.inl ⟨by rfl, ?q16_5⟩) HS.out ?_
   case q16_5 => intro w hSw; go_simp; rfl
   simp only [Act.put, lay6]
   refine wpAnyH_take (i := 17) (v := ?_) rfl (by kernel_rfl) (by kernel_rfl) (by kernel_rfl) (fun _ _ _ h => h) (Or.inl ⟨by rfl, ?q17_5⟩) HS.out ?_
   case q17_5 => intro w hSw; go_simp; rfl
   simp only [Act.put, lay6]
   refine wpAnyH_take (i := 18) (v := ?_) rfl (by kernel_rfl) (by kernel_rfl) (by kernel_rfl) (fun _ _ _ h => h) (Or.inl ⟨by rfl, ?q18_5⟩) HS.out ?_
   case q18_5 => intro w hSw; go_simp; rfl
   simp only [Act.put, lay6]
   refine wpAnyH_ready (rs := [20]) (by kernel_rfl) (by simp) ?_
   refine AllReadyH.cons rfl (fun K hK => ?_) AllReadyH.nil
   replace hK := hid hK
   rw [if_pos (by rfl)]
   refine wp_store_row 32 _ _ rfl w2.drew.heap.size ka rfl rfl 32 _ HR9.out SK.out ZK.out OK.out ?_
   have S9 : Hid (Below w2.heap.size w2 (Wc.setRow w2.drew.heap.size ka)) := hid (bel_set5 S8.out hdl _)
   refine hK.out _ _ S9.out (fun _ => ?_)
   clear hK K
   try simp only [Act.put, lay6]
   replace HS := S9
   refine wpAnyH_take (i := 21) (v := ?_) rfl (by kernel_rfl) (by kernel_rfl) (by kernel_rfl) (fun _ _ _ h => h) (Or.inl ⟨by rfl, ?q21_5⟩) HS.out ?_
   case q21_5 => intro w hSw; go_simp; rfl
   simp only [Act.put, lay6]
   refine wpAnyH_done (by kernel_rfl) ?_ _
   have hP := And.intro hdl (And.intro (setRow_heap _ _ _ ka _ _ HR9.out) S9.out)
   show Kx _ _
   have hPd : ∀ dd, w2.heap.size = dd -> _ := fun dd hdd => key dd (Wc.setRow dd ka) (by rw [<- hdd]; exact hP)
   exact hPd _ rfl
 case key1 =>
  rintro d w3 ⟨hd3, ha3, b3⟩
  have A3 := hid ha3
  have B23 := hid b3
  have D3 := hid hd3
  have X3 := hid ((b3.block _ (Array.getElem?_eq_some_iff.1 X2.out).1).trans X2.out)
  have B3 := hid (B2.out.trans (b3.mono B2.out.size))
  have CR := hid (rkyC w3 _ _ ds f k n g (HD.out.below B3.out) (HF.out.below B3.out))
  rw [HKA.out, HE.out] at CR
  clear hd3 ha3 b3 ZC CT
  obtain ⟨c2, c3, c4, c5, c6⟩ := CELL.out w3 _ X3.out
  refine hKx _ _ ?_
  clear hKx Kx
  go_wp2_with fail
  refine CR.out.mono ?_
  rintro e w4 ⟨rfl, hb4⟩
  obtain ⟨w5, HW5⟩ : ∃ x, Hid ((w4.alloc (.cells zi 32)).setRow w4.heap.size ka = x) := ⟨_, rfl⟩
  have ZA := hid (heap_alloc_new w4 (.cells zi 32))
  have b45 : Below w4.heap.size w4 w5 := by rw [<- HW5.out]; exact bel_set5 ((Below.refl _ w4).alloc (Nat.le_refl _) _) (Nat.le_refl _) _
  have E5 : Hid (w5.heap[w4.heap.size]? = some (.cells ka 32 (0, 0))) := by refine hid ?_; rw [<- HW5.out]; exact setRow_heap _ _ _ _ _ _ ZA.out
  have b35 := below_th hb4 b45
  have A5 := hid ((b35.block _ (Array.getElem?_eq_some_iff.1 A3.out).1).trans A3.out)
  have X5 := hid ((b35.block _ (Array.getElem?_eq_some_iff.1 X3.out).1).trans X3.out)
  have B25 := hid (B23.out.trans (b35.mono B23.out.size))
  have B5 := hid (B3.out.trans (b35.mono B3.out.size))
  have HNE : Hid (w4.heap.size ≠ d) := hid (by have := (Array.getElem?_eq_some_iff.1 A3.out).1; have := hb4.size; omega)
  have hne : ∀ W, (binOp .neq 32 (.agg ka) (.agg ka)).run Tryd.prog W = .ok (.bool false) W := fun W => by
   have := run_neq_bytes W 16 32 Tryd.underlying32 _ _ (kyL_len ds f k n g) (kyL_len ds f k n g)
   rw [decide_eq_true rfl, HKA.out] at this
   exact this
  have D4 := hid (show w2.heap.size <= w4.heap.size from Nat.le_trans B23.out.size hb4.size)
  have CK1 := hid (kept_any w5 _ _ (lent ds) ds (HB.of_own (own_below O12.out B25.out) (lent_byt HD.out.2)) (HD.out.below B5.out) (by have := HDSL.out; omega))
  rw [decide_eq_true rfl] at CK1
  simp only [lent_length, HND.out] at CK1
  clear c2 c3 c4 c5 c6 b35 b45 hb4 CR
  obtain ⟨c2, c3, c4, c5, c6⟩ := CELL.out w5 _ X5.out
  go_wp2_with (first | (refine wpList_alloc_aggT HZ0.out rfl rfl ?_) | (refine wpList_store_row rfl 32 _ _ rfl w4.heap.size ka rfl rfl 32 _ ZA.out SK.out ZK.out OK.out ?_; rw [HW5.out]) | (refine wpList_load_row rfl 32 _ rfl d rfl 32 ka (0, 0) _ A5.out Tryd.underlying32 rfl SK.out ?_) | (refine wpList_load_row rfl 32 _ rfl w4.heap.size rfl 32 ka (0, 0) _ E5.out Tryd.underlying32 rfl SK.out ?_) | fail)
  refine CK1.out.mono ?_
  rintro e w6 ⟨rfl, hb6⟩
  have B26 := hid (B25.out.trans (hb6.mono B25.out.size))
  have B56 := hid hb6
  have B6 := hid (B5.out.trans (hb6.mono B5.out.size))
  have CK2 := hid (kept_any w6 _ _ (lent f) f (HB.of_own (own_below O2.out B26.out) (lent_byt HF.out.2)) (HF.out.below B6.out) (by have := HFL.out; omega))
  rw [decide_eq_true rfl] at CK2
  simp only [lent_length, HNF.out] at CK2
  clear c2 c3 c4 c5 c6 hb6 CK1
  go_wp2_with fail
  refine CK2.out.mono ?_
  rintro e w7 ⟨rfl, hb7⟩
  have B27 := hid (B26.out.trans (hb7.mono B26.out.size))
  have B57 := hid (below_th B56.out hb7)
  have B7 := hid (B6.out.trans (hb7.mono B6.out.size))
  have CO1 := hid (over_byt w7 _ _ (lent ds) (own_below O12.out B27.out) (lent_byt HD.out.2) (by rw [lent_length]; have := HDSL.out; omega))
  simp only [lent_length, HND.out] at CO1
  clear hb7 CK2
  go_wp2_with fail
  refine CO1.out.mono ?_
  rintro e w8 ⟨rfl, ⟨l1, hl1, hl1b, ho8⟩, hg8⟩
  have O8 := hid ho8
  have L1B := hid hl1b
  have L1L : Hid (l1.length = nd + 70) := hid hl1
  have Q78 : Hid (∀ b, b < w7.heap.size -> b ≠ g1 -> w8.heap[b]? = w7.heap[b]?) := hid fun b q1 q2 => hg8.block b q1 (fun e => q2 (by have e' : some b = some g1 := e; cases e'; rfl))
  have O28 := hid (own_ofL (own_below O2.out B27.out) (w' := w8) (fun q e => Q78.out q (by have e' : some g2 = some q := e; cases e'; have := G2.out; have := B27.out.size; omega) (by have e' : some g2 = some q := e; cases e'; have := G2.out; have := G1.out; omega)))
  have S8 := hid hg8.size
  have CO2 := hid (over_byt w8 _ _ (lent f) O28.out (lent_byt HF.out.2) (by rw [lent_length]; have := HFL.out; omega))
  simp only [lent_length, HNF.out] at CO2
  have B8 : Hid (Below w.heap.size w w8) := hid (B7.out.grown hg8 B7.out.size (fun q e => by have e' : some g1 = some q := e; cases e'; have := G1.out; have := S0.out; omega))
  clear ho8 hg8 hl1 hl1b CO1
  go_wp2_with fail
  refine CO2.out.mono ?_
  rintro e w9 ⟨rfl, ⟨l2, hl2, hl2b, ho9⟩, hg9⟩
  have O9 := hid ho9
  have L2B := hid hl2b
  have L2L : Hid (l2.length = nf + 70) := hid hl2
  have Q89 : Hid (∀ b, b < w8.heap.size -> b ≠ g2 -> w9.heap[b]? = w8.heap[b]?) := hid fun b q1 q2 => hg9.block b q1 (fun e => q2 (by have e' : some b = some g2 := e; cases e'; rfl))
  have Q59 : Hid (∀ b, b < w5.heap.size -> b ≠ g1 -> b ≠ g2 -> w9.heap[b]? = w5.heap[b]?) := hid fun b q1 q2 q3 => by
   have := B57.out.size
   have := S8.out
   rw [Q89.out b (by omega) q3, Q78.out b (by omega) q2, B57.out.block b q1]
  have O19 := hid (own_ofL O8.out (w' := w9) (fun q e => Q89.out q (by have e' : some g1 = some q := e; cases e'; have := G1.out; have := B27.out.size; have := S8.out; have := G2.out; omega) (by have e' : some g1 = some q := e; cases e'; have := G2.out; have := G1.out; omega)))
  have B9 : Hid (Below w.heap.size w w9) := hid (B8.out.grown hg9 B8.out.size (fun q e => by have e' : some g2 = some q := e; cases e'; have := G2.out; have := B1.out.size; omega))
  have HS9 : Hid (w2.heap.size <= w9.heap.size) := hid (Nat.le_trans B27.out.size (Nat.le_trans S8.out hg9.size))
  have X9 : Hid (w9.heap[w.heap.size]? = some (.cells A 37 (0, 0))) := hid ((Q59.out _ (Array.getElem?_eq_some_iff.1 X5.out).1 (by have := G1.out; have := S0.out; omega) (by have := G2.out; have := G1.out; have := S0.out; omega)).trans X5.out)
  have A9 : Hid (w9.heap[d]? = some (.cells ka 32 (0, 0))) := hid ((Q59.out _ (Array.getElem?_eq_some_iff.1 A5.out).1 (by have := G1.out; have := G2.out; have := D3.out; omega) (by have := G2.out; have := D3.out; omega)).trans A5.out)
  have E9 : Hid (w9.heap[w4.heap.size]? = some (.cells ka 32 (0, 0))) := hid ((Q59.out _ (Array.getElem?_eq_some_iff.1 E5.out).1 (by have := G1.out; have := G2.out; have := D4.out; omega) (by have := G2.out; have := D4.out; omega)).trans E5.out)
  have HB1 : Hid (HB w9 (.slice (some ⟨g1, 0, none⟩) nd c1) (l1.take nd)) := hid (over_pre O19.out L1B.out L1L.out HC1.out)
  have HB2 : Hid (HB w9 (.slice (some ⟨g2, 0, none⟩) nf c2') (l2.take nf)) := hid (over_pre O9.out L2B.out L2L.out HC2.out)
  obtain ⟨x1, HX1⟩ : ∃ x, Hid (l1.take nd = x) := ⟨_, rfl⟩
  obtain ⟨x2, HX2⟩ : ∃ x, Hid (l2.take nf = x) := ⟨_, rfl⟩
  rw [HX1.out] at HB1
  rw [HX2.out] at HB2
  obtain ⟨E2, HE2⟩ : ∃ x, Hid (kyE x1 x2 k n g = x) := ⟨_, rfl⟩
  obtain ⟨kb, HKB⟩ : ∃ x, Hid (cellsB (kyL x1 x2 k n g) = x) := ⟨_, rfl⟩
  have SB : Hid ((Tryd.prog.info? 32).map (·.size) = some kb.size) := by refine hid ?_; rw [<- HKB.out, cellsB_size, kyL_len]; exact size_key
  have OB : Hid (kb.all (·.oneCell') = true) := by refine hid ?_; rw [<- HKB.out]; exact cellsB_one _
  have ZB : Hid (ka.size = kb.size) := by refine hid ?_; rw [<- HKA.out, <- HKB.out, cellsB_size, cellsB_size, kyL_len, kyL_len]
  have CT : Hid (∀ W' : World, Below w9.heap.size w9 W' -> Calls Tryd.prog 42 #[.slice (some ⟨g1, 0, none⟩) nd c1, .int .i64 k, .int .i64 n, .int .i64 g, .slice (some ⟨g2, 0, none⟩) nf c2'] W' fun e w' => e = .returned (.tuple #[.agg kb, .int .i64 E2]) /\ Below W'.heap.size W' w') := hid fun W' hh => by
   rw [<- HKB.out, <- HE2.out]
   exact tkyC W' _ _ x1 x2 k n g (HB1.out.below hh) (HB2.out.below hh) (HK.out.below (B9.out.trans (hh.mono B9.out.size)))
  have ZC : Hid (∀ W' : World, w9.grownBy W' (some d) -> W'.cell? ⟨w.heap.size, 3, none⟩ = some (.slice pd nd cd) /\ W'.cell? ⟨w.heap.size, 4, none⟩ = some (.int .i64 k) /\ W'.cell? ⟨w.heap.size, 5, none⟩ = some (.int .i64 n) /\ W'.cell? ⟨w.heap.size, 6, none⟩ = some (.int .i64 g)) := hid fun W' hh => by
   obtain ⟨_, q3, q4, q5, q6⟩ := CELL.out W' _ ((hh.block _ (Array.getElem?_eq_some_iff.1 X9.out).1 (fun e => by cases e; have := D3.out; have := B2.out.size; have := G2.out; have := G1.out; have := S0.out; omega)).trans X9.out)
   exact ⟨q3, q4, q5, q6⟩
  clear ho9 hg9 hl2 hl2b CO2
  go_wp2_with fail
  refine wp_region_held_drew (S := fun W' => w9.grownBy W' (some d)) (by kernel_rfl) (grown_below (r := some d) ((Below.refl _ w9).drew)) (fun hHeld => ?_)
  have HS := hid hHeld
  clear hHeld
  change wpAnyH _ _ _ _ _ _ _ _ (World.drew _)
  refine wpAnyH_take (i := 0) (v := ?_) rfl (by kernel_rfl) (by kernel_rfl) (by kernel_rfl) (fun _ _ _ h => h) (Or.inl ⟨by rfl, ?q0_6⟩) HS.out ?_
  case q0_6 => intro w hSw; obtain ⟨z3, z4, z5, z6⟩ := ZC.out _ hSw; go_simp; rfl
  simp only [Act.put, lay6]
  refine wpAnyH_take (i := 1) (v := ?_) rfl (by kernel_rfl) (by kernel_rfl) (by kernel_rfl) (fun _ _ _ h => h) (Or.inl ⟨by rfl, ?q1_6⟩) HS.out ?_
  case q1_6 => intro w hSw; obtain ⟨z3, z4, z5, z6⟩ := ZC.out _ hSw; go_simp; rfl
  simp only [Act.put, lay6]
  refine wpAnyH_take (i := 2) (v := ?_) rfl (by kernel_rfl) (by kernel_rfl) (by kernel_rfl) (fun _ _ _ h => h) (Or.inl ⟨by rfl, ?q2_6⟩) HS.out ?_
  case q2_6 => intro w hSw; obtain ⟨z3, z4, z5, z6⟩ := ZC.out _ hSw; go_simp; rfl
  simp only [Act.put, lay6]
  refine wpAnyH_take (i := 3) (v := ?_) rfl (by kernel_rfl) (by kernel_rfl) (by kernel_rfl) (fun _ _ _ h => h) (Or.inl ⟨by rfl, ?q3_6⟩) HS.out ?_
  case q3_6 => intro w hSw; obtain ⟨z3, z4, z5, z6⟩ := ZC.out _ hSw; go_simp; rfl
  simp only [Act.put, lay6]
  refine wpAnyH_take (i := 4) (v := ?_) rfl (by kernel_rfl) (by kernel_rfl) (by kernel_rfl) (fun _ _ _ h => h) (Or.inl ⟨by rfl, ?q4_6⟩) HS.out ?_
  case q4_6 => intro w hSw; obtain ⟨z3, z4, z5, z6⟩ := ZC.out _ hSw; have rr := R1.out; go_simp; rfl
  simp only [Act.put, lay6]
  refine wpAnyH_take (i := 5) (v := ?_) rfl (by kernel_rfl) (by kernel_rfl) (by kernel_rfl) (fun _ _ _ h => h) (Or.inl ⟨by rfl, ?q5_6⟩) HS.out ?_
  case q5_6 => intro w hSw; obtain ⟨z3, z4, z5, z6⟩ := ZC.out _ hSw; go_simp; rfl
  simp only [Act.put, lay6]
  refine wpAnyH_take (i := 6) (v := ?_) rfl (by kernel_rfl) (by kernel_rfl) (by kernel_rfl) (fun _ _ _ h => h) (Or.inl ⟨by rfl, ?q6_6⟩) HS.out ?_
  case q6_6 => intro w hSw; obtain ⟨z3, z4, z5, z6⟩ := ZC.out _ hSw; go_simp; rfl
  simp only [Act.put, lay6]
  refine wpAnyH_take (i := 7) (v := ?_) rfl (by kernel_rfl) (by kernel_rfl) (by kernel_rfl) (fun _ _ _ h => h) (Or.inl ⟨by rfl, ?q7_6⟩) HS.out ?_
  case q7_6 => intro w hSw; obtain ⟨z3, z4, z5, z6⟩ := ZC.out _ hSw; go_simp; rfl
  simp only [Act.put, lay6]
  refine wpAnyH_take (i := 8) (v := ?_) rfl (by kernel_rfl) (by kernel_rfl) (by kernel_rfl) (fun _ _ _ h => h) (Or.inl ⟨by rfl, ?q8_6⟩) HS.out ?_
  case q8_6 => intro w hSw; obtain ⟨z3, z4, z5, z6⟩ := ZC.out _ hSw; go_simp; rfl
  simp only [Act.put, lay6]
  refine wpAnyH_take (i := 9) (v := ?_) rfl (by kernel_rfl) (by kernel_rfl) (by kernel_rfl) (fun _ _ _ h => h) (Or.inl ⟨by rfl, ?q9_6⟩) HS.out ?_
  case q9_6 => intro w hSw; obtain ⟨z3, z4, z5, z6⟩ := ZC.out _ hSw; go_simp; rfl
  simp only [Act.put, lay6]
  refine wpAnyH_take (i := 10) (v := ?_) rfl (by kernel_rfl) (by kernel_rfl) (by kernel_rfl) (fun _ _ _ h => h) (Or.inl ⟨by rfl, ?q10_6⟩) HS.out ?_
  case q10_6 => intro w hSw; obtain ⟨z3, z4, z5, z6⟩ := ZC.out _ hSw; go_simp; rfl
  simp only [Act.put, lay6]
  refine wpAnyH_take (i := 11) (v := ?_) rfl (by kernel_rfl) (by kernel_rfl) (by kernel_rfl) (fun _ _ _ h => h) (Or.inl ⟨by rfl, ?q11_6⟩) HS.out ?_
  case q11_6 => intro w hSw; obtain ⟨z3, z4, z5, z6⟩ := ZC.out _ hSw; go_simp; rfl
  simp only [Act.put, lay6]
  refine wpAnyH_take (i := 12) (v := ?_) rfl (by kernel_rfl) (by kernel_rfl) (by kernel_rfl) (fun _ _ _ h => h) (Or.inl ⟨by rfl, ?q12_6⟩) HS.out ?_
  case q12_6 => intro w hSw; obtain ⟨z3, z4, z5, z6⟩ := ZC.out _ hSw; go_simp; rfl
  simp only [Act.put, lay6]
  refine wpAnyH_take (i := 13) (v := ?_) rfl (by kernel_rfl) (by kernel_rfl) (by kernel_rfl) (fun _ _ _ h => h) (Or.inl ⟨by rfl, ?q13_6⟩) HS.out ?_
  case q13_6 => intro w hSw; obtain ⟨z3, z4, z5, z6⟩ := ZC.out _ hSw; go_simp; rfl
  simp only [Act.put, lay6]
  refine wpAnyH_take (i := 14) (v := ?_) rfl (by kernel_rfl) (by kernel_rfl) (by kernel_rfl) (fun _ _ _ h => h) (Or.inl ⟨by rfl, ?q14_6⟩) HS.out ?_
  case q14_6 => intro w hSw; obtain ⟨z3, z4, z5, z6⟩ := ZC.out _ hSw; have rr := R2.out; go_simp; rfl
  simp only [Act.put, lay6]
  refine wpAnyH_ready (rs := [15]) (by kernel_rfl) (by simp) ?_
  refine AllReadyH.cons rfl (fun K hK => ?_) AllReadyH.nil
  replace hK := hid hK
  go_simp
  refine (CT.out _ ((Below.refl _ w9).drew)).mono ?_
  rintro e wa ⟨rfl, hB8⟩
  have b8 : Hid (Below w9.heap.size w9 wa) := hid (((Below.refl _ w9).drew).trans hB8)
  have S8 : Hid (w9.grownBy wa (some d)) := hid (grown_below (r := some d) b8.out)
  have HR9 : Hid (wa.heap[d]? = some (.cells ka 32 (0, 0))) := hid ((b8.out.block _ (Array.getElem?_eq_some_iff.1 A9.out).1).trans A9.out)
  clear hB8
  refine hK.out _ _ S8.out (fun _ => ?_)
  clear hK K
  try simp only [Act.put, lay6]
  replace HS := S8
  refine wpAnyH_take (i := 16) (v := ?_) rfl (by kernel_rfl) (by kernel_rfl) (by kernel_rfl) (fun _ _ _ h => h) (Or.inl ⟨by rfl, ?q16_6⟩) HS.out ?_
  case q16_6 => intro w hSw; go_simp; rfl
  simp only [Act.put, lay6]
  refine wpAnyH_take (i := 17) (v := ?_) rfl (by kernel_rfl) (by kernel_rfl) (by kernel_rfl) (fun _ _ _ h => h) (Or.inl ⟨by rfl, ?q17_6⟩) HS.out ?_
  case q17_6 => intro w hSw; go_simp; rfl
  simp only [Act.put, lay6]
  refine wpAnyH_take (i := 18) (v := ?_) rfl (by kernel_rfl) (by kernel_rfl) (by kernel_rfl) (fun _ _ _ h => h) (Or.inl ⟨by rfl, ?q18_6⟩) HS.out ?_
  case q18_6 => intro w hSw; go_simp; rfl
  simp only [Act.put, lay6]
  refine wpAnyH_ready (rs := [19]) (by kernel_rfl) (by simp) ?_
  refine AllReadyH.cons rfl (fun K hK => ?_) AllReadyH.nil
  replace hK := hid hK
  rw [if_pos (by rfl)]
  refine wp_store_row 32 _ _ rfl d kb rfl rfl 32 _ HR9.out SB.out ZB.out OB.out ?_
  obtain ⟨w10, Hw10⟩ : ∃ x, Hid (wa.setRow d kb = x) := ⟨_, rfl⟩
  rw [Hw10.out]
  have S9 : Hid (w9.grownBy w10 (some d)) := by rw [<- Hw10.out]; exact hid (grown_trT S8.out (grown_setRowT wa d kb))
  have N9 : Hid (w10.heap[d]? = some (.cells kb 32 (0, 0))) := by rw [<- Hw10.out]; exact hid (setRow_heap _ _ _ kb _ _ HR9.out)
  refine hK.out _ _ S9.out (fun _ => ?_)
  clear hK K
  try simp only [Act.put, lay6]
  replace HS := S9
  refine wpAnyH_take (i := 20) (v := ?_) rfl (by kernel_rfl) (by kernel_rfl) (by kernel_rfl) (fun _ _ _ h => h) (Or.inl ⟨by rfl, ?q20_6⟩) HS.out ?_
  case q20_6 => intro w hSw; go_simp; rfl
  simp only [Act.put, lay6]
  refine wpAnyH_done (by kernel_rfl) ?_ _
  have G10 := hid HS.out
  have N10 := hid N9.out
  have B10 : Hid (Below w.heap.size w w10) := hid (B9.out.grown G10.out B9.out.size (fun q e => by cases e; have := D3.out; have := B2.out.size; omega))
  have X10 : Hid (w10.heap[w.heap.size]? = some (.cells A 37 (0, 0))) := hid ((G10.out.block _ (Array.getElem?_eq_some_iff.1 X9.out).1 (fun e => by cases e; have := D3.out; have := B2.out.size; have := G2.out; have := G1.out; have := S0.out; omega)).trans X9.out)
  have E10 : Hid (w10.heap[w4.heap.size]? = some (.cells ka 32 (0, 0))) := hid ((G10.out.block _ (Array.getElem?_eq_some_iff.1 E9.out).1 (fun e => HNE.out (by simpa using e))).trans E9.out)
  have HB1x : Hid (HB w10 (.slice (some ⟨g1, 0, none⟩) nd c1) x1) := hid (HB1.out.other G10.out (.inr (fun e => by have e' : some g1 = some d := e; cases e'; have := D3.out; have := G1.out; have := G2.out; omega)))
  have HB2x : Hid (HB w10 (.slice (some ⟨g2, 0, none⟩) nf c2') x2) := hid (HB2.out.other G10.out (.inr (fun e => by have e' : some g2 = some d := e; cases e'; have := D3.out; have := G2.out; omega)))
  clear CT ZC HS N9 S9 S8 HR9 b8
  have CT : Hid (∀ W' : World, Below w10.heap.size w10 W' -> Calls Tryd.prog 43 #[.slice (some ⟨g1, 0, none⟩) nd c1, .int .i64 k, .int .i64 n, .int .i64 g, .slice (some ⟨g2, 0, none⟩) nf c2'] W' fun e w' => e = .returned (.tuple #[.agg kb, .int .i64 E2]) /\ Below W'.heap.size W' w') := hid fun W' hh => by
   rw [<- HKB.out, <- HE2.out]
   exact rkyC W' _ _ x1 x2 k n g (HB1x.out.below hh) (HB2x.out.below hh)
  have ZC : Hid (∀ W' : World, w10.grownBy W' (some w4.heap.size) -> W'.cell? ⟨w.heap.size, 3, none⟩ = some (.slice pd nd cd) /\ W'.cell? ⟨w.heap.size, 4, none⟩ = some (.int .i64 k) /\ W'.cell? ⟨w.heap.size, 5, none⟩ = some (.int .i64 n) /\ W'.cell? ⟨w.heap.size, 6, none⟩ = some (.int .i64 g)) := hid fun W' hh => by
   obtain ⟨_, q3, q4, q5, q6⟩ := CELL.out W' _ ((hh.block _ (Array.getElem?_eq_some_iff.1 X10.out).1 (fun e => by have e' : w.heap.size = w4.heap.size := Option.some.inj e; have := D4.out; have := G2.out; have := G1.out; have := S0.out; omega)).trans X10.out)
   exact ⟨q3, q4, q5, q6⟩
  go_wp2_with fail
  refine wp_region_held_drew (S := fun W' => w10.grownBy W' (some w4.heap.size)) (by kernel_rfl) (grown_below (r := some w4.heap.size) ((Below.refl _ w10).drew)) (fun hHeld => ?_)
  have HS := hid hHeld
  clear hHeld
  change wpAnyH _ _ _ _ _ _ _ _ (World.drew _)
  refine wpAnyH_take (i := 0) (v := ?_) rfl (by kernel_rfl) (by kernel_rfl) (by kernel_rfl) (fun _ _ _ h => h) (Or.inl ⟨by rfl, ?q0_7⟩) HS.out ?_
  case q0_7 => intro w hSw; obtain ⟨z3, z4, z5, z6⟩ := ZC.out _ hSw; go_simp; rfl
  simp only [Act.put, lay6]
  refine wpAnyH_take (i := 1) (v := ?_) rfl (by kernel_rfl) (by kernel_rfl) (by kernel_rfl) (fun _ _ _ h => h) (Or.inl ⟨by rfl, ?q1_7⟩) HS.out ?_
  case q1_7 => intro w hSw; obtain ⟨z3, z4, z5, z6⟩ := ZC.out _ hSw; go_simp; rfl
  simp only [Act.put, lay6]
  refine wpAnyH_take (i := 2) (v := ?_) rfl (by kernel_rfl) (by kernel_rfl) (by kernel_rfl) (fun _ _ _ h => h) (Or.inl ⟨by rfl, ?q2_7⟩) HS.out ?_
  case q2_7 => intro w hSw; obtain ⟨z3, z4, z5, z6⟩ := ZC.out _ hSw; go_simp; rfl
  simp only [Act.put, lay6]
  refine wpAnyH_take (i := 3) (v := ?_) rfl (by kernel_rfl) (by kernel_rfl) (by kernel_rfl) (fun _ _ _ h => h) (Or.inl ⟨by rfl, ?q3_7⟩) HS.out ?_
  case q3_7 => intro w hSw; obtain ⟨z3, z4, z5, z6⟩ := ZC.out _ hSw; go_simp; rfl
  simp only [Act.put, lay6]
  refine wpAnyH_take (i := 4) (v := ?_) rfl (by kernel_rfl) (by kernel_rfl) (by kernel_rfl) (fun _ _ _ h => h) (Or.inl ⟨by rfl, ?q4_7⟩) HS.out ?_
  case q4_7 => intro w hSw; obtain ⟨z3, z4, z5, z6⟩ := ZC.out _ hSw; have rr := R1.out; go_simp; rfl
  simp only [Act.put, lay6]
  refine wpAnyH_take (i := 5) (v := ?_) rfl (by kernel_rfl) (by kernel_rfl) (by kernel_rfl) (fun _ _ _ h => h) (Or.inl ⟨by rfl, ?q5_7⟩) HS.out ?_
  case q5_7 => intro w hSw; obtain ⟨z3, z4, z5, z6⟩ := ZC.out _ hSw; go_simp; rfl
  simp only [Act.put, lay6]
  refine wpAnyH_take (i := 6) (v := ?_) rfl (by kernel_rfl) (by kernel_rfl) (by kernel_rfl) (fun _ _ _ h => h) (Or.inl ⟨by rfl, ?q6_7⟩) HS.out ?_
  case q6_7 => intro w hSw; obtain ⟨z3, z4, z5, z6⟩ := ZC.out _ hSw; go_simp; rfl
  simp only [Act.put, lay6]
  refine wpAnyH_take (i := 7) (v := ?_) rfl (by kernel_rfl) (by kernel_rfl) (by kernel_rfl) (fun _ _ _ h => h) (Or.inl ⟨by rfl, ?q7_7⟩) HS.out ?_
  case q7_7 => intro w hSw; obtain ⟨z3, z4, z5, z6⟩ := ZC.out _ hSw; go_simp; rfl
  simp only [Act.put, lay6]
  refine wpAnyH_take (i := 8) (v := ?_) rfl (by kernel_rfl) (by kernel_rfl) (by kernel_rfl) (fun _ _ _ h => h) (Or.inl ⟨by rfl, ?q8_7⟩) HS.out ?_
  case q8_7 => intro w hSw; obtain ⟨z3, z4, z5, z6⟩ := ZC.out _ hSw; go_simp; rfl
  simp only [Act.put, lay6]
  refine wpAnyH_take (i := 9) (v := ?_) rfl (by kernel_rfl) (by kernel_rfl) (by kernel_rfl) (fun _ _ _ h => h) (Or.inl ⟨by rfl, ?q9_7⟩) HS.out ?_
  case q9_7 => intro w hSw; obtain ⟨z3, z4, z5, z6⟩ := ZC.out _ hSw; go_simp; rfl
  simp only [Act.put, lay6]
  refine wpAnyH_take (i := 10) (v := ?_) rfl (by kernel_rfl) (by kernel_rfl) (by kernel_rfl) (fun _ _ _ h => h) (Or.inl ⟨by rfl, ?q10_7⟩) HS.out ?_
  case q10_7 => intro w hSw; obtain ⟨z3, z4, z5, z6⟩ := ZC.out _ hSw; go_simp; rfl
  simp only [Act.put, lay6]
  refine wpAnyH_take (i := 11) (v := ?_) rfl (by kernel_rfl) (by kernel_rfl) (by kernel_rfl) (fun _ _ _ h => h) (Or.inl ⟨by rfl, ?q11_7⟩) HS.out ?_
  case q11_7 => intro w hSw; obtain ⟨z3, z4, z5, z6⟩ := ZC.out _ hSw; go_simp; rfl
  simp only [Act.put, lay6]
  refine wpAnyH_take (i := 12) (v := ?_) rfl (by kernel_rfl) (by kernel_rfl) (by kernel_rfl) (fun _ _ _ h => h) (Or.inl ⟨by rfl, ?q12_7⟩) HS.out ?_
  case q12_7 => intro w hSw; obtain ⟨z3, z4, z5, z6⟩ := ZC.out _ hSw; go_simp; rfl
  simp only [Act.put, lay6]
  refine wpAnyH_take (i := 13) (v := ?_) rfl (by kernel_rfl) (by kernel_rfl) (by kernel_rfl) (fun _ _ _ h => h) (Or.inl ⟨by rfl, ?q13_7⟩) HS.out ?_
  case q13_7 => intro w hSw; obtain ⟨z3, z4, z5, z6⟩ := ZC.out _ hSw; go_simp; rfl
  simp only [Act.put, lay6]
  refine wpAnyH_take (i := 14) (v := ?_) rfl (by kernel_rfl) (by kernel_rfl) (by kernel_rfl) (fun _ _ _ h => h) (Or.inl ⟨by rfl, ?q14_7⟩) HS.out ?_
  case q14_7 => intro w hSw; obtain ⟨z3, z4, z5, z6⟩ := ZC.out _ hSw; have rr := R2.out; go_simp; rfl
  simp only [Act.put, lay6]
  refine wpAnyH_ready (rs := [15]) (by kernel_rfl) (by simp) ?_
  refine AllReadyH.cons rfl (fun K hK => ?_) AllReadyH.nil
  replace hK := hid hK
  go_simp
  refine (CT.out _ ((Below.refl _ w10).drew)).mono ?_
  rintro e wb ⟨rfl, hB8⟩
  have b8 : Hid (Below w10.heap.size w10 wb) := hid (((Below.refl _ w10).drew).trans hB8)
  have S8 : Hid (w10.grownBy wb (some w4.heap.size)) := hid (grown_below (r := some w4.heap.size) b8.out)
  have HR9 : Hid (wb.heap[w4.heap.size]? = some (.cells ka 32 (0, 0))) := hid ((b8.out.block _ (Array.getElem?_eq_some_iff.1 E10.out).1).trans E10.out)
  clear hB8
  refine hK.out _ _ S8.out (fun _ => ?_)
  clear hK K
  try simp only [Act.put, lay6]
  replace HS := S8
  refine wpAnyH_take (i := 16) (v := ?_) rfl (by kernel_rfl) (by kernel_rfl) (by kernel_rfl) (fun _ _ _ h => h) (Or.inl ⟨by rfl, ?q16_7⟩) HS.out ?_
  case q16_7 => intro w hSw; go_simp; rfl
  simp only [Act.put, lay6]
  refine wpAnyH_take (i := 17) (v := ?_) rfl (by kernel_rfl) (by kernel_rfl) (by kernel_rfl) (fun _ _ _ h => h) (Or.inl ⟨by rfl, ?q17_7⟩) HS.out ?_
  case q17_7 => intro w hSw; go_simp; rfl
  simp only [Act.put, lay6]
  refine wpAnyH_take (i := 18) (v := ?_) rfl (by kernel_rfl) (by kernel_rfl) (by kernel_rfl) (fun _ _ _ h => h) (Or.inl ⟨by rfl, ?q18_7⟩) HS.out ?_
  case q18_7 => intro w hSw; go_simp; rfl
  simp only [Act.put, lay6]
  refine wpAnyH_ready (rs := [19]) (by kernel_rfl) (by simp) ?_
  refine AllReadyH.cons rfl (fun K hK => ?_) AllReadyH.nil
  replace hK := hid hK
  rw [if_pos (by rfl)]
  refine wp_store_row 32 _ _ rfl w4.heap.size kb rfl rfl 32 _ HR9.out SB.out ZB.out OB.out ?_
  obtain ⟨w11, Hw11⟩ : ∃ x, Hid (wb.setRow w4.heap.size kb = x) := ⟨_, rfl⟩
  rw [Hw11.out]
  have S9 : Hid (w10.grownBy w11 (some w4.heap.size)) := by rw [<- Hw11.out]; exact hid (grown_trT S8.out (grown_setRowT wb w4.heap.size kb))
  have N9 : Hid (w11.heap[w4.heap.size]? = some (.cells kb 32 (0, 0))) := by rw [<- Hw11.out]; exact hid (setRow_heap _ _ _ kb _ _ HR9.out)
  refine hK.out _ _ S9.out (fun _ => ?_)
  clear hK K
  try simp only [Act.put, lay6]
  replace HS := S9
  refine wpAnyH_take (i := 20) (v := ?_) rfl (by kernel_rfl) (by kernel_rfl) (by kernel_rfl) (fun _ _ _ h => h) (Or.inl ⟨by rfl, ?q20_7⟩) HS.out ?_
  case q20_7 => intro w hSw; go_simp; rfl
  simp only [Act.put, lay6]
  refine wpAnyH_done (by kernel_rfl) ?_ _
  have G11 := hid HS.out
  have N11 := hid N9.out
  have B11 : Hid (Below w.heap.size w w11) := hid (B10.out.grown G11.out B10.out.size (fun q e => by have e' : w4.heap.size = q := Option.some.inj e; have := D4.out; have := B2.out.size; omega))
  have M11 : Hid (w11.heap[d]? = some (.cells kb 32 (0, 0))) := hid ((G11.out.block _ (Array.getElem?_eq_some_iff.1 N10.out).1 (fun e => HNE.out (by simpa using e.symm))).trans N10.out)
  have heq : ∀ W, (binOp .eql 32 (.agg kb) (.agg kb)).run Tryd.prog W = .ok (.bool true) W := fun W => by
   have := run_eql_bytes W 16 32 Tryd.underlying32 _ _ (kyL_len x1 x2 k n g) (kyL_len x1 x2 k n g)
   rw [decide_eq_true rfl, HKB.out] at this
   exact this
  clear CT ZC HS N9 S9 S8 HR9 b8
  go_wp2_with (first | (refine wpList_load_row rfl 32 _ rfl d rfl 32 kb (0, 0) _ M11.out Tryd.underlying32 rfl SB.out ?_) | (refine wpList_load_row rfl 32 _ rfl w4.heap.size rfl 32 kb (0, 0) _ N11.out Tryd.underlying32 rfl SB.out ?_) | fail)
  go_ret
  exact ⟨rfl, B11.out⟩
end Go.Proofs.YtcpchhigiohlnaaDoor
