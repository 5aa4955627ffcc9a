/- ProofSound, walked. -/
import Derived.Test.YtjmlpkemjafifaaDoorGrPfD
set_option linter.unusedVariables false
set_option linter.unusedSimpArgs false
namespace Go.Proofs.YtjmlpkemjafifaaDoor
open Go.RowKit

theorem pow_ofS {W : Nat} (h : Pow W) : ∃ k, k < 10 ∧ W = 2 ^ k := by
  rcases h with rfl | rfl | rfl | rfl | rfl | rfl | rfl | rfl | rfl | rfl
  · exact ⟨0, by decide, rfl⟩
  · exact ⟨1, by decide, rfl⟩
  · exact ⟨2, by decide, rfl⟩
  · exact ⟨3, by decide, rfl⟩
  · exact ⟨4, by decide, rfl⟩
  · exact ⟨5, by decide, rfl⟩
  · exact ⟨6, by decide, rfl⟩
  · exact ⟨7, by decide, rfl⟩
  · exact ⟨8, by decide, rfl⟩
  · exact ⟨9, by decide, rfl⟩
theorem snd_fresh (W : Nat) (K : Kn) : Snd W K K := fun x d _ _ h1 h2 => by rw [h1] at h2; cases h2
theorem wpList_load_midS {ops : Array Oper} {rest : List Oper} {op : Oper} {a : Act} {w : World} {Q : Exit → Act → World → Prop} (hw : Region.wanted op (yielded ops a.tmps) = true) (ty : TypeId) (x : Operand) (ho : op.op = .load ty x)
    (b o : Nat) (hx : a.eval x = .pointer (some ⟨b, o, none⟩)) (cs : List Value) (d : TypeDesc) (hc : w.rangeAt b o cs)
    (hu : Tryd.prog.underlying ty = some d) (hd : d.isRow = true) (hi : (Tryd.prog.info? ty).map (·.size) = some cs.length)
    (h : wpList Tryd.prog ops Q rest (a.put op.dst (.agg cs.toArray)) w) : wpList Tryd.prog ops Q (op :: rest) a w := by
  refine wpList_step fun K hK => ?_
  simp only [hw, if_true]
  exact wp_load_mid ty x ho b o hx cs d hc hu hd hi (hK _ _ h)
set_option maxRecDepth 100000 in
set_option maxHeartbeats 32000000 in
theorem proofSound_walk (w : World) (vl : Value) (root : List Int) (ls : List (List NdT)) (n : Int) (hd : D32 root) (hv : HNL w vl ls) (hk : KC w) :
    Calls Tryd.prog 7 #[.int .i64 n, .agg (cellsB root), vl] w fun e w' => e = .returned (.bool true) ∧ Below w.heap.size w w' := by
  have HKC := hid hk
  have HD := hid hd
  obtain ⟨pl, cl, el, hcl, hml, hv4⟩ := hv
  unfold maxLen at hml
  have HV := hid hv4
  obtain ⟨m0, HM0⟩ : ∃ m, Hid (ls.length = m) := ⟨_, rfl⟩
  rw [HM0.out] at el hcl
  subst el
  obtain ⟨cd, HCD⟩ : ∃ c, Hid (cellsB root = c) := ⟨_, rfl⟩
  obtain ⟨W0, hW0⟩ : ∃ W0, Hid (w.alloc (.cells cd 28) = W0) := ⟨_, rfl⟩
  have HB0 : Hid (Below w.heap.size w W0) := by rw [← hW0.out]; exact (Below.refl _ w).alloc (Nat.le_refl _) _
  have HR0 : Hid (W0.heap[w.heap.size]? = some (.cells cd 28 (0, 0))) := by rw [← hW0.out]; exact heap_alloc_new w _
  have hcd : cd.size = 32 := by rw [← HCD.out, cellsB_size, hd.1]
  have SDr : Hid ((Tryd.prog.info? 28).map (·.size) = some cd.size) := by rw [hcd]; exact size_digest
  have CN1 := hid (pnew_any W0 n root hd (hk.below HB0.out))
  rw [HCD.out] at CN1
  obtain ⟨zd, HZD⟩ : ∃ zd, Hid (cellsB zeros32 = zd) := ⟨_, rfl⟩
  have hzs : zd.size = 32 := by rw [← HZD.out, cellsB_size, zeros32_length]
  have HZS := hid hzs
  obtain ⟨zn, HZN⟩ : ∃ z, Hid ((nc (0, zeros32)).toArray = z) := ⟨_, rfl⟩
  have HZ0 : Hid ((Tryd.prog.info? 60).map (·.zero) = some (some (.agg zn))) := by rw [← HZN.out]; exact zero_node
  have hzns : zn.size = 33 := by rw [← HZN.out]; simp [nc, dc_length, zeros32_length]
  have HZNS := hid hzns
  rw [HCD.out]
  clear hk hd hcd hzs hv4 hzns
  go_enter Tryd.func7, Tryd.ntmps7
  go_wp2_with (first | (rw [hW0.out]; refine wpList_load_row rfl 28 _ rfl w.heap.size rfl 28 cd (0, 0) _ HR0.out Tryd.underlying28 rfl SDr.out ?_) | fail)
  refine CN1.out.mono ?_
  rintro e u1 (⟨hbad, rfl, hB1⟩ | ⟨L, g, bm, hL, hL1, hL2, rfl, hg, hbm, hP1, hB1⟩)
  case inl =>
    have BL1 := hid (HB0.out.trans (hB1.mono HB0.out.size))
    have HR1 : Hid (u1.heap[w.heap.size]? = some (.cells cd 28 (0, 0))) := (hB1.block _ (Array.getElem?_eq_some_iff.1 HR0.out).1).trans HR0.out
    have CN2 := hid (pnew_bad u1 n root HD.out hbad)
    rw [HCD.out] at CN2
    have HBAD := hid hbad
    clear hB1 CN1 hbad
    go_wp2_with (first | (refine wpList_load_row rfl 28 _ rfl w.heap.size rfl 28 cd (0, 0) _ HR1.out Tryd.underlying28 rfl SDr.out ?_) | fail)
    refine CN2.out.mono ?_
    rintro e u2 (⟨hbad, rfl, hB2⟩ | ⟨L, g, bm, hL, hL1, hL2, rfl, hg, hbm, hP1, hB1⟩)
    case inr => exact absurd ⟨by omega, by omega⟩ HBAD.out
    have BL2 := hid (BL1.out.trans (hB2.mono BL1.out.size))
    have CA := hid (pawake_any u2 (HKC.out.below BL2.out))
    have htwo : n < 1 ∨ (¬ n < 1 ∧ 512 < n) := by
      by_cases h : n < 1
      · exact Or.inl h
      · exact Or.inr ⟨h, by apply Classical.byContradiction; intro h2; exact hbad ⟨by omega, by omega⟩⟩
    clear hB2 CN2 hbad
    rcases htwo with h1 | ⟨h1, h2⟩
    all_goals
      go_wp2_with fail
      refine CA.out.mono ?_
      rintro e u3 ⟨rfl, hB3⟩
      have BL3 := hid (BL2.out.trans (hB3.mono BL2.out.size))
      clear hB3 CA
      go_wp2
      go_ret
      exact ⟨rfl, BL3.out⟩
  case inr =>
    have HR1 : Hid (u1.heap[w.heap.size]? = some (.cells cd 28 (0, 0))) := (hB1.block _ (Array.getElem?_eq_some_iff.1 HR0.out).1).trans HR0.out
    have HP1 := hid hP1
    have B01 := hid hB1
    have CN2 := hid (pnew_ok u1 L root HD.out hL1 hL2 (HKC.out.below (HB0.out.trans (hB1.mono HB0.out.size))))
    rw [HCD.out, ← hL] at CN2
    have HL := hid hL
    clear hB1 CN1 hP1 hL
    go_wp2_with (first | (refine wpList_load_row rfl 28 _ rfl w.heap.size rfl 28 cd (0, 0) _ HR1.out Tryd.underlying28 rfl SDr.out ?_) | fail)
    refine CN2.out.mono ?_
    rintro e u2 (⟨hbad, rfl, hB2⟩ | ⟨L', g', bm', hL', _, _, rfl, hg', hbm', hP2, hB2⟩)
    case inl => exact absurd (by have := HL.out; omega) hbad
    obtain rfl : L' = L := by have := HL.out; omega
    have B02 := hid (B01.out.trans (hB2.mono B01.out.size))
    have HP1' := hid (HP1.out.below hB2)
    have HP2 := hid hP2
    have hWg := wdN_ge L' hL2
    have hWl := wdN_le L'
    obtain ⟨kk, hkk9, hkk⟩ := pow_ofS (wdN_pow L')
    obtain ⟨W, HWD⟩ : ∃ W, Hid (wdN L' = W) := ⟨_, rfl⟩
    have HKK := hid hkk
    rw [HWD.out] at HP1 HP1' HP2 hWg hWl HKK
    obtain ⟨hW5, hW1⟩ := hWl
    have hgl := HP1.out.lt
    have hbl := HP1.out.2.lt
    have hsz01 := B01.out.size
    obtain ⟨K0, HK0⟩ : ∃ K, Hid (newF L' W root = K) := ⟨_, rfl⟩
    have HRT : Hid (K0 1 = some root) := by rw [← HK0.out]; exact new_root _ _ _
    rw [HK0.out] at HP1' HP2
    clear hB2 CN2 hP2 HP1 HR1 hkk
    subst hL'
    have hin : ¬ (L' : Int) < 1 := by omega
    by_cases hbig : 40 < m0
    case neg =>
      have hbigi : ¬ (40 : Int) < (m0 : Int) := by omega
      go_wp2
      go_loopw [75] (fun i wr => ∃ (q : Nat) (Kq : Kn), q ≤ m0 ∧ i = .int .i64 q ∧ Hid (HPf wr g bm L' W Kq) ∧ Hid (HPf wr g' bm' L' W K0) ∧ Hid (Sub K0 Kq) ∧ Hid (Snd W K0 Kq) ∧ Hid (Below W0.heap.size W0 wr)) (fun i _ => m0 - (intOf i).toNat)
      case atStart => exact ⟨0, K0, Nat.zero_le _, rfl, HP1', HP2, Sub.refl _, snd_fresh _ _, B02⟩
      case round =>
        clear HP1' HP2 B02
        obtain ⟨q, Kq, hq, rfl, HP, HQ, HSB, HSN, HBel⟩ := hrel
        by_cases hlt : q < m0
        case neg =>
          have hlti : ¬ (q : Int) < m0 := by omega
          have CS := hid (lsound_ok wr g bm g' bm' L' W Kq K0 HP.out HQ.out hW5 hW1 HSN.out)
          go_wp2_with fail
          refine CS.out.mono ?_
          rintro e v1 ⟨rfl, hB1⟩
          have HPv := hid (HP.out.below hB1)
          have BLv := hid (HBel.out.trans (hB1.mono HBel.out.size))
          have CA := hid (pawake_any v1 (HKC.out.below (HB0.out.trans (BLv.out.mono HB0.out.size))))
          clear hB1 CS
          go_wp2_with fail
          refine CA.out.mono ?_
          rintro e v2 ⟨rfl, hB2⟩
          have HPv2 := hid (HPv.out.below hB2)
          have BLv2 := hid (BLv.out.trans (hB2.mono BLv.out.size))
          clear hB2 CA
          have HK1 : Hid (Kq 1 = some root) := HSB.out _ _ HRT.out
          go_wp2
          go_loopw [24] (fun i wr => ∃ (x : Nat), x ≤ L' ∧ i = .int .i64 x ∧ Hid (HPf wr g bm L' W Kq) ∧ Hid (Below W0.heap.size W0 wr)) (fun i _ => L' - (intOf i).toNat)
          case atStart => exact ⟨0, Nat.zero_le _, rfl, HPv2, BLv2⟩
          case round =>
            clear HPv2 BLv2 HPv BLv
            obtain ⟨x, hx, rfl, HPx, HBx⟩ := hrel
            by_cases hxl : x < L'
            case neg =>
              have hxi : ¬ (x : Int) < (L' : Int) := by omega
              go_wp2
              go_ret
              exact ⟨rfl, HB0.out.trans (HBx.out.mono HB0.out.size)⟩
            case pos =>
              have hxi : (x : Int) < (L' : Int) := by omega
              have CK := hid (lf_any wr g bm L' W Kq HPx.out hW5 hWg (x : Int))
              have hlA : lfAt Kq L' W (x : Int) = kAt Kq ((W + x : Nat) : Int) := by unfold lfAt; rw [if_pos (by omega), show (W : Int) + (x : Int) = ((W + x : Nat) : Int) by omega]
              have hlI : lfIs Kq L' W (x : Int) = (Kq (W + x)).isSome := by unfold lfIs; rw [if_pos (by omega), show (W : Int) + (x : Int) = ((W + x : Nat) : Int) by omega, kIs_nat]
              have yD : Hid (D32 (kAt Kq ((W + x : Nat) : Int))) := kAt_D HPx.out.2 _
              rw [hlA, hlI] at CK
              clear hlA hlI
              obtain ⟨y, HY⟩ : ∃ y, Hid (kAt Kq ((W + x : Nat) : Int) = y) := ⟨_, rfl⟩
              rw [HY.out] at CK yD
              obtain ⟨cy, HCY⟩ : ∃ c, Hid (cellsB y = c) := ⟨_, rfl⟩
              rw [HCY.out] at CK
              have hcs : cy.size = 32 := by rw [← HCY.out, cellsB_size, yD.out.1]
              have SDy : Hid ((Tryd.prog.info? 28).map (·.size) = some cy.size) := by rw [hcs]; exact size_digest
              have Oy : Hid (cy.all (·.oneCell') = true) := by rw [← HCY.out]; exact cellsB_one _
              have ZCy : Hid (zd.size = cy.size) := by refine hid ?_; rw [HZS.out, hcs]
              clear hcs
              obtain ⟨zk, HZK⟩ : ∃ z, Hid ((Kq (W + x)).isSome = z) := ⟨_, rfl⟩
              rw [HZK.out] at CK
              go_wp2_with fail
              refine CK.out.mono ?_
              rintro e v3 ⟨rfl, hB3⟩
              obtain ⟨V3, hV3⟩ : ∃ V, Hid (v3.alloc (.cells cy 28) = V) := ⟨_, rfl⟩
              have BB3 : Hid (Below wr.heap.size wr V3) := by rw [← hV3.out]; exact hB3.alloc hB3.size _
              have HRy : Hid (V3.heap[v3.heap.size]? = some (.cells cy 28 (0, 0))) := by rw [← hV3.out]; exact heap_alloc_new v3 _
              have HP3 := hid (HPx.out.below BB3.out)
              have BL3 := hid (HBx.out.trans (BB3.out.mono HBx.out.size))
              have CC := hid (pch_ok V3 g bm L' kk Kq (by rw [HWD.out]; exact HP3.out) hL1 hL2 (by rw [HWD.out]; exact HKK.out) hkk9 x hxl)
              rw [HWD.out] at CC
              clear hB3 CK
              go_wp2_with (first | (refine wpList_alloc_digest rfl rfl ?_; rw [HZD.out]) | (refine wpList_store_row rfl 28 _ _ rfl v3.heap.size cy rfl rfl 28 zd (heap_alloc_new v3 _) SDy.out ZCy.out Oy.out ?_; rw [setRow_alloc_new', hV3.out]) | fail)
              refine CC.out.mono ?_
              rintro e v4 (⟨hno, rfl, hB4⟩ | ⟨hyes, vc, rfl, hvc, hB4⟩)
              · have HP5 := hid (HP3.out.below hB4)
                have BL5 := hid (BL3.out.trans (hB4.mono BL3.out.size))
                have hzk : zk = false := by rw [← HZK.out, hno]; rfl
                subst hzk
                clear hB4 CC hno
                go_wp2
                exact ⟨⟨x + 1, by omega, by go_num, HP5, BL5⟩, by simp [intOf]; omega⟩
              · have HP5 := hid (HP3.out.below hB4)
                have BL5 := hid (BL3.out.trans (hB4.mono BL3.out.size))
                obtain rfl : zk = true := by rw [← HZK.out]; exact hyes
                obtain ⟨dd, hdd⟩ := Option.isSome_iff_exists.1 hyes
                have hyd : y = dd := by rw [← HY.out]; exact kAt_some hdd rfl
                subst hyd
                have HRy5 : Hid (v4.heap[v3.heap.size]? = some (.cells cy 28 (0, 0))) := (hB4.block _ (Array.getElem?_eq_some_iff.1 HRy.out).1).trans HRy.out
                have HRr5 : Hid (v4.heap[w.heap.size]? = some (.cells cd 28 (0, 0))) := (BL5.out.block _ (Array.getElem?_eq_some_iff.1 HR0.out).1).trans HR0.out
                have hway := way_root (root := root) HKK.out hWg hxl (by rw [HK0.out]; exact HSN.out) HK1.out hdd
                have CL := hid (lclimbs_ok v4 L' x kk y root vc _ yD.out HD.out hvc hL1 hL2 hxl (by rw [HWD.out]; exact HKK.out) hkk9 (by rw [chN_length, chL_length]) (by rw [HWD.out]; exact hway))
                rw [HCY.out, HCD.out] at CL
                clear hB4 CC hyes hdd hvc hway
                go_wp2_with (first | (refine wpList_load_row_on rfl 28 _ rfl v3.heap.size rfl 28 cy (0, 0) _ HRy5.out Tryd.underlying28 rfl SDy.out ?_) | (refine wpList_load_row_on rfl 28 _ rfl w.heap.size rfl 28 cd (0, 0) _ HRr5.out Tryd.underlying28 rfl SDr.out ?_) | fail)
                refine CL.out.mono ?_
                rintro e v6 ⟨rfl, hB6⟩
                have HP6 := hid (HP5.out.below hB6)
                have BL6 := hid (BL5.out.trans (hB6.mono BL5.out.size))
                clear hB6 CL
                go_wp2
                exact ⟨⟨x + 1, by omega, by go_num, HP6, BL6⟩, by simp [intOf]; omega⟩
        case pos =>
          have hlti : (q : Int) < m0 := by omega
          have hne : ls ≠ [] := fun e => by have := HM0.out; rw [e] at this; simp at this; omega
          obtain ⟨bL, oL, rfl, hcells⟩ := HV.out hne
          obtain ⟨uq, hcu, hnq⟩ := hcells q (by rw [HM0.out]; omega)
          have BLw : Hid (Below w.heap.size w wr) := HB0.out.trans (HBel.out.mono HB0.out.size)
          have hcw : wr.cell? ⟨bL, oL + q, none⟩ = some uq := (BLw.out.cell (World.block_lt_of_cell? w _ hcu)).trans hcu
          clear hne hcu
          generalize ls.getD q [] = l at hnq
          have HNQ := hid hnq
          obtain ⟨pq, cq, eq1, hcq1, hcq2, hnq4⟩ := hnq.open
          unfold maxLen at hcq2
          have NDq := hid hnq.get
          have HNV := hid hnq4
          obtain ⟨ml, HML⟩ : ∃ m, Hid (l.length = m) := ⟨_, rfl⟩
          rw [HML.out] at eq1 hcq1
          subst eq1
          have CCl := hid (clo_any wr g bm L' W Kq HP.out)
          clear hnq hnq4
          go_wp2_with fail
          refine CCl.out.mono ?_
          rintro e v1 ⟨g2, b2, rfl, hg2, hb2, hPo, hB1⟩
          have HPO := hid hPo
          have HPp := hid (HP.out.below hB1)
          have HQp := hid (HQ.out.below hB1)
          have BL1 := hid (HBel.out.trans (hB1.mono HBel.out.size))
          have BL1w := hid (HB0.out.trans (BL1.out.mono HB0.out.size))
          have hbw := HP.out.2.lt
          have CP := hid (put_any v1 g bm L' W Kq _ l HPp.out hW5 hW1 (HNQ.out.below BL1w.out) (HKC.out.below BL1w.out))
          clear hB1 CCl hPo
          go_wp2_with fail
          refine CP.out.mono ?_
          rintro e v2 ⟨rfl, hP2, hG2⟩
          have HP2 := hid hP2
          have HQ2 : Hid (HPf v2 g' bm' L' W K0) := HQp.out.of (hG2.block g' HQp.out.lt (fun e => by cases e; omega)) (hG2.block bm' HQp.out.2.lt (fun e => by cases e; omega))
          have HO2 : Hid (HPf v2 g2 b2 L' W Kq) := HPO.out.of (hG2.block g2 HPO.out.lt (fun e => by cases e; omega)) (hG2.block b2 HPO.out.2.lt (fun e => by cases e; omega))
          have BL2 := hid (BL1.out.trans (pgrown_below hG2 hbm BL1.out.size))
          have FSUB := hid (put_sub W Kq l)
          have FREF : Hid ((putF W Kq l).1 ≠ 0 → (putF W Kq l).2 = Kq) := fun h => put_refused h
          have FHAS : Hid ((putF W Kq l).1 = 0 → ∀ n ∈ l, 1 ≤ n.1 ∧ n.1 < 2 * W ∧ (putF W Kq l).2 n.1.toNat = some n.2) := fun h => put_has h
          have FSND : Hid (Snd W K0 (putF W Kq l).2) := put_sound hW1 HSB.out (by rw [HSB.out _ _ HRT.out]; rfl) HSN.out
          have FS0 := hid (HSB.out.trans FSUB.out)
          clear hP2 hG2 CP HPp HQp HPO hg2 hb2 hbw
          generalize (putF W Kq l).2 = K2 at HP2 FSUB FREF FHAS FSND FS0
          generalize (putF W Kq l).1 = er at FREF FHAS
          go_wp2
          go_loopw [15] (fun i wr => ∃ k : Nat, 1 ≤ k ∧ k ≤ 2 * W ∧ i = .int .i64 k ∧ Hid (HPf wr g bm L' W K2) ∧ Hid (HPf wr g' bm' L' W K0) ∧ Hid (HPf wr g2 b2 L' W Kq) ∧ Hid (Below W0.heap.size W0 wr)) (fun i _ => 2 * W - (intOf i).toNat)
          case atStart => exact ⟨1, Nat.le_refl _, by omega, rfl, HP2, HQ2, HO2, BL2⟩
          case round =>
            clear HP2 HQ2 HO2 BL2 HP HQ HBel BL1 BL1w hcw
            obtain ⟨k, hk1, hk2, rfl, HP, HQ, HO, HBel⟩ := hrel
            have CWd := hid (wi_any wr g bm L' W K2 HP.out)
            have ew : IntKind.i64.wrap (2 * (W : Int)) = 2 * (W : Int) := by rw [IntKind.wrap_i64]; omega
            go_wp2_with fail
            refine CWd.out.mono ?_
            rintro e wq ⟨rfl, hBq⟩
            have HPq := hid (HP.out.below hBq)
            have HQq := hid (HQ.out.below hBq)
            have HOq := hid (HO.out.below hBq)
            have BLq := hid (HBel.out.trans (hBq.mono HBel.out.size))
            clear hBq CWd HP HQ HO
            by_cases hkl : k < 2 * W
            case neg =>
              have hkl2 : ¬ (k : Int) < 2 * (W : Int) := by omega
              by_cases her : er = 0
              case neg =>
                have herb : (er == 0) = false := by simpa using her
                clear her
                go_wp2
                exact ⟨⟨q + 1, K2, by omega, by go_num, HPq, HQq, FS0, FSND, BLq⟩, by simp [intOf]; omega⟩
              case pos =>
                subst her
                have FH := hid (FHAS.out rfl)
                clear FHAS FREF
                go_wp2
                go_loopw [128] (fun i wr => ∃ j : Nat, j ≤ ml ∧ i = .int .i64 j ∧ Hid (HPf wr g bm L' W K2) ∧ Hid (HPf wr g' bm' L' W K0) ∧ Hid (Below W0.heap.size W0 wr)) (fun i _ => ml - (intOf i).toNat)
                case atStart => exact ⟨0, Nat.zero_le _, rfl, HPq, HQq, BLq⟩
                case round =>
                  clear HPq HQq BLq HOq
                  obtain ⟨j, hj, rfl, HPj, HQj, HBj⟩ := hrel
                  by_cases hjl : j < ml
                  case neg =>
                    have hjli : ¬ (j : Int) < (ml : Int) := by omega
                    go_wp2
                    exact ⟨⟨q + 1, K2, by omega, by go_num, HPj, HQj, FS0, FSND, HBj⟩, by simp [intOf]; omega⟩
                  case pos =>
                    have hjli : (j : Int) < (ml : Int) := by omega
                    obtain ⟨bn, off, rfl, hbn, hrg⟩ := HNV.out (by rw [HML.out]; omega)
                    have hnd := NDq.out j (by rw [HML.out]; exact hjl)
                    have HR := hid (hrg j (by rw [HML.out]; exact hjl))
                    have hmem : l.getD j (0, []) ∈ l := by
                      have hj2 : j < l.length := by rw [HML.out]; exact hjl
                      rw [show l.getD j (0, []) = l[j] by simp [List.getD, hj2]]
                      exact List.getElem_mem hj2
                    have hfh := FH.out _ hmem
                    clear hmem hrg
                    generalize l.getD j (0, []) = nd at hnd HR hfh
                    obtain ⟨a, dd⟩ := nd
                    simp only at hfh
                    obtain ⟨ha1, ha2, hka⟩ := hfh
                    have hat : a = ((a.toNat : Nat) : Int) := by omega
                    have hyk : kAt K2 a = dd := kAt_some hka hat
                    have hzk : kIs K2 a = true := kIs_fromS hka hat
                    have HAT := hid hat
                    have HA12 := hid (And.intro ha1 ha2)
                    clear hat hka ha1 ha2
                    have BLjw : Hid (Below w.heap.size w wr) := HB0.out.trans (HBj.out.mono HB0.out.size)
                    have HRw : Hid (wr.rangeAt bn (off + j * 33) (nc (a, dd))) := range_below HR.out BLjw.out hbn
                    obtain ⟨yn, HYN⟩ : ∃ y, Hid ((nc (a, dd)).toArray = y) := ⟨_, rfl⟩
                    have HNS : Hid ((Tryd.prog.info? 60).map (·.size) = some (nc (a, dd)).length) := size_nd hnd
                    have hys : yn.size = 33 := by rw [← HYN.out, List.size_toArray, nc_length hnd]
                    have HIy : Hid ((Tryd.prog.info? 60).map (·.size) = some yn.size) := by rw [hys]; exact size_node
                    have H1y : Hid (yn.all (·.oneCell') = true) := by rw [← HYN.out]; exact nc_one _
                    have HZY : Hid (zn.size = yn.size) := by rw [HZNS.out, hys]; exact rfl
                    obtain ⟨V1, hV1⟩ : ∃ W1, Hid (wr.alloc (.cells yn 60) = W1) := ⟨_, rfl⟩
                    have BBn : Hid (Below wr.heap.size wr V1) := by rw [← hV1.out]; exact (Below.refl _ wr).alloc (Nat.le_refl _) _
                    have hca : V1.cell? ⟨wr.heap.size, 0, none⟩ = some (.int .i64 a) := by rw [← hV1.out, cell_of_row _ wr.heap.size 0 _ _ _ (heap_alloc_new wr _), ← HYN.out]; rfl
                    have HX1 : Hid (V1.rangeAt wr.heap.size 1 (dc dd)) := fun j u hj => by
                      rw [← hV1.out, cell_of_row _ wr.heap.size (1 + j) _ _ _ (heap_alloc_new wr _), ← HYN.out, List.getElem?_toArray, Nat.add_comm 1 j]
                      exact hj
                    have hwl : wr.heap.size < V1.heap.size := by rw [← hV1.out]; simp
                    have HWL := hid hwl
                    have HPn := hid (HPj.out.below BBn.out)
                    have HQn := hid (HQj.out.below BBn.out)
                    have yD : Hid (D32 dd) := hnd.1
                    have hhd := hnd.2
                    have HSy := hid (size_dig yD.out)
                    have CK := hid (kn_any V1 g bm L' W K2 HPn.out a)
                    rw [hyk, hzk] at CK
                    obtain ⟨cy, HCY⟩ : ∃ c, Hid (cellsB dd = c) := ⟨_, rfl⟩
                    rw [HCY.out] at CK
                    have hcs : cy.size = 32 := by rw [← HCY.out, cellsB_size, yD.out.1]
                    have SDy : Hid ((Tryd.prog.info? 28).map (·.size) = some cy.size) := by rw [hcs]; exact size_digest
                    have Oy : Hid (cy.all (·.oneCell') = true) := by rw [← HCY.out]; exact cellsB_one _
                    have ZCy : Hid (zd.size = cy.size) := by refine hid ?_; rw [HZS.out, hcs]
                    have hqn := fun w => run_neq_bytes w 32 28 Tryd.underlying28 dd dd yD.out.1 yD.out.1
                    rw [HCY.out, decide_eq_true rfl] at hqn
                    simp only at hhd
                    clear hcs hyk hzk hys hnd hwl
                    go_wp2_with (first | (refine wpList_load_mid rfl 60 _ rfl bn (off + j * 33) rfl (nc (a, dd)) _ HRw.out Tryd.underlying60 rfl HNS.out ?_; rw [HYN.out]) | (refine wpList_alloc_zero HZ0.out rfl rfl ?_) | (refine wpList_store_row rfl 60 _ _ rfl wr.heap.size yn rfl rfl 60 zn (heap_alloc_new wr _) HIy.out HZY.out H1y.out ?_; rw [setRow_alloc_new', hV1.out]) | fail)
                    refine CK.out.mono ?_
                    rintro e v5 ⟨rfl, hB5⟩
                    obtain ⟨V5, hV5⟩ : ∃ V, Hid (v5.alloc (.cells cy 28) = V) := ⟨_, rfl⟩
                    have BB5 : Hid (Below V1.heap.size V1 V5) := by rw [← hV5.out]; exact hB5.alloc hB5.size _
                    have HRy : Hid (V5.heap[v5.heap.size]? = some (.cells cy 28 (0, 0))) := by rw [← hV5.out]; exact heap_alloc_new v5 _
                    have HX5 : Hid (V5.rangeAt wr.heap.size 1 (dc dd)) := range_below HX1.out BB5.out HWL.out
                    have HP5 := hid (HPn.out.below BB5.out)
                    have HQ5 := hid (HQn.out.below BB5.out)
                    have BL5 : Hid (Below W0.heap.size W0 V5) := (HBj.out.trans (BBn.out.mono HBj.out.size)).trans (BB5.out.mono (Nat.le_trans HBj.out.size BBn.out.size))
                    clear hB5 CK hca
                    go_wp2_with (first | (refine wpList_alloc_digest rfl rfl ?_; rw [HZD.out]) | (refine wpList_store_row rfl 28 _ _ rfl v5.heap.size cy rfl rfl 28 zd (heap_alloc_new v5 _) SDy.out ZCy.out Oy.out ?_; rw [setRow_alloc_new', hV5.out]) | (refine wpList_load_row_on rfl 28 _ rfl v5.heap.size rfl 28 cy (0, 0) _ HRy.out Tryd.underlying28 rfl SDy.out ?_) | (refine wpList_load_midS rfl 28 _ rfl wr.heap.size 1 rfl (dc dd) _ HX5.out Tryd.underlying28 rfl HSy.out ?_; rw [dc_arr, HCY.out]) | fail)
                    exact ⟨⟨j + 1, by omega, by go_num, HP5, HQ5, BL5⟩, by simp [intOf]; omega⟩
            case pos =>
              have hkl2 : (k : Int) < 2 * (W : Int) := by omega
              have CK1 := hid (kn_any wq g2 b2 L' W Kq HOq.out (k : Int))
              obtain ⟨y1, HY1⟩ : ∃ y, Hid (kAt Kq (k : Int) = y) := ⟨_, rfl⟩
              obtain ⟨z1, HZ1⟩ : ∃ z, Hid (kIs Kq (k : Int) = z) := ⟨_, rfl⟩
              have D1 : Hid (D32 y1) := by rw [← HY1.out]; exact kAt_D HOq.out.2 _
              obtain ⟨c1, HC1⟩ : ∃ c, Hid (cellsB y1 = c) := ⟨_, rfl⟩
              have hcs1 : c1.size = 32 := by rw [← HC1.out, cellsB_size, D1.out.1]
              have SD1 : Hid ((Tryd.prog.info? 28).map (·.size) = some c1.size) := by rw [hcs1]; exact size_digest
              have O1 : Hid (c1.all (·.oneCell') = true) := by rw [← HC1.out]; exact cellsB_one _
              have ZC1 : Hid (zd.size = c1.size) := by refine hid ?_; rw [HZS.out, hcs1]
              rw [HY1.out, HZ1.out, HC1.out] at CK1
              clear hcs1
              go_wp2_with fail
              refine CK1.out.mono ?_
              rintro e w1 ⟨rfl, hB1⟩
              clear CK1
              obtain ⟨V1, hV1⟩ : ∃ V, Hid (w1.alloc (.cells c1 28) = V) := ⟨_, rfl⟩
              have BB1 : Hid (Below wq.heap.size wq V1) := by rw [← hV1.out]; exact hB1.alloc hB1.size _
              have HR1_1 : Hid (V1.heap[w1.heap.size]? = some (.cells c1 28 (0, 0))) := by rw [← hV1.out]; exact heap_alloc_new w1 _
              clear hB1
              have HPa1 := hid (HPq.out.below BB1.out)
              have HQa1 := hid (HQq.out.below BB1.out)
              have HOa1 := hid (HOq.out.below BB1.out)
              have CK2 := hid (kn_any V1 g bm L' W K2 HPa1.out (k : Int))
              obtain ⟨y2, HY2⟩ : ∃ y, Hid (kAt K2 (k : Int) = y) := ⟨_, rfl⟩
              obtain ⟨z2, HZ2⟩ : ∃ z, Hid (kIs K2 (k : Int) = z) := ⟨_, rfl⟩
              have D2 : Hid (D32 y2) := by rw [← HY2.out]; exact kAt_D HPa1.out.2 _
              obtain ⟨c2, HC2⟩ : ∃ c, Hid (cellsB y2 = c) := ⟨_, rfl⟩
              have hcs2 : c2.size = 32 := by rw [← HC2.out, cellsB_size, D2.out.1]
              have SD2 : Hid ((Tryd.prog.info? 28).map (·.size) = some c2.size) := by rw [hcs2]; exact size_digest
              have O2 : Hid (c2.all (·.oneCell') = true) := by rw [← HC2.out]; exact cellsB_one _
              have ZC2 : Hid (zd.size = c2.size) := by refine hid ?_; rw [HZS.out, hcs2]
              rw [HY2.out, HZ2.out, HC2.out] at CK2
              clear hcs2
              go_wp2_with (first | (refine wpList_alloc_digest rfl rfl ?_; rw [HZD.out]) | (refine wpList_store_row rfl 28 _ _ rfl w1.heap.size c1 rfl rfl 28 zd (heap_alloc_new w1 _) SD1.out ZC1.out O1.out ?_; rw [setRow_alloc_new', hV1.out]) | fail)
              refine CK2.out.mono ?_
              rintro e w2 ⟨rfl, hB2⟩
              clear CK2
              obtain ⟨V2, hV2⟩ : ∃ V, Hid (w2.alloc (.cells c2 28) = V) := ⟨_, rfl⟩
              have BB2 : Hid (Below V1.heap.size V1 V2) := by rw [← hV2.out]; exact hB2.alloc hB2.size _
              have HR2_2 : Hid (V2.heap[w2.heap.size]? = some (.cells c2 28 (0, 0))) := by rw [← hV2.out]; exact heap_alloc_new w2 _
              clear hB2
              have HR1_2 : Hid (V2.heap[w1.heap.size]? = some (.cells c1 28 (0, 0))) := (BB2.out.block _ (Array.getElem?_eq_some_iff.1 HR1_1.out).1).trans HR1_1.out
              have HPa2 := hid (HPa1.out.below BB2.out)
              have HQa2 := hid (HQa1.out.below BB2.out)
              have HOa2 := hid (HOa1.out.below BB2.out)
              have BLV : Hid (Below W0.heap.size W0 V2) := (BLq.out.trans (BB1.out.mono BLq.out.size)).trans (BB2.out.mono (Nat.le_trans BLq.out.size BB1.out.size))
              have ewk : IntKind.i64.wrap ((k : Int) + 1) = (k : Int) + 1 := by rw [IntKind.wrap_i64]; omega
              have hfour : (z1 = true ∧ z2 = true ∧ y2 = y1 ∧ er = 0) ∨ (z1 = true ∧ z2 = true ∧ y2 = y1 ∧ er ≠ 0) ∨ (z1 = false ∧ er = 0) ∨ (z1 = false ∧ z2 = false ∧ er ≠ 0) := by
                have a1 := HZ1.out
                have a2 := HZ2.out
                rw [kIs_nat] at a1 a2
                by_cases her : er = 0
                · cases z1 with
                  | false => exact Or.inr (Or.inr (Or.inl ⟨rfl, her⟩))
                  | true =>
                    obtain ⟨d, hd⟩ := Option.isSome_iff_exists.1 a1
                    have hd2 := FSUB.out _ _ hd
                    rw [hd2] at a2
                    exact Or.inl ⟨rfl, a2.symm, by rw [← HY2.out, ← HY1.out, kAt_some hd rfl, kAt_some hd2 rfl], her⟩
                · have hKK := FREF.out her
                  rw [hKK] at a2
                  cases z1 with
                  | false => exact Or.inr (Or.inr (Or.inr ⟨rfl, by rw [← a2, a1], her⟩))
                  | true => exact Or.inr (Or.inl ⟨rfl, by rw [← a2, a1], by rw [← HY2.out, ← HY1.out, hKK], her⟩)
              have hq := fun w => run_neq_bytes w 32 28 Tryd.underlying28 y2 y1 D2.out.1 D1.out.1
              rw [HC1.out, HC2.out] at hq
              rcases hfour with ⟨rfl, rfl, he, rfl⟩ | ⟨rfl, rfl, he, her⟩ | ⟨rfl, rfl⟩ | ⟨rfl, rfl, her⟩
              · rw [decide_eq_true he] at hq
                clear he
                go_wp2_with (first | (refine wpList_alloc_digest rfl rfl ?_; rw [HZD.out]) | (refine wpList_store_row rfl 28 _ _ rfl w2.heap.size c2 rfl rfl 28 zd (heap_alloc_new w2 _) SD2.out ZC2.out O2.out ?_; rw [setRow_alloc_new', hV2.out]) | (refine wpList_load_row_on rfl 28 _ rfl w1.heap.size rfl 28 c1 (0, 0) _ HR1_2.out Tryd.underlying28 rfl SD1.out ?_) | (refine wpList_load_row_on rfl 28 _ rfl w2.heap.size rfl 28 c2 (0, 0) _ HR2_2.out Tryd.underlying28 rfl SD2.out ?_) | fail)
                exact ⟨⟨k + 1, by omega, by omega, by go_num, HPa2, HQa2, HOa2, BLV⟩, by simp [intOf]; omega⟩
              · rw [decide_eq_true he] at hq
                have herb : (er != 0) = true := by simpa using her
                clear he her
                go_wp2_with (first | (refine wpList_alloc_digest rfl rfl ?_; rw [HZD.out]) | (refine wpList_store_row rfl 28 _ _ rfl w2.heap.size c2 rfl rfl 28 zd (heap_alloc_new w2 _) SD2.out ZC2.out O2.out ?_; rw [setRow_alloc_new', hV2.out]) | (refine wpList_load_row_on rfl 28 _ rfl w1.heap.size rfl 28 c1 (0, 0) _ HR1_2.out Tryd.underlying28 rfl SD1.out ?_) | (refine wpList_load_row_on rfl 28 _ rfl w2.heap.size rfl 28 c2 (0, 0) _ HR2_2.out Tryd.underlying28 rfl SD2.out ?_) | fail)
                exact ⟨⟨k + 1, by omega, by omega, by go_num, HPa2, HQa2, HOa2, BLV⟩, by simp [intOf]; omega⟩
              · clear hq
                go_wp2_with (first | (refine wpList_alloc_digest rfl rfl ?_; rw [HZD.out]) | (refine wpList_store_row rfl 28 _ _ rfl w2.heap.size c2 rfl rfl 28 zd (heap_alloc_new w2 _) SD2.out ZC2.out O2.out ?_; rw [setRow_alloc_new', hV2.out]) | (refine wpList_load_row_on rfl 28 _ rfl w1.heap.size rfl 28 c1 (0, 0) _ HR1_2.out Tryd.underlying28 rfl SD1.out ?_) | (refine wpList_load_row_on rfl 28 _ rfl w2.heap.size rfl 28 c2 (0, 0) _ HR2_2.out Tryd.underlying28 rfl SD2.out ?_) | fail)
                exact ⟨⟨k + 1, by omega, by omega, by go_num, HPa2, HQa2, HOa2, BLV⟩, by simp [intOf]; omega⟩
              · clear hq
                have herb : (er != 0) = true := by simpa using her
                clear her
                go_wp2_with (first | (refine wpList_alloc_digest rfl rfl ?_; rw [HZD.out]) | (refine wpList_store_row rfl 28 _ _ rfl w2.heap.size c2 rfl rfl 28 zd (heap_alloc_new w2 _) SD2.out ZC2.out O2.out ?_; rw [setRow_alloc_new', hV2.out]) | (refine wpList_load_row_on rfl 28 _ rfl w1.heap.size rfl 28 c1 (0, 0) _ HR1_2.out Tryd.underlying28 rfl SD1.out ?_) | (refine wpList_load_row_on rfl 28 _ rfl w2.heap.size rfl 28 c2 (0, 0) _ HR2_2.out Tryd.underlying28 rfl SD2.out ?_) | fail)
                exact ⟨⟨k + 1, by omega, by omega, by go_num, HPa2, HQa2, HOa2, BLV⟩, by simp [intOf]; omega⟩
    case pos =>
      have hbigi : (40 : Int) < (m0 : Int) := by omega
      have hneB : ls ≠ [] := fun e => by have := HM0.out; rw [e] at this; simp at this; omega
      obtain ⟨bL, oL, rfl, hcellsB⟩ := HV.out hneB
      have HVB := hid hcellsB
      clear hcellsB hneB
      go_wp2
      go_loopw [75] (fun i wr => ∃ (q : Nat) (Kq : Kn), q ≤ 40 ∧ i = .int .i64 q ∧ Hid (HPf wr g bm L' W Kq) ∧ Hid (HPf wr g' bm' L' W K0) ∧ Hid (Sub K0 Kq) ∧ Hid (Snd W K0 Kq) ∧ Hid (Below W0.heap.size W0 wr)) (fun i _ => 40 - (intOf i).toNat)
      case atStart => exact ⟨0, K0, Nat.zero_le _, rfl, HP1', HP2, Sub.refl _, snd_fresh _ _, B02⟩
      case round =>
        clear HP1' HP2 B02
        obtain ⟨q, Kq, hq, rfl, HP, HQ, HSB, HSN, HBel⟩ := hrel
        by_cases hlt : q < 40
        case neg =>
          have hlti : ¬ (q : Int) < 40 := by omega
          have CS := hid (lsound_ok wr g bm g' bm' L' W Kq K0 HP.out HQ.out hW5 hW1 HSN.out)
          go_wp2_with fail
          refine CS.out.mono ?_
          rintro e v1 ⟨rfl, hB1⟩
          have HPv := hid (HP.out.below hB1)
          have BLv := hid (HBel.out.trans (hB1.mono HBel.out.size))
          have CA := hid (pawake_any v1 (HKC.out.below (HB0.out.trans (BLv.out.mono HB0.out.size))))
          clear hB1 CS
          go_wp2_with fail
          refine CA.out.mono ?_
          rintro e v2 ⟨rfl, hB2⟩
          have HPv2 := hid (HPv.out.below hB2)
          have BLv2 := hid (BLv.out.trans (hB2.mono BLv.out.size))
          clear hB2 CA
          have HK1 : Hid (Kq 1 = some root) := HSB.out _ _ HRT.out
          go_wp2
          go_loopw [24] (fun i wr => ∃ (x : Nat), x ≤ L' ∧ i = .int .i64 x ∧ Hid (HPf wr g bm L' W Kq) ∧ Hid (Below W0.heap.size W0 wr)) (fun i _ => L' - (intOf i).toNat)
          case atStart => exact ⟨0, Nat.zero_le _, rfl, HPv2, BLv2⟩
          case round =>
            clear HPv2 BLv2 HPv BLv
            obtain ⟨x, hx, rfl, HPx, HBx⟩ := hrel
            by_cases hxl : x < L'
            case neg =>
              have hxi : ¬ (x : Int) < (L' : Int) := by omega
              go_wp2
              go_ret
              exact ⟨rfl, HB0.out.trans (HBx.out.mono HB0.out.size)⟩
            case pos =>
              have hxi : (x : Int) < (L' : Int) := by omega
              have CK := hid (lf_any wr g bm L' W Kq HPx.out hW5 hWg (x : Int))
              have hlA : lfAt Kq L' W (x : Int) = kAt Kq ((W + x : Nat) : Int) := by unfold lfAt; rw [if_pos (by omega), show (W : Int) + (x : Int) = ((W + x : Nat) : Int) by omega]
              have hlI : lfIs Kq L' W (x : Int) = (Kq (W + x)).isSome := by unfold lfIs; rw [if_pos (by omega), show (W : Int) + (x : Int) = ((W + x : Nat) : Int) by omega, kIs_nat]
              have yD : Hid (D32 (kAt Kq ((W + x : Nat) : Int))) := kAt_D HPx.out.2 _
              rw [hlA, hlI] at CK
              clear hlA hlI
              obtain ⟨y, HY⟩ : ∃ y, Hid (kAt Kq ((W + x : Nat) : Int) = y) := ⟨_, rfl⟩
              rw [HY.out] at CK yD
              obtain ⟨cy, HCY⟩ : ∃ c, Hid (cellsB y = c) := ⟨_, rfl⟩
              rw [HCY.out] at CK
              have hcs : cy.size = 32 := by rw [← HCY.out, cellsB_size, yD.out.1]
              have SDy : Hid ((Tryd.prog.info? 28).map (·.size) = some cy.size) := by rw [hcs]; exact size_digest
              have Oy : Hid (cy.all (·.oneCell') = true) := by rw [← HCY.out]; exact cellsB_one _
              have ZCy : Hid (zd.size = cy.size) := by refine hid ?_; rw [HZS.out, hcs]
              clear hcs
              obtain ⟨zk, HZK⟩ : ∃ z, Hid ((Kq (W + x)).isSome = z) := ⟨_, rfl⟩
              rw [HZK.out] at CK
              go_wp2_with fail
              refine CK.out.mono ?_
              rintro e v3 ⟨rfl, hB3⟩
              obtain ⟨V3, hV3⟩ : ∃ V, Hid (v3.alloc (.cells cy 28) = V) := ⟨_, rfl⟩
              have BB3 : Hid (Below wr.heap.size wr V3) := by rw [← hV3.out]; exact hB3.alloc hB3.size _
              have HRy : Hid (V3.heap[v3.heap.size]? = some (.cells cy 28 (0, 0))) := by rw [← hV3.out]; exact heap_alloc_new v3 _
              have HP3 := hid (HPx.out.below BB3.out)
              have BL3 := hid (HBx.out.trans (BB3.out.mono HBx.out.size))
              have CC := hid (pch_ok V3 g bm L' kk Kq (by rw [HWD.out]; exact HP3.out) hL1 hL2 (by rw [HWD.out]; exact HKK.out) hkk9 x hxl)
              rw [HWD.out] at CC
              clear hB3 CK
              go_wp2_with (first | (refine wpList_alloc_digest rfl rfl ?_; rw [HZD.out]) | (refine wpList_store_row rfl 28 _ _ rfl v3.heap.size cy rfl rfl 28 zd (heap_alloc_new v3 _) SDy.out ZCy.out Oy.out ?_; rw [setRow_alloc_new', hV3.out]) | fail)
              refine CC.out.mono ?_
              rintro e v4 (⟨hno, rfl, hB4⟩ | ⟨hyes, vc, rfl, hvc, hB4⟩)
              · have HP5 := hid (HP3.out.below hB4)
                have BL5 := hid (BL3.out.trans (hB4.mono BL3.out.size))
                have hzk : zk = false := by rw [← HZK.out, hno]; rfl
                subst hzk
                clear hB4 CC hno
                go_wp2
                exact ⟨⟨x + 1, by omega, by go_num, HP5, BL5⟩, by simp [intOf]; omega⟩
              · have HP5 := hid (HP3.out.below hB4)
                have BL5 := hid (BL3.out.trans (hB4.mono BL3.out.size))
                obtain rfl : zk = true := by rw [← HZK.out]; exact hyes
                obtain ⟨dd, hdd⟩ := Option.isSome_iff_exists.1 hyes
                have hyd : y = dd := by rw [← HY.out]; exact kAt_some hdd rfl
                subst hyd
                have HRy5 : Hid (v4.heap[v3.heap.size]? = some (.cells cy 28 (0, 0))) := (hB4.block _ (Array.getElem?_eq_some_iff.1 HRy.out).1).trans HRy.out
                have HRr5 : Hid (v4.heap[w.heap.size]? = some (.cells cd 28 (0, 0))) := (BL5.out.block _ (Array.getElem?_eq_some_iff.1 HR0.out).1).trans HR0.out
                have hway := way_root (root := root) HKK.out hWg hxl (by rw [HK0.out]; exact HSN.out) HK1.out hdd
                have CL := hid (lclimbs_ok v4 L' x kk y root vc _ yD.out HD.out hvc hL1 hL2 hxl (by rw [HWD.out]; exact HKK.out) hkk9 (by rw [chN_length, chL_length]) (by rw [HWD.out]; exact hway))
                rw [HCY.out, HCD.out] at CL
                clear hB4 CC hyes hdd hvc hway
                go_wp2_with (first | (refine wpList_load_row_on rfl 28 _ rfl v3.heap.size rfl 28 cy (0, 0) _ HRy5.out Tryd.underlying28 rfl SDy.out ?_) | (refine wpList_load_row_on rfl 28 _ rfl w.heap.size rfl 28 cd (0, 0) _ HRr5.out Tryd.underlying28 rfl SDr.out ?_) | fail)
                refine CL.out.mono ?_
                rintro e v6 ⟨rfl, hB6⟩
                have HP6 := hid (HP5.out.below hB6)
                have BL6 := hid (BL5.out.trans (hB6.mono BL5.out.size))
                clear hB6 CL
                go_wp2
                exact ⟨⟨x + 1, by omega, by go_num, HP6, BL6⟩, by simp [intOf]; omega⟩
        case pos =>
          have hlti : (q : Int) < 40 := by omega
          have hne : ls ≠ [] := fun e => by have := HM0.out; rw [e] at this; simp at this; omega
          obtain ⟨uq, hcu, hnq⟩ := HVB.out q (by rw [HM0.out]; omega)
          have BLw : Hid (Below w.heap.size w wr) := HB0.out.trans (HBel.out.mono HB0.out.size)
          have hcw : wr.cell? ⟨bL, oL + q, none⟩ = some uq := (BLw.out.cell (World.block_lt_of_cell? w _ hcu)).trans hcu
          clear hne hcu
          generalize ls.getD q [] = l at hnq
          have HNQ := hid hnq
          obtain ⟨pq, cq, eq1, hcq1, hcq2, hnq4⟩ := hnq.open
          unfold maxLen at hcq2
          have NDq := hid hnq.get
          have HNV := hid hnq4
          obtain ⟨ml, HML⟩ : ∃ m, Hid (l.length = m) := ⟨_, rfl⟩
          rw [HML.out] at eq1 hcq1
          subst eq1
          have CCl := hid (clo_any wr g bm L' W Kq HP.out)
          clear hnq hnq4
          go_wp2_with fail
          refine CCl.out.mono ?_
          rintro e v1 ⟨g2, b2, rfl, hg2, hb2, hPo, hB1⟩
          have HPO := hid hPo
          have HPp := hid (HP.out.below hB1)
          have HQp := hid (HQ.out.below hB1)
          have BL1 := hid (HBel.out.trans (hB1.mono HBel.out.size))
          have BL1w := hid (HB0.out.trans (BL1.out.mono HB0.out.size))
          have hbw := HP.out.2.lt
          have CP := hid (put_any v1 g bm L' W Kq _ l HPp.out hW5 hW1 (HNQ.out.below BL1w.out) (HKC.out.below BL1w.out))
          clear hB1 CCl hPo
          go_wp2_with fail
          refine CP.out.mono ?_
          rintro e v2 ⟨rfl, hP2, hG2⟩
          have HP2 := hid hP2
          have HQ2 : Hid (HPf v2 g' bm' L' W K0) := HQp.out.of (hG2.block g' HQp.out.lt (fun e => by cases e; omega)) (hG2.block bm' HQp.out.2.lt (fun e => by cases e; omega))
          have HO2 : Hid (HPf v2 g2 b2 L' W Kq) := HPO.out.of (hG2.block g2 HPO.out.lt (fun e => by cases e; omega)) (hG2.block b2 HPO.out.2.lt (fun e => by cases e; omega))
          have BL2 := hid (BL1.out.trans (pgrown_below hG2 hbm BL1.out.size))
          have FSUB := hid (put_sub W Kq l)
          have FREF : Hid ((putF W Kq l).1 ≠ 0 → (putF W Kq l).2 = Kq) := fun h => put_refused h
          have FHAS : Hid ((putF W Kq l).1 = 0 → ∀ n ∈ l, 1 ≤ n.1 ∧ n.1 < 2 * W ∧ (putF W Kq l).2 n.1.toNat = some n.2) := fun h => put_has h
          have FSND : Hid (Snd W K0 (putF W Kq l).2) := put_sound hW1 HSB.out (by rw [HSB.out _ _ HRT.out]; rfl) HSN.out
          have FS0 := hid (HSB.out.trans FSUB.out)
          clear hP2 hG2 CP HPp HQp HPO hg2 hb2 hbw
          generalize (putF W Kq l).2 = K2 at HP2 FSUB FREF FHAS FSND FS0
          generalize (putF W Kq l).1 = er at FREF FHAS
          go_wp2
          go_loopw [15] (fun i wr => ∃ k : Nat, 1 ≤ k ∧ k ≤ 2 * W ∧ i = .int .i64 k ∧ Hid (HPf wr g bm L' W K2) ∧ Hid (HPf wr g' bm' L' W K0) ∧ Hid (HPf wr g2 b2 L' W Kq) ∧ Hid (Below W0.heap.size W0 wr)) (fun i _ => 2 * W - (intOf i).toNat)
          case atStart => exact ⟨1, Nat.le_refl _, by omega, rfl, HP2, HQ2, HO2, BL2⟩
          case round =>
            clear HP2 HQ2 HO2 BL2 HP HQ HBel BL1 BL1w hcw
            obtain ⟨k, hk1, hk2, rfl, HP, HQ, HO, HBel⟩ := hrel
            have CWd := hid (wi_any wr g bm L' W K2 HP.out)
            have ew : IntKind.i64.wrap (2 * (W : Int)) = 2 * (W : Int) := by rw [IntKind.wrap_i64]; omega
            go_wp2_with fail
            refine CWd.out.mono ?_
            rintro e wq ⟨rfl, hBq⟩
            have HPq := hid (HP.out.below hBq)
            have HQq := hid (HQ.out.below hBq)
            have HOq := hid (HO.out.below hBq)
            have BLq := hid (HBel.out.trans (hBq.mono HBel.out.size))
            clear hBq CWd HP HQ HO
            by_cases hkl : k < 2 * W
            case neg =>
              have hkl2 : ¬ (k : Int) < 2 * (W : Int) := by omega
              by_cases her : er = 0
              case neg =>
                have herb : (er == 0) = false := by simpa using her
                clear her
                go_wp2
                exact ⟨⟨q + 1, K2, by omega, by go_num, HPq, HQq, FS0, FSND, BLq⟩, by simp [intOf]; omega⟩
              case pos =>
                subst her
                have FH := hid (FHAS.out rfl)
                clear FHAS FREF
                go_wp2
                go_loopw [128] (fun i wr => ∃ j : Nat, j ≤ ml ∧ i = .int .i64 j ∧ Hid (HPf wr g bm L' W K2) ∧ Hid (HPf wr g' bm' L' W K0) ∧ Hid (Below W0.heap.size W0 wr)) (fun i _ => ml - (intOf i).toNat)
                case atStart => exact ⟨0, Nat.zero_le _, rfl, HPq, HQq, BLq⟩
                case round =>
                  clear HPq HQq BLq HOq
                  obtain ⟨j, hj, rfl, HPj, HQj, HBj⟩ := hrel
                  by_cases hjl : j < ml
                  case neg =>
                    have hjli : ¬ (j : Int) < (ml : Int) := by omega
                    go_wp2
                    exact ⟨⟨q + 1, K2, by omega, by go_num, HPj, HQj, FS0, FSND, HBj⟩, by simp [intOf]; omega⟩
                  case pos =>
                    have hjli : (j : Int) < (ml : Int) := by omega
                    obtain ⟨bn, off, rfl, hbn, hrg⟩ := HNV.out (by rw [HML.out]; omega)
                    have hnd := NDq.out j (by rw [HML.out]; exact hjl)
                    have HR := hid (hrg j (by rw [HML.out]; exact hjl))
                    have hmem : l.getD j (0, []) ∈ l := by
                      have hj2 : j < l.length := by rw [HML.out]; exact hjl
                      rw [show l.getD j (0, []) = l[j] by simp [List.getD, hj2]]
                      exact List.getElem_mem hj2
                    have hfh := FH.out _ hmem
                    clear hmem hrg
                    generalize l.getD j (0, []) = nd at hnd HR hfh
                    obtain ⟨a, dd⟩ := nd
                    simp only at hfh
                    obtain ⟨ha1, ha2, hka⟩ := hfh
                    have hat : a = ((a.toNat : Nat) : Int) := by omega
                    have hyk : kAt K2 a = dd := kAt_some hka hat
                    have hzk : kIs K2 a = true := kIs_fromS hka hat
                    have HAT := hid hat
                    have HA12 := hid (And.intro ha1 ha2)
                    clear hat hka ha1 ha2
                    have BLjw : Hid (Below w.heap.size w wr) := HB0.out.trans (HBj.out.mono HB0.out.size)
                    have HRw : Hid (wr.rangeAt bn (off + j * 33) (nc (a, dd))) := range_below HR.out BLjw.out hbn
                    obtain ⟨yn, HYN⟩ : ∃ y, Hid ((nc (a, dd)).toArray = y) := ⟨_, rfl⟩
                    have HNS : Hid ((Tryd.prog.info? 60).map (·.size) = some (nc (a, dd)).length) := size_nd hnd
                    have hys : yn.size = 33 := by rw [← HYN.out, List.size_toArray, nc_length hnd]
                    have HIy : Hid ((Tryd.prog.info? 60).map (·.size) = some yn.size) := by rw [hys]; exact size_node
                    have H1y : Hid (yn.all (·.oneCell') = true) := by rw [← HYN.out]; exact nc_one _
                    have HZY : Hid (zn.size = yn.size) := by rw [HZNS.out, hys]; exact rfl
                    obtain ⟨V1, hV1⟩ : ∃ W1, Hid (wr.alloc (.cells yn 60) = W1) := ⟨_, rfl⟩
                    have BBn : Hid (Below wr.heap.size wr V1) := by rw [← hV1.out]; exact (Below.refl _ wr).alloc (Nat.le_refl _) _
                    have hca : V1.cell? ⟨wr.heap.size, 0, none⟩ = some (.int .i64 a) := by rw [← hV1.out, cell_of_row _ wr.heap.size 0 _ _ _ (heap_alloc_new wr _), ← HYN.out]; rfl
                    have HX1 : Hid (V1.rangeAt wr.heap.size 1 (dc dd)) := fun j u hj => by
                      rw [← hV1.out, cell_of_row _ wr.heap.size (1 + j) _ _ _ (heap_alloc_new wr _), ← HYN.out, List.getElem?_toArray, Nat.add_comm 1 j]
                      exact hj
                    have hwl : wr.heap.size < V1.heap.size := by rw [← hV1.out]; simp
                    have HWL := hid hwl
                    have HPn := hid (HPj.out.below BBn.out)
                    have HQn := hid (HQj.out.below BBn.out)
                    have yD : Hid (D32 dd) := hnd.1
                    have hhd := hnd.2
                    have HSy := hid (size_dig yD.out)
                    have CK := hid (kn_any V1 g bm L' W K2 HPn.out a)
                    rw [hyk, hzk] at CK
                    obtain ⟨cy, HCY⟩ : ∃ c, Hid (cellsB dd = c) := ⟨_, rfl⟩
                    rw [HCY.out] at CK
                    have hcs : cy.size = 32 := by rw [← HCY.out, cellsB_size, yD.out.1]
                    have SDy : Hid ((Tryd.prog.info? 28).map (·.size) = some cy.size) := by rw [hcs]; exact size_digest
                    have Oy : Hid (cy.all (·.oneCell') = true) := by rw [← HCY.out]; exact cellsB_one _
                    have ZCy : Hid (zd.size = cy.size) := by refine hid ?_; rw [HZS.out, hcs]
                    have hqn := fun w => run_neq_bytes w 32 28 Tryd.underlying28 dd dd yD.out.1 yD.out.1
                    rw [HCY.out, decide_eq_true rfl] at hqn
                    simp only at hhd
                    clear hcs hyk hzk hys hnd hwl
                    go_wp2_with (first | (refine wpList_load_mid rfl 60 _ rfl bn (off + j * 33) rfl (nc (a, dd)) _ HRw.out Tryd.underlying60 rfl HNS.out ?_; rw [HYN.out]) | (refine wpList_alloc_zero HZ0.out rfl rfl ?_) | (refine wpList_store_row rfl 60 _ _ rfl wr.heap.size yn rfl rfl 60 zn (heap_alloc_new wr _) HIy.out HZY.out H1y.out ?_; rw [setRow_alloc_new', hV1.out]) | fail)
                    refine CK.out.mono ?_
                    rintro e v5 ⟨rfl, hB5⟩
                    obtain ⟨V5, hV5⟩ : ∃ V, Hid (v5.alloc (.cells cy 28) = V) := ⟨_, rfl⟩
                    have BB5 : Hid (Below V1.heap.size V1 V5) := by rw [← hV5.out]; exact hB5.alloc hB5.size _
                    have HRy : Hid (V5.heap[v5.heap.size]? = some (.cells cy 28 (0, 0))) := by rw [← hV5.out]; exact heap_alloc_new v5 _
                    have HX5 : Hid (V5.rangeAt wr.heap.size 1 (dc dd)) := range_below HX1.out BB5.out HWL.out
                    have HP5 := hid (HPn.out.below BB5.out)
                    have HQ5 := hid (HQn.out.below BB5.out)
                    have BL5 : Hid (Below W0.heap.size W0 V5) := (HBj.out.trans (BBn.out.mono HBj.out.size)).trans (BB5.out.mono (Nat.le_trans HBj.out.size BBn.out.size))
                    clear hB5 CK hca
                    go_wp2_with (first | (refine wpList_alloc_digest rfl rfl ?_; rw [HZD.out]) | (refine wpList_store_row rfl 28 _ _ rfl v5.heap.size cy rfl rfl 28 zd (heap_alloc_new v5 _) SDy.out ZCy.out Oy.out ?_; rw [setRow_alloc_new', hV5.out]) | (refine wpList_load_row_on rfl 28 _ rfl v5.heap.size rfl 28 cy (0, 0) _ HRy.out Tryd.underlying28 rfl SDy.out ?_) | (refine wpList_load_midS rfl 28 _ rfl wr.heap.size 1 rfl (dc dd) _ HX5.out Tryd.underlying28 rfl HSy.out ?_; rw [dc_arr, HCY.out]) | fail)
                    exact ⟨⟨j + 1, by omega, by go_num, HP5, HQ5, BL5⟩, by simp [intOf]; omega⟩
            case pos =>
              have hkl2 : (k : Int) < 2 * (W : Int) := by omega
              have CK1 := hid (kn_any wq g2 b2 L' W Kq HOq.out (k : Int))
              obtain ⟨y1, HY1⟩ : ∃ y, Hid (kAt Kq (k : Int) = y) := ⟨_, rfl⟩
              obtain ⟨z1, HZ1⟩ : ∃ z, Hid (kIs Kq (k : Int) = z) := ⟨_, rfl⟩
              have D1 : Hid (D32 y1) := by rw [← HY1.out]; exact kAt_D HOq.out.2 _
              obtain ⟨c1, HC1⟩ : ∃ c, Hid (cellsB y1 = c) := ⟨_, rfl⟩
              have hcs1 : c1.size = 32 := by rw [← HC1.out, cellsB_size, D1.out.1]
              have SD1 : Hid ((Tryd.prog.info? 28).map (·.size) = some c1.size) := by rw [hcs1]; exact size_digest
              have O1 : Hid (c1.all (·.oneCell') = true) := by rw [← HC1.out]; exact cellsB_one _
              have ZC1 : Hid (zd.size = c1.size) := by refine hid ?_; rw [HZS.out, hcs1]
              rw [HY1.out, HZ1.out, HC1.out] at CK1
              clear hcs1
              go_wp2_with fail
              refine CK1.out.mono ?_
              rintro e w1 ⟨rfl, hB1⟩
              clear CK1
              obtain ⟨V1, hV1⟩ : ∃ V, Hid (w1.alloc (.cells c1 28) = V) := ⟨_, rfl⟩
              have BB1 : Hid (Below wq.heap.size wq V1) := by rw [← hV1.out]; exact hB1.alloc hB1.size _
              have HR1_1 : Hid (V1.heap[w1.heap.size]? = some (.cells c1 28 (0, 0))) := by rw [← hV1.out]; exact heap_alloc_new w1 _
              clear hB1
              have HPa1 := hid (HPq.out.below BB1.out)
              have HQa1 := hid (HQq.out.below BB1.out)
              have HOa1 := hid (HOq.out.below BB1.out)
              have CK2 := hid (kn_any V1 g bm L' W K2 HPa1.out (k : Int))
              obtain ⟨y2, HY2⟩ : ∃ y, Hid (kAt K2 (k : Int) = y) := ⟨_, rfl⟩
              obtain ⟨z2, HZ2⟩ : ∃ z, Hid (kIs K2 (k : Int) = z) := ⟨_, rfl⟩
              have D2 : Hid (D32 y2) := by rw [← HY2.out]; exact kAt_D HPa1.out.2 _
              obtain ⟨c2, HC2⟩ : ∃ c, Hid (cellsB y2 = c) := ⟨_, rfl⟩
              have hcs2 : c2.size = 32 := by rw [← HC2.out, cellsB_size, D2.out.1]
              have SD2 : Hid ((Tryd.prog.info? 28).map (·.size) = some c2.size) := by rw [hcs2]; exact size_digest
              have O2 : Hid (c2.all (·.oneCell') = true) := by rw [← HC2.out]; exact cellsB_one _
              have ZC2 : Hid (zd.size = c2.size) := by refine hid ?_; rw [HZS.out, hcs2]
              rw [HY2.out, HZ2.out, HC2.out] at CK2
              clear hcs2
              go_wp2_with (first | (refine wpList_alloc_digest rfl rfl ?_; rw [HZD.out]) | (refine wpList_store_row rfl 28 _ _ rfl w1.heap.size c1 rfl rfl 28 zd (heap_alloc_new w1 _) SD1.out ZC1.out O1.out ?_; rw [setRow_alloc_new', hV1.out]) | fail)
              refine CK2.out.mono ?_
              rintro e w2 ⟨rfl, hB2⟩
              clear CK2
              obtain ⟨V2, hV2⟩ : ∃ V, Hid (w2.alloc (.cells c2 28) = V) := ⟨_, rfl⟩
              have BB2 : Hid (Below V1.heap.size V1 V2) := by rw [← hV2.out]; exact hB2.alloc hB2.size _
              have HR2_2 : Hid (V2.heap[w2.heap.size]? = some (.cells c2 28 (0, 0))) := by rw [← hV2.out]; exact heap_alloc_new w2 _
              clear hB2
              have HR1_2 : Hid (V2.heap[w1.heap.size]? = some (.cells c1 28 (0, 0))) := (BB2.out.block _ (Array.getElem?_eq_some_iff.1 HR1_1.out).1).trans HR1_1.out
              have HPa2 := hid (HPa1.out.below BB2.out)
              have HQa2 := hid (HQa1.out.below BB2.out)
              have HOa2 := hid (HOa1.out.below BB2.out)
              have BLV : Hid (Below W0.heap.size W0 V2) := (BLq.out.trans (BB1.out.mono BLq.out.size)).trans (BB2.out.mono (Nat.le_trans BLq.out.size BB1.out.size))
              have ewk : IntKind.i64.wrap ((k : Int) + 1) = (k : Int) + 1 := by rw [IntKind.wrap_i64]; omega
              have hfour : (z1 = true ∧ z2 = true ∧ y2 = y1 ∧ er = 0) ∨ (z1 = true ∧ z2 = true ∧ y2 = y1 ∧ er ≠ 0) ∨ (z1 = false ∧ er = 0) ∨ (z1 = false ∧ z2 = false ∧ er ≠ 0) := by
                have a1 := HZ1.out
                have a2 := HZ2.out
                rw [kIs_nat] at a1 a2
                by_cases her : er = 0
                · cases z1 with
                  | false => exact Or.inr (Or.inr (Or.inl ⟨rfl, her⟩))
                  | true =>
                    obtain ⟨d, hd⟩ := Option.isSome_iff_exists.1 a1
                    have hd2 := FSUB.out _ _ hd
                    rw [hd2] at a2
                    exact Or.inl ⟨rfl, a2.symm, by rw [← HY2.out, ← HY1.out, kAt_some hd rfl, kAt_some hd2 rfl], her⟩
                · have hKK := FREF.out her
                  rw [hKK] at a2
                  cases z1 with
                  | false => exact Or.inr (Or.inr (Or.inr ⟨rfl, by rw [← a2, a1], her⟩))
                  | true => exact Or.inr (Or.inl ⟨rfl, by rw [← a2, a1], by rw [← HY2.out, ← HY1.out, hKK], her⟩)
              have hq := fun w => run_neq_bytes w 32 28 Tryd.underlying28 y2 y1 D2.out.1 D1.out.1
              rw [HC1.out, HC2.out] at hq
              rcases hfour with ⟨rfl, rfl, he, rfl⟩ | ⟨rfl, rfl, he, her⟩ | ⟨rfl, rfl⟩ | ⟨rfl, rfl, her⟩
              · rw [decide_eq_true he] at hq
                clear he
                go_wp2_with (first | (refine wpList_alloc_digest rfl rfl ?_; rw [HZD.out]) | (refine wpList_store_row rfl 28 _ _ rfl w2.heap.size c2 rfl rfl 28 zd (heap_alloc_new w2 _) SD2.out ZC2.out O2.out ?_; rw [setRow_alloc_new', hV2.out]) | (refine wpList_load_row_on rfl 28 _ rfl w1.heap.size rfl 28 c1 (0, 0) _ HR1_2.out Tryd.underlying28 rfl SD1.out ?_) | (refine wpList_load_row_on rfl 28 _ rfl w2.heap.size rfl 28 c2 (0, 0) _ HR2_2.out Tryd.underlying28 rfl SD2.out ?_) | fail)
                exact ⟨⟨k + 1, by omega, by omega, by go_num, HPa2, HQa2, HOa2, BLV⟩, by simp [intOf]; omega⟩
              · rw [decide_eq_true he] at hq
                have herb : (er != 0) = true := by simpa using her
                clear he her
                go_wp2_with (first | (refine wpList_alloc_digest rfl rfl ?_; rw [HZD.out]) | (refine wpList_store_row rfl 28 _ _ rfl w2.heap.size c2 rfl rfl 28 zd (heap_alloc_new w2 _) SD2.out ZC2.out O2.out ?_; rw [setRow_alloc_new', hV2.out]) | (refine wpList_load_row_on rfl 28 _ rfl w1.heap.size rfl 28 c1 (0, 0) _ HR1_2.out Tryd.underlying28 rfl SD1.out ?_) | (refine wpList_load_row_on rfl 28 _ rfl w2.heap.size rfl 28 c2 (0, 0) _ HR2_2.out Tryd.underlying28 rfl SD2.out ?_) | fail)
                exact ⟨⟨k + 1, by omega, by omega, by go_num, HPa2, HQa2, HOa2, BLV⟩, by simp [intOf]; omega⟩
              · clear hq
                go_wp2_with (first | (refine wpList_alloc_digest rfl rfl ?_; rw [HZD.out]) | (refine wpList_store_row rfl 28 _ _ rfl w2.heap.size c2 rfl rfl 28 zd (heap_alloc_new w2 _) SD2.out ZC2.out O2.out ?_; rw [setRow_alloc_new', hV2.out]) | (refine wpList_load_row_on rfl 28 _ rfl w1.heap.size rfl 28 c1 (0, 0) _ HR1_2.out Tryd.underlying28 rfl SD1.out ?_) | (refine wpList_load_row_on rfl 28 _ rfl w2.heap.size rfl 28 c2 (0, 0) _ HR2_2.out Tryd.underlying28 rfl SD2.out ?_) | fail)
                exact ⟨⟨k + 1, by omega, by omega, by go_num, HPa2, HQa2, HOa2, BLV⟩, by simp [intOf]; omega⟩
              · clear hq
                have herb : (er != 0) = true := by simpa using her
                clear her
                go_wp2_with (first | (refine wpList_alloc_digest rfl rfl ?_; rw [HZD.out]) | (refine wpList_store_row rfl 28 _ _ rfl w2.heap.size c2 rfl rfl 28 zd (heap_alloc_new w2 _) SD2.out ZC2.out O2.out ?_; rw [setRow_alloc_new', hV2.out]) | (refine wpList_load_row_on rfl 28 _ rfl w1.heap.size rfl 28 c1 (0, 0) _ HR1_2.out Tryd.underlying28 rfl SD1.out ?_) | (refine wpList_load_row_on rfl 28 _ rfl w2.heap.size rfl 28 c2 (0, 0) _ HR2_2.out Tryd.underlying28 rfl SD2.out ?_) | fail)
                exact ⟨⟨k + 1, by omega, by omega, by go_num, HPa2, HQa2, HOa2, BLV⟩, by simp [intOf]; omega⟩
end Go.Proofs.YtjmlpkemjafifaaDoor
