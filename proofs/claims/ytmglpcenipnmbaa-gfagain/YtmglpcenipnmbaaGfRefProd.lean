/- The document's product of polynomials, walked. -/
import Derived.Test.YtmglpcenipnmbaaGfPoly
import Derived.Test.YtmglpcenipnmbaaQuietLast
import Derived.Test.YtmglpcenipnmbaaGfRef
set_option linter.unusedSimpArgs false
set_option linter.unusedVariables false
namespace Go.Proofs.Ytmglpcenipnmbaa
open Go Go.RowKit

/-- Rows below i, and j of row i. -/
def rowF (A P : List Int) (i j l : Nat) : Nat := cvF (gN A) P i l ^^^ (if i ≤ l ∧ l < i + j then prod (gN A i) (gN P (l - i)) else 0)
theorem rowF_none (A P : List Int) (i l : Nat) : rowF A P i 0 l = cvF (gN A) P i l := by
  unfold rowF
  rw [if_neg (by omega), Nat.xor_zero]
theorem rowF_all {A P : List Int} (hA : ∀ k, gN A k < 256) (hP : ∀ k, gN P k < 256) (i l : Nat) : rowF A P i P.length l = cvF (gN A) P (i + 1) l := by
  unfold rowF
  rw [cvF]
  congr 1
  unfold sh
  by_cases h : i ≤ l
  · by_cases h2 : l < i + P.length
    · rw [if_pos ⟨h, h2⟩, if_pos h, prod_comm _ _ (hA i) (hP _)]
    · rw [if_neg (by omega), if_pos h, gN_out P _ (by omega), zero_prod _ (hA i)]
  · rw [if_neg (by omega), if_neg h]
theorem rowF_lt {A P : List Int} (hA : ∀ k, gN A k < 256) (hP : ∀ k, gN P k < 256) (i j l : Nat) : rowF A P i j l < 256 := by
  unfold rowF
  refine xor8 (cvF_lt hP _ _) ?_
  split
  · exact prod_lt _ (hA i)
  · decide
set_option maxRecDepth 100000 in
set_option maxHeartbeats 8000000 in
theorem rproduct_any (w : World) (pa pb : Option Addr) (ca cb : Nat) (A P : List Int) (hA : HB w (.slice pa A.length ca) A) (hP : HB w (.slice pb P.length cb) P) (hA0 : A.length ≠ 0) (hP0 : P.length ≠ 0) (hn : A.length + P.length ≤ 140737488355328) :
    Calls Try.prog 60 #[.slice pa A.length ca, .slice pb P.length cb] w fun e w' => ∃ v', e = .returned v' ∧ w'.ownsRow w.heap.size 5 1 v' (cutL (tabL (A.length + P.length - 1) (cvF (gN A) P A.length))).length ((cutL (tabL (A.length + P.length - 1) (cvF (gN A) P A.length))).map (Value.int .u8)) ∧ Below w.heap.size w w' := by
  obtain ⟨i0, hi, hz0, hz1, hz2⟩ := info_parts info_u8
  have HA := hid hA
  have HP := hid hP
  have HGA : Hid (∀ k, gN A k < 256) := fun k => (HA.out.gN k).2
  have HGP : Hid (∀ k, gN P k < 256) := fun k => (HP.out.gN k).2
  have ha0 : ((A.length : Int) == 0) = false := by simpa using hA0
  have hp0 : ((P.length : Int) == 0) = false := by simpa using hP0
  obtain ⟨N, HN⟩ : ∃ N, Hid (A.length + P.length - 1 = N) := ⟨_, rfl⟩
  have hnn : (A.length : Int) + (P.length : Int) - 1 = (N : Int) := by have := HN.out; omega
  obtain ⟨b1, o1, c1, e1, _, _, hc1⟩ := hA.ne (by omega)
  simp only [Value.slice.injEq] at e1
  obtain ⟨rfl, _, rfl⟩ := e1
  obtain ⟨b2, o2, c2, e2, _, _, hc2⟩ := hP.ne (by omega)
  simp only [Value.slice.injEq] at e2
  obtain ⟨rfl, _, rfl⟩ := e2
  have HC1 := hid hc1
  have HC2 := hid hc2
  have hb1 : b1 < w.heap.size := World.block_lt_of_cell? w _ (hc1 0 (by omega))
  have hb2 : b2 < w.heap.size := World.block_lt_of_cell? w _ (hc2 0 (by omega))
  rw [HN.out]
  have hNle : N ≤ 140737488355328 := by have := HN.out; omega
  obtain ⟨w1, hmk, hown, hgr⟩ := run_make_full (P := Try.prog) w w.heap.size 38 5 i0 (.int .u8 0) 1 Try.underlying38 hi hz0 hz1 .i64 .i64 N (by rw [hz2]; omega) (by unfold maxLen; omega) (Nat.le_refl _)
  have hmk2 : (Instr.makeSlice 38 (.int .i64 (N : Int)) (.int .i64 (N : Int))).run Try.prog w = .ok (.slice (some ⟨w.heap.size, 0, none⟩) N N) w1 := hmk
  have B1 : Hid (Below w.heap.size w w1) := ⟨hgr.os, hgr.tape, hgr.output, hgr.size, fun k hk => hgr.block k hk (by simp)⟩
  have HO1 : Hid (w1.ownsRow w.heap.size 5 1 (.slice (some ⟨w.heap.size, 0, none⟩) N N) N ((tabL N (cvF (gN A) P 0)).map (Value.int .u8))) := by
    have e : (madeCells (Value.int IntKind.u8 0).cells (N * 1)).toList = (tabL N (cvF (gN A) P 0)).map (Value.int .u8) := by
      rw [show (Value.int IntKind.u8 0).cells = #[Value.int .u8 0] from rfl, toList_madeCells_one, Nat.mul_one]
      refine List.ext_getElem (by simp [tabL]) fun j h1 h2 => ?_
      simp [tabL, cvF]
    rw [← e]
    exact hown
  clear hmk hown hgr hA hP hc1 hc2
  have sz := size_u8
  go_enter Try.func60, Try.ntmps60
  go_wp2
  obtain ⟨g, hg⟩ : ∃ g, Hid (w.heap.size = g) := ⟨_, rfl⟩
  rw [hg.out] at HO1 B1 hb1 hb2
  rw [hg.out]
  have HBg : Hid (∀ wr, Below g w wr → Below w.heap.size w wr) := fun wr h => by rw [hg.out]; exact h
  clear hmk2
  go_loopw [6] (fun i wr => ∃ I : Nat, I ≤ A.length ∧ i = .int .i64 (I : Int) ∧ Hid (wr.ownsRow g 5 1 (.slice (some ⟨g, 0, none⟩) N N) N ((tabL N (cvF (gN A) P I)).map (Value.int .u8))) ∧ Hid (Below g w wr)) (fun i _ => A.length - (intOf i).toNat)
  case atStart => exact ⟨0, Nat.zero_le _, rfl, HO1, B1⟩
  case round =>
    clear HO1 B1
    obtain ⟨I, hI, rfl, HO, B⟩ := hrel
    by_cases hlt : I < A.length
    · have HO' : Hid (wr.ownsRow g 5 1 (.slice (some ⟨g, 0, none⟩) N N) N ((tabL N (rowF A P I 0)).map (Value.int .u8))) := by
        rw [tabL_congr N (f := rowF A P I 0) (g := cvF (gN A) P I) fun l _ => rowF_none A P I l]
        exact HO
      clear HO
      go_wp2
      go_loopw [7] (fun j wq => ∃ J : Nat, J ≤ P.length ∧ j = .int .i64 (J : Int) ∧ Hid (wq.ownsRow g 5 1 (.slice (some ⟨g, 0, none⟩) N N) N ((tabL N (rowF A P I J)).map (Value.int .u8))) ∧ Hid (Below g w wq)) (fun j _ => P.length - (intOf j).toNat)
      case atStart => exact ⟨0, Nat.zero_le _, rfl, HO', B⟩
      case round =>
        clear HO' B
        obtain ⟨J, hJ, rfl, HO, B⟩ := hrel
        by_cases hjl : J < P.length
        · have hIJ : I + J < N := by have := HN.out; omega
          have hij : (I : Int) + (J : Int) = ((I + J : Nat) : Int) := by omega
          have q1 := (B.out.cell (p := ⟨b1, o1 + I, none⟩) hb1).trans (HC1.out I hlt)
          have q2 := (B.out.cell (p := ⟨b2, o2 + J, none⟩) hb2).trans (HC2.out J hjl)
          obtain ⟨g1, l1⟩ := HA.out.gN I
          obtain ⟨g2, l2⟩ := HP.out.gN J
          rw [g1] at q1
          rw [g2] at q2
          have hcl := HO.out.cellAt (I + J) (by omega)
          have hfz := HO.out.frozenAt (I + J)
          have hcv : wr.cell? ⟨g, I + J, none⟩ = some (.int .u8 ((cvF (gN A) P I (I + J) : Nat) : Int)) := by
            rw [hcl, List.getElem?_map]
            simp only [tabL, List.getElem?_map, List.getElem?_range hIJ, Option.map_some, rowF]
            rw [if_neg (by omega), Nat.xor_zero]
          have lc := cvF_lt (f := gN A) HGP.out I (I + J)
          have lp := prod_lt (gN P J) l1
          have MU : Hid (∀ W, Calls Try.prog 14 #[.int .u8 ((gN A I : Nat) : Int), .int .u8 ((gN P J : Nat) : Int)] W fun e w' => e = .returned (.int .u8 ((prod (gN A I) (gN P J) : Nat) : Int)) ∧ w' = W) := fun W => rmul_any W _ _ l1 l2
          have HST : Hid (∀ W, Dr wr W → (W.setCell ⟨g, I + J, none⟩ (.int .u8 ((cvF (gN A) P I (I + J) ^^^ prod (gN A I) (gN P J) : Nat) : Int))).ownsRow g 5 1 (.slice (some ⟨g, 0, none⟩) N N) N ((tabL N (rowF A P I (J + 1))).map (Value.int .u8)) ∧ Below g w (W.setCell ⟨g, I + J, none⟩ (.int .u8 ((cvF (gN A) P I (I + J) ^^^ prod (gN A I) (gN P J) : Nat) : Int)))) := fun W hW => by
            have h0 := own_below HO.out (hW.below _)
            have h1 := (h0.stored (I + J) (.int .u8 ((cvF (gN A) P I (I + J) ^^^ prod (gN A I) (gN P J) : Nat) : Int))).1
            rw [← List.map_set, tabL_set] at h1
            refine ⟨?_, (B.out.trans (hW.below _)).setCell (p := ⟨g, I + J, none⟩) (Nat.le_refl _) _⟩
            rw [tabL_congr N (f := rowF A P I (J + 1)) (g := fun l => if l = I + J then cvF (gN A) P I (I + J) ^^^ prod (gN A I) (gN P J) else rowF A P I J l) fun l hl => ?_]
            · exact h1
            · by_cases e : l = I + J
              · rw [if_pos e, e]
                unfold rowF
                rw [if_pos (by omega), Nat.add_sub_cancel_left]
              · rw [if_neg e]
                unfold rowF
                congr 1
                by_cases e2 : I ≤ l ∧ l < I + J
                · rw [if_pos e2, if_pos (by omega)]
                · rw [if_neg e2, if_neg (by omega)]
          obtain ⟨x, HX⟩ : ∃ x, Hid (gN A I = x) := ⟨_, rfl⟩
          obtain ⟨y, HY⟩ : ∃ y, Hid (gN P J = y) := ⟨_, rfl⟩
          rw [HX.out] at q1 MU lp HST l1
          rw [HY.out] at q2 MU lp HST l2
          obtain ⟨u, HU⟩ : ∃ u, Hid (cvF (gN A) P I (I + J) = u) := ⟨_, rfl⟩
          obtain ⟨m, HM⟩ : ∃ m, Hid (prod x y = m) := ⟨_, rfl⟩
          rw [HU.out] at hcv lc HST
          rw [HM.out] at MU lp HST
          obtain ⟨k, HK⟩ : ∃ k, Hid (I + J = k) := ⟨_, rfl⟩
          rw [HK.out] at hcv hfz hIJ hij HST
          have hxx := u8_xor_nat u m lc lp
          clear hcl g1 g2 HO B
          go_wp2
          refine wp_region_quiet_lastA (n := 21) (by kernel_rfl) rfl rfl (by kernel_rfl) (by kernel_rfl) ?_
          simp only [List.take_succ_cons, List.take_zero]
          repeat (go_big_quiet_step ((go_at_call 14; exact Calls.quiet_of_same (MU.out _))))
          refine wpQuiet_nil ?_
          rintro w' ⟨nq, rfl⟩
          have hcd : (wr.drewN nq).cell? ⟨g, k, none⟩ = some (.int .u8 (u : Int)) := hcv
          have hfd : (wr.drewN nq).frozen? ⟨g, k, none⟩ = false := hfz
          go_simp
          have hst := HST.out (wr.drewN nq) (Dr.one _ _)
          obtain ⟨W2, hW2⟩ : ∃ W2, Hid ((wr.drewN nq).setCell ⟨g, k, none⟩ (.int .u8 ((u ^^^ m : Nat) : Int)) = W2) := ⟨_, rfl⟩
          rw [hW2.out] at hst
          rw [hW2.out]
          have H1 := hid hst.1
          have H2 := hid hst.2
          clear hst hcd hfd hcv hfz q1 q2 HST
          go_wp2
          exact ⟨⟨J + 1, by omega, by go_num, H1, H2⟩, by simp [intOf]; omega⟩
        · have hJ' : J = P.length := by omega
          have HO2 : Hid (wr.ownsRow g 5 1 (.slice (some ⟨g, 0, none⟩) N N) N ((tabL N (cvF (gN A) P (I + 1))).map (Value.int .u8))) := by
            rw [tabL_congr N (f := cvF (gN A) P (I + 1)) (g := rowF A P I P.length) fun l _ => (rowF_all HGA.out HGP.out I l).symm, ← hJ']
            exact HO
          clear HO hJ'
          go_wp2
          exact ⟨⟨I + 1, by omega, by go_num, HO2, B⟩, by simp [intOf]; omega⟩
    · have hI' : I = A.length := by omega
      rw [hI'] at HO
      have hbyt := tabL_byt N (f := cvF (gN A) P A.length) (fun l => cvF_lt HGP.out _ l)
      have hTH : HB wr (.slice (some ⟨g, 0, none⟩) (tabL N (cvF (gN A) P A.length)).length N) (tabL N (cvF (gN A) P A.length)) := by
        refine HB.of_own (B := g) (e := 5) ?_ hbyt
        rw [tabL_length]
        exact HO.out
      have ct := rcut_any wr _ _ _ hTH
      rw [tabL_length] at ct
      have CT := hid ct
      have HR := hid (own_cut HO.out)
      have HBw := hid (HBg.out wr B.out)
      obtain ⟨nc, HNC⟩ : ∃ nc, Hid (cutN (tabL N (cvF (gN A) P A.length)) N = nc) := ⟨_, rfl⟩
      rw [HNC.out] at CT HR
      clear ct hTH hbyt hI' HO
      go_wp2_with fail
      refine CT.out.mono ?_
      rintro e w' ⟨rfl, hw⟩
      subst hw
      clear CT
      go_wp2
      go_ret
      exact ⟨_, rfl, by rw [hg.out]; exact HR.out, by rw [hg.out]; exact B.out⟩
end Go.Proofs.Ytmglpcenipnmbaa
