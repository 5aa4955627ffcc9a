/- The document's Over of layer 6, walked. -/
import Derived.Test.YtmglpcenipnmbaaGfRefTimes
import Derived.Test.YtmglpcenipnmbaaJoin
set_option linter.unusedSimpArgs false
set_option linter.unusedVariables false
namespace Go.Proofs.Ytmglpcenipnmbaa
open Go Go.RowKit

theorem tabL_take (n k : Nat) (f : Nat → Nat) (h : k ≤ n) : (tabL n f).take k = tabL k f := by
  refine List.ext_getElem (by rw [List.length_take, tabL_length, tabL_length]; omega) fun j h1 h2 => ?_
  simp [tabL]
theorem cutL_of (n k : Nat) (f : Nat → Nat) (h : k ≤ n) (h1 : ∀ i, k ≤ i → f i = 0) (h2 : k ≠ 0 → f (k - 1) ≠ 0) : cutL (tabL n f) = tabL k f := by
  have e : cutN (tabL n f) n = k := by
    refine Nat.le_antisymm (cutN_small _ k (fun i hi => ?_) n) (Nat.le_of_not_lt fun hlt => ?_)
    · by_cases hin : i < n
      · rw [gN_tabL _ _ _ hin]; exact h1 i hi
      · exact gN_out _ i (by rw [tabL_length]; omega)
    · have := cutN_stop (tabL n f) n (k - 1) (by omega) (by omega)
      rw [gN_tabL _ _ _ (by omega)] at this
      exact h2 (by omega) this
  unfold cutL
  rw [tabL_length, e, tabL_take n k f h]
/-- The rest when j of the divisor's coefficients are taken away. -/
def subF (P : List Int) (fr : Nat → Nat) (s f j l : Nat) : Nat := fr l ^^^ (if s ≤ l ∧ l < s + j then prod f (gN P (l - s)) else 0)
theorem subF_none (P : List Int) (fr : Nat → Nat) (s f l : Nat) : subF P fr s f 0 l = fr l := by
  unfold subF
  rw [if_neg (by omega), Nat.xor_zero]
theorem subF_all {P : List Int} (hP : ∀ k, gN P k < 256) (fr : Nat → Nat) (s f l : Nat) (hf : f < 256) : subF P fr s f P.length l = fr l ^^^ sh P f s l := by
  unfold subF sh
  congr 1
  by_cases h : s ≤ l
  · by_cases h2 : l < s + P.length
    · rw [if_pos ⟨h, h2⟩, if_pos h, prod_comm _ _ hf (hP _)]
    · rw [if_neg (by omega), if_pos h, gN_out P _ (by omega), zero_prod _ hf]
  · rw [if_neg (by omega), if_neg h]
theorem subF_lt {P : List Int} {fr : Nat → Nat} (hfr : ∀ i, fr i < 256) (s f j l : Nat) (hf : f < 256) : subF P fr s f j l < 256 := by
  unfold subF
  refine xor8 (hfr l) ?_
  split
  · exact prod_lt _ hf
  · decide
set_option maxRecDepth 100000 in
set_option maxHeartbeats 8000000 in
theorem rover_any (w : World) (pa pb : Option Addr) (ca cb : Nat) (A P : List Int) (hA : HB w (.slice pa A.length ca) A) (hP : HB w (.slice pb P.length cb) P) :
    Calls Try.prog 42 #[.slice pa A.length ca, .slice pb P.length cb] w (OverPost w (cutL A) (cutL P)) := by
  have CA := hid (rcut_any w pa ca A hA)
  have CP := hid (rcut_any w pb cb P hP)
  have HA := hid (cutL_hb hA)
  have HP := hid (cutL_hb hP)
  have HPE : Hid ((cutL P).length ≠ 0 → gN (cutL P) ((cutL P).length - 1) ≠ 0) := cutL_last P
  have HAE : Hid ((cutL A).length ≠ 0 → gN (cutL A) ((cutL A).length - 1) ≠ 0) := cutL_last A
  rw [← cutL_length] at CA CP
  obtain ⟨A', HA'⟩ : ∃ A', Hid (cutL A = A') := ⟨_, rfl⟩
  obtain ⟨P', HP'⟩ : ∃ P', Hid (cutL P = P') := ⟨_, rfl⟩
  rw [HA'.out] at CA HA HAE ⊢
  rw [HP'.out] at CP HP HPE ⊢
  clear hA hP
  have sz := size_u8
  go_enter Try.func42, Try.ntmps42
  go_wp2_with fail
  refine CA.out.mono ?_
  rintro e w1 ⟨rfl, hw⟩
  subst hw
  clear CA
  go_wp2_with fail
  refine CP.out.mono ?_
  rintro e w2 ⟨rfl, hw⟩
  subst hw
  clear CP
  by_cases hlong : A'.length ≤ 256 ∧ P'.length ≤ 256
  · have g1 : ¬ (256 : Int) < (A'.length : Int) := by omega
    have g2 : ¬ (256 : Int) < (P'.length : Int) := by omega
    by_cases hm : P'.length = 0
    · have hm' : ((P'.length : Int) == 0) = true := by rw [hm]; rfl
      have FIN : Hid (OverPost w2 A' P' (.returned (.tuple #[.slice none 0 0, .slice none 0 0, .int .i64 60])) w2) := ⟨fun h => absurd hlong h, fun _ _ => rfl, fun _ h => absurd hm h, Below.refl _ _⟩
      clear hlong hm
      go_wp2
      go_ret3
      exact FIN.out
    · have hm' : ((P'.length : Int) == 0) = false := by simpa using hm
      have HL := hid hlong
      have HM := hid hm
      have HGP : Hid (∀ k, gN P' k < 256) := fun k => (HP.out.gN k).2
      have HGA : Hid (∀ k, gN A' k < 256) := fun k => (HA.out.gN k).2
      clear hlong hm
      go_wp2_with (at_builtin; refine wpList_append_HB rfl _ _ rfl w2.heap.size _ 0 [] rfl (World.ownsRow_nil _ _ _ _) _ A' rfl HA.out (by have := HL.out.1; omega) (Nat.le_refl _) ?_)
      intro vr w3 hor hgr
      rw [list_tab HA.out.2, tabL_length] at hor
      have B3 : Hid (Below w2.heap.size w2 w3) := ⟨hgr.os, hgr.tape, hgr.output, hgr.size, fun k hk => hgr.block k hk (by simp [Value.ownBlock])⟩
      have hs3 := hgr.size
      obtain ⟨pr, cr, er⟩ := own_slc hor
      subst er
      have OR3 := hid hor
      clear hor hgr
      by_cases hnm : A'.length < P'.length
      · have hge : ¬ (A'.length : Int) ≥ (P'.length : Int) := by omega
        have hge2 : ¬ (P'.length : Int) ≤ (A'.length : Int) := by omega
        have eA : cutL (tabL A'.length (gN A')) = tabL A'.length (gN A') := cutL_of _ _ _ (Nat.le_refl _) (fun i hi => gN_out A' i hi) HAE.out
        have eq0 : (cutL (tabL A'.length fun _ => 0)) = [] := by
          rw [cutL_of A'.length 0 (fun _ => 0) (Nat.zero_le _) (fun _ _ => rfl) (fun h => absurd rfl h)]
          rfl
        have FIN : Hid (OverPost w2 A' P' (.returned (.tuple #[.slice none 0 0, .slice pr A'.length cr, .int .i64 0])) w3) := by
          refine ⟨fun h => absurd HL.out h, fun _ h => absurd h HM.out, fun _ _ => ⟨.slice none 0 0, _, fun _ => 0, gN A', rfl, (fun _ => by show 0 < 256; decide), HGA.out, ?_, ?_, ⟨.inl rfl, by cases pr with | none => exact .inl rfl | some _ => exact .inr (by simp [Value.ownBlock])⟩, ?_, ?_, fun _ _ => rfl⟩, B3.out⟩
          · rw [eq0]
            exact World.ownsRow_nil _ _ _ _
          · rw [eA, tabL_length]
            exact OR3.out
          · intro i
            rw [cvF_none, Nat.xor_zero]
          · intro i hi
            exact gN_out A' i (by omega)
        have CN := hid (rcut_any w3 none 0 [] (HB.nil w3))
        clear eA eq0
        go_wp2
        go_loopw [7] (fun r wr => r = .slice pr A'.length cr ∧ wr = w3) (fun _ _ => 0)
        case atStart => exact ⟨rfl, rfl⟩
        case round =>
          obtain ⟨rfl, hw⟩ := hrel
          subst hw
          go_wp2_with fail
          refine CN.out.mono ?_
          rintro e w4 ⟨rfl, hw⟩
          subst hw
          go_wp2
          go_ret3
          exact FIN.out
      · have hge : (P'.length : Int) ≤ (A'.length : Int) := by omega
        obtain ⟨i0, hi, hz0, hz1, hz2⟩ := info_parts info_u8
        obtain ⟨N, HN⟩ : ∃ N, Hid (A'.length - P'.length + 1 = N) := ⟨_, rfl⟩
        have hnn : (A'.length : Int) - (P'.length : Int) + 1 = (N : Int) := by have := HN.out; omega
        obtain ⟨w4, hmk, hown, hgr⟩ := run_make_full (P := Try.prog) w3 w2.heap.size 38 5 i0 (.int .u8 0) 1 Try.underlying38 hi hz0 hz1 .i64 .i64 N (by rw [hz2]; have := HN.out; have := HL.out.1; omega) (by unfold maxLen; have := HN.out; have := HL.out.1; omega) hs3
        have hmk2 : (Instr.makeSlice 38 (.int .i64 (N : Int)) (.int .i64 (N : Int))).run Try.prog w3 = .ok (.slice (some ⟨w3.heap.size, 0, none⟩) N N) w4 := hmk
        have B34 : Hid (Below w3.heap.size w3 w4) := ⟨hgr.os, hgr.tape, hgr.output, hgr.size, fun k hk => hgr.block k hk (by simp)⟩
        have OQ4 : Hid (w4.ownsRow w2.heap.size 5 1 (.slice (some ⟨w3.heap.size, 0, none⟩) N N) N ((tabL N fun _ => 0).map (Value.int .u8))) := by
          have e : (madeCells (Value.int IntKind.u8 0).cells (N * 1)).toList = (tabL N fun _ => 0).map (Value.int .u8) := by
            rw [show (Value.int IntKind.u8 0).cells = #[Value.int .u8 0] from rfl, toList_madeCells_one, Nat.mul_one]
            refine List.ext_getElem (by simp [tabL]) fun j h1 h2 => ?_
            simp [tabL]
          rw [← e]
          exact hown
        have OR4 := hid (own_below OR3.out B34.out)
        have B4 := hid (B3.out.trans (B34.out.mono hs3))
        obtain ⟨gr, hgr'⟩ : ∃ gr, pr = some ⟨gr, 0, none⟩ := by
          rcases OR3.out.2 with ⟨e, h0⟩ | ⟨g', cap', cur, e, _⟩
          · have := HM.out; omega
          · simp only [Value.slice.injEq] at e
            exact ⟨g', e.1⟩
        subst hgr'
        have hgl := OR3.out.lt gr rfl
        obtain ⟨gq, hgq⟩ : ∃ gq, Hid (w3.heap.size = gq) := ⟨_, rfl⟩
        have hqr : gq ≠ gr := by rw [← hgq.out]; omega
        have hqb : w2.heap.size ≤ gq := by rw [← hgq.out]; omega
        clear hmk hown hgr OR3 B3 B34
        go_wp2
        rw [hgq.out] at OQ4
        rw [hgq.out]
        have htp : P'.length - 1 < P'.length := by have := HM.out; omega
        obtain ⟨t, HT⟩ : ∃ t : Nat, Hid (P'.length = t + 1) := ⟨P'.length - 1, by show _ = _; omega⟩
        obtain ⟨b2, o2, c2, e2, _, _, hc2⟩ := HP.out.ne (by omega)
        simp only [Value.slice.injEq] at e2
        obtain ⟨rfl, _, rfl⟩ := e2
        have HC2 := hid hc2
        have hb2 : b2 < w2.heap.size := World.block_lt_of_cell? w2 _ (hc2 0 (by omega))
        have hpt : gN P' t ≠ 0 := by
          have := HPE.out HM.out
          rw [HT.out, Nat.add_sub_cancel] at this
          exact this
        have hpiv : prod (gN P' t) (inv (gN P' t)) = 1 := prod_inv _ (HGP.out t) hpt
        have HPIV := hid hpiv
        have htI : (P'.length : Int) - 1 = (t : Int) := by have := HT.out; omega
        have htl : t < P'.length := by have := HT.out; omega
        clear hc2 hpt hpiv htp hmk2
        go_loopw [7] (fun r wr => ∃ (k : Nat) (fq fr : Nat → Nat), k ≤ A'.length ∧ r = .slice (some ⟨gr, 0, none⟩) k cr ∧ Hid ((∀ i, fq i < 256) ∧ (∀ i, fr i < 256) ∧ (∀ i, gN A' i = fr i ^^^ cvF fq P' A'.length i) ∧ (∀ i, k ≤ i → fr i = 0) ∧ (k ≠ 0 → fr (k - 1) ≠ 0) ∧ (∀ j, A'.length < j + P'.length → fq j = 0) ∧ (∀ j, j + P'.length ≤ k → fq j = 0)) ∧ Hid (wr.ownsRow w2.heap.size 5 1 (.slice (some ⟨gq, 0, none⟩) N N) N ((tabL N fq).map (Value.int .u8))) ∧ Hid (wr.ownsRow w2.heap.size 5 1 (.slice (some ⟨gr, 0, none⟩) A'.length cr) A'.length ((tabL A'.length fr).map (Value.int .u8))) ∧ Hid (Below w2.heap.size w2 wr)) (fun r _ => match r with | .slice _ n _ => n | _ => 0)
        case atStart =>
          refine ⟨A'.length, fun _ => 0, gN A', Nat.le_refl _, rfl, ⟨fun _ => by show 0 < 256; decide, HGA.out, fun i => ?_, fun i hi => gN_out A' i hi, HAE.out, fun _ _ => rfl, fun _ _ => rfl⟩, OQ4, OR4, B4⟩
          rw [cvF_none, Nat.xor_zero]
        case round =>
          clear OQ4 OR4 B4
          obtain ⟨k, fq, fr, hk, rfl, HE, OQ, OR, B⟩ := hrel
          by_cases hkm : P'.length ≤ k
          · have hkm' : (P'.length : Int) ≤ (k : Int) := by omega
            obtain ⟨e1, e2, e3, e4, e5, e6, e7⟩ := HE.out
            have hNv := HN.out
            have hTv := HT.out
            obtain ⟨k1, hk1⟩ : ∃ k1 : Nat, k = k1 + 1 := ⟨k - 1, by omega⟩
            obtain ⟨s, hs⟩ : ∃ s : Nat, k = s + P'.length := ⟨k - P'.length, by omega⟩
            have hkI : (k : Int) - 1 = (k1 : Int) := by omega
            have hsI : (k : Int) - (P'.length : Int) = (s : Int) := by omega
            have hk1l : k1 < k := by omega
            have hsN : s < N := by omega
            have hcl := OR.out.cellAt k1 (by omega)
            have qr : wr.cell? ⟨gr, k1, none⟩ = some (.int .u8 ((fr k1 : Nat) : Int)) := by
              rw [hcl, List.getElem?_map]
              simp only [tabL, List.getElem?_map, List.getElem?_range (show k1 < A'.length by omega), Option.map_some]
            have qb := (B.out.cell (p := ⟨b2, o2 + t, none⟩) hb2).trans (HC2.out t htl)
            rw [(HP.out.gN t).1] at qb
            have lpt := HGP.out t
            have lc := e2 k1
            have liv := inv_lt (gN P' t)
            have lf := prod_lt (inv (gN P' t)) lc
            have CI : Hid (∀ W, Calls Try.prog 47 #[.int .u8 ((gN P' t : Nat) : Int)] W fun e w' => e = .returned (.int .u8 ((inv (gN P' t) : Nat) : Int)) ∧ w' = W) := fun W => rinverse_any W _ lpt
            have CM : Hid (∀ W, Calls Try.prog 14 #[.int .u8 ((fr k1 : Nat) : Int), .int .u8 ((inv (gN P' t) : Nat) : Int)] W fun e w' => e = .returned (.int .u8 ((prod (fr k1) (inv (gN P' t)) : Nat) : Int)) ∧ w' = W) := fun W => rmul_any W _ _ lc liv
            have hcan : prod (gN P' t) (prod (fr k1) (inv (gN P' t))) = fr k1 := by
              rw [prod_comm (fr k1) _ lc liv, prod_assoc _ _ _ lpt liv lc, HPIV.out, one_prod _ lc]
            have HCAN := hid hcan
            obtain ⟨f, HF⟩ : ∃ f, Hid (prod (fr k1) (inv (gN P' t)) = f) := ⟨_, rfl⟩
            rw [HF.out] at CM lf HCAN
            obtain ⟨iv, HIV⟩ : ∃ iv, Hid (inv (gN P' t) = iv) := ⟨_, rfl⟩
            rw [HIV.out] at CI CM
            obtain ⟨pt, HPT⟩ : ∃ pt, Hid (gN P' t = pt) := ⟨_, rfl⟩
            rw [HPT.out] at qb CI HCAN
            obtain ⟨c, HCC⟩ : ∃ c, Hid (fr k1 = c) := ⟨_, rfl⟩
            rw [HCC.out] at qr CM HCAN
            have HAR := hid (And.intro hNv (And.intro hTv (And.intro hk1 hs)))
            clear hcl hcan lpt lc liv hNv hTv hk1 hs e1 e2 e3 e4 e5 e6 e7
            go_wp2
            go_quiet ((first | (go_at_call 47; exact Calls.quiet_of_same (CI.out _)) | (go_at_call 14; exact Calls.quiet_of_same (CM.out _))))
            obtain ⟨wA, hwA, HDA⟩ : ∃ wA, Hid (wr.drewN nq = wA) ∧ Hid (Dr wr wA) := ⟨_, rfl, Dr.one _ _⟩
            rw [hwA.out]
            have OQA := hid (own_below OQ.out (HDA.out.below _))
            have ORA := hid (own_below OR.out (HDA.out.below _))
            have BA := hid (B.out.trans (HDA.out.below _))
            have hcx := OQA.out.cellAt s (by omega)
            have hfz := OQA.out.frozenAt s
            obtain ⟨zz, hzz⟩ : ∃ zz, ((tabL N fq).map (Value.int .u8))[s]? = some zz := ⟨_, List.getElem?_eq_getElem (by rw [List.length_map, tabL_length]; exact hsN)⟩
            rw [hzz] at hcx
            have hst := OQA.out.stored s (.int .u8 (f : Int))
            obtain ⟨wB, hwB⟩ : ∃ wB, Hid (wA.setCell ⟨gq, s, none⟩ (.int .u8 (f : Int)) = wB) := ⟨_, rfl⟩
            have OQB : Hid (wB.ownsRow w2.heap.size 5 1 (.slice (some ⟨gq, 0, none⟩) N N) N ((tabL N (fun j => if j = s then f else fq j)).map (Value.int .u8))) := by
              have := hst.1
              rw [← List.map_set, tabL_set, hwB.out] at this
              exact this
            have GB : Hid (wA.grownBy wB (some gq)) := by rw [← hwB.out]; exact hst.2
            have ORB : Hid (wB.ownsRow w2.heap.size 5 1 (.slice (some ⟨gr, 0, none⟩) A'.length cr) A'.length ((tabL A'.length (subF P' fr s f 0)).map (Value.int .u8))) := by
              rw [tabL_congr _ fun l _ => subF_none P' fr s f l]
              exact ORA.out.kept GB.out (.inr (by simp [Value.ownBlock]; exact fun h => hqr h.symm))
            have BB := hid (BA.out.grown GB.out BA.out.size (fun k e => by cases e; exact hqb))
            clear hst hzz OQA ORA BA OQ OR B qr qb CI CM
            go_wp2
            rw [hwB.out]
            clear hcx hfz hwB GB
            go_loopw [11] (fun i wq => ∃ J : Nat, J ≤ P'.length ∧ i = .int .i64 (J : Int) ∧ Hid (wq.ownsRow w2.heap.size 5 1 (.slice (some ⟨gq, 0, none⟩) N N) N ((tabL N (fun j => if j = s then f else fq j)).map (Value.int .u8))) ∧ Hid (wq.ownsRow w2.heap.size 5 1 (.slice (some ⟨gr, 0, none⟩) A'.length cr) A'.length ((tabL A'.length (subF P' fr s f J)).map (Value.int .u8))) ∧ Hid (Below w2.heap.size w2 wq)) (fun i _ => P'.length - (intOf i).toNat)
            case atStart => exact ⟨0, Nat.zero_le _, rfl, OQB, ORB, BB⟩
            case round =>
              clear OQB ORB BB
              obtain ⟨J, hJ, rfl, OQ, OR, B⟩ := hrel
              by_cases hjl : J < P'.length
              · obtain ⟨hNv, hTv, hk1, hs⟩ := HAR.out
                obtain ⟨u, HU⟩ : ∃ u : Nat, Hid (s + J = u) := ⟨_, rfl⟩
                have hsj : (s : Int) + (J : Int) = (u : Int) := by have := HU.out; omega
                have huk : u < k := by have := HU.out; omega
                have huv : u = s + J := HU.out.symm
                have hcl := OR.out.cellAt u (by omega)
                have hfz := OR.out.frozenAt u
                have hcv : wr.cell? ⟨gr, u, none⟩ = some (.int .u8 ((fr u : Nat) : Int)) := by
                  rw [hcl, List.getElem?_map]
                  simp only [tabL, List.getElem?_map, List.getElem?_range (show u < A'.length by omega), Option.map_some, subF]
                  rw [if_neg (by omega), Nat.xor_zero]
                have qb := (B.out.cell (p := ⟨b2, o2 + J, none⟩) hb2).trans (HC2.out J hjl)
                rw [(HP.out.gN J).1] at qb
                have lu := HE.out.2.1 u
                have lb := HGP.out J
                have lm := prod_lt (gN P' J) lf
                have MU : Hid (∀ W, Calls Try.prog 14 #[.int .u8 (f : Int), .int .u8 ((gN P' J : Nat) : Int)] W fun e w' => e = .returned (.int .u8 ((prod f (gN P' J) : Nat) : Int)) ∧ w' = W) := fun W => rmul_any W _ _ lf lb
                have HST : Hid (∀ W, Dr wr W → (W.setCell ⟨gr, u, none⟩ (.int .u8 ((fr u ^^^ prod f (gN P' J) : Nat) : Int))).ownsRow w2.heap.size 5 1 (.slice (some ⟨gr, 0, none⟩) A'.length cr) A'.length ((tabL A'.length (subF P' fr s f (J + 1))).map (Value.int .u8)) ∧ (W.setCell ⟨gr, u, none⟩ (.int .u8 ((fr u ^^^ prod f (gN P' J) : Nat) : Int))).ownsRow w2.heap.size 5 1 (.slice (some ⟨gq, 0, none⟩) N N) N ((tabL N (fun j => if j = s then f else fq j)).map (Value.int .u8)) ∧ Below w2.heap.size w2 (W.setCell ⟨gr, u, none⟩ (.int .u8 ((fr u ^^^ prod f (gN P' J) : Nat) : Int)))) := fun W hW => by
                  have h0 := own_below OR.out (hW.below _)
                  have hst := h0.stored u (.int .u8 ((fr u ^^^ prod f (gN P' J) : Nat) : Int))
                  have h1 := hst.1
                  rw [← List.map_set, tabL_set] at h1
                  refine ⟨?_, (own_below OQ.out (hW.below _)).kept hst.2 (.inr (by simp [Value.ownBlock]; exact hqr)), (B.out.trans (hW.below _)).setCell (p := ⟨gr, u, none⟩) hgl.1 _⟩
                  rw [tabL_congr _ (f := subF P' fr s f (J + 1)) (g := fun l => if l = u then fr u ^^^ prod f (gN P' J) else subF P' fr s f J l) fun l hl => ?_]
                  · exact h1
                  · by_cases e : l = u
                    · rw [if_pos e, e]
                      unfold subF
                      rw [if_pos (by omega), show u - s = J by omega]
                    · rw [if_neg e]
                      unfold subF
                      congr 1
                      by_cases e2 : s ≤ l ∧ l < s + J
                      · rw [if_pos e2, if_pos (by omega)]
                      · rw [if_neg e2, if_neg (by omega)]
                obtain ⟨y, HY⟩ : ∃ y, Hid (gN P' J = y) := ⟨_, rfl⟩
                rw [HY.out] at qb MU lm HST
                obtain ⟨v, HVV⟩ : ∃ v, Hid (fr u = v) := ⟨_, rfl⟩
                rw [HVV.out] at hcv lu HST
                obtain ⟨m, HMM⟩ : ∃ m, Hid (prod f y = m) := ⟨_, rfl⟩
                rw [HMM.out] at MU lm HST
                have hxx := u8_xor_nat v m lu lm
                clear hcl OQ OR B hNv hTv hk1 hs huv lb
                go_wp2
                refine wp_region_quiet_lastA (n := 18) (by kernel_rfl) rfl rfl (by kernel_rfl) (by kernel_rfl) ?_
                simp only [List.take_succ_cons, List.take_zero]
                repeat (go_big_quiet_step ((go_at_call 14; exact Calls.quiet_of_same (MU.out _))))
                refine wpQuiet_nil ?_
                rintro w' ⟨nq, rfl⟩
                have hcd : (wr.drewN nq).cell? ⟨gr, u, none⟩ = some (.int .u8 (v : Int)) := hcv
                have hfd : (wr.drewN nq).frozen? ⟨gr, u, none⟩ = false := hfz
                go_simp
                have hst := HST.out (wr.drewN nq) (Dr.one _ _)
                obtain ⟨W2, hW2⟩ : ∃ W2, Hid ((wr.drewN nq).setCell ⟨gr, u, none⟩ (.int .u8 ((v ^^^ m : Nat) : Int)) = W2) := ⟨_, rfl⟩
                rw [hW2.out] at hst
                rw [hW2.out]
                have H1 := hid hst.1
                have H2 := hid hst.2.1
                have H3 := hid hst.2.2
                clear hst hcd hfd hcv hfz qb HST
                go_wp2
                exact ⟨⟨J + 1, by omega, by go_num, H2, H1, H3⟩, by simp [intOf]; omega⟩
              · obtain ⟨hNv, hTv, hk1, hs⟩ := HAR.out
                obtain ⟨e1, e2, e3, e4, e5, e6, e7⟩ := HE.out
                have hJ' : J = P'.length := by omega
                rw [hJ', tabL_congr A'.length (f := subF P' fr s f P'.length) (g := fun l => fr l ^^^ sh P' f s l) fun l _ => subF_all HGP.out fr s f l lf] at OR
                have l1 : ∀ i, (if i = s then f else fq i) < 256 := fun i => by split; exact lf; exact e1 i
                have l2 : ∀ i, fr i ^^^ sh P' f s i < 256 := fun i => xor8 (e2 i) (sh_lt HGP.out _ _ _)
                have l3 : ∀ i, gN A' i = (fr i ^^^ sh P' f s i) ^^^ cvF (fun j => if j = s then f else fq j) P' A'.length i := fun i => by
                  rw [cvF_upd P' s f (e7 s (by omega)) A'.length i (by omega), e3 i, Nat.xor_assoc, Nat.xor_comm (cvF fq P' A'.length i), xor_left_self]
                have l4 : ∀ i, k ≤ i → fr i ^^^ sh P' f s i = 0 := fun i hi => by
                  rw [e4 i hi, Nat.zero_xor, sh, if_pos (by omega), gN_out P' _ (by omega), zero_prod _ lf]
                have l5 : fr k1 ^^^ sh P' f s k1 = 0 := by
                  rw [sh, if_pos (by omega), show k1 - s = t by omega, HPT.out, HCAN.out, ← HCC.out, Nat.xor_self]
                have l6 : ∀ j, A'.length < j + P'.length → (if j = s then f else fq j) = 0 := fun j hj => by rw [if_neg (by omega)]; exact e6 j hj
                have hkk : ∀ kk, kk = cutN (tabL k (fun i => fr i ^^^ sh P' f s i)) k → kk < k ∧ (∀ i, kk ≤ i → fr i ^^^ sh P' f s i = 0) ∧ (kk ≠ 0 → fr (kk - 1) ^^^ sh P' f s (kk - 1) ≠ 0) := by
                  intro kk hkk
                  have hlt : kk < k := by
                    have h0 : cutN (tabL k (fun i => fr i ^^^ sh P' f s i)) k = cutN (tabL k (fun i => fr i ^^^ sh P' f s i)) k1 := by
                      have : gN (tabL k (fun i => fr i ^^^ sh P' f s i)) k1 = 0 := by rw [gN_tabL _ _ _ hk1l]; exact l5
                      rw [show cutN (tabL k (fun i => fr i ^^^ sh P' f s i)) k = cutN (tabL k (fun i => fr i ^^^ sh P' f s i)) (k1 + 1) by rw [← hk1], cutN, if_pos this]
                    have := cutN_le (tabL k (fun i => fr i ^^^ sh P' f s i)) k1
                    omega
                  refine ⟨hlt, fun i hi => ?_, fun h0 => ?_⟩
                  · by_cases hik : i < k
                    · have := cutN_stop (tabL k (fun i => fr i ^^^ sh P' f s i)) k i (by omega) hik
                      rwa [gN_tabL _ _ _ hik] at this
                    · exact l4 i (by omega)
                  · have := cutN_last (tabL k (fun i => fr i ^^^ sh P' f s i)) k (by omega)
                    rw [← hkk, gN_tabL _ _ _ (by omega)] at this
                    exact this
                have hHR : HB wr (.slice (some ⟨gr, 0, none⟩) (tabL k (fun i => fr i ^^^ sh P' f s i)).length cr) (tabL k (fun i => fr i ^^^ sh P' f s i)) := by
                  refine HB.of_own (B := w2.heap.size) (e := 5) ?_ (tabL_byt k l2)
                  rw [tabL_length]
                  have := own_take OR.out k hk
                  rw [← List.map_take, tabL_take _ _ _ hk] at this
                  exact this
                have ct := rcut_any wr _ _ _ hHR
                rw [tabL_length] at ct
                have CT := hid ct
                obtain ⟨kk, HKK⟩ : ∃ kk, Hid (cutN (tabL k (fun i => fr i ^^^ sh P' f s i)) k = kk) := ⟨_, rfl⟩
                have h3 := hkk kk HKK.out.symm
                rw [HKK.out] at CT
                have HNEW : Hid ((∀ i, (fun j => if j = s then f else fq j) i < 256) ∧ (∀ i, (fun i => fr i ^^^ sh P' f s i) i < 256) ∧ (∀ i, gN A' i = (fun i => fr i ^^^ sh P' f s i) i ^^^ cvF (fun j => if j = s then f else fq j) P' A'.length i) ∧ (∀ i, kk ≤ i → (fun i => fr i ^^^ sh P' f s i) i = 0) ∧ (kk ≠ 0 → (fun i => fr i ^^^ sh P' f s i) (kk - 1) ≠ 0) ∧ (∀ j, A'.length < j + P'.length → (fun j => if j = s then f else fq j) j = 0) ∧ (∀ j, j + P'.length ≤ kk → (fun j => if j = s then f else fq j) j = 0)) :=
                  ⟨l1, l2, l3, h3.2.1, h3.2.2, l6, fun j hj => by show (if j = s then f else fq j) = 0; rw [if_neg (by omega)]; exact e7 j (by omega)⟩
                have hkl := h3.1
                clear h3 hkk hHR ct l1 l2 l3 l4 l5 l6 e1 e2 e3 e4 e5 e6 e7 hJ' hNv hTv hk1 hs HE
                go_wp2_with fail
                refine CT.out.mono ?_
                rintro e w5 ⟨rfl, hw⟩
                subst hw
                clear CT
                go_wp2
                exact ⟨⟨kk, _, _, by omega, rfl, HNEW, OQ, OR, B⟩, hkl⟩
          · have hkm' : ¬ (P'.length : Int) ≤ (k : Int) := by omega
            obtain ⟨e1, e2, e3, e4, e5, e6, e7⟩ := HE.out
            have hHQ : HB wr (.slice (some ⟨gq, 0, none⟩) (tabL N fq).length N) (tabL N fq) := by
              refine HB.of_own (B := w2.heap.size) (e := 5) ?_ (tabL_byt N e1)
              rw [tabL_length]
              exact OQ.out
            have ct := rcut_any wr _ _ _ hHQ
            rw [tabL_length] at ct
            have CT := hid ct
            have ek : cutL (tabL A'.length fr) = tabL k fr := cutL_of _ k fr hk e4 e5
            have eq1 : cutL (tabL A'.length fq) = cutL (tabL N fq) := by
              have := cut_more N fq (A'.length - N) (fun i hi => e6 i (by have := HN.out; omega))
              rw [show N + (A'.length - N) = A'.length by have := HN.out; omega] at this
              exact this
            have FIN : Hid (OverPost w2 A' P' (.returned (.tuple #[.slice (some ⟨gq, 0, none⟩) (cutN (tabL N fq) N) N, .slice (some ⟨gr, 0, none⟩) k cr, .int .i64 0])) wr) := by
              refine ⟨fun h => absurd HL.out h, fun _ h => absurd h HM.out, fun _ _ => ⟨_, _, fq, fr, rfl, e1, e2, ?_, ?_, ⟨.inr (by simp [Value.ownBlock]; exact hqr), .inr (by simp [Value.ownBlock]; exact fun h => hqr h.symm)⟩, e3, fun i hi => e4 i (by omega), e6⟩, B.out⟩
              · rw [eq1]
                exact own_cut OQ.out
              · rw [ek, tabL_length]
                have := own_take OR.out k hk
                rw [← List.map_take, tabL_take _ _ _ hk] at this
                exact this
            obtain ⟨nc, HNC⟩ : ∃ nc, Hid (cutN (tabL N fq) N = nc) := ⟨_, rfl⟩
            rw [HNC.out] at CT FIN
            clear ct hHQ e1 e2 e3 e4 e5 e6 e7 ek eq1 HE OQ OR
            go_wp2_with fail
            refine CT.out.mono ?_
            rintro e w5 ⟨rfl, hw⟩
            subst hw
            go_wp2
            go_ret3
            exact FIN.out
  · have FIN : Hid (OverPost w2 A' P' (.returned (.tuple #[.slice none 0 0, .slice none 0 0, .int .i64 61])) w2) := ⟨fun _ => rfl, fun h => absurd h hlong, fun h => absurd h hlong, Below.refl _ _⟩
    by_cases hgt : (256 : Int) < (A'.length : Int)
    · clear hlong
      go_wp2
      go_ret3
      exact FIN.out
    · have g1 : (256 : Int) < (P'.length : Int) := by omega
      clear hlong
      go_wp2
      go_ret3
      exact FIN.out
end Go.Proofs.Ytmglpcenipnmbaa
