/- The document's Bytes, walked whole. -/
import Derived.Test.YtcgecflebplgaaaBsRBytes
set_option linter.unusedSimpArgs false
set_option linter.unusedVariables false
namespace Go.Proofs.Ytcgecflebplgaaa
open Go Go.RowKit

theorem nF_256 (f : Nat → Int) (hf : ∀ n, 0 ≤ f n ∧ f n < 2) (a m : Nat) (h : m ≤ 8) : 0 ≤ nF f a m ∧ nF f a m < 256 := by
  have h1 := nF_lt f hf a m
  have h2 : (2 : Int) ^ m ≤ 256 := by
    rcases (by omega : m = 0 ∨ m = 1 ∨ m = 2 ∨ m = 3 ∨ m = 4 ∨ m = 5 ∨ m = 6 ∨ m = 7 ∨ m = 8) with rfl | rfl | rfl | rfl | rfl | rfl | rfl | rfl | rfl <;> decide
  omega
set_option maxRecDepth 100000 in
set_option maxHeartbeats 8000000 in
theorem rbytes_any (w : World) (s : ByteArray) (hs : s.size ≤ 140737488351232) :
    Calls Try.prog 15 #[.string s] w fun e w' => ∃ v', e = .returned (.tuple #[v', .int .i64 (byP (sB s)), .int .i64 (byE (sB s))]) ∧ w'.ownsRow w.heap.size 5 1 v' (byL (sB s)).length ((byL (sB s)).map (Value.int .u8)) ∧ Below w.heap.size w w' := by
  have hby := sB_byt s
  obtain ⟨l, Hl⟩ : ∃ l, Hid (sB s = l) := ⟨_, rfl⟩
  have hll : l.length = s.size := by rw [← Hl.out]; exact sB_length s
  rw [Hl.out]
  rw [Hl.out] at hby
  have HBY := hid hby
  clear hby
  have CV : Hid (∀ W i, i < s.size → Calls Try.prog 31 #[.int .u8 (l.getD i 0)] W fun e w' => e = .returned (.int .i64 (val (l.getD i 0))) ∧ w' = W) := by
    refine hid fun W i hi => ?_
    exact value_any W _ (getD_byt HBY.out i)
  go_enter Try.func15, Try.ntmps15
  go_wp2
  go_loopw [5] (fun i wr => ∃ I : Nat, I ≤ s.size ∧ i = .int .i64 (I : Int) ∧ Hid (∀ j, j < I → 0 ≤ val (l.getD j 0)) ∧ wr = w) (fun i _ => s.size - (intOf i).toNat)
  case atStart => exact ⟨0, Nat.zero_le _, rfl, hid (fun j hj => by omega), rfl⟩
  case round =>
    obtain ⟨I, hI, rfl, HG, rfl⟩ := hrel
    by_cases hlt : I < s.size
    · have q1 := idx_str wr s I hlt
      rw [Hl.out] at q1
      have C := hid (CV.out wr I hlt)
      have hvl := val_lt (l.getD I 0)
      have HB1 := hid (by_bad l I (by omega))
      obtain ⟨c, Hc⟩ : ∃ c, Hid (l.getD I 0 = c) := ⟨_, rfl⟩
      rw [Hc.out] at q1 C hvl HB1
      obtain ⟨x, Hx⟩ : ∃ x, Hid (val c = x) := ⟨_, rfl⟩
      rw [Hx.out] at C hvl HB1
      go_wp2_with fail
      refine C.out.mono ?_
      rintro e w' ⟨rfl, hw⟩
      have hw' := hw.symm
      subst hw'
      clear hw C
      by_cases hx0 : x < 0
      · obtain ⟨e1, e2, e3⟩ := HB1.out hx0 HG.out
        have E1 := hid e1
        have E2 := hid e2
        have E3 := hid e3
        clear e1 e2 e3
        go_wp2
        go_ret3
        refine ⟨.slice none 0 0, by rw [E2.out, E3.out]; rfl, ?_, Below.refl _ _⟩
        rw [E1.out]
        exact World.ownsRow_nil _ _ _ _
      · have hx1 : ¬ x < 0 := hx0
        have HG2 : Hid (∀ j, j < I + 1 → 0 ≤ val (l.getD j 0)) := by
          refine hid fun j hj => ?_
          by_cases hji : j < I
          · exact HG.out j hji
          · have : j = I := by omega
            subst this
            rw [Hc.out, Hx.out]
            omega
        go_wp2
        exact ⟨⟨I + 1, by omega, by go_num, HG2, trivial⟩, by simp [intOf]; omega⟩
    · have HGA : Hid (∀ j, j < l.length → 0 ≤ val (l.getD j 0)) := hid (fun j hj => HG.out j (by omega))
      clear HG
      obtain ⟨n, Hn⟩ : ∃ n, Hid (5 * s.size / 8 = n) := ⟨_, rfl⟩
      have hdn : 5 * (s.size : Int) / 8 = (n : Int) := by have := Hn.out; omega
      have hn1 : n ≤ s.size := by have := Hn.out; omega
      obtain ⟨ll, Hll⟩ : ∃ ll, Hid (lenL n = ll) := ⟨_, rfl⟩
      have CN : Hid (∀ W, Calls Try.prog 32 #[.int .i64 (n : Int)] W fun e w' => e = .returned (.int .i64 (ll : Int)) ∧ w' = W) := by
        refine hid fun W => ?_
        have := rlength_any W n (by omega)
        rwa [Hll.out] at this
      by_cases hln : ll = s.size
      · have HLN : Hid (lenL (5 * l.length / 8) = l.length) := by rw [hll, Hn.out, Hll.out]; exact hln
        have hol : Hid ((outL l).length = n) := by rw [outL_length, hll]; exact Hn.out
        have HLO := hid (letters_outL l (good_of l HGA.out) HLN.out)
        by_cases hsp : 0 < s.size
        · have hnn : ((ll : Int) != (s.size : Int)) = false := by rw [hln]; simp
          clear hln
          go_wp2_with fail
          refine (CN.out _).mono ?_
          rintro e w' ⟨rfl, hw⟩
          have hw' := hw.symm
          subst hw'
          clear hw CN
          obtain ⟨w, hw⟩ : ∃ w, w = wr := ⟨_, rfl⟩
          subst hw
          go_wp2
          go_loopw [7, 8] (fun o i wr => ∃ I : Nat, I ≤ n ∧ i = .int .i64 (I : Int) ∧ Hid (wr.ownsRow w.heap.size 5 1 o I (((outL l).take I).map (Value.int .u8))) ∧ Hid (Below w.heap.size w wr)) (fun _ i _ => n - (intOf i).toNat)
          case atStart => exact ⟨0, Nat.zero_le _, rfl, World.ownsRow_nil _ _ _ _, Below.refl _ _⟩
          case round =>
            obtain ⟨I, hI, rfl, HO, B⟩ := hrel
            by_cases hin : I < n
            · have h8 : 8 * I + 8 ≤ 5 * s.size := by have := Hn.out; omega
              go_wp2
              obtain ⟨w1, hw1⟩ : ∃ w1, w1 = wr := ⟨_, rfl⟩
              subst hw1
              go_loopw [9, 10] (fun x k wr => ∃ K : Nat, K ≤ 8 ∧ x = .int .i64 (nF (bitV (vL l)) (8 * I) K) ∧ k = .int .i64 (K : Int) ∧ wr = w1) (fun _ k _ => 8 - (intOf k).toNat)
              case atStart => exact ⟨0, by omega, rfl, rfl, rfl⟩
              case round =>
                obtain ⟨K, hK, rfl, rfl, rfl⟩ := hrel
                by_cases hlk : K < 8
                · have hnum := nF_256 (bitV (vL l)) (bitV_01 _) (8 * I) K hK
                  obtain ⟨Q, HQ⟩ : ∃ Q, Hid ((8 * I + K) / 5 = Q) := ⟨_, rfl⟩
                  have hdiv : (8 * (I : Int) + (K : Int)) / 5 = (Q : Int) := by have := HQ.out; omega
                  have hQ : Q < s.size := by have := HQ.out; omega
                  have q1 := idx_str wr s Q hQ
                  rw [Hl.out] at q1
                  have C := hid (CV.out wr Q hQ)
                  have hv0 := HGA.out Q (by omega)
                  have hv1 := (val_lt (l.getD Q 0)).2
                  have HVG := hid (vL_get l Q (by omega))
                  obtain ⟨c, Hc⟩ : ∃ c, Hid (l.getD Q 0 = c) := ⟨_, rfl⟩
                  rw [Hc.out] at q1 C hv0 hv1 HVG
                  obtain ⟨x, Hx⟩ : ∃ x, Hid (val c = x) := ⟨_, rfl⟩
                  rw [Hx.out] at C hv0 hv1 HVG
                  have HS : Hid (wrap64 (2 * nF (bitV (vL l)) (8 * I) K + (x / 2 ^ (4 - (8 * I + K) % 5)).tmod 2) = nF (bitV (vL l)) (8 * I) (K + 1)) := by
                    refine hid ?_
                    have e : nF (bitV (vL l)) (8 * I) (K + 1) = 2 * nF (bitV (vL l)) (8 * I) K + x / 2 ^ (4 - (8 * I + K) % 5) % 2 := by
                      simp only [nF]
                      rw [show bitV (vL l) (8 * I + K) = (vL l).getD ((8 * I + K) / 5) 0 / 2 ^ (4 - (8 * I + K) % 5) % 2 from rfl, HQ.out, HVG.out]
                    rw [Int.tmod_eq_emod_of_nonneg (Int.ediv_nonneg hv0 (Int.pow_nonneg (by decide))), ← e]
                    have := nF_256 (bitV (vL l)) (bitV_01 _) (8 * I) (K + 1) (by omega)
                    unfold wrap64
                    omega
                  go_wp2_with fail
                  refine C.out.mono ?_
                  rintro e w' ⟨rfl, hw⟩
                  have hw' := hw.symm
                  subst hw'
                  clear hw C
                  go_wp2
                  exact ⟨⟨K + 1, by omega, by rw [HS.out], by go_num, trivial⟩, by simp [intOf]; omega⟩
                · have hK8 : K = 8 := by omega
                  subst hK8
                  have hy := nF_256 (bitV (vL l)) (bitV_01 _) (8 * I) 8 (by omega)
                  have HS : Hid ((outL l).take (I + 1) = (outL l).take I ++ [nF (bitV (vL l)) (8 * I) 8]) := by
                    have hk : I < (outL l).length := by rw [hol.out]; exact hin
                    rw [List.take_succ_eq_append_getElem hk, ← getD_of_lt hk, outL_get l _ (by rw [← outL_length]; exact hk)]
                    exact rfl
                  obtain ⟨y, Hy⟩ : ∃ y, Hid (nF (bitV (vL l)) (8 * I) 8 = y) := ⟨_, rfl⟩
                  rw [Hy.out] at HS hy
                  rw [Hy.out]
                  obtain ⟨hy0, hy1⟩ := hy
                  go_wp2_with (at_builtin; refine wpList_append_byte rfl _ _ rfl w.heap.size _ I _ rfl (HO.out.alloc _) ⟨wr.heap.size, 0, none⟩ 1 y rfl (by simp) ?q1 ?q2 ?_)
                  case q1 => omega
                  case q2 => have := B.out.size; simp; omega
                  intro v' w2 hown2 hgr2 _
                  have HO2 : Hid (w2.ownsRow w.heap.size 5 1 v' (I + 1) (((outL l).take (I + 1)).map (Value.int .u8))) := by
                    rw [HS.out, List.map_append, List.map_take]
                    exact hown2
                  have HB2 := hid ((B.out.alloc B.out.size _).grown hgr2 (by have := B.out.size; simp; omega) (fun k e => (HO.out.lt k e).1))
                  clear hown2 hgr2
                  go_wp2
                  exact ⟨⟨I + 1, by omega, by go_num, HO2, HB2⟩, by simp [intOf]; omega⟩
            · have hI' : I = n := by omega
              subst hI'
              have HF : Hid (wr.ownsRow w.heap.size 5 1 u7 (outL l).length ((outL l).map (Value.int .u8))) := by
                have := HO.out
                rw [List.take_of_length_le (by rw [hol.out]; exact Nat.le_refl _), ← hol.out] at this
                exact this
              have hHH := HB.of_own HF.out (outL_byt l)
              have CL := rletters_any wr _ (outL l) hHH (by have := hol.out; have := Hn.out; omega)
              obtain ⟨S, HS⟩ : ∃ S, Hid (bS (lettersL (outL l)) = S) := ⟨_, rfl⟩
              rw [HS.out] at CL
              have CL := hid CL
              clear hHH HO
              go_wp2_with fail
              refine CL.out.mono ?_
              rintro e w2 ⟨rfl, hB2⟩
              have B2 := hid (B.out.trans (hB2.mono B.out.size))
              have HF2 := hid (own_below HF.out hB2)
              clear hB2 CL
              by_cases hh : heldL l l.length = 0
              · have e : S = s := by
                  apply sB_inj
                  rw [← HS.out, sB_bS (lettersL_byt _), HLO.out.2 hh, Hl.out]
                obtain ⟨e1, e2, e3⟩ := by_ok l HGA.out ⟨hh, HLN.out⟩
                have E1 := hid e1
                have E2 := hid e2
                have E3 := hid e3
                clear e1 e2 e3 hh
                subst e
                have heq : (S.toList == S.toList) = true := by simp
                go_wp2
                go_ret3
                refine ⟨_, by rw [E2.out, E3.out]; rfl, ?_, B2.out⟩
                rw [E1.out]
                exact HF2.out
              · have hne : (S.toList == s.toList) = false := by
                  rw [eq_iff_sB, ← HS.out, sB_bS (lettersL_byt _), Hl.out]
                  simp only [decide_eq_false_iff_not]
                  exact fun h => hh (HLO.out.1 h)
                obtain ⟨e1, e2, e3⟩ := by_spare l HGA.out (fun q => hh q.1)
                have E1 := hid e1
                have E2 := hid e2
                have E3 := hid e3
                clear e1 e2 e3 hh
                go_wp2
                go_ret3
                refine ⟨.slice none 0 0, by rw [E2.out, E3.out, hll]; rfl, ?_, B2.out⟩
                rw [E1.out]
                exact World.ownsRow_nil _ _ _ _
        · have hsz : s.size = 0 := by omega
          have hl0 : l = [] := List.length_eq_zero_iff.1 (by omega)
          have hI0 : I = 0 := by omega
          have hemp : s.toList = [] := by
            rw [ByteArray.toList_eq]
            exact List.eq_nil_of_length_eq_zero (by rw [← Lib.size_eq]; exact hsz)
          have E : Hid (byL l = [] ∧ byP l = 0 ∧ byE l = 0) := by
            obtain ⟨e1, e2, e3⟩ := by_ok l HGA.out ⟨by rw [hl0]; simp [heldL, nF], HLN.out⟩
            refine hid ⟨?_, e2, e3⟩
            rw [e1, hl0]
            simp [outL]
          have CL := rletters_any wr (.slice none 0 0) [] (HB.nil wr) (by simp)
          have e0 : bS (lettersL []) = ⟨#[]⟩ := by decide
          rw [e0] at CL
          have CL := hid CL
          subst hI0
          clear e0 CN HLO hln hs hll hdn hn1 hI hlt hsp hl0
          go_wp2
          go_loop [7, 8] (fun o i => o = .slice none 0 0 ∧ i = .int .i64 0) (fun _ _ => 0)
          case atStart => exact ⟨rfl, rfl⟩
          case round =>
            obtain ⟨rfl, rfl⟩ := hrel
            go_wp2_with fail
            refine CL.out.mono ?_
            rintro e w2 ⟨rfl, hB2⟩
            have B2 := hid hB2
            clear hB2 CL
            go_wp2
            go_ret3
            refine ⟨.slice none 0 0, by rw [E.out.2.1, E.out.2.2]; rfl, ?_, B2.out⟩
            rw [E.out.1]
            exact World.ownsRow_nil _ _ _ _
      · have hsp : 0 < s.size := by
          apply Classical.byContradiction
          intro hn
          apply hln
          rw [← Hll.out, ← Hn.out]
          unfold lenL
          omega
        obtain ⟨e1, e2, e3⟩ := by_spare l HGA.out (by rw [hll, Hn.out, Hll.out]; exact fun q => hln q.2)
        have E1 := hid e1
        have E2 := hid e2
        have E3 := hid e3
        have hnn : ((ll : Int) != (s.size : Int)) = true := by rw [bne_iff_ne]; omega
        clear e1 e2 e3
        clear hln
        go_wp2_with fail
        refine (CN.out _).mono ?_
        rintro e w' ⟨rfl, rfl⟩
        go_wp2
        go_ret3
        refine ⟨.slice none 0 0, by rw [E2.out, E3.out, hll]; rfl, ?_, Below.refl _ _⟩
        rw [E1.out]
        exact World.ownsRow_nil _ _ _ _
end Go.Proofs.Ytcgecflebplgaaa
