/- BaseOrder, walked. -/
import Derived.Test.YtcgecflebplgaaaBsLettersW
import Derived.Test.YtcgecflebplgaaaBsOrderM
import Derived.Test.YtcgecflebplgaaaSameBytes
set_option linter.unusedSimpArgs false
set_option linter.unusedVariables false
namespace Go.Proofs.Ytcgecflebplgaaa
open Go Go.RowKit

def rk (c : Int) : Int := if c < 97 then c else c - 97
set_option maxHeartbeats 1000000 in
theorem rank_any (w : World) (c : Int) (h : 0 ≤ c ∧ c < 256) : Calls Try.prog 27 #[.int .u8 c] w fun e w' => e = .returned (.int .i64 (rk c)) ∧ w' = w := by
  obtain ⟨h0, h1⟩ := h
  by_cases h2 : c < 97
  · have h3 : ¬ 97 ≤ c := by omega
    go_enter Try.func27, Try.ntmps27
    go_wp2
    go_ret
    exact ⟨by simp [rk, h2], rfl⟩
  · have h3 : 97 ≤ c := by omega
    go_enter Try.func27, Try.ntmps27
    go_wp2
    go_ret
    exact ⟨by unfold rk; rw [if_neg (by omega)]; rfl, rfl⟩
theorem idx_strB (w : World) (l : List Int) (hb : Byt8 l) (i : Nat) (h : i < l.length) : (Instr.index 9 (.string (bS l)) (.int .i64 (i : Int))).run Try.prog w = .ok (.int .u8 (l.getD i 0)) w := by
  rw [run_index_string w 9 (bS l) .i64 i Try.underlying9, dif_pos (by rw [bS_size]; omega)]
  congr 2
  have := sB_get (bS l) i (by rw [bS_size]; exact h)
  rw [sB_bS hb] at this
  rw [← this]
  congr

set_option maxRecDepth 100000 in
set_option maxHeartbeats 8000000 in
theorem order_walk (w : World) (va vb : Value) (a b : List Int) (ha : HB w va a) (hb : HB w vb b) (hla : a.length ≤ 140737488351232) (hlb : b.length ≤ 140737488351232) :
    Calls Try.prog 7 #[va, vb] w fun r w' => r = .returned (.bool true) ∧ Below w.heap.size w w' := by
  have HA := hid ha
  have HB' := hid hb
  obtain ⟨p1, c1, rfl, _, hc1⟩ := ha.open
  obtain ⟨p2, c2, rfl, _, hc2⟩ := hb.open
  clear ha hb
  unfold maxLen at hc1 hc2
  have hone : HB (w.alloc (.cells #[.int .u8 255] 5)) (.slice (some ⟨w.heap.size, 0, none⟩) 1 1) [255] := by
    refine ⟨⟨_, 1, rfl, by simp, by decide, (fun e => by cases e), fun _ => ⟨w.heap.size, 0, rfl, fun j hj => ?_⟩⟩, by simp⟩
    simp at hj
    subst hj
    simp
  have C0 := letters_any (w.alloc (.cells #[.int .u8 255] 5)) _ [255] hone (by simp)
  have e74 : bS (lettersL [255]) = ⟨#[55, 52]⟩ := by decide
  rw [e74] at C0
  have C0 := hid C0
  have CN := hid (fun W => length_any W 1 (by omega) (by omega))
  have hl1 : lenI 1 = 2 := by decide
  rw [hl1] at CN
  clear hone
  go_enter Try.func7, Try.ntmps7
  go_wp2_with fail
  refine C0.out.mono ?_
  rintro e1 w1 ⟨rfl, hB1⟩
  have B1 := hid (((Below.refl w.heap.size w).alloc (Nat.le_refl _) (.cells #[.int .u8 255] 5)).trans (hB1.mono (by simp)))
  clear hB1 C0
  go_wp2_with fail
  refine (CN.out w1).mono ?_
  rintro e2 w2 ⟨rfl, hw2⟩
  subst hw2
  clear CN
  by_cases hlen : a.length = b.length
  · have hne : ((a.length : Int) != (b.length : Int)) = false := by rw [hlen]; simp
    have HLEN := hid hlen
    rw [← hlen]
    clear hlen
    have C3 := letters_any w2 _ a (HA.out.below B1.out) (by omega)
    obtain ⟨La, HLa⟩ : ∃ La, Hid (lettersL a = La) := ⟨_, rfl⟩
    obtain ⟨Lb, HLb⟩ : ∃ Lb, Hid (lettersL b = Lb) := ⟨_, rfl⟩
    have hsa : La.length = lenL a.length := by rw [← HLa.out]; exact lettersL_length a
    have hsb : Lb.length = lenL a.length := by rw [← HLb.out, HLEN.out]; exact lettersL_length b
    have hya : Hid (Byt8 La) := by rw [← HLa.out]; exact lettersL_byt a
    have hyb : Hid (Byt8 Lb) := by rw [← HLb.out]; exact lettersL_byt b
    rw [HLa.out] at C3
    go_wp2_with fail
    refine C3.mono ?_
    clear C3
    rintro e3 w3 ⟨rfl, hB3⟩
    have B3 := hid (B1.out.trans (hB3.mono B1.out.size))
    clear hB3 B1
    have C4 := letters_any w3 _ b (HB'.out.below B3.out) (by omega)
    rw [HLb.out, ← HLEN.out] at C4
    go_wp2_with fail
    refine C4.mono ?_
    clear C4
    rintro e4 w4 ⟨rfl, hB4⟩
    have B4 := hid (B3.out.trans (hB4.mono B3.out.size))
    clear hB4 B3
    have za : (bS La).size = lenL a.length := by rw [bS_size, hsa]
    have zb : (bS Lb).size = lenL a.length := by rw [bS_size, hsb]
    have hln : lenL a.length ≤ 281474976710656 := by unfold lenL; omega
    obtain ⟨n, Hn⟩ : ∃ n, Hid (lenL a.length = n) := ⟨_, rfl⟩
    rw [Hn.out] at za zb hln hsa hsb
    have HAw := hid (HA.out.below B4.out)
    have HBw := hid (HB'.out.below B4.out)
    obtain ⟨Sa, HSa⟩ : ∃ Sa, Hid (bS La = Sa) := ⟨_, rfl⟩
    obtain ⟨Sb, HSb⟩ : ∃ Sb, Hid (bS Lb = Sb) := ⟨_, rfl⟩
    have HIa : Hid (∀ W k, k < n → (Instr.index 9 (.string Sa) (.int .i64 (k : Int))).run Try.prog W = .ok (.int .u8 (La.getD k 0)) W) := by
      refine hid fun W k hk => ?_
      rw [← HSa.out]
      exact idx_strB W La hya.out k (by omega)
    have HIb : Hid (∀ W k, k < n → (Instr.index 9 (.string Sb) (.int .i64 (k : Int))).run Try.prog W = .ok (.int .u8 (Lb.getD k 0)) W) := by
      refine hid fun W k hk => ?_
      rw [← HSb.out]
      exact idx_strB W Lb hyb.out k (by omega)
    rw [HSa.out] at za
    rw [HSb.out] at zb
    rw [HSa.out, HSb.out]
    clear HA HB'
    go_wp2
    go_loopw [7] (fun i wr => ∃ I : Nat, I ≤ a.length ∧ i = .int .i64 (I : Int) ∧ Hid (∀ j, j < I → a.getD j 0 = b.getD j 0) ∧ Dr w4 wr) (fun i _ => a.length - (intOf i).toNat)
    case atStart => exact ⟨0, Nat.zero_le _, rfl, hid (fun j hj => by omega), Dr.refl _⟩
    case round =>
      obtain ⟨I, hI, rfl, HE, q, rfl⟩ := hrel
      by_cases hlt : I < a.length
      · obtain ⟨b1, o1, d1, e1, _, _, hk1⟩ := HAw.out.ne (by omega)
        obtain ⟨b2, o2, d2, e2, _, _, hk2⟩ := HBw.out.ne (by have := HLEN.out; omega)
        simp only [Value.slice.injEq] at e1 e2
        obtain ⟨rfl, _, rfl⟩ := e1
        obtain ⟨rfl, _, rfl⟩ := e2
        have g1 := hk1 I hlt
        have g2 := hk2 I (by have := HLEN.out; omega)
        obtain ⟨hx1, hx2⟩ := HAw.out.byte I
        obtain ⟨hy1, hy2⟩ := HBw.out.byte I
        obtain ⟨x, Hx⟩ : ∃ x, Hid (a.getD I 0 = x) := ⟨_, rfl⟩
        obtain ⟨y, Hy⟩ : ∃ y, Hid (b.getD I 0 = y) := ⟨_, rfl⟩
        rw [Hx.out] at g1 hx1 hx2
        rw [Hy.out] at g2 hy1 hy2
        by_cases he : x = y
        · subst he
          have HE2 : Hid (∀ j, j < I + 1 → a.getD j 0 = b.getD j 0) := by
            refine hid fun j hj => ?_
            by_cases hji : j < I
            · exact HE.out j hji
            · have : j = I := by omega
              subst this
              rw [Hx.out, Hy.out]
          clear hk1 hk2
          go_wp2
          go_quiet (fail)
          go_wp2
          exact ⟨⟨I + 1, by omega, by go_num, HE2, Dr.one _ _⟩, by simp [intOf]; omega⟩
        · have hne2 : (x == y) = false := by simpa using he
          have hor := order_letters (a := a) (b := b) HAw.out.2 HBw.out.2 hlt HLEN.out (by rw [Hx.out, Hy.out]; exact he) HE.out
          rw [HLa.out, HLb.out, Hn.out, Hx.out, Hy.out] at hor
          have HOR := hid hor
          clear hor
          clear hk1 hk2
          go_wp2
          go_quiet (fail)
          go_wp2
          go_loopw [8] (fun k wr => ∃ K : Nat, K ≤ n ∧ k = .int .i64 (K : Int) ∧ Hid (∀ j, j < K → La.getD j 0 = Lb.getD j 0) ∧ Dr w4 wr) (fun k _ => n - (intOf k).toNat)
          case atStart => exact ⟨0, Nat.zero_le _, rfl, hid (fun j hj => by omega), (Dr.one _ _).drewN _⟩
          case round =>
            obtain ⟨K, hK, rfl, HK, q2, rfl⟩ := hrel
            by_cases hlk : K < n
            · have s1 := fun W => HIa.out W K hlk
              have s2 := fun W => HIb.out W K hlk
              obtain ⟨hu1, hu2⟩ := getD_byt hya.out K
              obtain ⟨hv1, hv2⟩ := getD_byt hyb.out K
              obtain ⟨u, Hu⟩ : ∃ u, Hid (La.getD K 0 = u) := ⟨_, rfl⟩
              obtain ⟨v, Hv⟩ : ∃ v, Hid (Lb.getD K 0 = v) := ⟨_, rfl⟩
              simp only [Hu.out] at s1
              simp only [Hv.out] at s2
              rw [Hu.out] at hu1 hu2
              rw [Hv.out] at hv1 hv2
              by_cases huv : u = v
              · subst huv
                have HK2 : Hid (∀ j, j < K + 1 → La.getD j 0 = Lb.getD j 0) := by
                  refine hid fun j hj => ?_
                  by_cases hji : j < K
                  · exact HK.out j hji
                  · have : j = K := by omega
                    subst this
                    rw [Hu.out, Hv.out]
                have hbb : (u != u) = false := by simp
                go_wp2
                go_quiet (fail)
                go_wp2
                exact ⟨⟨K + 1, by omega, by go_num, HK2, Dr.one _ _⟩, by simp [intOf]; omega⟩
              · have hbb : (u != v) = true := by simpa using huv
                have HR : Hid (rankI u < rankI v ↔ x < y) := by
                  obtain ⟨k, h1, h2, h3, h4⟩ := HOR.out
                  have hkK : k = K := by
                    apply Classical.byContradiction
                    intro hne
                    rcases (by omega : k < K ∨ K < k) with h | h
                    · exact h2 (HK.out k h)
                    · have := h3 K h
                      rw [Hu.out, Hv.out] at this
                      exact huv this
                  rw [hkK, Hu.out, Hv.out] at h4
                  exact h4
                go_wp2
                go_quiet (fail)
                go_wp2_with fail
                refine (rank_any _ u ⟨hu1, hu2⟩).mono ?_
                rintro e5 w5 ⟨rfl, rfl⟩
                go_wp2_with fail
                refine (rank_any _ v ⟨hv1, hv2⟩).mono ?_
                rintro e6 w6 ⟨rfl, rfl⟩
                by_cases hu97 : u < 97
                · have r1 : rk u = u := by unfold rk; rw [if_pos hu97]
                  rw [r1]
                  by_cases hv97 : v < 97
                  · have r2 : rk v = v := by unfold rk; rw [if_pos hv97]
                    rw [r2]
                    have hfin : Hid (u + 100 < v + 100 ↔ x < y) := by
                      have := HR.out
                      unfold rankI at this
                      rw [if_pos hu97, if_pos hv97] at this
                      exact this
                    clear HR HOR HE HK
                    go_wp2
                    go_quiet (fail)
                    go_wp2
                    go_ret
                    refine ⟨congrArg (fun b => Ending.returned (Value.bool b)) (show _ = true from ?_), B4.out.trans (((Dr.one _ _).drewN _).below _)⟩
                    rw [beq_iff_eq, decide_eq_decide]
                    have := hfin.out
                    omega
                  · have r2 : rk v = v - 97 := by unfold rk; rw [if_neg hv97]
                    rw [r2]
                    have hfin : Hid (u + 100 < v - 97 ↔ x < y) := by
                      have := HR.out
                      unfold rankI at this
                      rw [if_pos hu97, if_neg hv97] at this
                      exact this
                    clear HR HOR HE HK
                    go_wp2
                    go_quiet (fail)
                    go_wp2
                    go_ret
                    refine ⟨congrArg (fun b => Ending.returned (Value.bool b)) (show _ = true from ?_), B4.out.trans (((Dr.one _ _).drewN _).below _)⟩
                    rw [beq_iff_eq, decide_eq_decide]
                    have := hfin.out
                    omega
                · have r1 : rk u = u - 97 := by unfold rk; rw [if_neg hu97]
                  rw [r1]
                  by_cases hv97 : v < 97
                  · have r2 : rk v = v := by unfold rk; rw [if_pos hv97]
                    rw [r2]
                    have hfin : Hid (u - 97 < v + 100 ↔ x < y) := by
                      have := HR.out
                      unfold rankI at this
                      rw [if_neg hu97, if_pos hv97] at this
                      exact this
                    clear HR HOR HE HK
                    go_wp2
                    go_quiet (fail)
                    go_wp2
                    go_ret
                    refine ⟨congrArg (fun b => Ending.returned (Value.bool b)) (show _ = true from ?_), B4.out.trans (((Dr.one _ _).drewN _).below _)⟩
                    rw [beq_iff_eq, decide_eq_decide]
                    have := hfin.out
                    omega
                  · have r2 : rk v = v - 97 := by unfold rk; rw [if_neg hv97]
                    rw [r2]
                    have hfin : Hid (u - 97 < v - 97 ↔ x < y) := by
                      have := HR.out
                      unfold rankI at this
                      rw [if_neg hu97, if_neg hv97] at this
                      exact this
                    clear HR HOR HE HK
                    go_wp2
                    go_quiet (fail)
                    go_wp2
                    go_ret
                    refine ⟨congrArg (fun b => Ending.returned (Value.bool b)) (show _ = true from ?_), B4.out.trans (((Dr.one _ _).drewN _).below _)⟩
                    rw [beq_iff_eq, decide_eq_decide]
                    have := hfin.out
                    omega
            · exfalso
              obtain ⟨k, h1, h2, h3, h4⟩ := HOR.out
              exact h2 (HK.out k (by omega))
      · have hI' : I = a.length := by omega
        have hab : a = b := by
          apply List.ext_getElem HLEN.out
          intro j h1 h2
          have := HE.out j (by omega)
          rwa [getD_of_lt h1, getD_of_lt h2] at this
        have hss : Sa = Sb := by rw [← HSa.out, ← HSb.out, ← HLa.out, ← HLb.out, hab]
        subst hss
        have heq : (Sa.toList == Sa.toList) = true := by simp
        clear hab
        go_wp2
        go_ret
        exact ⟨by simp, B4.out.trans ((Dr.one _ _).below _)⟩
  · have hne : ((a.length : Int) != (b.length : Int)) = true := by rw [bne_iff_ne]; omega
    go_wp2
    go_ret
    exact ⟨rfl, B1.out⟩
end Go.Proofs.Ytcgecflebplgaaa
