/- The document's Inverse, Inv, Div, Exp, Log, Pow of layer 6, walked. -/
import Derived.Test.YtmglpcenipnmbaaGfFun
set_option linter.unusedSimpArgs false
set_option linter.unusedVariables false
namespace Go.Proofs.Ytmglpcenipnmbaa
open Go Go.RowKit

theorem rinvF_step (k a p : Nat) : rinvF (k + 1) a p = rinvF k (prod a a) (prod p (prod a a)) := rfl
set_option maxRecDepth 100000 in
set_option maxHeartbeats 1000000 in
theorem rinverse_any (w : World) (a : Nat) (ha : a < 256) : Calls Try.prog 47 #[.int .u8 (a : Int)] w fun e w' => e = .returned (.int .u8 ((inv a : Nat) : Int)) ∧ w' = w := by
  obtain ⟨v, HV⟩ : ∃ v, Hid (inv a = v) := ⟨_, rfl⟩
  rw [HV.out]
  go_enter Try.func47, Try.ntmps47
  go_wp2
  go_loopw [0, 3, 4] (fun x p i wr => ∃ I X P : Nat, I ≤ 7 ∧ X < 256 ∧ P < 256 ∧ x = .int .u8 (X : Int) ∧ p = .int .u8 (P : Int) ∧ i = .int .i64 (I : Int) ∧ Hid (rinvF (7 - I) X P = v) ∧ wr = w) (fun _ _ i _ => 7 - (intOf i).toNat)
  case atStart => exact ⟨0, a, 1, by decide, ha, by decide, rfl, rfl, rfl, (by rw [← HV.out]; exact rinv_inv a ha), rfl⟩
  case round =>
    obtain ⟨I, X, P, hI, hX, hP, rfl, rfl, rfl, HR, hw⟩ := hrel
    subst hw
    by_cases h0 : I < 7
    · have HQ : Hid (rinvF (7 - (I + 1)) (prod X X) (prod P (prod X X)) = v) := by
        have := HR.out
        rw [show 7 - I = (7 - (I + 1)) + 1 by omega, rinvF_step] at this
        exact this
      have c1 := hid (rmul_any wr X X hX hX)
      have hXX := prod_lt X hX
      have c2 := hid (rmul_any wr P (prod X X) hP hXX)
      have hPX := prod_lt (prod X X) hP
      obtain ⟨y, HY⟩ : ∃ y, Hid (prod X X = y) := ⟨_, rfl⟩
      rw [HY.out] at HQ c1 c2 hXX hPX
      obtain ⟨z, HZ⟩ : ∃ z, Hid (prod P y = z) := ⟨_, rfl⟩
      rw [HZ.out] at HQ c2 hPX
      clear HR
      go_wp2_with fail
      refine c1.out.mono ?_
      rintro e w' ⟨rfl, hw⟩
      subst hw
      go_wp2_with fail
      refine c2.out.mono ?_
      rintro e w' ⟨rfl, hw⟩
      subst hw
      go_wp2_with fail
      exact ⟨⟨I + 1, y, z, by omega, hXX, hPX, rfl, rfl, by go_num, HQ, by trivial⟩, by simp [intOf]; omega⟩
    · have HE : Hid (P = v) := by
        have := HR.out
        rw [show 7 - I = 0 by omega] at this
        exact this
      clear HR
      go_wp2
      go_ret
      rw [← HE.out]
      exact ⟨rfl, rfl⟩
set_option maxHeartbeats 1000000 in
theorem rinv_any (w : World) (a : Nat) (ha : a < 256) (h0 : a ≠ 0) : Calls Try.prog 19 #[.int .u8 (a : Int)] w fun e w' => e = .returned (.tuple #[.int .u8 ((inv a : Nat) : Int), .int .i64 0]) ∧ w' = w := by
  have C := hid (rinverse_any w a ha)
  obtain ⟨v, HV⟩ : ∃ v, Hid (inv a = v) := ⟨_, rfl⟩
  rw [HV.out]
  rw [HV.out] at C
  go_enter Try.func19, Try.ntmps19
  go_wp2_with fail
  refine C.out.mono ?_
  rintro e w' ⟨rfl, hw⟩
  subst hw
  go_wp2
  go_ret2
  exact ⟨rfl, rfl⟩
set_option maxHeartbeats 1000000 in
theorem rinv_none (w : World) : Calls Try.prog 19 #[.int .u8 0] w fun e w' => e = .returned (.tuple #[.int .u8 0, .int .i64 60]) ∧ w' = w := by
  go_enter Try.func19, Try.ntmps19
  go_wp2
  go_ret2
  exact ⟨rfl, rfl⟩
set_option maxHeartbeats 1000000 in
theorem rdiv_any (w : World) (b a : Nat) (hb : b < 256) (ha : a < 256) (h0 : a ≠ 0) : Calls Try.prog 20 #[.int .u8 (b : Int), .int .u8 (a : Int)] w fun e w' => e = .returned (.tuple #[.int .u8 ((prod b (inv a) : Nat) : Int), .int .i64 0]) ∧ w' = w := by
  have C := hid (rinverse_any w a ha)
  have E := hid (rmul_any w b (inv a) hb (inv_lt a))
  obtain ⟨p, HP⟩ : ∃ p, Hid (prod b (inv a) = p) := ⟨_, rfl⟩
  rw [HP.out]
  rw [HP.out] at E
  obtain ⟨v, HV⟩ : ∃ v, Hid (inv a = v) := ⟨_, rfl⟩
  rw [HV.out] at C E
  go_enter Try.func20, Try.ntmps20
  go_wp2_with fail
  refine C.out.mono ?_
  rintro e w' ⟨rfl, hw⟩
  subst hw
  go_wp2_with fail
  refine E.out.mono ?_
  rintro e w' ⟨rfl, hw⟩
  subst hw
  go_wp2
  go_ret2
  exact ⟨rfl, rfl⟩
set_option maxHeartbeats 1000000 in
theorem rdiv_none (w : World) (b : Nat) (hb : b < 256) : Calls Try.prog 20 #[.int .u8 (b : Int), .int .u8 0] w fun e w' => e = .returned (.tuple #[.int .u8 0, .int .i64 60]) ∧ w' = w := by
  go_enter Try.func20, Try.ntmps20
  go_wp2
  go_ret2
  exact ⟨rfl, rfl⟩
set_option maxRecDepth 100000 in
set_option maxHeartbeats 1000000 in
theorem rexp_any (w : World) (n : Int) (h1 : -9223372036854775808 ≤ n) (h2 : n ≤ 9223372036854775807) : Calls Try.prog 27 #[.int .i64 n] w fun e w' => e = .returned (.int .u8 ((ex n : Nat) : Int)) ∧ w' = w := by
  obtain ⟨j, hj⟩ : ∃ j : Nat, (j : Int) = n % 255 := ⟨(n % 255).toNat, by omega⟩
  have hjl : j < 255 := by omega
  obtain ⟨v, HV⟩ : ∃ v, Hid (ex n = v) := ⟨_, rfl⟩
  have HE : Hid (pw j = v) := by
    rw [← HV.out, ex, ← hj, Int.toNat_natCast]
    exact rfl
  rw [HV.out]
  rcases tmod_cases n with ⟨q1, q2, q3⟩ | ⟨q1, q2⟩
  · obtain ⟨t, ht⟩ : ∃ t, n.tmod 255 = t := ⟨_, rfl⟩
    rw [ht] at q1 q2 q3
    have e : t + 255 = (j : Int) := by omega
    clear q2 hj
    go_enter Try.func27, Try.ntmps27
    go_wp2
    clear e ht q1 q3 h1 h2
    go_loopw [3, 4] (fun p i wr => ∃ I P : Nat, I ≤ j ∧ P < 256 ∧ p = .int .u8 (P : Int) ∧ i = .int .i64 (I : Int) ∧ Hid (P = pw I) ∧ wr = w) (fun _ i _ => j - (intOf i).toNat)
    case atStart => exact ⟨0, 1, Nat.zero_le _, by decide, rfl, rfl, rfl, rfl⟩
    case round =>
      obtain ⟨I, P, hI, hP, rfl, rfl, HP, hw⟩ := hrel
      subst hw
      by_cases h0 : I < j
      · have c1 := hid (rmul_any wr P 2 hP (by decide))
        rw [prod_two P hP] at c1
        have HN : Hid (dbl P = pw (I + 1)) := by rw [HP.out]; exact rfl
        have hD := dbl_lt hP
        obtain ⟨y, HY⟩ : ∃ y, Hid (dbl P = y) := ⟨_, rfl⟩
        rw [HY.out] at c1 HN hD
        clear HP
        go_wp2_with fail
        refine c1.out.mono ?_
        rintro e w' ⟨rfl, hw⟩
        subst hw
        go_wp2_with fail
        exact ⟨⟨I + 1, y, by omega, hD, rfl, by go_num, HN, by trivial⟩, by simp [intOf]; omega⟩
      · have HF : Hid (P = v) := by rw [HP.out, show I = j by omega]; exact HE
        clear HP
        go_wp2
        go_ret
        rw [← HF.out]
        exact ⟨rfl, rfl⟩
  · obtain ⟨t, ht⟩ : ∃ t, n.tmod 255 = t := ⟨_, rfl⟩
    rw [ht] at q1 q2
    have e : t = (j : Int) := by omega
    clear q2 hj
    rw [e] at ht q1
    clear e
    go_enter Try.func27, Try.ntmps27
    go_wp2
    clear ht q1 h1 h2
    go_loopw [3, 4] (fun p i wr => ∃ I P : Nat, I ≤ j ∧ P < 256 ∧ p = .int .u8 (P : Int) ∧ i = .int .i64 (I : Int) ∧ Hid (P = pw I) ∧ wr = w) (fun _ i _ => j - (intOf i).toNat)
    case atStart => exact ⟨0, 1, Nat.zero_le _, by decide, rfl, rfl, rfl, rfl⟩
    case round =>
      obtain ⟨I, P, hI, hP, rfl, rfl, HP, hw⟩ := hrel
      subst hw
      by_cases h0 : I < j
      · have c1 := hid (rmul_any wr P 2 hP (by decide))
        rw [prod_two P hP] at c1
        have HN : Hid (dbl P = pw (I + 1)) := by rw [HP.out]; exact rfl
        have hD := dbl_lt hP
        obtain ⟨y, HY⟩ : ∃ y, Hid (dbl P = y) := ⟨_, rfl⟩
        rw [HY.out] at c1 HN hD
        clear HP
        go_wp2_with fail
        refine c1.out.mono ?_
        rintro e w' ⟨rfl, hw⟩
        subst hw
        go_wp2_with fail
        exact ⟨⟨I + 1, y, by omega, hD, rfl, by go_num, HN, by trivial⟩, by simp [intOf]; omega⟩
      · have HF : Hid (P = v) := by rw [HP.out, show I = j by omega]; exact HE
        clear HP
        go_wp2
        go_ret
        rw [← HF.out]
        exact ⟨rfl, rfl⟩
set_option maxHeartbeats 1000000 in
theorem rlog_none (w : World) : Calls Try.prog 24 #[.int .u8 0] w fun e w' => e = .returned (.tuple #[.int .i64 0, .int .i64 60]) ∧ w' = w := by
  go_enter Try.func24, Try.ntmps24
  go_wp2
  go_ret2
  exact ⟨rfl, rfl⟩
set_option maxRecDepth 100000 in
set_option maxHeartbeats 1000000 in
theorem rlog_any (w : World) (a : Nat) (ha : a < 256) (h0 : a ≠ 0) : Calls Try.prog 24 #[.int .u8 (a : Int)] w fun e w' => e = .returned (.tuple #[.int .i64 ((lg a : Nat) : Int), .int .i64 0]) ∧ w' = w := by
  have hx := lg_lt a ha
  have ha0 : ((a : Int) == 0) = false := by simpa using h0
  have HE := hid (pw_lg a ha h0)
  have HU : Hid (∀ I, I < 255 → pw I = a → I = lg a) := fun I hI e => by rw [← e, lg_pw I hI]
  obtain ⟨x, HX⟩ : ∃ x, Hid (lg a = x) := ⟨_, rfl⟩
  rw [HX.out]
  rw [HX.out] at hx HE HU
  go_enter Try.func24, Try.ntmps24
  go_wp2
  go_loopw [4, 5] (fun p i wr => ∃ I P : Nat, I ≤ x ∧ P < 256 ∧ p = .int .u8 (P : Int) ∧ i = .int .i64 (I : Int) ∧ Hid (P = pw I) ∧ wr = w) (fun _ i _ => x - (intOf i).toNat)
  case atStart => exact ⟨0, 1, Nat.zero_le _, by decide, rfl, rfl, rfl, rfl⟩
  case round =>
    obtain ⟨I, P, hI, hP, rfl, rfl, HP, hw⟩ := hrel
    subst hw
    by_cases hpa : P = a
    · have HI : Hid (I = x) := HU.out I (by omega) (by rw [← HP.out]; exact hpa)
      subst hpa
      clear HP HU
      go_wp2
      go_ret2
      rw [HI.out]
      exact ⟨rfl, rfl⟩
    · have hlt : I < x := by
        refine Decidable.byContradiction fun h => hpa ?_
        rw [HP.out, show I = x by omega]
        exact HE.out
      have c1 := hid (rmul_any wr P 2 hP (by decide))
      rw [prod_two P hP] at c1
      have HN : Hid (dbl P = pw (I + 1)) := by rw [HP.out]; exact rfl
      have hD := dbl_lt hP
      obtain ⟨y, HY⟩ : ∃ y, Hid (dbl P = y) := ⟨_, rfl⟩
      rw [HY.out] at c1 HN hD
      clear HP HU
      go_wp2_with fail
      refine c1.out.mono ?_
      rintro e w' ⟨rfl, hw⟩
      subst hw
      go_wp2_with fail
      exact ⟨⟨I + 1, y, by omega, hD, rfl, by go_num, HN, by trivial⟩, by simp [intOf]; omega⟩
set_option maxRecDepth 100000 in
set_option maxHeartbeats 1000000 in
theorem rpow_any (w : World) (a : Nat) (n : Int) (ha : a < 256) (h1 : -9223372036854775808 ≤ n) (h2 : n ≤ 9223372036854775807) : Calls Try.prog 25 #[.int .u8 (a : Int), .int .i64 n] w fun e w' => e = .returned (.tuple #[.int .u8 (((powV a n).1 : Nat) : Int), .int .i64 (powV a n).2]) ∧ w' = w := by
  by_cases hn : n = 0
  · subst hn
    rw [show powV a 0 = (1, 0) from by unfold powV; rw [if_pos rfl]]
    go_enter Try.func25, Try.ntmps25
    go_wp2
    go_ret2
    exact ⟨rfl, rfl⟩
  by_cases h0 : a = 0
  · subst h0
    by_cases hp : 0 < n
    · rw [show powV 0 n = (0, 0) from by unfold powV; rw [if_neg hn, if_pos rfl, if_pos hp]]
      go_enter Try.func25, Try.ntmps25
      go_wp2
      go_ret2
      exact ⟨rfl, rfl⟩
    · rw [show powV 0 n = (0, 60) from by unfold powV; rw [if_neg hn, if_pos rfl, if_neg hp]]
      have hp' : n < 0 := by omega
      go_enter Try.func25, Try.ntmps25
      go_wp2
      go_ret2
      exact ⟨rfl, rfl⟩
  rw [show powV a n = (powA a (n % 255).toNat, 0) from by unfold powV; rw [if_neg hn, if_neg h0]]
  have ha0 : ((a : Int) == 0) = false := by simpa using h0
  have hn0 : (n == 0) = false := by simpa using hn
  obtain ⟨j, hj⟩ : ∃ j : Nat, (j : Int) = n % 255 := ⟨(n % 255).toNat, by omega⟩
  have hjl : j < 255 := by omega
  rw [← hj, Int.toNat_natCast]
  obtain ⟨v, HE⟩ : ∃ v, Hid (powA a j = v) := ⟨_, rfl⟩
  rw [HE.out]
  rcases tmod_cases n with ⟨q1, q2, q3⟩ | ⟨q1, q2⟩
  · obtain ⟨t, ht⟩ : ∃ t, n.tmod 255 = t := ⟨_, rfl⟩
    rw [ht] at q1 q2 q3
    have e : t + 255 = (j : Int) := by omega
    clear q2 hj
    go_enter Try.func25, Try.ntmps25
    go_wp2
    clear e ht q1 q3 h1 h2
    go_loopw [6, 7] (fun p i wr => ∃ I P : Nat, I ≤ j ∧ P < 256 ∧ p = .int .u8 (P : Int) ∧ i = .int .i64 (I : Int) ∧ Hid (P = powA a I) ∧ wr = w) (fun _ i _ => j - (intOf i).toNat)
    case atStart => exact ⟨0, 1, Nat.zero_le _, by decide, rfl, rfl, rfl, rfl⟩
    case round =>
      obtain ⟨I, P, hI, hP, rfl, rfl, HP, hw⟩ := hrel
      subst hw
      by_cases h0 : I < j
      · have c1 := hid (rmul_any wr P a hP ha)
        have HN : Hid (prod P a = powA a (I + 1)) := by rw [HP.out]; exact rfl
        have hD := prod_lt a hP
        obtain ⟨y, HY⟩ : ∃ y, Hid (prod P a = y) := ⟨_, rfl⟩
        rw [HY.out] at c1 HN hD
        clear HP
        go_wp2_with fail
        refine c1.out.mono ?_
        rintro e w' ⟨rfl, hw⟩
        subst hw
        go_wp2_with fail
        exact ⟨⟨I + 1, y, by omega, hD, rfl, by go_num, HN, by trivial⟩, by simp [intOf]; omega⟩
      · have HF : Hid (P = v) := by rw [HP.out, show I = j by omega]; exact HE
        clear HP
        go_wp2
        go_ret2
        rw [← HF.out]
        exact ⟨rfl, rfl⟩
  · obtain ⟨t, ht⟩ : ∃ t, n.tmod 255 = t := ⟨_, rfl⟩
    rw [ht] at q1 q2
    have e : t = (j : Int) := by omega
    clear q2 hj
    rw [e] at ht q1
    clear e
    go_enter Try.func25, Try.ntmps25
    go_wp2
    clear ht q1 h1 h2
    go_loopw [6, 7] (fun p i wr => ∃ I P : Nat, I ≤ j ∧ P < 256 ∧ p = .int .u8 (P : Int) ∧ i = .int .i64 (I : Int) ∧ Hid (P = powA a I) ∧ wr = w) (fun _ i _ => j - (intOf i).toNat)
    case atStart => exact ⟨0, 1, Nat.zero_le _, by decide, rfl, rfl, rfl, rfl⟩
    case round =>
      obtain ⟨I, P, hI, hP, rfl, rfl, HP, hw⟩ := hrel
      subst hw
      by_cases h0 : I < j
      · have c1 := hid (rmul_any wr P a hP ha)
        have HN : Hid (prod P a = powA a (I + 1)) := by rw [HP.out]; exact rfl
        have hD := prod_lt a hP
        obtain ⟨y, HY⟩ : ∃ y, Hid (prod P a = y) := ⟨_, rfl⟩
        rw [HY.out] at c1 HN hD
        clear HP
        go_wp2_with fail
        refine c1.out.mono ?_
        rintro e w' ⟨rfl, hw⟩
        subst hw
        go_wp2_with fail
        exact ⟨⟨I + 1, y, by omega, hD, rfl, by go_num, HN, by trivial⟩, by simp [intOf]; omega⟩
      · have HF : Hid (P = v) := by rw [HP.out, show I = j by omega]; exact HE
        clear HP
        go_wp2
        go_ret2
        rw [← HF.out]
        exact ⟨rfl, rfl⟩
end Go.Proofs.Ytmglpcenipnmbaa
