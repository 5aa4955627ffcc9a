/- gf.Dot, gf.Scale and the document's, walked. -/
import Derived.Test.YtmglpcenipnmbaaGfMuls
import Derived.Test.YtmglpcenipnmbaaSlices
import Derived.Laws.MakeOwn
set_option linter.unusedSimpArgs false
set_option linter.unusedVariables false
namespace Go.Proofs.Ytmglpcenipnmbaa
open Go Go.RowKit

/-- The k-th byte of a list. -/
def gN (l : List Int) (k : Nat) : Nat := (l.getD k 0).toNat
theorem HB.gN {w : World} {v : Value} {l : List Int} (h : HB w v l) (k : Nat) : l.getD k 0 = ((gN l k : Nat) : Int) ∧ gN l k < 256 := by
  have := h.byte k
  unfold Go.Proofs.Ytmglpcenipnmbaa.gN
  omega
/-- The sum of the first k products. -/
def dotTo (la lb : List Int) : Nat → Nat
  | 0 => 0
  | k + 1 => dotTo la lb k ^^^ prod (gN la k) (gN lb k)
/-- What Dot answers. -/
def dotV (la lb : List Int) : Nat × Int := if la.length ≠ lb.length ∨ 256 < la.length then (0, 61) else (dotTo la lb la.length, 0)
theorem dotV_some {la lb : List Int} (h1 : la.length = lb.length) (h2 : la.length ≤ 256) : dotV la lb = (dotTo la lb la.length, 0) := by
  unfold dotV
  rw [if_neg (by omega)]
theorem dotV_unlike {la lb : List Int} (h1 : la.length ≠ lb.length) : dotV la lb = (0, 61) := by
  unfold dotV
  rw [if_pos (.inl h1)]
theorem dotV_long {la lb : List Int} (h2 : ¬ la.length ≤ 256) : dotV la lb = (0, 61) := by
  unfold dotV
  rw [if_pos (.inr (by omega))]

set_option maxRecDepth 100000 in
set_option maxHeartbeats 4000000 in
theorem dot_any (w : World) (va vb : Value) (la lb : List Int) (ha : HB w va la) (hb : HB w vb lb) :
    Calls Try.prog 29 #[va, vb] w fun e w' => e = .returned (.tuple #[.int .u8 (((dotV la lb).1 : Nat) : Int), .int .i64 (dotV la lb).2]) ∧ Dr w w' := by
  have HA := hid ha
  have HB' := hid hb
  obtain ⟨pa, ca, rfl, _, hca⟩ := ha.open
  obtain ⟨pb, cb, rfl, _, hcb⟩ := hb.open
  clear ha hb
  unfold maxLen at hca hcb
  by_cases h1 : la.length = lb.length
  · by_cases h2 : la.length ≤ 256
    · rw [dotV_some h1 h2]
      have hne : ((la.length : Int) != (lb.length : Int)) = false := by rw [h1]; simp
      obtain ⟨v, HV⟩ : ∃ v, Hid (dotTo la lb la.length = v) := ⟨_, rfl⟩
      rw [HV.out]
      have h2' : ¬ (256 : Int) < (la.length : Int) := by omega
      go_enter Try.func29, Try.ntmps29
      go_wp2
      go_loopw [6, 20] (fun s i wr => ∃ I S : Nat, I ≤ la.length ∧ S < 256 ∧ Hid (S = dotTo la lb I) ∧ s = .int .u8 (S : Int) ∧ i = .int .i64 (I : Int) ∧ Hid (Dr w wr)) (fun _ i _ => la.length - (intOf i).toNat)
      case atStart => exact ⟨0, 0, Nat.zero_le _, by decide, rfl, rfl, rfl, Dr.refl _⟩
      case round =>
        obtain ⟨I, S, hI, hS, HS, rfl, rfl, HD⟩ := hrel
        by_cases hlt : I < la.length
        · obtain ⟨b1, o1, c1, e1, _, _, hc1⟩ := HA.out.ne (by omega)
          obtain ⟨b2, o2, c2, e2, _, _, hc2⟩ := HB'.out.ne (by omega)
          simp only [Value.slice.injEq] at e1 e2
          obtain ⟨rfl, _, rfl⟩ := e1
          obtain ⟨rfl, _, rfl⟩ := e2
          have q1 := (HD.out.cell _).trans (hc1 I hlt)
          have q2 := (HD.out.cell _).trans (hc2 I (by omega))
          obtain ⟨g1, l1⟩ := HA.out.gN I
          obtain ⟨g2, l2⟩ := HB'.out.gN I
          rw [g1] at q1
          rw [g2] at q2
          have HN : Hid (S ^^^ prod (gN la I) (gN lb I) = dotTo la lb (I + 1)) := by rw [HS.out]; exact rfl
          have hp := prod_lt (gN lb I) l1
          have MU : Hid (∀ W, Calls Try.prog 15 #[.int .u8 ((gN la I : Nat) : Int), .int .u8 ((gN lb I : Nat) : Int)] W fun e w' => e = .returned (.int .u8 ((prod (gN la I) (gN lb I) : Nat) : Int)) ∧ w' = W) := fun W => mul_any W _ _ l1 l2
          obtain ⟨p, HP⟩ : ∃ p, Hid (prod (gN la I) (gN lb I) = p) := ⟨_, rfl⟩
          rw [HP.out] at HN hp MU
          obtain ⟨x, HX⟩ : ∃ x, Hid (gN la I = x) := ⟨_, rfl⟩
          obtain ⟨y, HY⟩ : ∃ y, Hid (gN lb I = y) := ⟨_, rfl⟩
          rw [HX.out] at q1 MU l1
          rw [HY.out] at q2 MU l2
          have hx := u8_xor_nat S p hS hp
          have HXL := hid (xor8 hS hp)
          have hltb : I < lb.length := by omega
          clear hc1 hc2 g1 g2 HS
          go_wp2
          go_quiet ((go_at_call 15; exact Calls.quiet_of_same (MU.out _)))
          go_wp2
          exact ⟨⟨I + 1, S ^^^ p, by omega, HXL.out, HN, rfl, by go_num, HD.out.drewN _⟩, by simp [intOf]; omega⟩
        · have HF : Hid (S = v) := by rw [HS.out, show I = la.length by omega]; exact HV
          clear HS
          go_wp2
          go_ret2
          rw [← HF.out]
          exact ⟨rfl, HD.out⟩
    · rw [dotV_long h2]
      have hne : ((la.length : Int) != (lb.length : Int)) = false := by rw [h1]; simp
      have h2' : (256 : Int) < (la.length : Int) := by omega
      go_enter Try.func29, Try.ntmps29
      go_wp2
      go_ret2
      exact ⟨rfl, Dr.refl _⟩
  · rw [dotV_unlike h1]
    have hne : ((la.length : Int) != (lb.length : Int)) = true := by simp; omega
    go_enter Try.func29, Try.ntmps29
    go_wp2
    go_ret2
    exact ⟨rfl, Dr.refl _⟩
set_option maxRecDepth 100000 in
set_option maxHeartbeats 4000000 in
theorem rdot_any (w : World) (va vb : Value) (la lb : List Int) (ha : HB w va la) (hb : HB w vb lb) :
    Calls Try.prog 33 #[va, vb] w fun e w' => e = .returned (.tuple #[.int .u8 (((dotV la lb).1 : Nat) : Int), .int .i64 (dotV la lb).2]) ∧ Dr w w' := by
  have HA := hid ha
  have HB' := hid hb
  obtain ⟨pa, ca, rfl, _, hca⟩ := ha.open
  obtain ⟨pb, cb, rfl, _, hcb⟩ := hb.open
  clear ha hb
  unfold maxLen at hca hcb
  by_cases h1 : la.length = lb.length
  · by_cases h2 : la.length ≤ 256
    · rw [dotV_some h1 h2]
      have hne : ((la.length : Int) != (lb.length : Int)) = false := by rw [h1]; simp
      obtain ⟨v, HV⟩ : ∃ v, Hid (dotTo la lb la.length = v) := ⟨_, rfl⟩
      rw [HV.out]
      have h2' : ¬ (256 : Int) < (la.length : Int) := by omega
      go_enter Try.func33, Try.ntmps33
      go_wp2
      go_loopw [6, 7] (fun s i wr => ∃ I S : Nat, I ≤ la.length ∧ S < 256 ∧ Hid (S = dotTo la lb I) ∧ s = .int .u8 (S : Int) ∧ i = .int .i64 (I : Int) ∧ Hid (Dr w wr)) (fun _ i _ => la.length - (intOf i).toNat)
      case atStart => exact ⟨0, 0, Nat.zero_le _, by decide, rfl, rfl, rfl, Dr.refl _⟩
      case round =>
        obtain ⟨I, S, hI, hS, HS, rfl, rfl, HD⟩ := hrel
        by_cases hlt : I < la.length
        · obtain ⟨b1, o1, c1, e1, _, _, hc1⟩ := HA.out.ne (by omega)
          obtain ⟨b2, o2, c2, e2, _, _, hc2⟩ := HB'.out.ne (by omega)
          simp only [Value.slice.injEq] at e1 e2
          obtain ⟨rfl, _, rfl⟩ := e1
          obtain ⟨rfl, _, rfl⟩ := e2
          have q1 := (HD.out.cell _).trans (hc1 I hlt)
          have q2 := (HD.out.cell _).trans (hc2 I (by omega))
          obtain ⟨g1, l1⟩ := HA.out.gN I
          obtain ⟨g2, l2⟩ := HB'.out.gN I
          rw [g1] at q1
          rw [g2] at q2
          have HN : Hid (S ^^^ prod (gN la I) (gN lb I) = dotTo la lb (I + 1)) := by rw [HS.out]; exact rfl
          have hp := prod_lt (gN lb I) l1
          have MU : Hid (∀ W, Calls Try.prog 14 #[.int .u8 ((gN la I : Nat) : Int), .int .u8 ((gN lb I : Nat) : Int)] W fun e w' => e = .returned (.int .u8 ((prod (gN la I) (gN lb I) : Nat) : Int)) ∧ w' = W) := fun W => rmul_any W _ _ l1 l2
          obtain ⟨p, HP⟩ : ∃ p, Hid (prod (gN la I) (gN lb I) = p) := ⟨_, rfl⟩
          rw [HP.out] at HN hp MU
          obtain ⟨x, HX⟩ : ∃ x, Hid (gN la I = x) := ⟨_, rfl⟩
          obtain ⟨y, HY⟩ : ∃ y, Hid (gN lb I = y) := ⟨_, rfl⟩
          rw [HX.out] at q1 MU l1
          rw [HY.out] at q2 MU l2
          have hx := u8_xor_nat S p hS hp
          have HXL := hid (xor8 hS hp)
          have hltb : I < lb.length := by omega
          clear hc1 hc2 g1 g2 HS
          go_wp2
          go_quiet ((go_at_call 14; exact Calls.quiet_of_same (MU.out _)))
          go_wp2
          exact ⟨⟨I + 1, S ^^^ p, by omega, HXL.out, HN, rfl, by go_num, HD.out.drewN _⟩, by simp [intOf]; omega⟩
        · have HF : Hid (S = v) := by rw [HS.out, show I = la.length by omega]; exact HV
          clear HS
          go_wp2
          go_ret2
          rw [← HF.out]
          exact ⟨rfl, HD.out⟩
    · rw [dotV_long h2]
      have hne : ((la.length : Int) != (lb.length : Int)) = false := by rw [h1]; simp
      have h2' : (256 : Int) < (la.length : Int) := by omega
      go_enter Try.func33, Try.ntmps33
      go_wp2
      go_ret2
      exact ⟨rfl, Dr.refl _⟩
  · rw [dotV_unlike h1]
    have hne : ((la.length : Int) != (lb.length : Int)) = true := by simp; omega
    go_enter Try.func33, Try.ntmps33
    go_wp2
    go_ret2
    exact ⟨rfl, Dr.refl _⟩
end Go.Proofs.Ytmglpcenipnmbaa
