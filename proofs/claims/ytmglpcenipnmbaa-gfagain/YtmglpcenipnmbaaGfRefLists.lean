/- The document's Eval of layer 6, walked. -/
import Derived.Test.YtmglpcenipnmbaaGfScale
set_option linter.unusedSimpArgs false
set_option linter.unusedVariables false
namespace Go.Proofs.Ytmglpcenipnmbaa
open Go Go.RowKit

/-- The value, power by power: the sum so far. -/
def evTo (l : List Int) (x : Nat) : Nat → Nat
  | 0 => 0
  | k + 1 => evTo l x k ^^^ prod (gN l k) (powA x k)
set_option maxRecDepth 100000 in
set_option maxHeartbeats 4000000 in
theorem reval_any (w : World) (v : Value) (l : List Int) (x : Nat) (h : HB w v l) (hx : x < 256) :
    Calls Try.prog 35 #[v, .int .u8 (x : Int)] w fun e w' => e = .returned (.int .u8 ((evTo l x l.length : Nat) : Int)) ∧ w' = w := by
  have HA := hid h
  obtain ⟨p, c, rfl, _, hc⟩ := h.open
  clear h
  unfold maxLen at hc
  obtain ⟨V, HV⟩ : ∃ V, Hid (evTo l x l.length = V) := ⟨_, rfl⟩
  rw [HV.out]
  go_enter Try.func35, Try.ntmps35
  go_wp2
  go_loopw [5, 6, 7] (fun s q i wr => ∃ I S Q : Nat, I ≤ l.length ∧ S < 256 ∧ Q < 256 ∧ Hid (S = evTo l x I) ∧ Hid (Q = powA x I) ∧ s = .int .u8 (S : Int) ∧ q = .int .u8 (Q : Int) ∧ i = .int .i64 (I : Int) ∧ wr = w) (fun _ _ i _ => l.length - (intOf i).toNat)
  case atStart => exact ⟨0, 0, 1, Nat.zero_le _, by decide, by decide, rfl, rfl, rfl, rfl, rfl, rfl⟩
  case round =>
    obtain ⟨I, S, Q, hI, hS, hQ, HS, HQ, rfl, rfl, rfl, hw⟩ := hrel
    subst hw
    by_cases hlt : I < l.length
    · obtain ⟨b1, o1, c1, e1, _, _, hc1⟩ := HA.out.ne (by omega)
      simp only [Value.slice.injEq] at e1
      obtain ⟨rfl, _, rfl⟩ := e1
      have q1 := hc1 I hlt
      obtain ⟨g1, l1⟩ := HA.out.gN I
      rw [g1] at q1
      have C := hid (rmul_any wr (gN l I) Q l1 hQ)
      have D := hid (rmul_any wr Q x hQ hx)
      have HN : Hid (S ^^^ prod (gN l I) Q = evTo l x (I + 1)) := by rw [HS.out, HQ.out]; exact rfl
      have HM : Hid (prod Q x = powA x (I + 1)) := by rw [HQ.out]; exact rfl
      have hp := prod_lt Q l1
      have hq := prod_lt x hQ
      obtain ⟨y, HY⟩ : ∃ y, Hid (gN l I = y) := ⟨_, rfl⟩
      rw [HY.out] at q1 l1 C HN hp
      obtain ⟨u, HU⟩ : ∃ u, Hid (prod y Q = u) := ⟨_, rfl⟩
      rw [HU.out] at C HN hp
      obtain ⟨t, HT⟩ : ∃ t, Hid (prod Q x = t) := ⟨_, rfl⟩
      rw [HT.out] at D HM hq
      have hxx := u8_xor_nat S u hS hp
      have HXL := hid (xor8 hS hp)
      clear hc1 g1 HS HQ
      go_wp2_with fail
      refine C.out.mono ?_
      rintro e w' ⟨rfl, hw⟩
      subst hw
      go_wp2_with fail
      refine D.out.mono ?_
      rintro e w' ⟨rfl, hw⟩
      subst hw
      go_wp2_with fail
      exact ⟨⟨I + 1, S ^^^ u, t, by omega, HXL.out, hq, HN, HM, rfl, rfl, by go_num, by trivial⟩, by simp [intOf]; omega⟩
    · have HF : Hid (S = V) := by rw [HS.out, show I = l.length by omega]; exact HV
      clear HS HQ
      go_wp2
      go_ret
      rw [← HF.out]
      exact ⟨rfl, rfl⟩
end Go.Proofs.Ytmglpcenipnmbaa
