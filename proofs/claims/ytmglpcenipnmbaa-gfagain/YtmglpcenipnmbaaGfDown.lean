/- gf.downward, walked, for each of the closures that it is handed; gf.Eval. -/
import Derived.Test.YtmglpcenipnmbaaGfScale
set_option linter.unusedSimpArgs false
set_option linter.unusedVariables false
namespace Go.Proofs.Ytmglpcenipnmbaa
open Go Go.RowKit

set_option maxRecDepth 100000 in
set_option maxHeartbeats 4000000 in
theorem down_evl (w : World) (p : Option Addr) (N cap : Nat) (hN : N ≤ 9223372036854775807) (c1 c2 c3 c4 c5 : Value) (I : Nat → World → Prop) (h0 : I N w)
    (hs : ∀ (k : Nat) (wr : World), k < N → I (k + 1) wr → ∃ (b off c : Nat), p = some ⟨b, off, none⟩ ∧ wr.cell? ⟨b, off + k, none⟩ = some (.int .u8 (c : Int)) ∧ Calls Try.prog 53 #[.int .i64 (k : Int), .int .u8 (c : Int), c1,c2] wr fun e w' => e = .returned (.tuple #[]) ∧ I k w') :
    Calls Try.prog 52 #[.slice p N cap, .func (.func 53) #[] #[c1,c2]] w fun e w' => e = .returned (.tuple #[]) ∧ I 0 w' := by
  have HSt := hid hs
  have H0 := hid h0
  clear hs h0
  go_enter Try.func52, Try.ntmps52
  go_wp2
  go_loopw [4] (fun i wr => ∃ K : Nat, K ≤ N ∧ i = .int .i64 ((K : Int) - 1) ∧ Hid (I K wr)) (fun i _ => ((intOf i) + 1).toNat)
  case atStart => exact ⟨N, Nat.le_refl _, rfl, H0⟩
  case round =>
    clear H0
    obtain ⟨K, hK, rfl, HI⟩ := hrel
    cases K with
    | zero =>
      go_wp2
      go_end0
      exact ⟨rfl, HI.out⟩
    | succ k =>
      have e1 : ((k + 1 : Nat) : Int) - 1 = (k : Int) := by omega
      rw [e1]
      obtain ⟨b, off, c, hp, hc, hcall⟩ := HSt.out k wr (by omega) HI.out
      have HC := hid hcall
      clear hcall e1 HSt
      subst hp
      have hklt : k < N := by omega
      go_wp2_with fail
      refine HC.out.mono ?_
      rintro e w' ⟨rfl, hI⟩
      have HI2 := hid hI
      clear hI HC HI
      go_wp2_with fail
      exact ⟨⟨k, by omega, rfl, HI2⟩, by simp [intOf]⟩
set_option maxRecDepth 100000 in
set_option maxHeartbeats 4000000 in
theorem down_ash (w : World) (p : Option Addr) (N cap : Nat) (hN : N ≤ 9223372036854775807) (c1 c2 c3 c4 c5 : Value) (I : Nat → World → Prop) (h0 : I N w)
    (hs : ∀ (k : Nat) (wr : World), k < N → I (k + 1) wr → ∃ (b off c : Nat), p = some ⟨b, off, none⟩ ∧ wr.cell? ⟨b, off + k, none⟩ = some (.int .u8 (c : Int)) ∧ Calls Try.prog 63 #[.int .i64 (k : Int), .int .u8 (c : Int), c1,c2,c3] wr fun e w' => e = .returned (.tuple #[]) ∧ I k w') :
    Calls Try.prog 52 #[.slice p N cap, .func (.func 63) #[] #[c1,c2,c3]] w fun e w' => e = .returned (.tuple #[]) ∧ I 0 w' := by
  have HSt := hid hs
  have H0 := hid h0
  clear hs h0
  go_enter Try.func52, Try.ntmps52
  go_wp2
  go_loopw [4] (fun i wr => ∃ K : Nat, K ≤ N ∧ i = .int .i64 ((K : Int) - 1) ∧ Hid (I K wr)) (fun i _ => ((intOf i) + 1).toNat)
  case atStart => exact ⟨N, Nat.le_refl _, rfl, H0⟩
  case round =>
    clear H0
    obtain ⟨K, hK, rfl, HI⟩ := hrel
    cases K with
    | zero =>
      go_wp2
      go_end0
      exact ⟨rfl, HI.out⟩
    | succ k =>
      have e1 : ((k + 1 : Nat) : Int) - 1 = (k : Int) := by omega
      rw [e1]
      obtain ⟨b, off, c, hp, hc, hcall⟩ := HSt.out k wr (by omega) HI.out
      have HC := hid hcall
      clear hcall e1 HSt
      subst hp
      have hklt : k < N := by omega
      go_wp2_with fail
      refine HC.out.mono ?_
      rintro e w' ⟨rfl, hI⟩
      have HI2 := hid hI
      clear hI HC HI
      go_wp2_with fail
      exact ⟨⟨k, by omega, rfl, HI2⟩, by simp [intOf]⟩
set_option maxRecDepth 100000 in
set_option maxHeartbeats 4000000 in
theorem down_mlt (w : World) (p : Option Addr) (N cap : Nat) (hN : N ≤ 9223372036854775807) (c1 c2 c3 c4 c5 : Value) (I : Nat → World → Prop) (h0 : I N w)
    (hs : ∀ (k : Nat) (wr : World), k < N → I (k + 1) wr → ∃ (b off c : Nat), p = some ⟨b, off, none⟩ ∧ wr.cell? ⟨b, off + k, none⟩ = some (.int .u8 (c : Int)) ∧ Calls Try.prog 62 #[.int .i64 (k : Int), .int .u8 (c : Int), c1,c2] wr fun e w' => e = .returned (.tuple #[]) ∧ I k w') :
    Calls Try.prog 52 #[.slice p N cap, .func (.func 62) #[] #[c1,c2]] w fun e w' => e = .returned (.tuple #[]) ∧ I 0 w' := by
  have HSt := hid hs
  have H0 := hid h0
  clear hs h0
  go_enter Try.func52, Try.ntmps52
  go_wp2
  go_loopw [4] (fun i wr => ∃ K : Nat, K ≤ N ∧ i = .int .i64 ((K : Int) - 1) ∧ Hid (I K wr)) (fun i _ => ((intOf i) + 1).toNat)
  case atStart => exact ⟨N, Nat.le_refl _, rfl, H0⟩
  case round =>
    clear H0
    obtain ⟨K, hK, rfl, HI⟩ := hrel
    cases K with
    | zero =>
      go_wp2
      go_end0
      exact ⟨rfl, HI.out⟩
    | succ k =>
      have e1 : ((k + 1 : Nat) : Int) - 1 = (k : Int) := by omega
      rw [e1]
      obtain ⟨b, off, c, hp, hc, hcall⟩ := HSt.out k wr (by omega) HI.out
      have HC := hid hcall
      clear hcall e1 HSt
      subst hp
      have hklt : k < N := by omega
      go_wp2_with fail
      refine HC.out.mono ?_
      rintro e w' ⟨rfl, hI⟩
      have HI2 := hid hI
      clear hI HC HI
      go_wp2_with fail
      exact ⟨⟨k, by omega, rfl, HI2⟩, by simp [intOf]⟩
set_option maxRecDepth 100000 in
set_option maxHeartbeats 4000000 in
theorem down_ovr (w : World) (p : Option Addr) (N cap : Nat) (hN : N ≤ 9223372036854775807) (c1 c2 c3 c4 c5 : Value) (I : Nat → World → Prop) (h0 : I N w)
    (hs : ∀ (k : Nat) (wr : World), k < N → I (k + 1) wr → ∃ (b off c : Nat), p = some ⟨b, off, none⟩ ∧ wr.cell? ⟨b, off + k, none⟩ = some (.int .u8 (c : Int)) ∧ Calls Try.prog 57 #[.int .i64 (k : Int), .int .u8 (c : Int), c1,c2,c3,c4,c5] wr fun e w' => e = .returned (.tuple #[]) ∧ I k w') :
    Calls Try.prog 52 #[.slice p N cap, .func (.func 57) #[] #[c1,c2,c3,c4,c5]] w fun e w' => e = .returned (.tuple #[]) ∧ I 0 w' := by
  have HSt := hid hs
  have H0 := hid h0
  clear hs h0
  go_enter Try.func52, Try.ntmps52
  go_wp2
  go_loopw [4] (fun i wr => ∃ K : Nat, K ≤ N ∧ i = .int .i64 ((K : Int) - 1) ∧ Hid (I K wr)) (fun i _ => ((intOf i) + 1).toNat)
  case atStart => exact ⟨N, Nat.le_refl _, rfl, H0⟩
  case round =>
    clear H0
    obtain ⟨K, hK, rfl, HI⟩ := hrel
    cases K with
    | zero =>
      go_wp2
      go_end0
      exact ⟨rfl, HI.out⟩
    | succ k =>
      have e1 : ((k + 1 : Nat) : Int) - 1 = (k : Int) := by omega
      rw [e1]
      obtain ⟨b, off, c, hp, hc, hcall⟩ := HSt.out k wr (by omega) HI.out
      have HC := hid hcall
      clear hcall e1 HSt
      subst hp
      have hklt : k < N := by omega
      go_wp2_with fail
      refine HC.out.mono ?_
      rintro e w' ⟨rfl, hI⟩
      have HI2 := hid hI
      clear hI HC HI
      go_wp2_with fail
      exact ⟨⟨k, by omega, rfl, HI2⟩, by simp [intOf]⟩
end Go.Proofs.Ytmglpcenipnmbaa
