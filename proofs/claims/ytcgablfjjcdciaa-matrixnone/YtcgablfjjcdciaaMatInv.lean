/- The inverse modulo a prime: the program's and the document's, walked. -/
import Derived.Test.YtcgablfjjcdciaaMatMod
set_option linter.unusedSimpArgs false
set_option linter.unusedVariables false
namespace Go.Proofs.Ytcgablfjjcdciaa
open Go Go.RowKit

/-- The inverse, and whether there is one. -/
def invV (p a : Nat) : Nat × Bool := if a % p = 0 then (0, false) else (pwm p 1 a (p - 2), true)
theorem odd_next {p O A N R : Nat} (h : pwm p O A N = R) (hz : N ≠ 0) (ho : N % 2 = 1) {r s : Nat} (hr : A * A % p = r) (hs : O * A % p = s) : pwm p s r (N / 2) = R := by
  rw [← h, pwm_next _ _ _ hz, if_pos ho, hr, hs]
theorem even_next {p O A N R : Nat} (h : pwm p O A N = R) (hz : N ≠ 0) (ho : ¬ N % 2 = 1) {r : Nat} (hr : A * A % p = r) : pwm p O r (N / 2) = R := by
  rw [← h, pwm_next _ _ _ hz, if_neg ho, hr]
theorem and_one_u32 (N : Nat) (h : N < 4294967296) : bits BinOp.and IntKind.u32 (N : Int) 1 = ((N % 2 : Nat) : Int) := by
  have hx : N &&& 1 < 2 ^ 32 := Nat.and_lt_two_pow _ (by decide)
  have h1 : (BitVec.ofInt 32 (N : Int)).toNat = N := by
    rw [BitVec.ofInt_natCast, BitVec.toNat_ofNat]; exact Nat.mod_eq_of_lt (by omega)
  show IntKind.u32.wrap ((BitVec.ofInt 32 (N : Int) &&& BitVec.ofInt 32 1).toNat : Int) = _
  rw [BitVec.toNat_and, h1, show (BitVec.ofInt 32 1).toNat = 1 from rfl, Nat.and_one_is_mod]
  show ((N % 2 : Nat) : Int) % 4294967296 = _
  omega
set_option maxRecDepth 100000 in
set_option maxHeartbeats 4000000 in
theorem minv_any (w : World) (f p a x : Nat) (b : Bool) (h : HMod w f p) (hp : 2 ≤ p) (hp2 : p < 4294967296) (ha : a < 4294967296) (hv : invV p a = (x, b)) :
    Calls Try.prog 10 #[.pointer (some ⟨f, 0, none⟩), .int .u32 (a : Int)] w fun e w' => e = .returned (.tuple #[.int .u32 (x : Int), .bool b]) ∧ w' = w := by
  obtain ⟨d, hd⟩ : ∃ d, a % p = d := ⟨_, rfl⟩
  have C1 := hid (rest_any w f p a d h (by omega) hp2 (by omega) hd)
  have C2 := hid (one_any w f p h hp hp2)
  have HM := hid h
  have hc : w.cell? ⟨f, 0, none⟩ = some (.int .u32 (p : Int)) := h
  unfold invV at hv
  rw [hd] at hv
  clear hd h
  go_enter Try.func10, Try.ntmps10
  by_cases h0 : d = 0
  · rw [if_pos h0] at hv
    cases hv
    subst h0
    go_wp2_with fail
    refine C1.out.mono ?_
    rintro e w' ⟨rfl, rfl⟩
    go_wp2
    go_ret2
    exact ⟨rfl, rfl⟩
  · rw [if_neg h0] at hv
    simp only [Prod.mk.injEq] at hv
    obtain ⟨hx, rfl⟩ := hv
    have HX := hid hx
    clear hx
    go_wp2_with fail
    refine C1.out.mono ?_
    rintro e w' ⟨rfl, rfl⟩
    go_wp2_with fail
    refine C2.out.mono ?_
    rintro e w' ⟨rfl, rfl⟩
    clear C1 C2
    go_wp2
    go_loop [1, 6, 7] (fun va vo vn => ∃ A O N : Nat, va = .int .u32 (A : Int) ∧ vo = .int .u32 (O : Int) ∧ vn = .int .u32 (N : Int) ∧ A < 4294967296 ∧ O < p ∧ N < 4294967296 ∧ Hid (pwm p O A N = x)) (fun _ _ vn => (intOf vn).toNat)
    case atStart => exact ⟨a, 1, p - 2, rfl, rfl, by congr 1; omega, ha, by omega, by omega, HX.out⟩
    case round =>
      obtain ⟨A, O, N, rfl, rfl, rfl, hA, hO, hN, HI⟩ := hrel
      by_cases hz : N = 0
      · have e : O = x := by rw [← HI.out, hz, pwm_zero]
        subst hz
        subst e
        go_wp2
        go_ret2
        exact ⟨rfl, rfl⟩
      · obtain ⟨r, Hr⟩ : ∃ r, Hid (A * A % p = r) := ⟨_, rfl⟩
        obtain ⟨s, Hs⟩ : ∃ s, Hid (O * A % p = s) := ⟨_, rfl⟩
        have CA := hid (mmul_any w' f p A A r HM.out (by omega) hp2 hA hA Hr.out)
        have CO := hid (mmul_any w' f p O A s HM.out (by omega) hp2 (by omega) hA Hs.out)
        have hr : r < p := by rw [← Hr.out]; exact Nat.mod_lt _ (by omega)
        have hs : s < p := by rw [← Hs.out]; exact Nat.mod_lt _ (by omega)
        by_cases ho : N % 2 = 1
        · have NX := hid (odd_next HI.out hz ho Hr.out Hs.out)
          have hand : bits BinOp.and IntKind.u32 (N : Int) 1 = 1 := by rw [and_one_u32 N hN]; omega
          have hh : N / 2 < 4294967296 := by omega
          go_wp2_with fail
          refine CO.out.mono ?_
          rintro e w2 ⟨rfl, rfl⟩
          go_wp2_with fail
          refine CA.out.mono ?_
          rintro e w3 ⟨rfl, rfl⟩
          go_wp2
          exact ⟨⟨r, s, N / 2, rfl, rfl, by go_num, by omega, hs, by omega, NX⟩, by simp only [intOf]; omega⟩
        · have NX := hid (even_next HI.out hz ho Hr.out)
          have hand : bits BinOp.and IntKind.u32 (N : Int) 1 = 0 := by rw [and_one_u32 N hN]; omega
          go_wp2_with fail
          refine CA.out.mono ?_
          rintro e w3 ⟨rfl, rfl⟩
          go_wp2
          exact ⟨⟨r, O, N / 2, rfl, rfl, by go_num, by omega, hO, by omega, NX⟩, by simp only [intOf]; omega⟩
end Go.Proofs.Ytcgablfjjcdciaa
