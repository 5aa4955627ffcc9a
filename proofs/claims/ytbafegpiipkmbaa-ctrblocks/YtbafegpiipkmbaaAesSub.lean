/- aes.Sub and Unsub, and the document's Inverse, Sub, Unsub, walked. -/
import Derived.Test.YtbafegpiipkmbaaAesInv
namespace Go.Proofs.Ytbafegpiipkmbaa
open Go.RowKit

/-- A byte turned to the left by n. -/
def rl8 (b n : Nat) : Nat := b * 2 ^ n % 256 ||| b / 2 ^ (8 - n)
theorem or8 {x y : Nat} (hx : x < 256) (hy : y < 256) : x ||| y < 256 := Nat.or_lt_two_pow (n := 8) hx hy
theorem rl8_lt {b : Nat} (n : Nat) (h : b < 256) : rl8 b n < 256 := or8 (Nat.mod_lt _ (by decide)) (Nat.lt_of_le_of_lt (Nat.div_le_self _ _) h)
theorem rl8_bits (b n : Nat) (h : b < 256) : bits .or .u8 (IntKind.u8.wrap ((b : Int) * 2 ^ n)) ((b : Int) / 2 ^ (8 - n)) = ((rl8 b n : Nat) : Int) := by
  have e1 : IntKind.u8.wrap ((b : Int) * 2 ^ n) = ((b * 2 ^ n % 256 : Nat) : Int) := by
    rw [IntKind.wrap_u8, Int.natCast_emod, Int.natCast_mul, Int.natCast_pow]
    rfl
  have e2 : (b : Int) / 2 ^ (8 - n) = ((b / 2 ^ (8 - n) : Nat) : Int) := by rw [Int.natCast_ediv, Int.natCast_pow]; rfl
  rw [e1, e2, u8_or_nat _ _ (Nat.mod_lt _ (by decide)) (Nat.lt_of_le_of_lt (Nat.div_le_self _ _) h)]
  rfl
def blend (b : Nat) : Nat := b ^^^ rl8 b 4 ^^^ rl8 b 3 ^^^ rl8 b 2 ^^^ rl8 b 1 ^^^ 99
def unblend (b : Nat) : Nat := rl8 (b ^^^ 99) 6 ^^^ rl8 (b ^^^ 99) 3 ^^^ rl8 (b ^^^ 99) 1
theorem blend_lt {b : Nat} (h : b < 256) : blend b < 256 := xor8 (xor8 (xor8 (xor8 (xor8 h (rl8_lt _ h)) (rl8_lt _ h)) (rl8_lt _ h)) (rl8_lt _ h)) (by decide)
theorem unblend_lt {b : Nat} (h : b < 256) : unblend b < 256 := xor8 (xor8 (rl8_lt _ (xor8 h (by decide))) (rl8_lt _ (xor8 h (by decide)))) (rl8_lt _ (xor8 h (by decide)))
/-- Sub and Unsub of a byte. -/
def sub (a : Nat) : Nat := blend (inv a)
def unsub (a : Nat) : Nat := inv (unblend a)
theorem sub_lt (a : Nat) : sub a < 256 := blend_lt (inv_lt a)
theorem unsub_lt (a : Nat) : unsub a < 256 := inv_lt _

set_option maxRecDepth 100000 in
set_option maxHeartbeats 1000000 in
theorem rotl_1 (w : World) (b : Nat) (h : b < 256) : Calls Try.prog 66 #[.int .u8 (b : Int), .int .i64 1] w fun e w' => e = .returned (.int .u8 ((rl8 b 1 : Nat) : Int)) ∧ w' = w := by
  have h1 : bits .and .u64 1 7 = 1 := by decide
  have HR := hid (rl8_bits b 1 h)
  go_enter Try.func66, Try.ntmps66
  go_wp2
  go_ret
  refine ⟨?_, rfl⟩
  rw [← HR.out]
  rfl

set_option maxRecDepth 100000 in
set_option maxHeartbeats 1000000 in
theorem rotl_2 (w : World) (b : Nat) (h : b < 256) : Calls Try.prog 66 #[.int .u8 (b : Int), .int .i64 2] w fun e w' => e = .returned (.int .u8 ((rl8 b 2 : Nat) : Int)) ∧ w' = w := by
  have h1 : bits .and .u64 2 7 = 2 := by decide
  have HR := hid (rl8_bits b 2 h)
  go_enter Try.func66, Try.ntmps66
  go_wp2
  go_ret
  refine ⟨?_, rfl⟩
  rw [← HR.out]
  rfl

set_option maxRecDepth 100000 in
set_option maxHeartbeats 1000000 in
theorem rotl_3 (w : World) (b : Nat) (h : b < 256) : Calls Try.prog 66 #[.int .u8 (b : Int), .int .i64 3] w fun e w' => e = .returned (.int .u8 ((rl8 b 3 : Nat) : Int)) ∧ w' = w := by
  have h1 : bits .and .u64 3 7 = 3 := by decide
  have HR := hid (rl8_bits b 3 h)
  go_enter Try.func66, Try.ntmps66
  go_wp2
  go_ret
  refine ⟨?_, rfl⟩
  rw [← HR.out]
  rfl

set_option maxRecDepth 100000 in
set_option maxHeartbeats 1000000 in
theorem rotl_4 (w : World) (b : Nat) (h : b < 256) : Calls Try.prog 66 #[.int .u8 (b : Int), .int .i64 4] w fun e w' => e = .returned (.int .u8 ((rl8 b 4 : Nat) : Int)) ∧ w' = w := by
  have h1 : bits .and .u64 4 7 = 4 := by decide
  have HR := hid (rl8_bits b 4 h)
  go_enter Try.func66, Try.ntmps66
  go_wp2
  go_ret
  refine ⟨?_, rfl⟩
  rw [← HR.out]
  rfl

set_option maxRecDepth 100000 in
set_option maxHeartbeats 1000000 in
theorem rotl_6 (w : World) (b : Nat) (h : b < 256) : Calls Try.prog 66 #[.int .u8 (b : Int), .int .i64 6] w fun e w' => e = .returned (.int .u8 ((rl8 b 6 : Nat) : Int)) ∧ w' = w := by
  have h1 : bits .and .u64 6 7 = 6 := by decide
  have HR := hid (rl8_bits b 6 h)
  go_enter Try.func66, Try.ntmps66
  go_wp2
  go_ret
  refine ⟨?_, rfl⟩
  rw [← HR.out]
  rfl

set_option maxHeartbeats 1000000 in
theorem blend_any (w : World) (b : Nat) (h : b < 256) : Calls Try.prog 47 #[.int .u8 (b : Int)] w fun e w' => e = .returned (.int .u8 ((blend b : Nat) : Int)) ∧ w' = w := by
  have l1 := rl8_lt 4 h
  have l2 := rl8_lt 3 h
  have l3 := rl8_lt 2 h
  have l4 := rl8_lt 1 h
  have x1 := u8_xor_nat _ _ h l1
  have x2 := u8_xor_nat _ _ (xor8 h l1) l2
  have x3 := u8_xor_nat _ _ (xor8 (xor8 h l1) l2) l3
  have x4 := u8_xor_nat _ _ (xor8 (xor8 (xor8 h l1) l2) l3) l4
  have x5 := u8_xor_nat _ 99 (xor8 (xor8 (xor8 (xor8 h l1) l2) l3) l4) (by decide)
  have HBL : Hid (b ^^^ rl8 b 4 ^^^ rl8 b 3 ^^^ rl8 b 2 ^^^ rl8 b 1 ^^^ 99 = blend b) := rfl
  obtain ⟨r4, R4⟩ : ∃ r, Hid (rl8 b 4 = r) := ⟨_, rfl⟩
  obtain ⟨r3, R3⟩ : ∃ r, Hid (rl8 b 3 = r) := ⟨_, rfl⟩
  obtain ⟨r2, R2⟩ : ∃ r, Hid (rl8 b 2 = r) := ⟨_, rfl⟩
  obtain ⟨r1, R1⟩ : ∃ r, Hid (rl8 b 1 = r) := ⟨_, rfl⟩
  have c4 := hid (rotl_4 w b h)
  have c3 := hid (rotl_3 w b h)
  have c2 := hid (rotl_2 w b h)
  have c1 := hid (rotl_1 w b h)
  rw [R4.out] at x1 x2 x3 x4 x5 HBL c4
  rw [R3.out] at x2 x3 x4 x5 HBL c3
  rw [R2.out] at x3 x4 x5 HBL c2
  rw [R1.out] at x4 x5 HBL c1
  clear l1 l2 l3 l4
  go_enter Try.func47, Try.ntmps47
  go_wp2_with fail
  refine c4.out.mono ?_
  rintro e w1 ⟨rfl, hw⟩
  subst hw
  go_wp2_with fail
  refine c3.out.mono ?_
  rintro e w1 ⟨rfl, hw⟩
  subst hw
  go_wp2_with fail
  refine c2.out.mono ?_
  rintro e w1 ⟨rfl, hw⟩
  subst hw
  go_wp2_with fail
  refine c1.out.mono ?_
  rintro e w1 ⟨rfl, hw⟩
  subst hw
  go_wp2
  go_ret
  rw [← HBL.out]
  refine ⟨?_, rfl⟩
  rw [← x5]
  rfl

/- The document's. -/
def powF : Nat → Nat → Nat → Nat
  | 0, _, p => p
  | k + 1, a, p => powF k (prod a a) (prod p (prod a a))
def rinv (a : Nat) : Nat := powF 7 a 1
def rbit (b i : Nat) : Nat := b / 2 ^ (i % 8) % 2
def xbit (b i : Nat) : Nat := rbit b i ^^^ rbit b (i + 4) ^^^ rbit b (i + 5) ^^^ rbit b (i + 6) ^^^ rbit b (i + 7) ^^^ rbit 99 i
def rsubF (b : Nat) : Nat → Nat
  | 0 => 0
  | i + 1 => rsubF b i ||| (xbit b i * 2 ^ i)
def rsub (a : Nat) : Nat := rsubF (rinv a) 8
theorem rbit_lt (b i : Nat) : rbit b i < 2 := Nat.mod_lt _ (by decide)
theorem xor1 {x y : Nat} (hx : x < 2) (hy : y < 2) : x ^^^ y < 2 := Nat.xor_lt_two_pow (n := 1) hx hy
theorem xbit_lt (b i : Nat) : xbit b i < 2 := xor1 (xor1 (xor1 (xor1 (xor1 (rbit_lt _ _) (rbit_lt _ _)) (rbit_lt _ _)) (rbit_lt _ _)) (rbit_lt _ _)) (rbit_lt _ _)

def invLit : List Nat := [0, 1, 141, 246, 203, 82, 123, 209, 232, 79, 41, 192, 176, 225, 229, 199, 116, 180, 170, 75, 153, 43, 96, 95, 88, 63, 253, 204, 255, 64, 238, 178, 58, 110, 90, 241, 85, 77, 168, 201, 193, 10, 152, 21, 48, 68, 162, 194, 44, 69, 146, 108, 243, 57, 102, 66, 242, 53, 32, 111, 119, 187, 89, 25, 29, 254, 55, 103, 45, 49, 245, 105, 167, 100, 171, 19, 84, 37, 233, 9, 237, 92, 5, 202, 76, 36, 135, 191, 24, 62, 34, 240, 81, 236, 97, 23, 22, 94, 175, 211, 73, 166, 54, 67, 244, 71, 145, 223, 51, 147, 33, 59, 121, 183, 151, 133, 16, 181, 186, 60, 182, 112, 208, 6, 161, 250, 129, 130, 131, 126, 127, 128, 150, 115, 190, 86, 155, 158, 149, 217, 247, 2, 185, 164, 222, 106, 50, 109, 216, 138, 132, 114, 42, 20, 159, 136, 249, 220, 137, 154, 251, 124, 46, 195, 143, 184, 101, 72, 38, 200, 18, 74, 206, 231, 210, 98, 12, 224, 31, 239, 17, 117, 120, 113, 165, 142, 118, 61, 189, 188, 134, 87, 11, 40, 47, 163, 218, 212, 228, 15, 169, 39, 83, 4, 27, 252, 172, 230, 122, 7, 174, 99, 197, 219, 226, 234, 148, 139, 196, 213, 157, 248, 144, 107, 177, 13, 214, 235, 198, 14, 207, 173, 8, 78, 215, 227, 93, 80, 30, 179, 91, 35, 56, 52, 104, 70, 3, 140, 221, 156, 125, 160, 205, 26, 65, 28]
theorem invT_lit : invT = invLit := by decide +kernel
theorem byte_all {p : Nat → Bool} (h : (List.range 256).all p = true) (a : Nat) (ha : a < 256) : p a = true := List.all_eq_true.1 h a (List.mem_range.2 ha)
theorem inv_rinv (a : Nat) (ha : a < 256) : inv a = rinv a := by
  have h : (List.range 256).all (fun a => invLit.getD a 0 == rinv a) = true := by decide +kernel
  have := byte_all h a ha
  unfold inv
  rw [invT_lit]
  simpa using this
theorem blend_xbit (b : Nat) (hb : b < 256) : blend b = rsubF b 8 := by
  have h : (List.range 256).all (fun b => blend b == rsubF b 8) = true := by decide +kernel
  simpa using byte_all h b hb
theorem unblend_blend (b : Nat) (hb : b < 256) : unblend (blend b) = b := by
  have h : (List.range 256).all (fun b => unblend (blend b) == b) = true := by decide +kernel
  simpa using byte_all h b hb
theorem blend_unblend (b : Nat) (hb : b < 256) : blend (unblend b) = b := by
  have h : (List.range 256).all (fun b => blend (unblend b) == b) = true := by decide +kernel
  simpa using byte_all h b hb
theorem inv_inv (a : Nat) (ha : a < 256) : inv (inv a) = a := by
  have h : (List.range 256).all (fun a => invLit.getD (invLit.getD a 0) 0 == a) = true := by decide +kernel
  have := byte_all h a ha
  unfold inv
  rw [invT_lit]
  simpa using this
theorem sub_rsub (a : Nat) (ha : a < 256) : rsub a = sub a := by
  unfold rsub sub
  rw [← inv_rinv a ha, blend_xbit _ (inv_lt a)]
theorem unsub_sub (a : Nat) (ha : a < 256) : unsub (sub a) = a := by
  unfold unsub sub
  rw [unblend_blend _ (inv_lt a), inv_inv a ha]
theorem sub_unsub (a : Nat) (ha : a < 256) : sub (unsub a) = a := by
  unfold unsub sub
  rw [inv_inv _ (unblend_lt ha), blend_unblend a ha]
end Go.Proofs.Ytbafegpiipkmbaa
