/- base.Length and the document's; five bits of two bytes. -/
import Derived.Test.YtmfamecadomipaaDoorBsMath
import Derived.Test.YtmfamecadomipaaDoorAppB
import Derived.Test.YtmfamecadomipaaDoorOwns
import Derived.Laws.BitsAllLaws
set_option linter.unusedSimpArgs false
set_option linter.unusedVariables false
namespace Go.Proofs.YtmfamecadomipaaDoor
open Go Go.RowKit

/-- How many letters, of whatever number. -/
def lenI (n : Int) : Int := if n < 1 then 0 else n / 5 * 8 + (n % 5 * 8 + 4) / 5
theorem lenI_nat (n : Nat) : lenI n = (lenL n : Int) := by
  unfold lenI lenL
  split <;> omega

set_option maxRecDepth 100000 in
set_option maxHeartbeats 1000000 in
theorem length_any (w : World) (n : Int) (h1 : -9223372036854775808 ≤ n) (h2 : n ≤ 1152921504606846975) :
    Calls Tryd.prog 14 #[.int .i64 n] w fun e w' => e = .returned (.int .i64 (lenI n)) ∧ w' = w := by
  by_cases h : n < 1
  · go_enter Tryd.func14, Tryd.ntmps14
    go_wp2
    go_ret
    exact ⟨by simp [lenI, h], rfl⟩
  · go_enter Tryd.func14, Tryd.ntmps14
    go_wp2
    go_ret
    exact ⟨by unfold lenI; rw [if_neg (by omega)]; rfl, rfl⟩
theorem or16 (x y : Int) (hx : 0 ≤ x ∧ x < 256) (hy : 0 ≤ y ∧ y < 256) : bits .or .u16 (x * 256) y = x * 256 + y := by
  obtain ⟨X, rfl⟩ := Int.eq_ofNat_of_zero_le hx.1
  obtain ⟨Y, rfl⟩ := Int.eq_ofNat_of_zero_le hy.1
  rw [u16_or _ _ (by omega) (by omega) (by omega) (by omega)]
  have e1 : ((X : Int) * 256).toNat = 2 ^ 8 * X := by omega
  have e2 : ((Y : Int)).toNat = Y := by omega
  rw [e1, e2, ← Nat.two_pow_add_eq_or_of_lt (by omega)]
  omega
theorem lv_at {l : List Int} (h : Byt8 l) (i q r : Nat) (Hq : 5 * i / 8 = q) (Hr : 5 * i % 8 = r) : lv l i = (l.getD q 0 * 256 + l.getD (q + 1) 0) / 2 ^ (11 - r) % 32 := by
  rw [← grp_lv h]
  unfold grp
  rw [Hq, Hr]

set_option maxRecDepth 100000 in
set_option maxHeartbeats 4000000 in
theorem group_any (w : World) (v : Value) (l : List Int) (hv : HB w v l) (i : Nat) (hi : i < lenL l.length) (hbig : l.length ≤ 140737488355328) :
    Calls Tryd.prog 23 #[v, .int .i64 (i : Int)] w fun e w' => e = .returned (.int .u8 (lv l i)) ∧ Dr w w' := by
  have hq : 5 * i / 8 < l.length := by unfold lenL at hi; omega
  obtain ⟨b1, o1, c1, rfl, hc1, hm1, hk1⟩ := hv.ne (by omega)
  obtain ⟨q, Hq⟩ : ∃ q, 5 * i / 8 = q := ⟨_, rfl⟩
  obtain ⟨r, Hr⟩ : ∃ r, 5 * i % 8 = r := ⟨_, rfl⟩
  have HV := hid (lv_at hv.2 i q r Hq Hr)
  rw [Hq] at hq
  have hdiv : (i : Int) * 5 / 8 = (q : Int) := by omega
  have hr : r < 8 := by omega
  have g1 := hk1 q hq
  have hx := hv.byte q
  have hy := hv.byte (q + 1)
  unfold maxLen at hm1
  obtain ⟨x, Hx⟩ : ∃ x, Hid (l.getD q 0 = x) := ⟨_, rfl⟩
  obtain ⟨y, Hy⟩ : ∃ y, Hid (l.getD (q + 1) 0 = y) := ⟨_, rfl⟩
  rw [Hx.out] at g1 hx HV
  rw [Hy.out] at hy HV
  have hi5 : i ≤ 1152921504606846975 := by omega
  obtain ⟨hx1, hx2⟩ := hx
  obtain ⟨hy1, hy2⟩ := hy
  have hor := or16 x y ⟨hx1, hx2⟩ ⟨hy1, hy2⟩
  have HN : Hid (¬ q + 1 < l.length → y = 0) := by
    refine hid fun h => ?_
    rw [← Hy.out]
    simp [List.getD, List.getElem?_eq_none (by omega : l.length ≤ q + 1)]
  have HG2 : Hid (q + 1 < l.length → w.cell? ⟨b1, o1 + (q + 1), none⟩ = some (.int .u8 y)) := by
    refine hid fun h => ?_
    rw [← Hy.out]
    exact hk1 (q + 1) h
  clear hi hv hk1
  rcases (by omega : r = 0 ∨ r = 1 ∨ r = 2 ∨ r = 3 ∨ r = 4 ∨ r = 5 ∨ r = 6 ∨ r = 7) with rfl | rfl | rfl | rfl | rfl | rfl | rfl | rfl
  · have hmod : (i : Int) * 5 % 8 = 0 := by omega
    have HV2 : Hid (lv l i = (x * 256 + y) / 2048 % 32) := HV.out
    clear HV Hq Hr
    by_cases h1 : q + 1 < l.length
    · have g2 := HG2.out h1
      go_enter Tryd.func23, Tryd.ntmps23
      go_wp2
      go_ret
      refine ⟨?_, Dr.refl _⟩
      rw [HV2.out]
      simp <;> omega
    · have hy0 := HN.out h1
      subst hy0
      clear hor
      go_enter Tryd.func23, Tryd.ntmps23
      go_wp2
      go_ret
      refine ⟨?_, Dr.refl _⟩
      rw [HV2.out]
      simp <;> omega
  · have hmod : (i : Int) * 5 % 8 = 1 := by omega
    have HV2 : Hid (lv l i = (x * 256 + y) / 1024 % 32) := HV.out
    clear HV Hq Hr
    by_cases h1 : q + 1 < l.length
    · have g2 := HG2.out h1
      go_enter Tryd.func23, Tryd.ntmps23
      go_wp2
      go_ret
      refine ⟨?_, Dr.refl _⟩
      rw [HV2.out]
      simp <;> omega
    · have hy0 := HN.out h1
      subst hy0
      clear hor
      go_enter Tryd.func23, Tryd.ntmps23
      go_wp2
      go_ret
      refine ⟨?_, Dr.refl _⟩
      rw [HV2.out]
      simp <;> omega
  · have hmod : (i : Int) * 5 % 8 = 2 := by omega
    have HV2 : Hid (lv l i = (x * 256 + y) / 512 % 32) := HV.out
    clear HV Hq Hr
    by_cases h1 : q + 1 < l.length
    · have g2 := HG2.out h1
      go_enter Tryd.func23, Tryd.ntmps23
      go_wp2
      go_ret
      refine ⟨?_, Dr.refl _⟩
      rw [HV2.out]
      simp <;> omega
    · have hy0 := HN.out h1
      subst hy0
      clear hor
      go_enter Tryd.func23, Tryd.ntmps23
      go_wp2
      go_ret
      refine ⟨?_, Dr.refl _⟩
      rw [HV2.out]
      simp <;> omega
  · have hmod : (i : Int) * 5 % 8 = 3 := by omega
    have HV2 : Hid (lv l i = (x * 256 + y) / 256 % 32) := HV.out
    clear HV Hq Hr
    by_cases h1 : q + 1 < l.length
    · have g2 := HG2.out h1
      go_enter Tryd.func23, Tryd.ntmps23
      go_wp2
      go_ret
      refine ⟨?_, Dr.refl _⟩
      rw [HV2.out]
      simp <;> omega
    · have hy0 := HN.out h1
      subst hy0
      clear hor
      go_enter Tryd.func23, Tryd.ntmps23
      go_wp2
      go_ret
      refine ⟨?_, Dr.refl _⟩
      rw [HV2.out]
      simp <;> omega
  · have hmod : (i : Int) * 5 % 8 = 4 := by omega
    have HV2 : Hid (lv l i = (x * 256 + y) / 128 % 32) := HV.out
    clear HV Hq Hr
    by_cases h1 : q + 1 < l.length
    · have g2 := HG2.out h1
      go_enter Tryd.func23, Tryd.ntmps23
      go_wp2
      go_ret
      refine ⟨?_, Dr.refl _⟩
      rw [HV2.out]
      simp <;> omega
    · have hy0 := HN.out h1
      subst hy0
      clear hor
      go_enter Tryd.func23, Tryd.ntmps23
      go_wp2
      go_ret
      refine ⟨?_, Dr.refl _⟩
      rw [HV2.out]
      simp <;> omega
  · have hmod : (i : Int) * 5 % 8 = 5 := by omega
    have HV2 : Hid (lv l i = (x * 256 + y) / 64 % 32) := HV.out
    clear HV Hq Hr
    by_cases h1 : q + 1 < l.length
    · have g2 := HG2.out h1
      go_enter Tryd.func23, Tryd.ntmps23
      go_wp2
      go_ret
      refine ⟨?_, Dr.refl _⟩
      rw [HV2.out]
      simp <;> omega
    · have hy0 := HN.out h1
      subst hy0
      clear hor
      go_enter Tryd.func23, Tryd.ntmps23
      go_wp2
      go_ret
      refine ⟨?_, Dr.refl _⟩
      rw [HV2.out]
      simp <;> omega
  · have hmod : (i : Int) * 5 % 8 = 6 := by omega
    have HV2 : Hid (lv l i = (x * 256 + y) / 32 % 32) := HV.out
    clear HV Hq Hr
    by_cases h1 : q + 1 < l.length
    · have g2 := HG2.out h1
      go_enter Tryd.func23, Tryd.ntmps23
      go_wp2
      go_ret
      refine ⟨?_, Dr.refl _⟩
      rw [HV2.out]
      simp <;> omega
    · have hy0 := HN.out h1
      subst hy0
      clear hor
      go_enter Tryd.func23, Tryd.ntmps23
      go_wp2
      go_ret
      refine ⟨?_, Dr.refl _⟩
      rw [HV2.out]
      simp <;> omega
  · have hmod : (i : Int) * 5 % 8 = 7 := by omega
    have HV2 : Hid (lv l i = (x * 256 + y) / 16 % 32) := HV.out
    clear HV Hq Hr
    by_cases h1 : q + 1 < l.length
    · have g2 := HG2.out h1
      go_enter Tryd.func23, Tryd.ntmps23
      go_wp2
      go_ret
      refine ⟨?_, Dr.refl _⟩
      rw [HV2.out]
      simp <;> omega
    · have hy0 := HN.out h1
      subst hy0
      clear hor
      go_enter Tryd.func23, Tryd.ntmps23
      go_wp2
      go_ret
      refine ⟨?_, Dr.refl _⟩
      rw [HV2.out]
      simp <;> omega
end Go.Proofs.YtmfamecadomipaaDoor
