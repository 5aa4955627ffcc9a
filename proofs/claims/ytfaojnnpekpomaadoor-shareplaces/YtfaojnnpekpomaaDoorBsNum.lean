/- base.Number and base.ReadNumber, walked. -/
import Derived.Test.YtfaojnnpekpomaaDoorBsNumM
import Derived.Test.YtfaojnnpekpomaaDoorBsShelfD
import Derived.Test.YtfaojnnpekpomaaDoorBsIdx
import Derived.Lib.AppendIntMem
import Derived.Lib.SmallJoins
import Derived.Lib.AtoiBound
import Derived.Lib.AtoiAllMem
set_option linter.unusedSimpArgs false
set_option linter.unusedVariables false
namespace Go.Proofs.YtfaojnnpekpomaaDoor
open Go Go.RowKit Go.Sort Go.Lib

def nS (x : Int) : ByteArray := if x < 0 then ⟨#[]⟩ else ⟨(Lib.decDigits x.toNat).toArray⟩
def nE (x : Int) : Int := if x < 0 then 102 else 0
def KP (w : World) : Prop := Lib.TabIs Tryd.prog w "internal/strconv.uint64pow10" .u64 Lib.pow10Tab
theorem KP.below {w w' : World} (h : KP w) (hb : Below w.heap.size w w') : KP w' := Lib.tabBelow_of_tabIs h w' hb
set_option maxHeartbeats 1000000 in
theorem number_tab (w : World) (x : Int) (h0 : -9223372036854775808 ≤ x) (h1 : x ≤ 9223372036854775807) (hk : KP w) :
    Calls Tryd.prog 33 #[.int .i64 x] w fun e w' => e = .returned (.tuple #[.string (nS x), .int .i64 (nE x)]) ∧ Below w.heap.size w w' := by
  by_cases h : x < 0
  · have e1 := hid (show nS x = ⟨#[]⟩ by unfold nS; rw [if_pos h])
    have e2 := hid (show nE x = 102 by unfold nE; rw [if_pos h])
    go_enter Tryd.func33, Tryd.ntmps33
    go_wp2
    go_ret2
    exact ⟨by rw [e1.out, e2.out]; rfl, Below.refl _ _⟩
  · have e1 := hid (show nS x = ⟨(Lib.decDigits x.toNat).toArray⟩ by unfold nS; rw [if_neg h])
    have e2 := hid (show nE x = 0 by unfold nE; rw [if_neg h])
    have C := Tryd.strconv_Itoa x h0 h1 w hk
    have ei : Lib.itoa x = Lib.decDigits x.toNat := by unfold Lib.itoa; rw [if_neg h]
    rw [ei] at C
    obtain ⟨D, HD⟩ : ∃ D : ByteArray, Hid (⟨(Lib.decDigits x.toNat).toArray⟩ = D) := ⟨_, rfl⟩
    rw [HD.out] at C e1
    have C := hid C
    have hk0 := hid hk
    clear hk ei
    go_enter Tryd.func33, Tryd.ntmps33
    go_wp2_with fail
    refine C.out.mono ?_
    rintro e w' ⟨rfl, k, os, rfl⟩
    clear C
    have B := hid (below_grow w.heap.size w (Nat.le_refl _) k os)
    obtain ⟨w1, hw1⟩ : ∃ w1, grow (w.drewN k) os = w1 := ⟨_, rfl⟩
    rw [hw1] at B
    rw [hw1]
    clear hw1
    go_wp2
    go_ret2
    exact ⟨by rw [e1.out, e2.out]; rfl, B.out⟩
theorem below_bytesWorld (w : World) (e : TypeId) (t : ByteArray) : Below w.heap.size w (Lib.bytesWorld w e t) := ⟨rfl, rfl, rfl, by rw [Lib.bytesWorld_size]; omega, fun k hk => Lib.bytesWorld_at_old w e t k hk⟩
theorem rd_atoi {l : List UInt8} {most : Int} (h : rdOk l most) (hm : most ≤ 9223372036854775807) : Lib.atoiAll l = .ok (valD l) := atoi_canon l h.1 (by have := h.2; omega)
theorem rd_dec {l : List UInt8} {v : Int} {most : Int} (h0 : 0 ≤ v) (hm : v ≤ most) (h : Lib.decDigits v.toNat = l) : rdV l most = v ∧ rdE l most = 0 := by
  obtain ⟨h1, h2, _⟩ := dec_canon v.toNat
  rw [h] at h1 h2
  have hok : rdOk l most := ⟨h1, by omega⟩
  obtain ⟨e1, e2⟩ := rd_ok hok
  exact ⟨by rw [e1, h2]; omega, e2⟩
theorem mk_eq (l : List UInt8) (s : ByteArray) : ((⟨l.toArray⟩ : ByteArray).toList == s.toList) = decide (l = s.data.toList) := by
  rw [ByteArray.toList_eq, ByteArray.toList_eq]
  by_cases h : l = s.data.toList
  · rw [← h]; simp
  · simp [h]
end Go.Proofs.YtfaojnnpekpomaaDoor
