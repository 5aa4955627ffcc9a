/- base.Number and base.ReadNumber, walked. -/
import Derived.Test.YthcdefidoibopabDoorBsNumM
import Derived.Test.YthcdefidoibopabDoorBsShelfD
import Derived.Test.YthcdefidoibopabDoorBsIdx
import Derived.Lib.AppendIntMem
import Derived.Lib.SmallJoins
import Derived.Lib.AtoiBound
import Derived.Lib.AtoiAllMem
set_option linter.unusedSimpArgs false
set_option linter.unusedVariables false
namespace Go.Proofs.YthcdefidoibopabDoor
open Go Go.RowKit Go.Sort Go.Lib

/-- What the library's variables hold. -/
def KD (w : World) : Prop := Lib.TabIs Tryd.prog w "internal/strconv.uint64pow10" .u64 Lib.pow10Tab ∧ (∃ tp p, w.cell? ⟨1, 0, none⟩ = some (.iface tp p)) ∧ ∃ tp p, w.cell? ⟨2, 0, none⟩ = some (.iface tp p)
theorem KD.below {w w' : World} (h : KD w) (hb : Below w.heap.size w w') : KD w' := by
  obtain ⟨h1, ⟨t1, p1, h2⟩, t2, p2, h3⟩ := h
  exact ⟨Lib.tabBelow_of_tabIs h1 w' hb, ⟨t1, p1, (hb.cell (World.block_lt_of_cell? w _ h2)).trans h2⟩, t2, p2, (hb.cell (World.block_lt_of_cell? w _ h3)).trans h3⟩
def nS (x : Int) : ByteArray := if x < 0 then ⟨#[]⟩ else ⟨(Lib.decDigits x.toNat).toArray⟩
def nE (x : Int) : Int := if x < 0 then 102 else 0
def KP (w : World) : Prop := Lib.TabIs Tryd.prog w "internal/strconv.uint64pow10" .u64 Lib.pow10Tab
theorem KP.below {w w' : World} (h : KP w) (hb : Below w.heap.size w w') : KP w' := Lib.tabBelow_of_tabIs h w' hb
theorem KD.kp {w : World} (h : KD w) : KP w := h.1
set_option maxHeartbeats 1000000 in
theorem number_tab (w : World) (x : Int) (h0 : -9223372036854775808 ≤ x) (h1 : x ≤ 9223372036854775807) (hk : KP w) :
    Calls Tryd.prog 22 #[.int .i64 x] w fun e w' => e = .returned (.tuple #[.string (nS x), .int .i64 (nE x)]) ∧ Below w.heap.size w w' := by
  by_cases h : x < 0
  · have e1 := hid (show nS x = ⟨#[]⟩ by unfold nS; rw [if_pos h])
    have e2 := hid (show nE x = 102 by unfold nE; rw [if_pos h])
    go_enter Tryd.func22, Tryd.ntmps22
    go_wp2
    go_ret2
    exact ⟨by rw [e1.out, e2.out]; rfl, Below.refl _ _⟩
  · have e1 := hid (show nS x = ⟨(Lib.decDigits x.toNat).toArray⟩ by unfold nS; rw [if_neg h])
    have e2 := hid (show nE x = 0 by unfold nE; rw [if_neg h])
    have C := Tryd.strconv_Itoa x h0 h1 w hk
    have ei : Lib.itoa x = Lib.decDigits x.toNat := by unfold Lib.itoa; rw [if_neg h]
    rw [ei] at C
    obtain ⟨D, HD⟩ : ∃ D : ByteArray, Hid (⟨(Lib.decDigits x.toNat).toArray⟩ = D) := ⟨_, rfl⟩
    rw [HD.out] at C e1
    have C := hid C
    have hk0 := hid hk
    clear hk ei
    go_enter Tryd.func22, Tryd.ntmps22
    go_wp2_with fail
    refine C.out.mono ?_
    rintro e w' ⟨rfl, k, os, rfl⟩
    clear C
    have B := hid (below_grow w.heap.size w (Nat.le_refl _) k os)
    obtain ⟨w1, hw1⟩ : ∃ w1, grow (w.drewN k) os = w1 := ⟨_, rfl⟩
    rw [hw1] at B
    rw [hw1]
    clear hw1
    go_wp2
    go_ret2
    exact ⟨by rw [e1.out, e2.out]; rfl, B.out⟩
theorem number_any (w : World) (x : Int) (h0 : -9223372036854775808 ≤ x) (h1 : x ≤ 9223372036854775807) (hk : KD w) :
    Calls Tryd.prog 22 #[.int .i64 x] w fun e w' => e = .returned (.tuple #[.string (nS x), .int .i64 (nE x)]) ∧ Below w.heap.size w w' := number_tab w x h0 h1 hk.kp
theorem below_bytesWorld (w : World) (e : TypeId) (t : ByteArray) : Below w.heap.size w (Lib.bytesWorld w e t) := ⟨rfl, rfl, rfl, by rw [Lib.bytesWorld_size]; omega, fun k hk => Lib.bytesWorld_at_old w e t k hk⟩
theorem rd_atoi {l : List UInt8} {most : Int} (h : rdOk l most) (hm : most ≤ 9223372036854775807) : Lib.atoiAll l = .ok (valD l) := atoi_canon l h.1 (by have := h.2; omega)
theorem rd_dec {l : List UInt8} {v : Int} {most : Int} (h0 : 0 ≤ v) (hm : v ≤ most) (h : Lib.decDigits v.toNat = l) : rdV l most = v ∧ rdE l most = 0 := by
  obtain ⟨h1, h2, _⟩ := dec_canon v.toNat
  rw [h] at h1 h2
  have hok : rdOk l most := ⟨h1, by omega⟩
  obtain ⟨e1, e2⟩ := rd_ok hok
  exact ⟨by rw [e1, h2]; omega, e2⟩
theorem mk_eq (l : List UInt8) (s : ByteArray) : ((⟨l.toArray⟩ : ByteArray).toList == s.toList) = decide (l = s.data.toList) := by
  rw [ByteArray.toList_eq, ByteArray.toList_eq]
  by_cases h : l = s.data.toList
  · rw [← h]; simp
  · simp [h]
set_option maxRecDepth 100000 in
set_option maxHeartbeats 2000000 in
theorem read_any (w : World) (s : ByteArray) (most : Int) (hs : s.size ≤ 281474976710656) (hm0 : -9223372036854775808 ≤ most) (hm1 : most ≤ 9223372036854775807) (hk : KD w) :
    Calls Tryd.prog 24 #[.string s, .int .i64 most] w fun e w' => e = .returned (.tuple #[.int .i64 (rdV s.data.toList most), .int .i64 (rdE s.data.toList most)]) ∧ Below w.heap.size w w' := by
  obtain ⟨l, Hl⟩ : ∃ l, Hid (s.data.toList = l) := ⟨_, rfl⟩
  have HQ : Hid (∀ d : List UInt8, (d == s.toList) = decide (d = l)) := by
    refine hid fun d => ?_
    have := mk_eq d s
    rw [Hl.out] at this
    rw [← this]
    simp
  rw [Hl.out]
  have KD0 := hid hk
  have NO : Hid (¬ rdOk l most → rdV l most = 0 ∧ rdE l most = 102) := hid rd_no
  have RA : Hid (rdOk l most → Lib.atoiAll l = .ok (valD l)) := hid fun h => rd_atoi h hm1
  cases ha : Lib.atoiAll l with
  | «syntax» =>
    have hno : ¬ rdOk l most := fun h => by have := RA.out h; rw [ha] at this; cases this
    obtain ⟨e1, e2⟩ := NO.out hno
    have E := hid (And.intro e1 e2)
    obtain ⟨tp, p, hc⟩ := hk.2.1
    have C := hid (Tryd.strconv_Atoi_syntax s hs (by rw [Hl.out]; exact ha) _ w hc (Or.inr ⟨_, _, rfl⟩))
    clear hno e1 e2 hc ha hk
    go_enter Tryd.func24, Tryd.ntmps24
    go_wp2_with fail
    refine C.out.mono ?_
    rintro e w1 ⟨N, rfl, _, _, hB⟩
    have B := hid hB
    clear hB C
    go_wp2
    go_ret2
    exact ⟨by rw [E.out.1, E.out.2]; rfl, B.out⟩
  | range =>
    have hno : ¬ rdOk l most := fun h => by have := RA.out h; rw [ha] at this; cases this
    obtain ⟨e1, e2⟩ := NO.out hno
    have E := hid (And.intro e1 e2)
    obtain ⟨tp, p, hc⟩ := hk.2.2
    have C := Tryd.strconv_Atoi_range s hs (by rw [Hl.out]; exact ha) _ w hc (Or.inr ⟨_, _, rfl⟩)
    obtain ⟨sat, Hsat⟩ : ∃ x, Hid (Lib.atoiSat s.data.toList = x) := ⟨_, rfl⟩
    rw [Hsat.out] at C
    have C := hid C
    clear hno e1 e2 hc ha hk
    go_enter Tryd.func24, Tryd.ntmps24
    go_wp2_with fail
    refine C.out.mono ?_
    rintro e w1 ⟨N, rfl, _, _, hB⟩
    have B := hid hB
    clear hB C
    go_wp2
    go_ret2
    exact ⟨by rw [E.out.1, E.out.2]; rfl, B.out⟩
  | ok v =>
    have hvb := Lib.atoiAll_bounds ha
    have HV : Hid (rdOk l most → v = (valD l : Int) ∧ (valD l : Int) ≤ most ∧ Lib.decDigits (valD l) = l) := by
      refine hid fun h => ?_
      have := RA.out h
      rw [ha] at this
      injection this with this
      exact ⟨this, h.2, canon_dec _ l rfl h.1⟩
    have C := hid (Tryd.strconv_Atoi_ok s (by omega) v (by rw [Hl.out]; exact ha) w)
    clear ha hk
    go_enter Tryd.func24, Tryd.ntmps24
    go_wp2_with fail
    refine C.out.mono ?_
    rintro e w1 ⟨rfl, hw⟩
    have B : Hid (Below w.heap.size w w1) := by
      rcases hw with rfl | ⟨t, rfl⟩
      · exact Below.refl _ _
      · exact below_bytesWorld w _ t
    clear hw C
    by_cases hvm : v > most
    · have E := hid (NO.out fun h => by have := HV.out h; omega)
      go_wp2
      go_ret2
      exact ⟨by rw [E.out.1, E.out.2]; rfl, B.out⟩
    · have CN := hid (number_any w1 v (by omega) (by omega) (KD0.out.below B.out))
      by_cases hv0 : v < 0
      · have E := hid (NO.out fun h => by have := HV.out h; omega)
        have e1 : nE v = 102 := by unfold nE; rw [if_pos hv0]
        rw [e1] at CN
        obtain ⟨S, HS⟩ : ∃ x, Hid (nS v = x) := ⟨_, rfl⟩
        rw [HS.out] at CN
        go_wp2_with fail
        refine CN.out.mono ?_
        rintro e w2 ⟨rfl, hB2⟩
        have B2 := hid (B.out.trans (hB2.mono B.out.size))
        clear hB2 CN
        go_wp2
        go_ret2
        exact ⟨by rw [E.out.1, E.out.2]; rfl, B2.out⟩
      · have e1 : nE v = 0 := by unfold nE; rw [if_neg hv0]
        have e2 : nS v = ⟨(Lib.decDigits v.toNat).toArray⟩ := by unfold nS; rw [if_neg hv0]
        have hq := HQ.out (Lib.decDigits v.toNat)
        rw [e1, e2] at CN
        have HD : Hid (Lib.decDigits v.toNat = l → rdV l most = v ∧ rdE l most = 0) := hid fun h => rd_dec (by omega) (by omega) h
        have HD2 : Hid (Lib.decDigits v.toNat ≠ l → rdV l most = 0 ∧ rdE l most = 102) := by
          refine hid fun h => NO.out fun hr => h ?_
          obtain ⟨q1, q2, q3⟩ := HV.out hr
          rw [← q3]
          congr 1
          omega
        obtain ⟨D, HDD⟩ : ∃ D, Hid (Lib.decDigits v.toNat = D) := ⟨_, rfl⟩
        rw [HDD.out] at hq CN HD HD2
        clear e1 e2
        go_wp2_with fail
        refine CN.out.mono ?_
        rintro e w2 ⟨rfl, hB2⟩
        have B2 := hid (B.out.trans (hB2.mono B.out.size))
        clear hB2 CN
        by_cases hd : D = l
        · have E := hid (HD.out hd)
          rw [decide_eq_true hd] at hq
          clear hd
          go_wp2
          go_ret2
          exact ⟨by rw [E.out.1, E.out.2]; rfl, B2.out⟩
        · have E := hid (HD2.out hd)
          rw [decide_eq_false hd] at hq
          clear hd
          go_wp2
          go_ret2
          exact ⟨by rw [E.out.1, E.out.2]; rfl, B2.out⟩
end Go.Proofs.YthcdefidoibopabDoor
