/- Of the road to uebReadCard_holds: BsNum, AppB, UbApp, UbShelf, Slices, UbCutF, UbMay, Arrays, BkT, Clone. -/
import Derived.Test.YtklklldmhoofnaaDoorG01
import Derived.Lib.AppendIntMem
import Derived.Lib.SmallJoins
import Derived.Lib.AtoiBound
import Derived.Lib.AtoiAllMem
import Derived.Laws.AppendOwn
import Derived.Lib.AppendStr
import Derived.Laws.AppendOwnNone
import Derived.Shelf.Bytes.SlIndexAt
import Derived.Shelf.Bytes.SlSearch0
import Derived.Shelf.Bytes.IndexByte
import Derived.Test.YtklklldmhoofnaaDoorChecked
import Derived.Laws.Cover1
import Derived.Deep.MidRow
import Derived.Test.YtklklldmhoofnaaDoorG00
set_option linter.unusedVariables false
set_option linter.unusedSimpArgs false
namespace Go.Proofs.YtklklldmhoofnaaDoor
open Go Go.RowKit Go.Sort Go.Lib
def KD (w : World) : Prop := Lib.TabIs Tryd.prog w "internal/strconv.uint64pow10" .u64 Lib.pow10Tab ∧ (∃ tp p, w.cell? ⟨3, 0, none⟩ = some (.iface tp p)) ∧ ∃ tp p, w.cell? ⟨4, 0, none⟩ = some (.iface tp p)
theorem KD.below {w w' : World} (h : KD w) (hb : Below w.heap.size w w') : KD w' := by
  obtain ⟨h1, ⟨t1, p1, h2⟩, t2, p2, h3⟩ := h
  exact ⟨Lib.tabBelow_of_tabIs h1 w' hb, ⟨t1, p1, (hb.cell (World.block_lt_of_cell? w _ h2)).trans h2⟩, t2, p2, (hb.cell (World.block_lt_of_cell? w _ h3)).trans h3⟩
def nS (x : Int) : ByteArray := if x < 0 then ⟨#[]⟩ else ⟨(Lib.decDigits x.toNat).toArray⟩
def nE (x : Int) : Int := if x < 0 then 102 else 0
def KP (w : World) : Prop := Lib.TabIs Tryd.prog w "internal/strconv.uint64pow10" .u64 Lib.pow10Tab
theorem KP.below {w w' : World} (h : KP w) (hb : Below w.heap.size w w') : KP w' := Lib.tabBelow_of_tabIs h w' hb
theorem KD.kp {w : World} (h : KD w) : KP w := h.1
set_option maxHeartbeats 1000000 in
theorem number_tab (w : World) (x : Int) (h0 : -9223372036854775808 ≤ x) (h1 : x ≤ 9223372036854775807) (hk : KP w) :
    Calls Tryd.prog 36 #[.int .i64 x] w fun e w' => e = .returned (.tuple #[.string (nS x), .int .i64 (nE x)]) ∧ Below w.heap.size w w' := by
  by_cases h : x < 0
  · have e1 := hid (show nS x = ⟨#[]⟩ by unfold nS; rw [if_pos h])
    have e2 := hid (show nE x = 102 by unfold nE; rw [if_pos h])
    go_enter Tryd.func36, Tryd.ntmps36
    go_wp2
    go_ret2
    exact ⟨by rw [e1.out, e2.out]; rfl, Below.refl _ _⟩
  · have e1 := hid (show nS x = ⟨(Lib.decDigits x.toNat).toArray⟩ by unfold nS; rw [if_neg h])
    have e2 := hid (show nE x = 0 by unfold nE; rw [if_neg h])
    have C := Tryd.strconv_Itoa x h0 h1 w hk
    have ei : Lib.itoa x = Lib.decDigits x.toNat := by unfold Lib.itoa; rw [if_neg h]
    rw [ei] at C
    obtain ⟨D, HD⟩ : ∃ D : ByteArray, Hid (⟨(Lib.decDigits x.toNat).toArray⟩ = D) := ⟨_, rfl⟩
    rw [HD.out] at C e1
    have C := hid C
    have hk0 := hid hk
    clear hk ei
    go_enter Tryd.func36, Tryd.ntmps36
    go_wp2_with fail
    refine C.out.mono ?_
    rintro e w' ⟨rfl, k, os, rfl⟩
    clear C
    have B := hid (below_grow w.heap.size w (Nat.le_refl _) k os)
    obtain ⟨w1, hw1⟩ : ∃ w1, grow (w.drewN k) os = w1 := ⟨_, rfl⟩
    rw [hw1] at B
    rw [hw1]
    clear hw1
    go_wp2
    go_ret2
    exact ⟨by rw [e1.out, e2.out]; rfl, B.out⟩
theorem number_any (w : World) (x : Int) (h0 : -9223372036854775808 ≤ x) (h1 : x ≤ 9223372036854775807) (hk : KD w) :
    Calls Tryd.prog 36 #[.int .i64 x] w fun e w' => e = .returned (.tuple #[.string (nS x), .int .i64 (nE x)]) ∧ Below w.heap.size w w' := number_tab w x h0 h1 hk.kp
theorem below_bytesWorld (w : World) (e : TypeId) (t : ByteArray) : Below w.heap.size w (Lib.bytesWorld w e t) := ⟨rfl, rfl, rfl, by rw [Lib.bytesWorld_size]; omega, fun k hk => Lib.bytesWorld_at_old w e t k hk⟩
theorem rd_atoi {l : List UInt8} {most : Int} (h : rdOk l most) (hm : most ≤ 9223372036854775807) : Lib.atoiAll l = .ok (valD l) := atoi_canon l h.1 (by have := h.2; omega)
theorem rd_dec {l : List UInt8} {v : Int} {most : Int} (h0 : 0 ≤ v) (hm : v ≤ most) (h : Lib.decDigits v.toNat = l) : rdV l most = v ∧ rdE l most = 0 := by
  obtain ⟨h1, h2, _⟩ := dec_canon v.toNat
  rw [h] at h1 h2
  have hok : rdOk l most := ⟨h1, by omega⟩
  obtain ⟨e1, e2⟩ := rd_ok hok
  exact ⟨by rw [e1, h2]; omega, e2⟩
theorem mk_eq (l : List UInt8) (s : ByteArray) : ((⟨l.toArray⟩ : ByteArray).toList == s.toList) = decide (l = s.data.toList) := by
  rw [ByteArray.toList_eq, ByteArray.toList_eq]
  by_cases h : l = s.data.toList
  · rw [← h]; simp
  · simp [h]
set_option maxRecDepth 100000 in
set_option maxHeartbeats 2000000 in
theorem read_any (w : World) (s : ByteArray) (most : Int) (hs : s.size ≤ 281474976710656) (hm0 : -9223372036854775808 ≤ most) (hm1 : most ≤ 9223372036854775807) (hk : KD w) :
    Calls Tryd.prog 55 #[.string s, .int .i64 most] w fun e w' => e = .returned (.tuple #[.int .i64 (rdV s.data.toList most), .int .i64 (rdE s.data.toList most)]) ∧ Below w.heap.size w w' := by
  obtain ⟨l, Hl⟩ : ∃ l, Hid (s.data.toList = l) := ⟨_, rfl⟩
  have HQ : Hid (∀ d : List UInt8, (d == s.toList) = decide (d = l)) := by
    refine hid fun d => ?_
    have := mk_eq d s
    rw [Hl.out] at this
    rw [← this]
    simp
  rw [Hl.out]
  have KD0 := hid hk
  have NO : Hid (¬ rdOk l most → rdV l most = 0 ∧ rdE l most = 102) := hid rd_no
  have RA : Hid (rdOk l most → Lib.atoiAll l = .ok (valD l)) := hid fun h => rd_atoi h hm1
  cases ha : Lib.atoiAll l with
  | «syntax» =>
    have hno : ¬ rdOk l most := fun h => by have := RA.out h; rw [ha] at this; cases this
    obtain ⟨e1, e2⟩ := NO.out hno
    have E := hid (And.intro e1 e2)
    obtain ⟨tp, p, hc⟩ := hk.2.1
    have C := hid (Tryd.strconv_Atoi_syntax s hs (by rw [Hl.out]; exact ha) _ w hc (Or.inr ⟨_, _, rfl⟩))
    clear hno e1 e2 hc ha hk
    go_enter Tryd.func55, Tryd.ntmps55
    go_wp2_with fail
    refine C.out.mono ?_
    rintro e w1 ⟨N, rfl, _, _, hB⟩
    have B := hid hB
    clear hB C
    go_wp2
    go_ret2
    exact ⟨by rw [E.out.1, E.out.2]; rfl, B.out⟩
  | range =>
    have hno : ¬ rdOk l most := fun h => by have := RA.out h; rw [ha] at this; cases this
    obtain ⟨e1, e2⟩ := NO.out hno
    have E := hid (And.intro e1 e2)
    obtain ⟨tp, p, hc⟩ := hk.2.2
    have C := Tryd.strconv_Atoi_range s hs (by rw [Hl.out]; exact ha) _ w hc (Or.inr ⟨_, _, rfl⟩)
    obtain ⟨sat, Hsat⟩ : ∃ x, Hid (Lib.atoiSat s.data.toList = x) := ⟨_, rfl⟩
    rw [Hsat.out] at C
    have C := hid C
    clear hno e1 e2 hc ha hk
    go_enter Tryd.func55, Tryd.ntmps55
    go_wp2_with fail
    refine C.out.mono ?_
    rintro e w1 ⟨N, rfl, _, _, hB⟩
    have B := hid hB
    clear hB C
    go_wp2
    go_ret2
    exact ⟨by rw [E.out.1, E.out.2]; rfl, B.out⟩
  | ok v =>
    have hvb := Lib.atoiAll_bounds ha
    have HV : Hid (rdOk l most → v = (valD l : Int) ∧ (valD l : Int) ≤ most ∧ Lib.decDigits (valD l) = l) := by
      refine hid fun h => ?_
      have := RA.out h
      rw [ha] at this
      injection this with this
      exact ⟨this, h.2, canon_dec _ l rfl h.1⟩
    have C := hid (Tryd.strconv_Atoi_ok s (by omega) v (by rw [Hl.out]; exact ha) w)
    clear ha hk
    go_enter Tryd.func55, Tryd.ntmps55
    go_wp2_with fail
    refine C.out.mono ?_
    rintro e w1 ⟨rfl, hw⟩
    have B : Hid (Below w.heap.size w w1) := by
      rcases hw with rfl | ⟨t, rfl⟩
      · exact Below.refl _ _
      · exact below_bytesWorld w _ t
    clear hw C
    by_cases hvm : v > most
    · have E := hid (NO.out fun h => by have := HV.out h; omega)
      go_wp2
      go_ret2
      exact ⟨by rw [E.out.1, E.out.2]; rfl, B.out⟩
    · have CN := hid (number_any w1 v (by omega) (by omega) (KD0.out.below B.out))
      by_cases hv0 : v < 0
      · have E := hid (NO.out fun h => by have := HV.out h; omega)
        have e1 : nE v = 102 := by unfold nE; rw [if_pos hv0]
        rw [e1] at CN
        obtain ⟨S, HS⟩ : ∃ x, Hid (nS v = x) := ⟨_, rfl⟩
        rw [HS.out] at CN
        go_wp2_with fail
        refine CN.out.mono ?_
        rintro e w2 ⟨rfl, hB2⟩
        have B2 := hid (B.out.trans (hB2.mono B.out.size))
        clear hB2 CN
        go_wp2
        go_ret2
        exact ⟨by rw [E.out.1, E.out.2]; rfl, B2.out⟩
      · have e1 : nE v = 0 := by unfold nE; rw [if_neg hv0]
        have e2 : nS v = ⟨(Lib.decDigits v.toNat).toArray⟩ := by unfold nS; rw [if_neg hv0]
        have hq := HQ.out (Lib.decDigits v.toNat)
        rw [e1, e2] at CN
        have HD : Hid (Lib.decDigits v.toNat = l → rdV l most = v ∧ rdE l most = 0) := hid fun h => rd_dec (by omega) (by omega) h
        have HD2 : Hid (Lib.decDigits v.toNat ≠ l → rdV l most = 0 ∧ rdE l most = 102) := by
          refine hid fun h => NO.out fun hr => h ?_
          obtain ⟨q1, q2, q3⟩ := HV.out hr
          rw [← q3]
          congr 1
          omega
        obtain ⟨D, HDD⟩ : ∃ D, Hid (Lib.decDigits v.toNat = D) := ⟨_, rfl⟩
        rw [HDD.out] at hq CN HD HD2
        clear e1 e2
        go_wp2_with fail
        refine CN.out.mono ?_
        rintro e w2 ⟨rfl, hB2⟩
        have B2 := hid (B.out.trans (hB2.mono B.out.size))
        clear hB2 CN
        by_cases hd : D = l
        · have E := hid (HD.out hd)
          rw [decide_eq_true hd] at hq
          clear hd
          go_wp2
          go_ret2
          exact ⟨by rw [E.out.1, E.out.2]; rfl, B2.out⟩
        · have E := hid (HD2.out hd)
          rw [decide_eq_false hd] at hq
          clear hd
          go_wp2
          go_ret2
          exact ⟨by rw [E.out.1, E.out.2]; rfl, B2.out⟩
end Go.Proofs.YtklklldmhoofnaaDoor
namespace Go.Proofs.YtklklldmhoofnaaDoor
open Go.RowKit
theorem run_append_byte (w : World) (base : Nat) (ty : TypeId) (v : Value) (n : Nat) (xs : List Value) (hown : w.ownsRow base 5 1 v n xs) (a : Addr) (c : Nat) (x : Int) (hx : w.cell? a = some (.int .u8 x)) (hn : n + 1 ≤ 140737488355328) (hbase : base ≤ w.heap.size) :
    ∃ v' w', (Builtin.append_ #[26, 26] ty #[v, .slice (some a) 1 c]).run Tryd.prog w = .ok v' w' ∧ w'.ownsRow base 5 1 v' (n + 1) (xs ++ [.int .u8 x]) ∧ w.grownBy w' v.ownBlock ∧
      (v'.ownBlock = v.ownBlock ∨ (v'.ownBlock = some w.heap.size ∧ w.grownBy w' none)) := by
  obtain ⟨i0, hi, hz0, hz1, hz2⟩ := info_parts info_u8
  have hnews : ∀ j u, [Value.int .u8 x][j]? = some u → w.cell? (a.add j) = some u := by
    intro j u hj
    match j, hj with
    | 0, hj => simp at hj; subst hj; simpa [Addr.add] using hx
  have h1 : ∀ u ∈ [Value.int .u8 x], u.oneCell' = true := by intro u hu; simp at hu; subst hu; rfl
  obtain ⟨v', w', hr, h2, h3, _⟩ := run_append_own (P := Tryd.prog) w base 26 ty 5 i0 (.int .u8 0) 1 1 Tryd.underlying26 hi hz0 hz1 hz2 rfl (by decide) v n xs hown a 1 c [.int .u8 x] rfl hnews h1 (by unfold maxLen; omega) (by omega) hbase
  refine ⟨v', w', hr, h2, h3, ?_⟩
  rcases hown.2 with ⟨rfl, rfl⟩ | ⟨g, cap, cur, rfl, hbg, hg, hnc, hcm, hcs, htake⟩
  · have hr2 := run_append_nil (P := Tryd.prog) w 26 ty 5 i0 (.int .u8 0) Tryd.underlying26 hi hz0 a 1 c [.int .u8 x] (by rw [hz1]; rfl) hnews (by omega) (by omega) (by rw [hz2]; omega)
    rw [hr] at hr2
    simp only [Result.ok.injEq] at hr2
    obtain ⟨rfl, rfl⟩ := hr2
    exact .inr ⟨rfl, ⟨rfl, rfl, rfl, by simp, fun k hk _ => heap_alloc_old w.drew _ hk⟩⟩
  · by_cases hroom : n + 1 ≤ cap
    · obtain ⟨w2, hr2, _⟩ := run_append_fits (P := Tryd.prog) w base 26 ty 5 i0 1 Tryd.underlying26 hi hz1 g n cap xs hown a 1 c [.int .u8 x] rfl hnews h1 hroom
      rw [hr] at hr2
      simp only [Result.ok.injEq] at hr2
      obtain ⟨rfl, rfl⟩ := hr2
      exact .inl rfl
    · have hr2 := run_append_grow (P := Tryd.prog) w 26 ty 5 i0 (.int .u8 0) Tryd.underlying26 hi hz0 ⟨g, 0, none⟩ n cap xs (by rw [hz1]; exact hown.1) (hown.cells (g := g) rfl) a 1 c [.int .u8 x] (by rw [hz1]; rfl) hnews (by omega) (by omega) (growslice_fits (by omega) (by rw [hz2]; omega))
      rw [hr] at hr2
      simp only [Result.ok.injEq] at hr2
      obtain ⟨rfl, rfl⟩ := hr2
      exact .inr ⟨rfl, ⟨rfl, rfl, rfl, by simp, fun k hk _ => heap_alloc_old w.drew _ hk⟩⟩
theorem wpList_append_byte {w : World} {ops : Array Oper} {rest : List Oper} {o : Oper} {a : Act} {Q : Exit → Act → World → Prop} (hgd : o.guard = none) (s x : Operand)
    (ho : o.op = .call { callee := .builtin .append, args := #[s, x], argTypes := #[26, 26] })
    (base : Nat) (v : Value) (n : Nat) (xs : List Value) (hs : a.eval s = v) (hown : w.ownsRow base 5 1 v n xs)
    (ad : Addr) (c : Nat) (y : Int) (hx : a.eval x = .slice (some ad) 1 c) (hy : w.cell? ad = some (.int .u8 y)) (hn : n + 1 ≤ 140737488355328) (hbase : base ≤ w.heap.size)
    (h : ∀ v' w', w'.ownsRow base 5 1 v' (n + 1) (xs ++ [.int .u8 y]) → w.grownBy w' v.ownBlock → (v'.ownBlock = v.ownBlock ∨ (v'.ownBlock = some w.heap.size ∧ w.grownBy w' none)) → wpList Tryd.prog ops Q rest (a.put o.dst v') w') : wpList Tryd.prog ops Q (o :: rest) a w := by
  refine wpList_plain hgd fun K hK => ?_
  obtain ⟨v', w', hr, h2, h3, h4⟩ := run_append_byte w base o.type v n xs hown ad c y hy hn hbase
  unfold Oper.wp execOp
  simp only [ho, resolve, invoke, builtin, Sem.run_bind, Sem.run_pure, Result.andThen_ok, List.map_toArray, List.map_cons, List.map_nil, hs, hx, hr]
  exact hK _ _ (h v' w' h2 h3 h4)
end Go.Proofs.YtklklldmhoofnaaDoor
namespace Go.Proofs.YtklklldmhoofnaaDoor
open Go Go.RowKit
theorem HB.grownD {w w' : World} {v : Value} {l : List Int} {ob : Option Nat} (h : HB w v l) (hg : w.grownBy w' ob) (hne : ∀ b o n c, v = .slice (some ⟨b, o, none⟩) n c → 0 < l.length → ob ≠ some b) : HB w' v l := by
  obtain ⟨⟨p, c, h1, h2, h3, h6, h4⟩, h5⟩ := h
  refine ⟨⟨p, c, h1, h2, h3, h6, fun hl => ?_⟩, h5⟩
  obtain ⟨b, off, e, hh⟩ := h4 hl
  exact ⟨b, off, e, fun j hj => hg.cell (hh j hj) (by intro q; subst e; exact hne _ _ _ _ h1 (List.length_pos_iff.2 hl) q.symm)⟩
theorem HB.lt {w : World} {v : Value} {l : List Int} (h : HB w v l) (h0 : 0 < l.length) {b o n c : Nat} (hv : v = .slice (some ⟨b, o, none⟩) n c) : b < w.heap.size := by
  obtain ⟨b', off, c', e, _, _, hc⟩ := h.ne h0
  rw [e] at hv
  injection hv with e1 e2 e3
  injection e1 with e1
  injection e1 with e1 e4
  subst e1
  exact World.block_lt_of_cell? w _ (hc 0 h0)
theorem strCells_nS (n : Nat) : Lib.strCells (nS (n : Int)) = (dgL n).map (Value.int .u8) := by
  unfold nS Lib.strCells dgL
  rw [if_neg (by omega), List.map_map]
  rfl
theorem nS_size (n : Nat) : (nS (n : Int)).size = (dgL n).length := by
  rw [← Lib.strCells_length, strCells_nS, List.length_map]
theorem dec_len_small : ∀ (n : Nat), n ≤ 99999 → (dgL n).length ≤ 5 := by
  intro n hn
  have := dec_len_mono 99999 n hn
  rw [dgL_length]
  have h2 : (Lib.decDigits 99999).length = 5 := by decide +kernel
  omega
theorem run_append_text (w : World) (base : Nat) (ty : TypeId) (v : Value) (n : Nat) (xs : List Value) (hown : w.ownsRow base 5 1 v n xs) (s : ByteArray) (h0 : 0 < s.size) (hn : n + s.size ≤ 140737488355328) (hbase : base ≤ w.heap.size) :
    ∃ v' w', (Builtin.append_ #[26, 9] ty #[v, .string s]).run Tryd.prog w = .ok v' w' ∧ w'.ownsRow base 5 1 v' (n + s.size) (xs ++ Lib.strCells s) ∧ w.grownBy w' v.ownBlock ∧
      (v'.ownBlock = v.ownBlock ∨ v'.ownBlock = some w.heap.size) := by
  obtain ⟨i0, hi, hz0, hz1, hz2⟩ := info_parts info_u8
  obtain ⟨v', w', hr, h2, h3, _⟩ := Lib.run_append_own_string (P := Tryd.prog) w base 26 9 ty 5 i0 Tryd.underlying26 Tryd.underlying9 hi hz0 hz1 hz2 v n xs hown s (by unfold maxLen; omega) hn hbase
  refine ⟨v', w', hr, h2, h3, ?_⟩
  rcases hown.2 with ⟨rfl, rfl⟩ | ⟨g, cap, cur, rfl, hbg, hg, hnc, hcm, hcs, htake⟩
  · have hr2 := run_append_nil_string (P := Tryd.prog) w 26 9 ty 5 i0 (.int .u8 0) Tryd.underlying26 Tryd.underlying9 hi hz0 s h0 (by omega) (by rw [hz2]; omega)
    rw [hr] at hr2
    simp only [Result.ok.injEq] at hr2
    obtain ⟨rfl, rfl⟩ := hr2
    exact .inr rfl
  · by_cases hroom : n + s.size ≤ cap
    · have hr2 := Lib.run_append_room_string (P := Tryd.prog) w 26 9 ty 5 i0 Tryd.underlying26 Tryd.underlying9 hi hz1 g n cap cur hg s hroom (by omega)
      rw [hr] at hr2
      simp only [Result.ok.injEq] at hr2
      obtain ⟨rfl, rfl⟩ := hr2
      exact .inl rfl
    · have hr2 := Lib.run_append_grow_string (P := Tryd.prog) w 26 9 ty 5 i0 (.int .u8 0) Tryd.underlying26 Tryd.underlying9 hi hz0 ⟨g, 0, none⟩ n cap xs (by rw [hz1]; exact hown.1) (hown.cells (g := g) rfl) s (by omega) (by omega) (growslice_fits (by omega) (by rw [hz2]; omega))
      rw [hr] at hr2
      simp only [Result.ok.injEq] at hr2
      obtain ⟨rfl, rfl⟩ := hr2
      exact .inr rfl
theorem wpList_append_text {w : World} {ops : Array Oper} {rest : List Oper} {o : Oper} {a : Act} {Q : Exit → Act → World → Prop} (hgd : o.guard = none) (s x : Operand)
    (ho : o.op = .call { callee := .builtin .append, args := #[s, x], argTypes := #[26, 9] })
    (base : Nat) (v : Value) (n : Nat) (xs : List Value) (hs : a.eval s = v) (hown : w.ownsRow base 5 1 v n xs)
    (t : ByteArray) (hx : a.eval x = .string t) (h0 : 0 < t.size) (hn : n + t.size ≤ 140737488355328) (hbase : base ≤ w.heap.size)
    (h : ∀ v' w', w'.ownsRow base 5 1 v' (n + t.size) (xs ++ Lib.strCells t) → w.grownBy w' v.ownBlock → (v'.ownBlock = v.ownBlock ∨ v'.ownBlock = some w.heap.size) → wpList Tryd.prog ops Q rest (a.put o.dst v') w') : wpList Tryd.prog ops Q (o :: rest) a w := by
  refine wpList_plain hgd fun K hK => ?_
  obtain ⟨v', w', hr, h2, h3, h4⟩ := run_append_text w base o.type v n xs hown t h0 hn hbase
  unfold Oper.wp execOp
  simp only [ho, resolve, invoke, builtin, Sem.run_bind, Sem.run_pure, Result.andThen_ok, List.map_toArray, List.map_cons, List.map_nil, hs, hx, hr]
  exact hK _ _ (h v' w' h2 h3 h4)
theorem run_append_bytesD (w : World) (base : Nat) (ty : TypeId) (v : Value) (n : Nat) (xs : List Value) (hown : w.ownsRow base 5 1 v n xs) (ad : Addr) (c : Nat) (l : List Int) (hnews : ∀ j u, (l.map (Value.int .u8))[j]? = some u → w.cell? (ad.add j) = some u) (hn : n + l.length ≤ 140737488355328) (hbase : base ≤ w.heap.size) :
    ∃ v' w', (Builtin.append_ #[26, 26] ty #[v, .slice (some ad) l.length c]).run Tryd.prog w = .ok v' w' ∧ w'.ownsRow base 5 1 v' (n + l.length) (xs ++ l.map (Value.int .u8)) ∧ w.grownBy w' v.ownBlock ∧
      (v'.ownBlock = v.ownBlock ∨ v'.ownBlock = some w.heap.size) := by
  obtain ⟨i0, hi, hz0, hz1, hz2⟩ := info_parts info_u8
  have h1 : ∀ u ∈ l.map (Value.int .u8), u.oneCell' = true := by intro u hu; obtain ⟨x, _, rfl⟩ := List.mem_map.1 hu; rfl
  have hl : (l.map (Value.int .u8)).length = l.length * 1 := by simp
  obtain ⟨v', w', hr, h2, h3, h4⟩ := run_append_own (P := Tryd.prog) w base 26 ty 5 i0 (.int .u8 0) 1 1 Tryd.underlying26 hi hz0 hz1 hz2 rfl (by decide) v n xs hown ad l.length c (l.map (Value.int .u8)) hl hnews h1 (by unfold maxLen; omega) (by omega) hbase
  refine ⟨v', w', hr, h2, h3, ?_⟩
  rcases hown.2 with ⟨rfl, rfl⟩ | ⟨g, cap, cur, rfl, hbg, hg, hnc, hcm, hcs, htake⟩
  · by_cases h0 : 0 < l.length
    · have hr2 := run_append_nil (P := Tryd.prog) w 26 ty 5 i0 (.int .u8 0) Tryd.underlying26 hi hz0 ad l.length c (l.map (Value.int .u8)) (by rw [hz1]; exact hl) hnews (by omega) (by omega) (by rw [hz2]; omega)
      rw [hr] at hr2
      simp only [Result.ok.injEq] at hr2
      obtain ⟨rfl, rfl⟩ := hr2
      exact .inr rfl
    · have := h4.2 ⟨rfl, by omega⟩
      rw [this]
      exact .inl rfl
  · by_cases hroom : n + l.length ≤ cap
    · obtain ⟨w2, hr2, _⟩ := run_append_fits (P := Tryd.prog) w base 26 ty 5 i0 1 Tryd.underlying26 hi hz1 g n cap xs hown ad l.length c (l.map (Value.int .u8)) hl hnews h1 hroom
      rw [hr] at hr2
      simp only [Result.ok.injEq] at hr2
      obtain ⟨rfl, rfl⟩ := hr2
      exact .inl rfl
    · have hr2 := run_append_grow (P := Tryd.prog) w 26 ty 5 i0 (.int .u8 0) Tryd.underlying26 hi hz0 ⟨g, 0, none⟩ n cap xs (by rw [hz1]; exact hown.1) (hown.cells (g := g) rfl) ad l.length c (l.map (Value.int .u8)) (by rw [hz1]; exact hl) hnews (by omega) (by omega) (growslice_fits (by omega) (by rw [hz2]; omega))
      rw [hr] at hr2
      simp only [Result.ok.injEq] at hr2
      obtain ⟨rfl, rfl⟩ := hr2
      exact .inr rfl
theorem wpList_append_bytes {w : World} {ops : Array Oper} {rest : List Oper} {o : Oper} {a : Act} {Q : Exit → Act → World → Prop} (hgd : o.guard = none) (s x : Operand)
    (ho : o.op = .call { callee := .builtin .append, args := #[s, x], argTypes := #[26, 26] })
    (base : Nat) (v : Value) (n : Nat) (xs : List Value) (hs : a.eval s = v) (hown : w.ownsRow base 5 1 v n xs)
    (u : Value) (l : List Int) (hx : a.eval x = u) (hu : HB w u l) (hn : n + l.length ≤ 140737488355328) (hbase : base ≤ w.heap.size)
    (h : ∀ v' w', w'.ownsRow base 5 1 v' (n + l.length) (xs ++ l.map (Value.int .u8)) → w.grownBy w' v.ownBlock → (v'.ownBlock = v.ownBlock ∨ v'.ownBlock = some w.heap.size) → wpList Tryd.prog ops Q rest (a.put o.dst v') w') : wpList Tryd.prog ops Q (o :: rest) a w := by
  obtain ⟨i0, hi, hz0, hz1, hz2⟩ := info_parts info_u8
  obtain ⟨⟨p, c, rfl, hlc, hm, hpn, hcell⟩, hby⟩ := hu
  cases p with
  | none =>
    have e : l = [] := by
      apply Classical.byContradiction
      intro hne
      obtain ⟨b, off, e, _⟩ := hcell hne
      cases e
    subst e
    have hc0 := hpn rfl
    subst hc0
    exact wpList_append_own_none hgd s x 26 ho base 5 i0 1 Tryd.underlying26 hi v n xs hs hown hx (h v w (by simpa using hown) ⟨rfl, rfl, rfl, Nat.le_refl _, fun _ _ _ => rfl⟩ (.inl rfl))
  | some ad =>
    have hnews : ∀ j u, (l.map (Value.int .u8))[j]? = some u → w.cell? (ad.add j) = some u := by
      intro j q hj
      have hjn : j < l.length := by
        have := (List.getElem?_eq_some_iff.1 hj).1
        simpa using this
      obtain ⟨b, off, e, hc⟩ := hcell (fun e => by rw [e] at hjn; simp at hjn)
      have e := Option.some.inj e
      have e2 : (l.map (Value.int .u8))[j]? = some (Value.int .u8 (l.getD j 0)) := by simp [List.getD, List.getElem?_eq_getElem hjn]
      rw [e2] at hj
      rw [e, Go.WideShapes.add_plain, hc j hjn]
      exact hj
    refine wpList_plain hgd fun K hK => ?_
    obtain ⟨v', w', hr, h2, h3, h4⟩ := run_append_bytesD w base o.type v n xs hown ad c l hnews hn hbase
    unfold Oper.wp execOp
    simp only [ho, resolve, invoke, builtin, Sem.run_bind, Sem.run_pure, Result.andThen_ok, List.map_toArray, List.map_cons, List.map_nil, hs, hx, hr]
    exact hK _ _ (h v' w' h2 h3 h4)
theorem grown_trU {w w1 w2 : World} {ob ob1 : Option Nat} (h1 : w.grownBy w1 ob) (h2 : w1.grownBy w2 ob1) (ho : ∀ k, ob1 = some k → k < w.heap.size → ob = some k) : w.grownBy w2 ob :=
  ⟨h2.os.trans h1.os, h2.tape.trans h1.tape, h2.output.trans h1.output, Nat.le_trans h1.size h2.size, fun k hk hn => (h2.block k (Nat.lt_of_lt_of_le hk h1.size) (fun e => hn (ho k e.symm hk).symm)).trans (h1.block k hk hn)⟩
theorem bel_grown {w w' : World} (h : Below w.heap.size w w') (ob : Option Nat) : w.grownBy w' ob := ⟨h.os, h.tape, h.output, h.size, fun k hk _ => h.block k hk⟩
set_option maxRecDepth 100000 in
set_option maxHeartbeats 2000000 in
theorem appendField_any (w : World) (base : Nat) (vo vf : Value) (lo lf : List Int) (hown : w.ownsRow base 5 1 vo lo.length (lo.map (Value.int .u8))) (hf : HB w vf lf) (hap : ∀ b o n c, vf = .slice (some ⟨b, o, none⟩) n c → 0 < lf.length → vo.ownBlock ≠ some b) (hlf : lf.length ≤ 65536) (hlo : lo.length ≤ 100000000) (hbase : base ≤ w.heap.size) (hk : KP w) :
    Calls Tryd.prog 35 #[vo, vf] w fun e w' => ∃ v', e = .returned v' ∧ w'.ownsRow base 5 1 v' (lo ++ fld lf).length ((lo ++ fld lf).map (Value.int .u8)) ∧ Below base w w' ∧ w.grownBy w' vo.ownBlock := by
  have C := hid (number_tab w lf.length (by omega) (by omega) hk)
  have e2 : nE (lf.length : Int) = 0 := by unfold nE; rw [if_neg (by omega)]
  have hsz := nS_size lf.length
  have hsc := strCells_nS lf.length
  have hd5 := dec_len_small lf.length (by omega)
  have hdp := dgL_pos lf.length
  obtain ⟨D, HD⟩ : ∃ D, Hid (nS (lf.length : Int) = D) := ⟨_, rfl⟩
  obtain ⟨dl, HDL⟩ : ∃ dl, Hid (dgL lf.length = dl) := ⟨_, rfl⟩
  rw [HD.out, e2] at C
  rw [HD.out, HDL.out] at hsz hsc
  rw [HDL.out] at hd5 hdp
  have HF := hid hf
  have HO := hid hown
  have HAP := hid hap
  have HSC := hid hsc
  have HSZ := hid hsz
  obtain ⟨p, c, rfl, hlc, hcm⟩ := hf.open
  clear hf hown hap e2 hsc hsz
  go_enter Tryd.func35, Tryd.ntmps35
  go_wp2_with fail
  refine C.out.mono ?_
  rintro e w1 ⟨rfl, hb1⟩
  have B1 := hid hb1
  have hs1 := hb1.size
  have HO1 := hid (own_below HO.out hb1)
  have HF1 := hid (HF.out.below hb1)
  clear hb1 C
  go_wp2_with (at_builtin; refine wpList_append_text rfl _ _ rfl base _ lo.length _ rfl HO1.out D rfl ?q1 ?q2 ?q3 ?_)
  case q1 => have := HSZ.out; omega
  case q2 => have := HSZ.out; omega
  case q3 => omega
  intro v2 w2 hown2 hg2 hp2
  obtain ⟨l2, Hl2⟩ : ∃ l2, Hid (lo ++ dl = l2) := ⟨_, rfl⟩
  have hlen2 : l2.length = lo.length + dl.length := by rw [← Hl2.out]; exact List.length_append
  have HO2 : Hid (w2.ownsRow base 5 1 v2 l2.length (l2.map (Value.int .u8))) := by
    refine hid ?_
    rw [HSC.out, HSZ.out, ← List.map_append, Hl2.out, ← hlen2] at hown2
    exact hown2
  have B2 := hid (((B1.out.mono hbase).grown hg2 (by omega) (fun k e => (HO1.out.lt k e).1)))
  have HAP2 : Hid (∀ b o n c', Value.slice p lf.length c = .slice (some ⟨b, o, none⟩) n c' → 0 < lf.length → v2.ownBlock ≠ some b) := by
    refine hid fun b o n c' hv h0 he => ?_
    rcases hp2 with q | q
    · exact HAP.out b o n c' hv h0 (by rw [← q]; exact he)
    · rw [q] at he
      have := HF1.out.lt h0 hv
      injection he with he
      omega
  have HF2 := hid (HF1.out.grownD hg2 HAP.out)
  have hs2 : w1.heap.size ≤ w2.heap.size := hg2.size
  have H2 := hid hp2
  have HG2 := hid hg2
  have HS2 := hid hlen2
  clear hown2 hp2 hg2 hlen2
  go_wp2_with (at_builtin; refine wpList_append_byte rfl _ _ rfl base _ l2.length _ rfl (HO2.out.alloc _) ⟨w2.heap.size, 0, none⟩ 1 58 rfl (by simp) ?q1 ?q2 ?_)
  case q1 => have := HS2.out; omega
  case q2 => simp; omega
  intro v3 w3 hown3 hg3 hp3
  obtain ⟨l3, Hl3⟩ : ∃ l3 : List Int, Hid (l2 ++ [58] = l3) := ⟨l2 ++ [58], hid rfl⟩
  have hlen3 : l3.length = l2.length + 1 := by rw [← Hl3.out]; simp
  have HO3 : Hid (w3.ownsRow base 5 1 v3 l3.length (l3.map (Value.int .u8))) := by
    refine hid ?_
    rw [hlen3, ← Hl3.out, List.map_append]
    exact hown3
  have HF3 := hid ((HF2.out.below ((Below.refl _ w2).alloc (Nat.le_refl _) _)).grownD hg3 HAP2.out)
  have B3 := hid ((B2.out.alloc (by omega) _).grown hg3 (by simp; omega) (fun k e => (HO2.out.lt k e).1))
  have G3 : Hid (w.grownBy w3 vo.ownBlock) := by
    refine hid ?_
    have g1 := grown_trU (bel_grown B1.out vo.ownBlock) HG2.out (fun k e _ => e)
    refine grown_trU (grown_trU g1 (bel_grown ((Below.refl w2.heap.size w2).alloc (Nat.le_refl _) _) none) (fun k e _ => by cases e)) hg3 (fun k e hk => ?_)
    rcases H2.out with q | q
    · rw [← q]; exact e
    · rw [q] at e; injection e with e; omega
  have hs3 : w2.heap.size ≤ w3.heap.size := by have := hg3.size; simp at this; omega
  have HP3 : Hid (∀ k, v3.ownBlock = some k → k < w.heap.size → vo.ownBlock = some k) := by
    refine hid fun k e hk => ?_
    rcases hp3 with q | ⟨q, _⟩
    · rw [q] at e
      rcases H2.out with q2 | q2
      · rw [← q2]; exact e
      · rw [q2] at e; injection e with e; omega
    · rw [q] at e; injection e with e; omega
  have HS3 := hid hlen3
  clear hown3 hg3 hp3 HF2 HO2 hlen3 HAP2
  go_wp2_with (at_builtin; refine wpList_append_bytes rfl _ _ rfl base _ l3.length _ rfl HO3.out _ lf rfl HF3.out ?q1 ?q2 ?_)
  case q1 => have := HS2.out; have := HS3.out; omega
  case q2 => omega
  intro v4 w4 hown4 hg4 hp4
  obtain ⟨l4, Hl4⟩ : ∃ l4 : List Int, Hid (l3 ++ lf = l4) := ⟨l3 ++ lf, hid rfl⟩
  have hlen4 : l4.length = l3.length + lf.length := by rw [← Hl4.out]; simp
  have HO4 : Hid (w4.ownsRow base 5 1 v4 l4.length (l4.map (Value.int .u8))) := by
    refine hid ?_
    rw [hlen4, ← Hl4.out, List.map_append]
    exact hown4
  have B4 := hid (B3.out.grown hg4 (by omega) (fun k e => (HO3.out.lt k e).1))
  have hs4 : w3.heap.size ≤ w4.heap.size := hg4.size
  have G4 := hid (grown_trU G3.out hg4 HP3.out)
  have HP4 : Hid (∀ k, v4.ownBlock = some k → k < w.heap.size → vo.ownBlock = some k) := by
    refine hid fun k e hk => ?_
    rcases hp4 with q | q
    · exact HP3.out k (by rw [← q]; exact e) hk
    · rw [q] at e; injection e with e; omega
  have HS4 := hid hlen4
  clear hown4 hg4 hp4 HO3 hlen4 HF3
  go_wp2_with (at_builtin; refine wpList_append_byte rfl _ _ rfl base _ l4.length _ rfl (HO4.out.alloc _) ⟨w4.heap.size, 0, none⟩ 1 44 rfl (by simp) ?q1 ?q2 ?_)
  case q1 => have := HS2.out; have := HS3.out; have := HS4.out; omega
  case q2 => simp; omega
  intro v5 w5 hown5 hg5 hp5
  have B5 := hid ((B4.out.alloc (by omega) _).grown hg5 (by simp; omega) (fun k e => (HO4.out.lt k e).1))
  have G5 := hid (grown_trU (grown_trU G4.out (bel_grown ((Below.refl w4.heap.size w4).alloc (Nat.le_refl _) _) none) (fun k e _ => by cases e)) hg5 HP4.out)
  have HE : Hid (lo ++ fld lf = l4 ++ [44]) := by
    refine hid ?_
    rw [← Hl4.out, ← Hl3.out, ← Hl2.out, ← HDL.out]
    unfold fld
    simp
  have HO5 : Hid (w5.ownsRow base 5 1 v5 (lo ++ fld lf).length ((lo ++ fld lf).map (Value.int .u8))) := by
    refine hid ?_
    rw [HE.out, List.length_append, List.map_append]
    exact hown5
  clear hown5 hg5 hp5
  go_wp2
  go_ret
  exact ⟨_, rfl, HO5.out, B5.out, G5.out⟩
end Go.Proofs.YtklklldmhoofnaaDoor
namespace Go.Proofs
open Go.Shelf
def Tryd.lays187_ren : Go.Shelf.Ren := ⟨fun | 187 => 54 | 255 => 72 | n => n, fun | 37 => 26 | 5 => 5 | 3 => 3 | n => n, fun | n => n⟩
theorem Tryd.lays187 : Go.Proofs.Lays.n187 Tryd.prog Tryd.lays187_ren := {
  mixed := by kernel_rfl
  f187 := Tryd.func54.trans (congrArg some (by kernel_rfl))
  f255 := Tryd.func72.trans (congrArg some (by kernel_rfl))
  t3 := Tryd.underlying3
  a3 := Tryd.isAgg3
  z3 := Tryd.sizeOf3
  v3 := Tryd.zeroValue3
  t5 := Tryd.underlying5
  a5 := Tryd.isAgg5
  z5 := Tryd.sizeOf5
  v5 := Tryd.zeroValue5
  t37 := Tryd.underlying26
  a37 := Tryd.isAgg26
  z37 := Tryd.sizeOf26
  v37 := Tryd.zeroValue26 }
theorem Tryd.bytes_IndexByte (b o n c : Nat) (xs : List Int) (cv : Int) (w : World) (hx : xs.length = n) (hc : ∀ i, i < n → w.cell? ⟨b, o + i, none⟩ = some (.int .u8 (xs.getD i 0))) :
    Calls Tryd.prog 54 #[.slice (some ⟨b, o, none⟩) n c, .int .u8 cv] w fun e w' => e = .returned (.int .i64 (Lib.indexByte (Lib.bytesOf xs) cv.toNat.toUInt8)) ∧ w' = w := Any.bytes_IndexByte Tryd.lays187 b o n c xs cv w hx hc
end Go.Proofs
namespace Go.Proofs.YtklklldmhoofnaaDoor
open Go.RowKit
theorem grown_set (w : World) (g o : Nat) (u : Value) : w.grownBy (w.setCell ⟨g, o, none⟩ u) (some g) :=
  ⟨rfl, rfl, rfl, by simp, fun k _ hk => heap_setCell_other w ⟨g, o, none⟩ k u (fun e => hk (by simp [e]))⟩
theorem grown_trans {a b c : World} {r : Option Nat} (h : a.grownBy b r) (k : b.grownBy c r) : a.grownBy c r :=
  ⟨k.os.trans h.os, k.tape.trans h.tape, k.output.trans h.output, Nat.le_trans h.size k.size, fun i hi hr => (k.block i (Nat.lt_of_lt_of_le hi h.size) hr).trans (h.block i hi hr)⟩
theorem grown_below {a b : World} {r : Option Nat} (h : Below a.heap.size a b) : a.grownBy b r :=
  ⟨h.os, h.tape, h.output, h.size, fun i hi _ => h.block i hi⟩
theorem HB.sliced {w : World} {p : Option Addr} {c : Nat} {l : List Int} (h : HB w (.slice p l.length c) l) (lo hi m : Nat) (h1 : lo ≤ hi) (h2 : hi ≤ l.length) (h3 : hi ≤ m) (h4 : m ≤ c) : HB w (.slice (if m = lo then p else p.map (·.add lo)) (hi - lo) (m - lo)) ((l.take hi).drop lo) := by
  obtain ⟨⟨p', c', e, hc, hm, hpc, hcell⟩, hby⟩ := h
  simp only [Value.slice.injEq, true_and] at e
  obtain ⟨rfl, rfl⟩ := e
  have hlen : ((l.take hi).drop lo).length = hi - lo := by simp; omega
  refine ⟨⟨_, m - lo, by rw [hlen], by omega, by omega, fun e => ?_, fun hne => ?_⟩, fun x hx => hby x (List.mem_of_mem_take (List.mem_of_mem_drop hx))⟩
  · have : p = none := by
      split at e
      · exact e
      · cases p <;> simp_all
    have := hpc this
    omega
  have hlt : lo < hi := by
    apply Classical.byContradiction
    intro hn
    exact hne (List.length_eq_zero_iff.1 (by omega))
  obtain ⟨b, off, rfl, hk⟩ := hcell (by intro e; subst e; simp at h2; omega)
  rw [if_neg (by omega)]
  refine ⟨b, off + lo, by simp [Go.WideShapes.add_plain], fun j hj => ?_⟩
  rw [hlen] at hj
  have := hk (lo + j) (by omega)
  rw [show off + lo + j = off + (lo + j) by omega, this]
  have e1 : ((l.take hi).drop lo).getD j 0 = l.getD (lo + j) 0 := by
    simp only [List.getD, List.getElem?_drop, List.getElem?_take]
    rw [if_pos (by omega)]
  rw [e1]
theorem HB.pre {w : World} {p : Option Addr} {c : Nat} {l : List Int} (h : HB w (.slice p l.length c) l) (n : Nat) (hn : n ≤ l.length) : HB w (.slice p n n) (l.take n) := by
  obtain ⟨p', c', e, hc, _⟩ := h.open
  simp only [Value.slice.injEq, true_and] at e
  obtain ⟨rfl, rfl⟩ := e
  have := h.sliced 0 n n (Nat.zero_le _) hn (Nat.le_refl _) (by omega)
  have e : (if n = 0 then p else p.map (·.add 0)) = p := by
    split
    · rfl
    · cases p <;> simp [Addr.add]
  simpa [e] using this
theorem HB.suf {w : World} {p : Option Addr} {c : Nat} {l : List Int} (h : HB w (.slice p l.length c) l) (n : Nat) (hn : n ≤ l.length) : HB w (.slice (if c = n then p else p.map (·.add n)) (l.length - n) (c - n)) (l.drop n) := by
  obtain ⟨p', c', e, hc, _⟩ := h.open
  simp only [Value.slice.injEq, true_and] at e
  obtain ⟨rfl, rfl⟩ := e
  have := h.sliced n l.length c hn (Nat.le_refl _) hc (Nat.le_refl _)
  rwa [List.take_of_length_le (Nat.le_refl _)] at this
theorem HB.slice_form {w : World} {v : Value} {l : List Int} (h : HB w v l) : ∃ p c, v = .slice p l.length c := by
  obtain ⟨p, c, e, _⟩ := h.open
  exact ⟨p, c, e⟩
end Go.Proofs.YtklklldmhoofnaaDoor
namespace Go.Proofs.YtklklldmhoofnaaDoor
open Go Go.RowKit
def CfQ (l : List Int) (most : Nat) (w' : World) (vf : Value) (n : Int) (is : Bool) : Prop :=
  (is = true ∧ ∃ f x, l = fld f ++ x ∧ f.length ≤ most ∧ n = (fld f).length ∧ HB w' vf f) ∨ (is = false ∧ ∀ f x, f.length ≤ most → l ≠ fld f ++ x)
theorem bS_bytes (l : List Int) : (bS l).data.toList = Lib.bytesOf l := by unfold bS Lib.bytesOf; simp
theorem getD_app_right {a b : List Int} (j : Nat) : (a ++ b).getD (a.length + j) 0 = b.getD j 0 := by
  simp [List.getD, List.getElem?_append_right (Nat.le_add_right _ _)]
theorem HB.preC {w : World} {a : Addr} {c : Nat} {l : List Int} (h : HB w (.slice (some a) l.length c) l) (n : Nat) (hn : n ≤ l.length) : HB w (.slice (some a) n c) (l.take n) := by
  obtain ⟨⟨p, c', h1, h2, h3, h6, h4⟩, h5⟩ := h
  injection h1 with e1 e2 e3
  subst e1 e3
  have hl : (l.take n).length = n := by rw [List.length_take]; omega
  refine ⟨⟨some a, c, by rw [hl], by rw [hl]; omega, h3, h6, fun hne => ?_⟩, fun x hx => h5 x (List.mem_of_mem_take hx)⟩
  obtain ⟨b, off, e, hc⟩ := h4 (fun e => hne (by rw [e]; simp))
  refine ⟨b, off, e, fun j hj => ?_⟩
  rw [hl] at hj
  rw [hc j (by omega)]
  simp [List.getD, List.getElem?_take, hj]
set_option maxRecDepth 100000 in
set_option maxHeartbeats 4000000 in
theorem cutField_any (w0 w : World) (hB0 : Below w0.heap.size w0 w) (b off c : Nat) (l : List Int) (most : Nat) (h0 : HB w0 (.slice (some ⟨b, off, none⟩) l.length c) l) (hm : most ≤ 65536) (hk : KD w) :
    Calls Tryd.prog 42 #[.slice (some ⟨b, off, none⟩) l.length c, .int .i64 (most : Int)] w fun e w' => ∃ vf n is, e = .returned (.tuple #[vf, .int .i64 n, .bool is]) ∧ CfQ l most w0 vf n is ∧ Below w.heap.size w w' := by
  have h := h0.below hB0
  have C := number_any w (most : Int) (by omega) (by omega) hk
  have e2 : nE (most : Int) = 0 := by unfold nE; rw [if_neg (by omega)]
  have hsz := nS_size most
  have hd5 := dec_len_small most (by omega)
  obtain ⟨G, HG⟩ : ∃ D, Hid (nS (most : Int) = D) := ⟨_, rfl⟩
  obtain ⟨D, HD⟩ : ∃ D, Hid ((dgL most).length = D) := ⟨_, rfl⟩
  rw [HG.out, e2] at C
  rw [HG.out, HD.out] at hsz
  rw [HD.out] at hd5
  have C := hid C
  have hbyt : Byt8 l := h.2
  have hlc : l.length ≤ c ∧ c ≤ maxLen := by
    obtain ⟨p, c', e, h1, h2⟩ := h.open
    injection e with e1 e2 e3
    subst e3
    exact ⟨h1, h2⟩
  have hm63 : l.length ≤ 9223372036854775807 := by have := hlc.2; unfold maxLen at this; omega
  have hcells : ∀ j, j < l.length → w.cell? ⟨b, off + j, none⟩ = some (.int .u8 (l.getD j 0)) := by
    intro j hj
    obtain ⟨b', o', c', e, _, _, hc⟩ := h.ne (by omega)
    injection e with e1 e2 e3
    injection e1 with e1
    injection e1 with e1 e4
    subst e1 e4
    exact hc j hj
  have hcells0 : ∀ j, j < l.length → w0.cell? ⟨b, off + j, none⟩ = some (.int .u8 (l.getD j 0)) := by
    intro j hj
    obtain ⟨b', o', c', e, _, _, hc⟩ := h0.ne (by omega)
    injection e with e1 e2 e3
    injection e1 with e1
    injection e1 with e1 e4
    subst e1 e4
    exact hc j hj
  have HC0 := hid hcells0
  have HK := hid hk
  have HH := hid h
  have HBY := hid hbyt
  have HCE := hid hcells
  obtain ⟨n, HN⟩ : ∃ n, Hid (l.length = n) := ⟨_, rfl⟩
  rw [HN.out] at hlc hm63
  rw [HN.out]
  obtain ⟨m, HM⟩ : ∃ m, Hid (min n (D + 1) = m) := ⟨_, rfl⟩
  have hmn : m ≤ n := by rw [← HM.out]; omega
  have hmin : min (n : Int) ((D : Int) + 1) = (m : Int) := by rw [← HM.out]; omega
  have HT : Hid (l.take m = l.take (D + 1)) := by
    refine hid ?_
    rw [← HM.out, ← HN.out]
    by_cases q : l.length ≤ D + 1
    · rw [Nat.min_eq_left q, List.take_of_length_le (Nat.le_refl _), List.take_of_length_le q]
    · rw [Nat.min_eq_right (by omega)]
  clear hbyt hcells h hk e2 hcells0 h0 hB0
  go_enter Tryd.func42, Tryd.ntmps42
  go_wp2_with fail
  refine C.out.mono ?_
  rintro e w1 ⟨rfl, hb1⟩
  have B1 := hid hb1
  have H1 := hid (HH.out.below hb1)
  have C2 := Tryd.bytes_IndexByte b off m c (l.take m) 58 w1 (by rw [List.length_take, HN.out]; omega) (by
    intro i hi
    rw [hb1.cell (World.block_lt_of_cell? w _ (HCE.out i (by have := HN.out; omega))), HCE.out i (by have := HN.out; omega)]
    simp [List.getD, List.getElem?_take, hi])
  have C2 := hid C2
  clear hb1 C
  go_wp2_with fail
  refine C2.out.mono ?_
  rintro e w1' ⟨rfl, hw⟩
  rw [hw]
  clear C2 hw w1'
  rcases idx58 (l.take m) (fun x hx => HBY.out x (List.mem_of_mem_take hx)) with ⟨hi, hno⟩ | ⟨pre, suf, hsp, hno, hi⟩
  · have hi2 : Lib.indexByte (Lib.bytesOf (l.take m)) (58 : Int).toNat.toUInt8 = -1 := hi
    rw [hi2]
    have HQ : Hid (∀ f x : List Int, f.length ≤ most → l ≠ fld f ++ x) := by
      refine hid fun f x hf => fld_none (most := most) ?_ f x hf
      rw [HD.out, ← HT.out]
      exact hno
    clear hi hi2 hno
    go_wp2
    go_ret3
    exact ⟨_, _, _, rfl, Or.inr ⟨rfl, HQ.out⟩, B1.out⟩
  · have hi2 : Lib.indexByte (Lib.bytesOf (l.take m)) (58 : Int).toNat.toUInt8 = (pre.length : Int) := hi
    rw [hi2]
    obtain ⟨l', hl', hpl⟩ := take_colon hsp
    have HL := hid hl'
    have hpn : pre.length + 1 ≤ n := by rw [← HN.out, hl']; simp
    have HNO := hid hno
    have hpb : Byt8 pre := fun x hx => HBY.out x (by rw [hl']; simp [hx])
    have HPB := hid hpb
    have hpre : l.take pre.length = pre := by rw [hl']; simp
    have hH2 := H1.out.preC pre.length (by rw [HN.out]; omega)
    rw [hpre] at hH2
    have qc := conv_str hH2
    have C3 := read_any w1 (bS pre) (most : Int) (by rw [bS_size]; omega) (by omega) (by omega) (HK.out.below B1.out)
    rw [bS_bytes] at C3
    have HP := hid hpre
    clear hi hi2 hno hsp hl' hpb hpre hH2
    by_cases hr : rdOk (Lib.bytesOf pre) (most : Int)
    · obtain ⟨r1, r2⟩ := rd_ok hr
      have hvle := hr.2
      have hpd := pre_dgL HPB.out hr
      obtain ⟨v, HV⟩ : ∃ v, Hid (valD (Lib.bytesOf pre) = v) := ⟨_, rfl⟩
      rw [HV.out] at r1 hvle hpd
      rw [r1, r2] at C3
      have HPD := hid hpd
      have C3 := hid C3
      clear r1 r2 hr hpd
      obtain ⟨cl, HCL⟩ : ∃ x, Hid (pre.length = x) := ⟨_, rfl⟩
      rw [HCL.out] at hpn hpl qc
      rw [HCL.out]
      go_wp2_with fail
      refine C3.out.mono ?_
      rintro e w2 ⟨rfl, hb2⟩
      have B2 := hid (B1.out.trans (hb2.mono B1.out.size))
      have H2 := hid (H1.out.below hb2)
      have HCE2 : Hid (∀ j, j < n → w2.cell? ⟨b, off + j, none⟩ = some (.int .u8 (l.getD j 0))) := by
        refine hid fun j hj => ?_
        have hj2 := HCE.out j (by have := HN.out; omega)
        rw [B2.out.cell (World.block_lt_of_cell? w _ hj2), hj2]
      clear hb2 C3
      have hlen : Hid (cl + 1 + l'.length = n) := by
        refine hid ?_
        rw [← HN.out, HL.out, ← HCL.out]
        simp
        omega
      have hg : ∀ j, l.getD (cl + 1 + j) 0 = l'.getD j 0 := by
        intro j
        rw [HL.out, ← HCL.out, show pre.length + 1 + j = pre.length + (j + 1) by omega, getD_app_right]
        rfl
      have HPL : Hid (l = dgL v ++ 58 :: l') := by
        refine hid ?_
        rw [← HPD.out]
        exact HL.out
      have HGE := hid hg
      by_cases he : cl + 1 + v < n
      · have hc := HCE2.out (cl + 1 + v) he
        rw [hg] at hc
        clear hg
        by_cases h44 : l'.getD v 0 = 44
        · rw [h44] at hc
          have HV5 : Hid (HB w0 (.slice (some ⟨b, off + (cl + 1), none⟩) (cl + 1 + v - (cl + 1)) (c - (cl + 1))) (l'.take v)) := by
            have hlv : (l'.take v).length = v := by rw [List.length_take]; have := hlen.out; omega
            refine hid ⟨⟨_, _, by rw [hlv, show cl + 1 + v - (cl + 1) = v by omega], by rw [hlv]; omega, by have := hlc.2; omega, (fun e => by cases e), fun _ => ⟨b, off + (cl + 1), rfl, fun j hj => ?_⟩⟩, fun x hx => HBY.out x (by rw [HL.out]; simp [List.mem_of_mem_take hx])⟩
            rw [hlv] at hj
            rw [show off + (cl + 1) + j = off + (cl + 1 + j) by omega, HC0.out (cl + 1 + j) (by have := HN.out; omega), HGE.out]
            simp [List.getD, List.getElem?_take, hj]
          obtain ⟨g1, g2⟩ := fld_hit HPL.out (by have := hlen.out; omega) h44
          have HQ1 := hid g1
          have HQ2 := hid g2
          have HN5 : Hid ((cl : Int) + 1 + (v : Int) + 1 = ((fld (l'.take v)).length : Nat)) := by
            refine hid ?_
            rw [fld_len, g2, ← HPD.out, HCL.out]
            omega
          clear g1 g2 h44
          go_wp2
          go_ret3
          exact ⟨_, _, _, rfl, Or.inl ⟨rfl, _, _, HQ1.out, by rw [HQ2.out]; omega, HN5.out, HV5.out⟩, B2.out⟩
        · have HQ := hid (fld_short (most := most) HPL.out (Or.inr h44))
          obtain ⟨x, hx⟩ : ∃ x, l'.getD v 0 = x := ⟨_, rfl⟩
          rw [hx] at hc h44
          have hne : (x != 44) = true := by rw [bne_iff_ne]; exact h44
          clear hx
          go_wp2
          go_ret3
          exact ⟨_, _, _, rfl, Or.inr ⟨rfl, HQ.out⟩, B2.out⟩
      · have HQ := hid (fld_short (most := most) HPL.out (Or.inl (by have := hlen.out; omega)))
        clear hg
        have he2 : (n : Int) ≤ (cl : Int) + 1 + (v : Int) := by omega
        go_wp2
        go_ret3
        exact ⟨_, _, _, rfl, Or.inr ⟨rfl, HQ.out⟩, B2.out⟩
    · have HQ := hid (fld_bad HL.out HNO.out hr)
      obtain ⟨r1, r2⟩ := rd_no hr
      rw [r1, r2] at C3
      have C3 := hid C3
      clear r1 r2 hr
      obtain ⟨cl, HCL⟩ : ∃ x, Hid (pre.length = x) := ⟨_, rfl⟩
      rw [HCL.out] at hpn hpl qc
      rw [HCL.out]
      go_wp2_with fail
      refine C3.out.mono ?_
      rintro e w2 ⟨rfl, hb2⟩
      have B2 := hid (B1.out.trans (hb2.mono B1.out.size))
      clear hb2 C3
      go_wp2
      go_ret3
      exact ⟨_, _, _, rfl, Or.inr ⟨rfl, HQ.out⟩, B2.out⟩
theorem info_row : (Tryd.prog.info? 49).map (fun i => (i.zero, i.size, i.bytes)) = some (some (.agg #[.string ⟨#[]⟩, .slice none 0 0]), 2, 40) := by kernel_rfl
theorem size_row : (Tryd.prog.info? 49).map (·.size) = some 2 := by kernel_rfl
theorem getD_get {rs : List Rw} {k : Nat} (h : k < rs.length) : rs.getD k rw0 = rs[k] := by simp [List.getD, List.getElem?_eq_getElem h]
theorem take_snoc {rs : List Rw} {k : Nat} (h : k < rs.length) : rs.take (k + 1) = rs.take k ++ [rs.getD k rw0] := by rw [List.take_succ_eq_append_getElem h, getD_get h]
theorem okRows_not {rs : List Rw} {k : Nat} (h : k < rs.length) (hn : ¬ okRow (lastN noS (rs.take k)) (rs.getD k rw0)) : ¬ mayT rs := by
  intro hm
  have := okRows_take hm.2 (k + 1)
  rw [take_snoc h, okRows_snoc] at this
  exact hn this.2
set_option maxRecDepth 100000 in
set_option maxHeartbeats 2000000 in
theorem mayBe_any (w : World) (v : Value) (rs : List Rw) (h : HRw w v rs) :
    Calls Tryd.prog 34 #[v] w fun e w' => e = .returned (.bool (decide (mayT rs))) ∧ Below w.heap.size w w' := by
  obtain ⟨p, c, rfl, hlc, hcm, hrow⟩ := h.open
  have HR := hid hrow
  clear hrow h
  have hm63 : rs.length ≤ 9223372036854775807 := by unfold maxLen at hcm; omega
  obtain ⟨n, HN⟩ : ∃ n, Hid (rs.length = n) := ⟨_, rfl⟩
  rw [HN.out] at hlc hm63
  rw [HN.out]
  by_cases h64 : (64 : Int) < (n : Int)
  · have E := hid (show decide (mayT rs) = false by rw [decide_eq_false]; intro q; have := q.1; have := HN.out; omega)
    go_enter Tryd.func34, Tryd.ntmps34
    go_wp2
    go_ret
    exact ⟨by rw [E.out]; rfl, Below.refl _ _⟩
  · go_enter Tryd.func34, Tryd.ntmps34
    go_wp2
    go_loopw [3, 11] (fun last i wr => ∃ k : Nat, k ≤ n ∧ i = .int .i64 (k : Int) ∧ last = .string (lastN noS (rs.take k)) ∧ Hid (okRows noS (rs.take k)) ∧ Hid (Below w.heap.size w wr)) (fun _ i _ => n - (intOf i).toNat)
    case atStart => exact ⟨0, Nat.zero_le _, rfl, rfl, hid (by simp [okRows]), Below.refl _ _⟩
    case round =>
      obtain ⟨k, hk, rfl, rfl, HOK, HB0⟩ := hrel
      obtain ⟨last, HL⟩ : ∃ x, Hid (lastN noS (rs.take k) = x) := ⟨_, rfl⟩
      rw [HL.out]
      have hsz := HB0.out.size
      by_cases hlt : k < n
      · obtain ⟨b, off, rfl, hbl, hcell⟩ := HR.out (by have := HN.out; omega)
        obtain ⟨u, hu, hv⟩ := hcell k (by have := HN.out; omega)
        obtain ⟨⟨s, l⟩, Hx⟩ : ∃ x, Hid (rs.getD k rw0 = x) := ⟨_, rfl⟩
        rw [Hx.out] at hu hv
        have HU := hid (range_below2 hu HB0.out hbl)
        obtain ⟨pu, cu, rfl, hlu, hcu⟩ := hv.open
        have HV := hid hv
        clear hu hv hcell
        have HSZ := hid size_row
        have NO : Hid (¬ okRow last (s, l) → decide (mayT rs) = false) := by
          refine hid fun q => decide_eq_false (okRows_not (k := k) (by have := HN.out; omega) ?_)
          rw [HL.out, Hx.out]
          exact q
        by_cases hle : (Op.bytesLess s.toList last.toList || s.toList == last.toList) = true
        · have E := hid (NO.out (by rintro ⟨q, _⟩; unfold leS at q; simp only [hle] at q; cases q))
          go_wp2_with (refine wpList_load_mid rfl 49 _ rfl b (off + k * 2) rfl [.string s, .slice pu l.length cu] _ HU.out Tryd.underlying49 rfl HSZ.out ?_)
          go_ret
          exact ⟨by rw [E.out]; rfl, HB0.out.alloc hsz _⟩
        · have hle2 : (Op.bytesLess s.toList last.toList || s.toList == last.toList) = false := by simpa using hle
          clear hle
          by_cases hsz2 : (64 : Int) < (s.size : Int)
          · have E := hid (NO.out (by rintro ⟨_, q, _⟩; have q : s.size ≤ 64 := q; omega))
            go_wp2_with (refine wpList_load_mid rfl 49 _ rfl b (off + k * 2) rfl [.string s, .slice pu l.length cu] _ HU.out Tryd.underlying49 rfl HSZ.out ?_)
            go_ret
            exact ⟨by rw [E.out]; rfl, HB0.out.alloc hsz _⟩
          · by_cases hl2 : (65536 : Int) < (l.length : Int)
            · have E := hid (NO.out (by rintro ⟨_, _, q⟩; have q : l.length ≤ 65536 := q; omega))
              go_wp2_with (refine wpList_load_mid rfl 49 _ rfl b (off + k * 2) rfl [.string s, .slice pu l.length cu] _ HU.out Tryd.underlying49 rfl HSZ.out ?_)
              go_ret
              exact ⟨by rw [E.out]; rfl, HB0.out.alloc hsz _⟩
            · have HOK2 : Hid (okRows noS (rs.take (k + 1))) := by
                refine hid ?_
                rw [take_snoc (by have := HN.out; omega), okRows_snoc, Hx.out, HL.out]
                exact ⟨HOK.out, by unfold leS; exact hle2, by show s.size ≤ 64; omega, by show l.length ≤ 65536; omega⟩
              have HL2 : Hid (lastN noS (rs.take (k + 1)) = s) := by
                refine hid ?_
                rw [take_snoc (by have := HN.out; omega), lastN_snoc, Hx.out]
              go_wp2_with (refine wpList_load_mid rfl 49 _ rfl b (off + k * 2) rfl [.string s, .slice pu l.length cu] _ HU.out Tryd.underlying49 rfl HSZ.out ?_)
              exact ⟨⟨k + 1, by omega, by go_num, by rw [HL2.out], HOK2, HB0.out.alloc hsz _⟩, by simp [intOf]; omega⟩
      · have E : Hid (decide (mayT rs) = true) := by
          refine hid (decide_eq_true ⟨by have := HN.out; omega, ?_⟩)
          have := HOK.out
          rw [List.take_of_length_le (by have := HN.out; omega)] at this
          exact this
        go_wp2
        go_ret
        exact ⟨by rw [E.out]; rfl, HB0.out⟩
end Go.Proofs.YtklklldmhoofnaaDoor
namespace Go.Proofs.YtklklldmhoofnaaDoor
open Go.RowKit
def cellsB (l : List Int) : Array Value := (l.map (Value.int .u8)).toArray
theorem cellsB_size (l : List Int) : (cellsB l).size = l.length := by simp [cellsB]
theorem cellsB_one (l : List Int) : (cellsB l).all (·.oneCell') = true := all_oneCell_toArray (fun v hv => by obtain ⟨x, _, rfl⟩ := List.mem_map.1 hv; rfl)
def zeros32 : List Int := List.replicate 32 0
theorem isAgg_u8 (w : World) : (isAgg 5).run Tryd.prog w = .ok false w := by
  unfold isAgg
  rw [Sem.run_bind, run_underlying Tryd.underlying5 w]
  rfl
theorem part_u8 (w : World) (l : List Int) (i : Nat) (hi : i < l.length) : (part 5 (cellsB l) i).run Tryd.prog w = .ok (.int .u8 (l.getD i 0)) w := by
  have e : (cellsB l)[i]? = some (.int .u8 (l.getD i 0)) := by simp [cellsB, List.getD, List.getElem?_eq_getElem hi]
  simp [part, e]
def eqRound (d : Nat) (xs ys : List Int) (i : Nat) (_ : Option Bool × Unit) : Sem (ForInStep (Option Bool × Unit)) := do
  let a ← part 5 (cellsB xs) (i * 1)
  let b ← part 5 (cellsB ys) (i * 1)
  let c ← Op.equalIn (d + 1) 5 a b
  if (!c) = true then pure (ForInStep.done (some false, ())) else pure (ForInStep.yield (none, ()))
theorem run_eqRound (w : World) (d : Nat) (xs ys : List Int) (i : Nat) (s : Option Bool × Unit) (hx : i < xs.length) (hy : i < ys.length) :
    (eqRound d xs ys i s).run Tryd.prog w = .ok (if xs.getD i 0 = ys.getD i 0 then .yield (none, ()) else .done (some false, ())) w := by
  unfold eqRound
  simp only [Sem.run_bind, Nat.mul_one, part_u8 w xs i hx, part_u8 w ys i hy, Result.andThen_ok, run_equalIn_int w d 5 .u8 .u8 _ _ Tryd.underlying5]
  by_cases h : xs.getD i 0 = ys.getD i 0
  · have e : (xs.getD i 0 == ys.getD i 0) = true := by simpa using h
    rw [e, if_pos h]; rfl
  · have e : (xs.getD i 0 == ys.getD i 0) = false := by simpa using h
    rw [e, if_neg h]; rfl
theorem run_eqRounds (w : World) (d n : Nat) (xs ys : List Int) (hx : xs.length = n) (hy : ys.length = n) : ∀ (m k : Nat), k + m = n → xs.take k = ys.take k →
    (forIn (List.range' k m 1) ((none : Option Bool), ()) (eqRound d xs ys)).run Tryd.prog w = .ok (if xs = ys then (none, ()) else (some false, ())) w
  | 0, k, hk, ht => by
    have e : xs = ys := by rw [← List.take_of_length_le (show xs.length ≤ k by omega), ← List.take_of_length_le (show ys.length ≤ k by omega), ht]
    simp [e]
  | m + 1, k, hk, ht => by
    rw [List.range'_succ, List.forIn_cons, Sem.run_bind, run_eqRound w d xs ys k _ (by omega) (by omega), Result.andThen_ok]
    by_cases h : xs.getD k 0 = ys.getD k 0
    · rw [if_pos h]
      have h2 : xs.take (k + 1) = ys.take (k + 1) := by
        rw [List.take_succ_eq_append_getElem (by omega), List.take_succ_eq_append_getElem (by omega), ht]
        rw [getD_of_lt (by omega), getD_of_lt (by omega)] at h
        rw [h]
      exact run_eqRounds w d n xs ys hx hy m (k + 1) (by omega) h2
    · rw [if_neg h, if_neg (fun e => h (by rw [e]))]
      rfl
theorem run_equalIn_bytes (w : World) (d n : Nat) (t : TypeId) (ht : Tryd.prog.underlying t = some (.array n 5)) (xs ys : List Int) (hx : xs.length = n) (hy : ys.length = n) :
    (Op.equalIn (d + 2) t (.agg (cellsB xs)) (.agg (cellsB ys))).run Tryd.prog w = .ok (decide (xs = ys)) w := by
  rw [Op.equalIn]
  simp only [Sem.run_bind, run_underlying ht, Result.andThen_ok, size_u8]
  have hr := run_eqRounds w d n xs ys hx hy n 0 (by omega) rfl
  have e : (forIn (m := Sem) [:n] ((none : Option Bool), ()) (eqRound d xs ys)) = forIn (List.range' 0 n 1) ((none : Option Bool), ()) (eqRound d xs ys) := by
    rw [Std.Legacy.Range.forIn_eq_forIn_range']
    simp [Std.Legacy.Range.size]
  rw [← e] at hr
  refine (congrArg (fun r => Result.andThen r _) hr).trans ?_
  by_cases h : xs = ys
  · simp [h]
  · simp [h]
theorem run_neq_bytes (w : World) (n : Nat) (t : TypeId) (ht : Tryd.prog.underlying t = some (.array n 5)) (xs ys : List Int) (hx : xs.length = n) (hy : ys.length = n) :
    (binOp .neq t (.agg (cellsB xs)) (.agg (cellsB ys))).run Tryd.prog w = .ok (.bool (!decide (xs = ys))) w := by
  rw [run_neq_struct, run_equalIn_bytes w 9998 n t ht xs ys hx hy]
  rfl
theorem run_eql_bytes (w : World) (n : Nat) (t : TypeId) (ht : Tryd.prog.underlying t = some (.array n 5)) (xs ys : List Int) (hx : xs.length = n) (hy : ys.length = n) :
    (binOp .eql t (.agg (cellsB xs)) (.agg (cellsB ys))).run Tryd.prog w = .ok (.bool (decide (xs = ys))) w := by
  rw [run_eql_struct, run_equalIn_bytes w 9998 n t ht xs ys hx hy]
  rfl
theorem info_digest : (Tryd.prog.info? 23).map (fun i => (i.zero, i.size, i.bytes)) = some (some (.agg (cellsB zeros32)), 32, 32) := by kernel_rfl
theorem size_digest : (Tryd.prog.info? 23).map (·.size) = some 32 := by kernel_rfl
theorem zeros32_length : zeros32.length = 32 := by simp [zeros32]
theorem run_alloc_digest (w : World) : (Instr.alloc 23 true (.tuple #[])).run Tryd.prog w = .ok (.pointer (some ⟨w.heap.size, 0, none⟩)) (w.alloc (.cells (cellsB zeros32) 23)) := by
  obtain ⟨i0, hi, hz0, hz1, hz2⟩ := info_parts info_digest
  simp [Instr.alloc, zeroValue, typeInfo, hi, hz0, newVar, newRow, Value.cells]
theorem wpList_alloc_digest {ops : Array Oper} {rest : List Oper} {o : Oper} {a : Act} {w : World} {Q : Exit → Act → World → Prop} (hgd : o.guard = none) (ho : o.op = .alloc 23)
    (h : wpList Tryd.prog ops Q rest (a.put o.dst (.pointer (some ⟨w.heap.size, 0, none⟩))) (w.alloc (.cells (cellsB zeros32) 23))) : wpList Tryd.prog ops Q (o :: rest) a w :=
  wpList_plain hgd fun _ hK => by
    have hr := run_alloc_digest w
    unfold Oper.wp
    simp only [execOp, ho, Sem.run_bind, hr, Result.andThen_ok]
    exact hK _ _ h
theorem built_digest : Tryd.prog.built 23 [] = some (cellsB zeros32) := by kernel_rfl
theorem wpList_build_digest {ops : Array Oper} {rest : List Oper} {o : Oper} {a : Act} {w : World} {Q : Exit → Act → World → Prop} (hgd : o.guard = none) (ho : o.op = .build 23 #[])
    (h : wpList Tryd.prog ops Q rest (a.put o.dst (.agg (cellsB zeros32))) w) : wpList Tryd.prog ops Q (o :: rest) a w := by
  have e : ((#[] : Array (Nat × Operand)).map fun (i, x) => (i, a.eval x)).toList = [] := by simp
  refine wpList_build hgd 23 #[] ho (by rw [e, built_digest]; rfl) ?_
  rw [e, built_digest]
  exact h
theorem wpList_build_digest_on {ops : Array Oper} {rest : List Oper} {o : Oper} {a : Act} {w : World} {Q : Exit → Act → World → Prop} (ho : o.op = .build 23 #[]) (hw : Region.wanted o (yielded ops a.tmps) = true)
    (h : wpList Tryd.prog ops Q rest (a.put o.dst (.agg (cellsB zeros32))) w) : wpList Tryd.prog ops Q (o :: rest) a w := by
  have e : ((#[] : Array (Nat × Operand)).map fun (i, x) => (i, a.eval x)).toList = [] := by simp
  refine wpList_step fun K hK => ?_
  simp only [hw, if_true]
  refine wp_build 23 #[] ho (by rw [e, built_digest]; rfl) ?_
  rw [e, built_digest]
  exact hK _ _ h
theorem below_setRow {B : Nat} {a w : World} (h : Below B a w) {g : Nat} (hg : B ≤ g) (cs : Array Value) : Below B a (w.setRow g cs) :=
  h.trans ⟨rfl, rfl, rfl, by simp [World.setRow], fun k hk => setRow_other w g k _ (by omega)⟩
end Go.Proofs.YtklklldmhoofnaaDoor
namespace Go.Proofs.YtklklldmhoofnaaDoor
open Go Go.RowKit
def Bk (w : World) (x : Nat) (cs : Array Value) (T : TypeId) : Prop := w.heap[x]? = some (.cells cs T (0, 0))
theorem Bk.below {w w' : World} {x : Nat} {cs : Array Value} {T : TypeId} (h : Bk w x cs T) (hb : Below w.heap.size w w') : Bk w' x cs T := (hb.block x (Array.getElem?_eq_some_iff.1 h).1).trans h
theorem Bk.cell {w : World} {x : Nat} {cs : Array Value} {T : TypeId} (h : Bk w x cs T) (i : Nat) (v : Value) (hi : cs[i]? = some v) : w.cell? ⟨x, i, none⟩ = some v := by rw [cell_of_row _ _ _ _ _ _ h]; exact hi
theorem Bk.free {w : World} {x : Nat} {cs : Array Value} {T : TypeId} (h : Bk w x cs T) (i : Nat) : w.frozen? ⟨x, i, none⟩ = false := by
  have h' : w.heap[x]? = some (.cells cs T (0, 0)) := h
  simp [World.frozen?, h']
theorem Bk.set {w : World} {x : Nat} {cs : Array Value} {T : TypeId} (h : Bk w x cs T) (i : Nat) (v : Value) : Bk (w.setCell ⟨x, i, none⟩ v) x (cs.setIfInBounds i v) T := by
  have h' : w.heap[x]? = some (.cells cs T (0, 0)) := h
  simp [Bk, World.setCell, Array.getElem?_modify, h']
theorem Bk.setOther {w : World} {x y : Nat} {cs : Array Value} {T : TypeId} (h : Bk w x cs T) (hne : y ≠ x) (i : Nat) (v : Value) : Bk (w.setCell ⟨y, i, none⟩ v) x cs T := by
  have h' : w.heap[x]? = some (.cells cs T (0, 0)) := h
  simp [Bk, World.setCell, Array.getElem?_modify, hne, h']
end Go.Proofs.YtklklldmhoofnaaDoor
namespace Go.Proofs.YtklklldmhoofnaaDoor
open Go.RowKit
set_option maxHeartbeats 1000000 in
theorem clone_any (w : World) (v : Value) (l : List Int) (h : HB w v l) (hbig : l.length ≤ 140737488355328) :
    Calls Tryd.prog 43 #[v] w fun e w' => ∃ v', e = .returned v' ∧ w'.ownsRow w.heap.size 5 1 v' l.length (l.map (Value.int .u8)) ∧ Below w.heap.size w w' := by
  obtain ⟨i0, hi, hz0, hz1, hz2⟩ := info_parts info_u8
  have q22 := eql_nil_bytes
  obtain ⟨⟨p, c, rfl, hlc, hm, _, hcell⟩, hby⟩ := h
  cases p with
  | none =>
    have e : l = [] := by
      apply Classical.byContradiction
      intro hne
      obtain ⟨b, off, e, _⟩ := hcell hne
      cases e
    subst e
    go_enter Tryd.func43, Tryd.ntmps43
    go_wp2
    go_ret
    exact ⟨_, rfl, World.ownsRow_nil _ _ _ _, Below.refl _ _⟩
  | some a =>
    have A : Hid (l ≠ [] → ∃ b off, some a = some ⟨b, off, none⟩ ∧ ∀ j, j < l.length → w.cell? ⟨b, off + j, none⟩ = some (.int .u8 (l.getD j 0))) := hcell
    clear hcell
    go_enter Tryd.func43, Tryd.ntmps43
    go_wp2_with (at_builtin; refine wpList_append_own _ rfl _ _ 26 rfl w.heap.size 5 i0 (.int .u8 0) 1 1 Tryd.underlying26 hi hz0 hz1 hz2 rfl (by decide) _ _ _ rfl (World.ownsRow_made w #[] 0 (Nat.le_refl _) (Nat.zero_le _) rfl) a l.length c (l.map (Value.int .u8)) rfl ?qc1 ?qc2 ?qc3 ?qc4 ?qc5 ?qc6 ?_)
    case qc1 => simp
    case qc2 =>
      intro j u hj
      have hjn : j < l.length := by
        have := (List.getElem?_eq_some_iff.1 hj).1
        simpa using this
      refine Lib.cell?_alloc_some _ ?_
      obtain ⟨b, off, e, hh⟩ := A.out (by intro e; subst e; simp at hjn)
      cases e
      rw [Go.WideShapes.add_plain, hh j hjn]
      have e : (l.map (Value.int .u8))[j]? = some (Value.int .u8 (l.getD j 0)) := by simp [List.getD, List.getElem?_eq_getElem hjn]
      rw [e] at hj
      exact hj
    case qc3 => intro u hu; obtain ⟨x, _, rfl⟩ := List.mem_map.1 hu; rfl
    case qc4 => unfold maxLen; omega
    case qc5 => omega
    case qc6 => simp
    intro v' w1 hown hgrow hnil
    go_wp2
    go_ret
    exact ⟨v', rfl, by simpa using hown, ((Below.refl _ w).alloc (Nat.le_refl _) _).grown hgrow (by simp) (by intro k hk; simp [Value.ownBlock] at hk; omega)⟩
end Go.Proofs.YtklklldmhoofnaaDoor
