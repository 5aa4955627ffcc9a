/- base.Bytes, walked. -/
import Derived.Test.YtmfamecadomipaaDoorBsLetters
import Derived.Test.YtmfamecadomipaaDoorBsBytesM
import Derived.Test.YtmfamecadomipaaDoorBsIdx
import Derived.Test.YtmfamecadomipaaDoorBsShelf
import Derived.OwnWalk
set_option linter.unusedSimpArgs false
set_option linter.unusedVariables false
namespace Go.Proofs.YtmfamecadomipaaDoor
open Go Go.RowKit

theorem index_any (w : World) (tb : Nat) (c : Int) (hc : 0 ≤ c ∧ c < 256) (hT : ∀ i, i < 32 → w.cell? ⟨tb, i, none⟩ = some (.int .u8 (alph.getD i 0))) :
    Calls Tryd.prog 24 #[.slice (some ⟨tb, 0, none⟩) 32 32, .int .u8 c] w fun e w' => e = .returned (.int .i64 (val c)) ∧ w' = w := by
  obtain ⟨n, rfl⟩ := Int.eq_ofNat_of_zero_le hc.1
  have := Tryd.bytes_IndexByte tb 0 32 32 alph n w rfl (fun i hi => by rw [Nat.zero_add]; exact hT i hi)
  rw [index_val n (by omega)] at this
  exact this
theorem or5 (x y : Int) (hx : 0 ≤ x ∧ x < 128) (hy : 0 ≤ y ∧ y < 32) : bits .or .u16 (x * 32) y = x * 32 + y := by
  obtain ⟨X, rfl⟩ := Int.eq_ofNat_of_zero_le hx.1
  obtain ⟨Y, rfl⟩ := Int.eq_ofNat_of_zero_le hy.1
  rw [u16_or _ _ (by omega) (by omega) (by omega) (by omega)]
  have e1 : ((X : Int) * 32).toNat = 2 ^ 5 * X := by omega
  have e2 : ((Y : Int)).toNat = Y := by omega
  rw [e1, e2, ← Nat.two_pow_add_eq_or_of_lt (by omega)]
  omega

theorem and16 (X : Int) (p : Nat) (h0 : 0 ≤ X) (h1 : X < 65536) (hp : p ≤ 4) : bits .and .u16 X (2 ^ p - 1) = X % 2 ^ p := by
  obtain ⟨n, rfl⟩ := Int.eq_ofNat_of_zero_le h0
  have h2 : (2 : Int) ^ p ≤ 32768 := by
    rcases (by omega : p = 0 ∨ p = 1 ∨ p = 2 ∨ p = 3 ∨ p = 4) with rfl | rfl | rfl | rfl | rfl <;> decide
  have hpos : (0 : Int) < 2 ^ p := Int.pow_pos (by decide)
  rw [u16_and _ _ (by omega) (by omega) (by omega) (by omega)]
  have e : ((2 : Int) ^ p - 1).toNat = 2 ^ p - 1 := by
    have : ((2 ^ p : Nat) : Int) = 2 ^ p := by push_cast; rfl
    omega
  rw [e, Int.toNat_natCast, Nat.and_two_pow_sub_one_eq_mod]
  push_cast
  rfl

set_option maxRecDepth 100000 in
set_option maxHeartbeats 8000000 in
theorem bytes_any (w : World) (s : ByteArray) (hs : s.size ≤ 140737488355328) :
    Calls Tryd.prog 12 #[.string s] w fun e w' => ∃ v', e = .returned (.tuple #[v', .int .i64 (byP (sB s)), .int .i64 (byE (sB s))]) ∧ w'.ownsRow w.heap.size 5 1 v' (byL (sB s)).length ((byL (sB s)).map (Value.int .u8)) ∧ Below w.heap.size w w' := by
  obtain ⟨i0, hi, hz0, hz1, hz2⟩ := info_parts info_u8
  have hby := sB_byt s
  obtain ⟨l, Hl⟩ : ∃ l, Hid (sB s = l) := ⟨_, rfl⟩
  have hll : l.length = s.size := by rw [← Hl.out]; exact sB_length s
  rw [Hl.out]
  rw [Hl.out] at hby
  have HBY := hid hby
  clear hby
  obtain ⟨z, HZ⟩ : ∃ z, Hid (cells8 (zeros8 32) = z) := ⟨_, rfl⟩
  have hz := zero_b32
  rw [HZ.out] at hz
  have HZ0 := hid hz
  clear hz
  have C := hid (alphabet_any w)
  obtain ⟨m, Hm⟩ : ∃ m, Hid (cells8 alphN = m) := ⟨_, rfl⟩
  rw [Hm.out] at C
  have hms : m.size = 32 := by rw [← Hm.out, cells8_size]; rfl
  have HIm : Hid ((Tryd.prog.info? 49).map (·.size) = some m.size) := by rw [hms]; exact size_b32
  have H1m : Hid (m.all (·.oneCell') = true) := by rw [← Hm.out]; exact cells8_one _
  have HZM : Hid (z.size = m.size) := by rw [hms, ← HZ.out, cells8_size, zeros8_length]; exact rfl
  have hdv : (s.size : Int) / 8 * 5 + 5 = ((s.size / 8 * 5 + 5 : Nat) : Int) := by omega
  obtain ⟨N, HN⟩ : ∃ N, s.size / 8 * 5 + 5 = N := ⟨_, rfl⟩
  rw [HN] at hdv
  go_enter Tryd.func12, Tryd.ntmps12
  go_wp2_with fail
  refine C.out.mono ?_
  rintro e w1 ⟨rfl, hB1⟩
  have B1 := hid hB1
  clear hB1 C
  obtain ⟨tb, Htb⟩ : ∃ tb, tb = w1.heap.size := ⟨_, rfl⟩
  have H0q : Hid ((w1.alloc (.cells z 49)).heap[tb]? = some (.cells z 49 (0, 0))) := by rw [Htb]; exact heap_alloc_new w1 _
  obtain ⟨w2, hw2⟩ : ∃ w2, Hid ((w1.alloc (.cells z 49)).setRow tb m = w2) := ⟨_, rfl⟩
  have HT2 : Hid (w2.heap[tb]? = some (.cells m 49 (0, 0))) := by rw [← hw2.out]; exact setRow_heap _ _ _ _ _ _ H0q.out
  have htb : w.heap.size ≤ tb := by rw [Htb]; exact B1.out.size
  have B2 : Hid (Below w.heap.size w w2) := by rw [← hw2.out]; exact below_setRow (B1.out.alloc B1.out.size _) htb m
  have hs2 : w2.heap.size = tb + 1 := by rw [← hw2.out, Htb]; simp [World.setRow]
  obtain ⟨w3, hmk, hown, hgr⟩ := run_make_own (P := Tryd.prog) w2 (tb + 1) 28 5 i0 (.int .u8 0) 1 Tryd.underlying28 hi hz0 hz1 .i64 .i64 N (by rw [hz2]; omega) (by unfold maxLen; omega) (by omega)
  have hmk2 : (Instr.makeSlice 28 (.int .i64 0) (.int .i64 (N : Int))).run Tryd.prog w2 = .ok (.slice (some ⟨w2.heap.size, 0, none⟩) 0 N) w3 := hmk
  clear hmk
  rw [hs2] at hmk2 hown
  have B3 : Hid (Below w.heap.size w w3) := B2.out.grown hgr (by omega) (fun k e => by cases e)
  have HT3 : Hid (w3.heap[tb]? = some (.cells m 49 (0, 0))) := (hgr.block tb (by omega) (by simp)).trans HT2.out
  have HO3 := hid hown
  have hs3 : tb + 1 ≤ w3.heap.size := by have := hgr.size; omega
  clear hown hgr B1
  subst Htb
  go_wp2_with (first | (refine wpList_alloc_agg HZ0.out rfl rfl ?_) | (refine wpList_store_row rfl 49 _ _ rfl _ m rfl rfl 49 _ H0q.out HIm.out HZM.out H1m.out ?_) | fail)
  rw [hw2.out]
  go_wp2
  rw [hmk2]
  go_wp2
  obtain ⟨tb, Htb⟩ : ∃ tb, w1.heap.size = tb := ⟨_, rfl⟩
  rw [Htb] at htb HT3 HO3 hs2 hs3
  rw [Htb]
  clear hmk2 HT2 B2 H0q hw2 HZM H1m HIm HZ0
  go_loopw [6, 7, 8, 20] (fun o h b i wr => ∃ I : Nat, I ≤ s.size ∧ h = .int .u16 (heldL l I) ∧ b = .int .i64 ((5 * I % 8 : Nat) : Int) ∧ i = .int .i64 (I : Int) ∧ Hid (∀ j, j < I → 0 ≤ val (l.getD j 0)) ∧ Hid (wr.ownsRow (tb + 1) 5 1 o (5 * I / 8) (((outL l).take (5 * I / 8)).map (Value.int .u8))) ∧ Hid (wr.heap[tb]? = some (.cells m 49 (0, 0))) ∧ Hid (Below w.heap.size w wr)) (fun _ _ _ i _ => s.size - (intOf i).toNat)
  case atStart => exact ⟨0, Nat.zero_le _, rfl, rfl, rfl, hid (fun j hj => by omega), HO3, HT3, B3⟩
  case round =>
    clear HO3 HT3 B3
    obtain ⟨I, hI, rfl, rfl, rfl, HG, HO, HT, B⟩ := hrel
    by_cases hlt : I < s.size
    · have q1 := fun W => idx_str W s I hlt
      obtain ⟨hc0, hc1⟩ := getD_byt HBY.out I
      simp only [Hl.out] at q1
      obtain ⟨c, Hc⟩ : ∃ c, Hid (l.getD I 0 = c) := ⟨_, rfl⟩
      simp only [Hc.out] at q1
      rw [Hc.out] at hc0 hc1
      have HC : Hid (∀ i, i < 32 → wr.cell? ⟨tb, i, none⟩ = some (.int .u8 (alph.getD i 0))) := by
        refine hid fun i hi => ?_
        rw [cell_of_row wr tb i _ _ _ HT.out, ← Hm.out, ← alphN_alph i hi]
        exact cells8_get hi
      have hvl := val_lt c
      obtain ⟨x, Hx⟩ : ∃ x, Hid (val c = x) := ⟨_, rfl⟩
      rw [Hx.out] at hvl
      have HCI : Hid (∀ W : World, (∀ i, i < 32 → W.cell? ⟨tb, i, none⟩ = some (.int .u8 (alph.getD i 0))) → Calls Tryd.prog 24 #[.slice (some ⟨tb, 0, none⟩) 32 32, .int .u8 c] W fun e w' => e = .returned (.int .i64 x) ∧ w' = W) := by
        refine hid fun W hW => ?_
        have := index_any W tb c ⟨hc0, hc1⟩ hW
        rw [Hx.out] at this
        exact this
      go_wp2
      go_quiet ((go_at_call 24; exact Calls.quiet_of_same (HCI.out _ HC.out)))
      by_cases hx0 : x < 0
      · have hx1 : x = -1 := by omega
        obtain ⟨e1, e2, e3⟩ := by_bad l I (by omega) (by rw [Hc.out, Hx.out]; exact hx0) HG.out
        have E1 := hid e1
        have E2 := hid e2
        have E3 := hid e3
        clear e1 e2 e3
        subst hx1
        go_wp2
        go_ret3
        refine ⟨.slice none 0 0, by rw [E2.out, E3.out]; rfl, ?_, B.out.trans ((Dr.one _ _).below _)⟩
        rw [E1.out]
        exact World.ownsRow_nil _ _ _ _
      · have hx0 : 0 ≤ x := by omega
        have hx2 : x < 32 := hvl.2
        have HG2 : Hid (∀ j, j < I + 1 → 0 ≤ val (l.getD j 0)) := by
          refine hid fun j hj => ?_
          by_cases hji : j < I
          · exact HG.out j hji
          · have : j = I := by omega
            subst this
            rw [Hc.out, Hx.out]
            exact hx0
        have hh := held_128 l I
        obtain ⟨h, Hh⟩ : ∃ h, Hid (heldL l I = h) := ⟨_, rfl⟩
        rw [Hh.out] at hh
        obtain ⟨hh0, hh1⟩ := hh
        have hor := or5 h x ⟨hh0, hh1⟩ ⟨hx0, hx2⟩
        have hsz := B.out.size
        have htbw : tb < wr.heap.size := (Array.getElem?_eq_some_iff.1 HT.out).1
        rw [Hh.out]
        rcases (by omega : 5 * I % 8 = 0 ∨ 5 * I % 8 = 1 ∨ 5 * I % 8 = 2 ∨ 5 * I % 8 = 3 ∨ 5 * I % 8 = 4 ∨ 5 * I % 8 = 5 ∨ 5 * I % 8 = 6 ∨ 5 * I % 8 = 7) with hr | hr | hr | hr | hr | hr | hr | hr
        · have hmod : ((5 * I % 8 : Nat) : Int) = 0 := by omega
          rw [hmod]
          have hhr : h < 1 := by have := (held_lt l I).2; rw [hr, Hh.out] at this; exact this
          have HH : Hid (heldL l (I + 1) = h * 32 + x) := by rw [held_few l I (by omega) (by rw [Hc.out, Hx.out]; exact hx0) (by omega), Hh.out, Hc.out, Hx.out]; exact rfl
          have HO2 : Hid (wr.ownsRow (tb + 1) 5 1 u6 (5 * (I + 1) / 8) (((outL l).take (5 * (I + 1) / 8)).map (Value.int .u8))) := by rw [show 5 * (I + 1) / 8 = 5 * I / 8 by omega]; exact HO.out
          go_wp2
          exact ⟨⟨I + 1, by omega, by rw [HH.out], by rw [show ((5 * (I + 1) % 8 : Nat) : Int) = 0 + 5 by omega]; rfl, by go_num, HG2, HO2, HT, B.out.trans ((Dr.one _ _).below _)⟩, by simp [intOf]; omega⟩
        · have hmod : ((5 * I % 8 : Nat) : Int) = 1 := by omega
          rw [hmod]
          have hhr : h < 2 := by have := (held_lt l I).2; rw [hr, Hh.out] at this; exact this
          have HH : Hid (heldL l (I + 1) = h * 32 + x) := by rw [held_few l I (by omega) (by rw [Hc.out, Hx.out]; exact hx0) (by omega), Hh.out, Hc.out, Hx.out]; exact rfl
          have HO2 : Hid (wr.ownsRow (tb + 1) 5 1 u6 (5 * (I + 1) / 8) (((outL l).take (5 * (I + 1) / 8)).map (Value.int .u8))) := by rw [show 5 * (I + 1) / 8 = 5 * I / 8 by omega]; exact HO.out
          go_wp2
          exact ⟨⟨I + 1, by omega, by rw [HH.out], by rw [show ((5 * (I + 1) % 8 : Nat) : Int) = 1 + 5 by omega]; rfl, by go_num, HG2, HO2, HT, B.out.trans ((Dr.one _ _).below _)⟩, by simp [intOf]; omega⟩
        · have hmod : ((5 * I % 8 : Nat) : Int) = 2 := by omega
          rw [hmod]
          have hhr : h < 4 := by have := (held_lt l I).2; rw [hr, Hh.out] at this; exact this
          have HH : Hid (heldL l (I + 1) = h * 32 + x) := by rw [held_few l I (by omega) (by rw [Hc.out, Hx.out]; exact hx0) (by omega), Hh.out, Hc.out, Hx.out]; exact rfl
          have HO2 : Hid (wr.ownsRow (tb + 1) 5 1 u6 (5 * (I + 1) / 8) (((outL l).take (5 * (I + 1) / 8)).map (Value.int .u8))) := by rw [show 5 * (I + 1) / 8 = 5 * I / 8 by omega]; exact HO.out
          go_wp2
          exact ⟨⟨I + 1, by omega, by rw [HH.out], by rw [show ((5 * (I + 1) % 8 : Nat) : Int) = 2 + 5 by omega]; rfl, by go_num, HG2, HO2, HT, B.out.trans ((Dr.one _ _).below _)⟩, by simp [intOf]; omega⟩
        · have hmod : ((5 * I % 8 : Nat) : Int) = 3 := by omega
          rw [hmod]
          have hhr : h < 8 := by have := (held_lt l I).2; rw [hr, Hh.out] at this; exact this
          have hand : bits .and .u16 (h * 32 + x) 0 = (h * 32 + x) % 1 := and16 (h * 32 + x) 0 (by omega) (by omega) (by decide)
          obtain ⟨hb1, hb2⟩ := held_many l I 0 (by omega) (by rw [Hc.out, Hx.out]; exact hx0) (by omega)
          rw [Hh.out, Hc.out, Hx.out] at hb1 hb2
          have HH : Hid (heldL l (I + 1) = (h * 32 + x) % 1) := by rw [hb2]; exact rfl
          have hk : 5 * I / 8 < (outL l).length := by rw [outL_length]; omega
          obtain ⟨y, Hy⟩ : ∃ y, Hid ((h * 32 + x) / 1 = y) := ⟨_, rfl⟩
          have HV : Hid ((outL l).take (5 * I / 8 + 1) = (outL l).take (5 * I / 8) ++ [y]) := by
            rw [List.take_succ_eq_append_getElem hk, ← getD_of_lt hk, outL_get l _ (by rw [outL_length] at hk; exact hk), hb1, ← Hy.out]
            exact rfl
          clear hb1 hb2
          go_wp2_with (at_builtin; refine wpList_append_byte rfl _ _ rfl (tb + 1) _ (5 * I / 8) _ rfl (HO.out.alloc _) ⟨wr.heap.size, 0, none⟩ 1 y rfl ?qc ?q1 ?q2 ?_)
          case qc => rw [← Hy.out]; exact (cell_of_row (World.alloc (World.drewN wr _) _) wr.heap.size 0 _ _ _ (heap_alloc_new (World.drewN wr _) _)).trans (by first | rfl | (simp; done) | (simp; omega))
          case q1 => omega
          case q2 => omega
          intro v' w4 hown4 hgr4 _
          have HO4 : Hid (w4.ownsRow (tb + 1) 5 1 v' (5 * (I + 1) / 8) (((outL l).take (5 * (I + 1) / 8)).map (Value.int .u8))) := by
            rw [show 5 * (I + 1) / 8 = 5 * I / 8 + 1 by omega, HV.out, List.map_append, List.map_take]
            exact hown4
          have B4 := hid (((B.out.trans ((Dr.one _ _).below _)).alloc (by have := B.out.size; exact this) _).grown hgr4 (by have := B.out.size; simp; omega) (fun k e => by have := (HO.out.lt k e).1; omega))
          have HT4 : Hid (w4.heap[tb]? = some (.cells m 49 (0, 0))) := (hgr4.block tb (by simp; omega) (fun e => by have := (HO.out.lt tb e.symm).1; omega)).trans ((heap_alloc_old _ _ (show tb < (World.drewN wr _).heap.size from htbw)).trans HT.out)
          clear hown4 hgr4
          go_wp2
          exact ⟨⟨I + 1, by omega, by first | (rw [HH.out]; done) | (rw [HH.out]; congr 1; omega), by rw [show ((5 * (I + 1) % 8 : Nat) : Int) = 0 by omega], by go_num, HG2, HO4, HT4, B4⟩, by simp [intOf]; omega⟩
        · have hmod : ((5 * I % 8 : Nat) : Int) = 4 := by omega
          rw [hmod]
          have hhr : h < 16 := by have := (held_lt l I).2; rw [hr, Hh.out] at this; exact this
          have hand : bits .and .u16 (h * 32 + x) 1 = (h * 32 + x) % 2 := and16 (h * 32 + x) 1 (by omega) (by omega) (by decide)
          obtain ⟨hb1, hb2⟩ := held_many l I 1 (by omega) (by rw [Hc.out, Hx.out]; exact hx0) (by omega)
          rw [Hh.out, Hc.out, Hx.out] at hb1 hb2
          have HH : Hid (heldL l (I + 1) = (h * 32 + x) % 2) := by rw [hb2]; exact rfl
          have hk : 5 * I / 8 < (outL l).length := by rw [outL_length]; omega
          obtain ⟨y, Hy⟩ : ∃ y, Hid ((h * 32 + x) / 2 = y) := ⟨_, rfl⟩
          have HV : Hid ((outL l).take (5 * I / 8 + 1) = (outL l).take (5 * I / 8) ++ [y]) := by
            rw [List.take_succ_eq_append_getElem hk, ← getD_of_lt hk, outL_get l _ (by rw [outL_length] at hk; exact hk), hb1, ← Hy.out]
            exact rfl
          clear hb1 hb2
          go_wp2_with (at_builtin; refine wpList_append_byte rfl _ _ rfl (tb + 1) _ (5 * I / 8) _ rfl (HO.out.alloc _) ⟨wr.heap.size, 0, none⟩ 1 y rfl ?qc ?q1 ?q2 ?_)
          case qc => rw [← Hy.out]; exact (cell_of_row (World.alloc (World.drewN wr _) _) wr.heap.size 0 _ _ _ (heap_alloc_new (World.drewN wr _) _)).trans (by first | rfl | (simp; done) | (simp; omega))
          case q1 => omega
          case q2 => omega
          intro v' w4 hown4 hgr4 _
          have HO4 : Hid (w4.ownsRow (tb + 1) 5 1 v' (5 * (I + 1) / 8) (((outL l).take (5 * (I + 1) / 8)).map (Value.int .u8))) := by
            rw [show 5 * (I + 1) / 8 = 5 * I / 8 + 1 by omega, HV.out, List.map_append, List.map_take]
            exact hown4
          have B4 := hid (((B.out.trans ((Dr.one _ _).below _)).alloc (by have := B.out.size; exact this) _).grown hgr4 (by have := B.out.size; simp; omega) (fun k e => by have := (HO.out.lt k e).1; omega))
          have HT4 : Hid (w4.heap[tb]? = some (.cells m 49 (0, 0))) := (hgr4.block tb (by simp; omega) (fun e => by have := (HO.out.lt tb e.symm).1; omega)).trans ((heap_alloc_old _ _ (show tb < (World.drewN wr _).heap.size from htbw)).trans HT.out)
          clear hown4 hgr4
          go_wp2
          exact ⟨⟨I + 1, by omega, by first | (rw [HH.out]; done) | (rw [HH.out]; congr 1; omega), by rw [show ((5 * (I + 1) % 8 : Nat) : Int) = 1 by omega], by go_num, HG2, HO4, HT4, B4⟩, by simp [intOf]; omega⟩
        · have hmod : ((5 * I % 8 : Nat) : Int) = 5 := by omega
          rw [hmod]
          have hhr : h < 32 := by have := (held_lt l I).2; rw [hr, Hh.out] at this; exact this
          have hand : bits .and .u16 (h * 32 + x) 3 = (h * 32 + x) % 4 := and16 (h * 32 + x) 2 (by omega) (by omega) (by decide)
          obtain ⟨hb1, hb2⟩ := held_many l I 2 (by omega) (by rw [Hc.out, Hx.out]; exact hx0) (by omega)
          rw [Hh.out, Hc.out, Hx.out] at hb1 hb2
          have HH : Hid (heldL l (I + 1) = (h * 32 + x) % 4) := by rw [hb2]; exact rfl
          have hk : 5 * I / 8 < (outL l).length := by rw [outL_length]; omega
          obtain ⟨y, Hy⟩ : ∃ y, Hid ((h * 32 + x) / 4 = y) := ⟨_, rfl⟩
          have HV : Hid ((outL l).take (5 * I / 8 + 1) = (outL l).take (5 * I / 8) ++ [y]) := by
            rw [List.take_succ_eq_append_getElem hk, ← getD_of_lt hk, outL_get l _ (by rw [outL_length] at hk; exact hk), hb1, ← Hy.out]
            exact rfl
          clear hb1 hb2
          go_wp2_with (at_builtin; refine wpList_append_byte rfl _ _ rfl (tb + 1) _ (5 * I / 8) _ rfl (HO.out.alloc _) ⟨wr.heap.size, 0, none⟩ 1 y rfl ?qc ?q1 ?q2 ?_)
          case qc => rw [← Hy.out]; exact (cell_of_row (World.alloc (World.drewN wr _) _) wr.heap.size 0 _ _ _ (heap_alloc_new (World.drewN wr _) _)).trans (by first | rfl | (simp; done) | (simp; omega))
          case q1 => omega
          case q2 => omega
          intro v' w4 hown4 hgr4 _
          have HO4 : Hid (w4.ownsRow (tb + 1) 5 1 v' (5 * (I + 1) / 8) (((outL l).take (5 * (I + 1) / 8)).map (Value.int .u8))) := by
            rw [show 5 * (I + 1) / 8 = 5 * I / 8 + 1 by omega, HV.out, List.map_append, List.map_take]
            exact hown4
          have B4 := hid (((B.out.trans ((Dr.one _ _).below _)).alloc (by have := B.out.size; exact this) _).grown hgr4 (by have := B.out.size; simp; omega) (fun k e => by have := (HO.out.lt k e).1; omega))
          have HT4 : Hid (w4.heap[tb]? = some (.cells m 49 (0, 0))) := (hgr4.block tb (by simp; omega) (fun e => by have := (HO.out.lt tb e.symm).1; omega)).trans ((heap_alloc_old _ _ (show tb < (World.drewN wr _).heap.size from htbw)).trans HT.out)
          clear hown4 hgr4
          go_wp2
          exact ⟨⟨I + 1, by omega, by first | (rw [HH.out]; done) | (rw [HH.out]; congr 1; omega), by rw [show ((5 * (I + 1) % 8 : Nat) : Int) = 2 by omega], by go_num, HG2, HO4, HT4, B4⟩, by simp [intOf]; omega⟩
        · have hmod : ((5 * I % 8 : Nat) : Int) = 6 := by omega
          rw [hmod]
          have hhr : h < 64 := by have := (held_lt l I).2; rw [hr, Hh.out] at this; exact this
          have hand : bits .and .u16 (h * 32 + x) 7 = (h * 32 + x) % 8 := and16 (h * 32 + x) 3 (by omega) (by omega) (by decide)
          obtain ⟨hb1, hb2⟩ := held_many l I 3 (by omega) (by rw [Hc.out, Hx.out]; exact hx0) (by omega)
          rw [Hh.out, Hc.out, Hx.out] at hb1 hb2
          have HH : Hid (heldL l (I + 1) = (h * 32 + x) % 8) := by rw [hb2]; exact rfl
          have hk : 5 * I / 8 < (outL l).length := by rw [outL_length]; omega
          obtain ⟨y, Hy⟩ : ∃ y, Hid ((h * 32 + x) / 8 = y) := ⟨_, rfl⟩
          have HV : Hid ((outL l).take (5 * I / 8 + 1) = (outL l).take (5 * I / 8) ++ [y]) := by
            rw [List.take_succ_eq_append_getElem hk, ← getD_of_lt hk, outL_get l _ (by rw [outL_length] at hk; exact hk), hb1, ← Hy.out]
            exact rfl
          clear hb1 hb2
          go_wp2_with (at_builtin; refine wpList_append_byte rfl _ _ rfl (tb + 1) _ (5 * I / 8) _ rfl (HO.out.alloc _) ⟨wr.heap.size, 0, none⟩ 1 y rfl ?qc ?q1 ?q2 ?_)
          case qc => rw [← Hy.out]; exact (cell_of_row (World.alloc (World.drewN wr _) _) wr.heap.size 0 _ _ _ (heap_alloc_new (World.drewN wr _) _)).trans (by first | rfl | (simp; done) | (simp; omega))
          case q1 => omega
          case q2 => omega
          intro v' w4 hown4 hgr4 _
          have HO4 : Hid (w4.ownsRow (tb + 1) 5 1 v' (5 * (I + 1) / 8) (((outL l).take (5 * (I + 1) / 8)).map (Value.int .u8))) := by
            rw [show 5 * (I + 1) / 8 = 5 * I / 8 + 1 by omega, HV.out, List.map_append, List.map_take]
            exact hown4
          have B4 := hid (((B.out.trans ((Dr.one _ _).below _)).alloc (by have := B.out.size; exact this) _).grown hgr4 (by have := B.out.size; simp; omega) (fun k e => by have := (HO.out.lt k e).1; omega))
          have HT4 : Hid (w4.heap[tb]? = some (.cells m 49 (0, 0))) := (hgr4.block tb (by simp; omega) (fun e => by have := (HO.out.lt tb e.symm).1; omega)).trans ((heap_alloc_old _ _ (show tb < (World.drewN wr _).heap.size from htbw)).trans HT.out)
          clear hown4 hgr4
          go_wp2
          exact ⟨⟨I + 1, by omega, by first | (rw [HH.out]; done) | (rw [HH.out]; congr 1; omega), by rw [show ((5 * (I + 1) % 8 : Nat) : Int) = 3 by omega], by go_num, HG2, HO4, HT4, B4⟩, by simp [intOf]; omega⟩
        · have hmod : ((5 * I % 8 : Nat) : Int) = 7 := by omega
          rw [hmod]
          have hhr : h < 128 := by have := (held_lt l I).2; rw [hr, Hh.out] at this; exact this
          have hand : bits .and .u16 (h * 32 + x) 15 = (h * 32 + x) % 16 := and16 (h * 32 + x) 4 (by omega) (by omega) (by decide)
          obtain ⟨hb1, hb2⟩ := held_many l I 4 (by omega) (by rw [Hc.out, Hx.out]; exact hx0) (by omega)
          rw [Hh.out, Hc.out, Hx.out] at hb1 hb2
          have HH : Hid (heldL l (I + 1) = (h * 32 + x) % 16) := by rw [hb2]; exact rfl
          have hk : 5 * I / 8 < (outL l).length := by rw [outL_length]; omega
          obtain ⟨y, Hy⟩ : ∃ y, Hid ((h * 32 + x) / 16 = y) := ⟨_, rfl⟩
          have HV : Hid ((outL l).take (5 * I / 8 + 1) = (outL l).take (5 * I / 8) ++ [y]) := by
            rw [List.take_succ_eq_append_getElem hk, ← getD_of_lt hk, outL_get l _ (by rw [outL_length] at hk; exact hk), hb1, ← Hy.out]
            exact rfl
          clear hb1 hb2
          go_wp2_with (at_builtin; refine wpList_append_byte rfl _ _ rfl (tb + 1) _ (5 * I / 8) _ rfl (HO.out.alloc _) ⟨wr.heap.size, 0, none⟩ 1 y rfl ?qc ?q1 ?q2 ?_)
          case qc => rw [← Hy.out]; exact (cell_of_row (World.alloc (World.drewN wr _) _) wr.heap.size 0 _ _ _ (heap_alloc_new (World.drewN wr _) _)).trans (by first | rfl | (simp; done) | (simp; omega))
          case q1 => omega
          case q2 => omega
          intro v' w4 hown4 hgr4 _
          have HO4 : Hid (w4.ownsRow (tb + 1) 5 1 v' (5 * (I + 1) / 8) (((outL l).take (5 * (I + 1) / 8)).map (Value.int .u8))) := by
            rw [show 5 * (I + 1) / 8 = 5 * I / 8 + 1 by omega, HV.out, List.map_append, List.map_take]
            exact hown4
          have B4 := hid (((B.out.trans ((Dr.one _ _).below _)).alloc (by have := B.out.size; exact this) _).grown hgr4 (by have := B.out.size; simp; omega) (fun k e => by have := (HO.out.lt k e).1; omega))
          have HT4 : Hid (w4.heap[tb]? = some (.cells m 49 (0, 0))) := (hgr4.block tb (by simp; omega) (fun e => by have := (HO.out.lt tb e.symm).1; omega)).trans ((heap_alloc_old _ _ (show tb < (World.drewN wr _).heap.size from htbw)).trans HT.out)
          clear hown4 hgr4
          go_wp2
          exact ⟨⟨I + 1, by omega, by first | (rw [HH.out]; done) | (rw [HH.out]; congr 1; omega), by rw [show ((5 * (I + 1) % 8 : Nat) : Int) = 4 by omega], by go_num, HG2, HO4, HT4, B4⟩, by simp [intOf]; omega⟩
    · have hI' : I = l.length := by omega
      have HGA : Hid (∀ j, j < l.length → 0 ≤ val (l.getD j 0)) := by rw [← hI']; exact HG.out
      have hh := held_128 l I
      rw [hI'] at hh
      obtain ⟨h, Hh⟩ : ∃ h, Hid (heldL l l.length = h) := ⟨_, rfl⟩
      rw [Hh.out] at hh
      have HF : Hid (wr.ownsRow (tb + 1) 5 1 u6 (outL l).length ((outL l).map (Value.int .u8))) := by
        have := HO.out
        rw [hI', List.take_of_length_le (by rw [outL_length]; exact Nat.le_refl _), ← outL_length l] at this
        exact this
      obtain ⟨po, co, eo⟩ := own_slc HF.out
      subst eo
      have hol := hid (outL_length l)
      have hlo : (outL l).length ≤ s.size := by rw [outL_length]; omega
      obtain ⟨nn, Hnn⟩ : ∃ nn, Hid ((outL l).length = nn) := ⟨_, rfl⟩
      rw [Hnn.out] at HF hlo
      have CN := hid (length_any wr (nn : Int) (by omega) (by omega))
      rw [lenI_nat] at CN
      obtain ⟨ll, Hll⟩ : ∃ ll, Hid (lenL nn = ll) := ⟨_, rfl⟩
      rw [Hll.out] at CN
      have hsub : (I : Int) = (s.size : Int) := by omega
      rw [hI', Hh.out]
      have HI := hid hI'
      rw [Hnn.out] 
      clear hI' hlt hI hsub HO
      by_cases h0 : h = 0
      · by_cases hln : ll = s.size
        · obtain ⟨e1, e2, e3⟩ := by_ok l HGA.out ⟨by rw [Hh.out]; exact h0, by rw [← hol.out, Hnn.out, Hll.out, hll]; exact hln⟩
          have E1 := hid e1
          have E2 := hid e2
          have E3 := hid e3
          clear e1 e2 e3
          have hnn : ((ll : Int) != (s.size : Int)) = false := by rw [hln]; simp
          subst h0
          clear hln
          go_wp2_with fail
          refine CN.out.mono ?_
          rintro e w' ⟨rfl, rfl⟩
          clear CN
          go_wp2
          go_ret3
          refine ⟨_, by rw [E2.out, E3.out]; rfl, ?_, B.out⟩
          rw [E1.out]
          rw [Hnn.out]
          exact own_mono HF.out (by omega)
        · obtain ⟨e1, e2, e3⟩ := by_spare l HGA.out (by rw [Hh.out, ← hol.out, Hnn.out, Hll.out, hll]; exact fun q => hln q.2)
          have E1 := hid e1
          have E2 := hid e2
          have E3 := hid e3
          clear e1 e2 e3
          have hnn : ((ll : Int) != (s.size : Int)) = true := by rw [bne_iff_ne]; omega
          subst h0
          have hsp : 0 < s.size := by
            apply Classical.byContradiction
            intro hn
            apply hln
            rw [← Hll.out, ← Hnn.out, hol.out]
            unfold lenL
            omega
          clear hln
          go_wp2_with fail
          refine CN.out.mono ?_
          rintro e w' ⟨rfl, rfl⟩
          clear CN
          go_wp2
          go_ret3
          refine ⟨.slice none 0 0, by rw [E2.out, E3.out, hll]; rfl, ?_, B.out⟩
          rw [E1.out]
          exact World.ownsRow_nil _ _ _ _
      · obtain ⟨e1, e2, e3⟩ := by_spare l HGA.out (by rw [Hh.out]; exact fun q => h0 q.1)
        have E1 := hid e1
        have E2 := hid e2
        have E3 := hid e3
        clear e1 e2 e3
        have hnn : (h != 0) = true := by simpa using h0
        clear CN
        go_wp2
        go_ret3
        refine ⟨.slice none 0 0, by rw [E2.out, E3.out, hll]; rfl, ?_, B.out⟩
        rw [E1.out]
        exact World.ownsRow_nil _ _ _ _
end Go.Proofs.YtmfamecadomipaaDoor
