/- BaseBack, walked. -/
import Derived.Test.YtmfamecadomipaaDoorBsBackM
import Derived.Test.YtmfamecadomipaaDoorBsBytesW
import Derived.Test.YtmfamecadomipaaDoorBsLettersW
import Derived.Test.YtmfamecadomipaaDoorBsUn
import Derived.Test.YtmfamecadomipaaDoorBsNum
import Derived.Test.YtmfamecadomipaaDoorSameBytes
set_option linter.unusedSimpArgs false
set_option linter.unusedVariables false
namespace Go.Proofs.YtmfamecadomipaaDoor
open Go Go.RowKit

set_option maxHeartbeats 2000000 in
theorem clean_any (w : World) (s : ByteArray) (h : Cln (sB s)) (hs : s.size ≤ 140737488355328) : Calls Tryd.prog 15 #[.string s] w fun e w' => e = .returned (.bool true) ∧ w' = w := by
  have HI : Hid (∀ i, i < s.size → (Instr.index 9 (.string s) (.int .i64 (i : Int))).run Tryd.prog w = .ok (.int .u8 ((sB s).getD i 0)) w ∧ (sB s).getD i 0 ≠ 58 ∧ (sB s).getD i 0 ≠ 47) := by
    refine hid fun i hi => ⟨idx_str w s i hi, ?_⟩
    have hl : i < (sB s).length := by rw [sB_length]; exact hi
    rw [getD_of_lt hl]
    exact h _ (List.getElem_mem hl)
  clear h
  go_enter Tryd.func15, Tryd.ntmps15
  go_wp2
  go_loopw [3] (fun i wr => ∃ I : Nat, I ≤ s.size ∧ i = .int .i64 (I : Int) ∧ wr = w) (fun i _ => s.size - (intOf i).toNat)
  case atStart => exact ⟨0, Nat.zero_le _, rfl, rfl⟩
  case round =>
    obtain ⟨I, hI, rfl, rfl⟩ := hrel
    by_cases hlt : I < s.size
    · obtain ⟨q, n1, n2⟩ := HI.out I hlt
      obtain ⟨x, Hx⟩ : ∃ x, Hid ((sB s).getD I 0 = x) := ⟨_, rfl⟩
      rw [Hx.out] at q n1 n2
      have b1 : (x == 58) = false := by simpa using n1
      have b2 : (x == 47) = false := by simpa using n2
      clear n1 n2
      go_wp2
      exact ⟨⟨I + 1, by omega, by go_num, trivial⟩, by simp [intOf]; omega⟩
    · go_wp2
      go_ret
      exact ⟨rfl, rfl⟩
theorem isEmpty_bS (l : List Int) : (bS l).toList.isEmpty = decide (l.length = 0) := by
  rw [ByteArray.toList_eq]
  cases l with
  | nil => rfl
  | cons a b => simp [bS]
theorem dec_len19 (n : Nat) (hn : n < 10000000000000000000) : (Lib.decDigits n).length ≤ 19 := by
  obtain ⟨h1, h2, _⟩ := dec_canon n
  by_cases hl : 1 < (Lib.decDigits n).length
  · have h3 := valD_pos h1 (Or.inl hl)
    apply Classical.byContradiction
    intro hc
    have h4 : (10 : Nat) ^ 19 ≤ 10 ^ ((Lib.decDigits n).length - 1) := Nat.pow_le_pow_right (by decide) (by omega)
    have h5 : (10 : Nat) ^ 19 = 10000000000000000000 := by decide
    omega
  · omega
theorem dec_pos (n : Nat) : (Lib.decDigits n).isEmpty = false := by
  cases h : Lib.decDigits n with
  | nil => exact absurd h (dec_canon n).1.1
  | cons a b => rfl
theorem sB_mk (d : List UInt8) : sB ⟨d.toArray⟩ = d.map fun b => (b.toNat : Int) := by unfold sB; simp
theorem cln_dec (n : Nat) : Cln (sB ⟨(Lib.decDigits n).toArray⟩) := by
  rw [sB_mk]
  intro c hc
  obtain ⟨b, hb, rfl⟩ := List.mem_map.1 hc
  have := (dec_canon n).1.2.1 b hb
  unfold dig at this
  omega
set_option maxRecDepth 100000 in
set_option maxHeartbeats 16000000 in
theorem back_walk (w : World) (v : Value) (l : List Int) (x : Int) (hv : HB w v l) (hx : -9223372036854775808 ≤ x ∧ x ≤ 9223372036854775807) (hl : l.length ≤ 1048576) (hk : KD w) :
    Calls Tryd.prog 4 #[v, .int .i64 x] w fun r w' => r = .returned (.bool true) ∧ Below w.heap.size w w' := by
  have HA := hid hv
  have K0 := hid hk
  obtain ⟨p, c, rfl, _, hc⟩ := hv.open
  unfold maxLen at hc
  obtain ⟨hx0, hx1⟩ := hx
  have hby : Byt8 l := hv.2
  obtain ⟨S, eS⟩ : ∃ S, bS (lettersL l) = S := ⟨_, rfl⟩
  obtain ⟨T, eT⟩ : ∃ T, bS (escL l) = T := ⟨_, rfl⟩
  have sS : sB S = lettersL l := by rw [← eS]; exact sB_bS (lettersL_byt l)
  have sT : sB T = escL l := by rw [← eT]; exact sB_bS (escL_byt hby)
  obtain ⟨n, en⟩ : ∃ n, lenL l.length = n := ⟨_, rfl⟩
  have zS : S.size = n := by rw [← eS, bS_size, lettersL_length]; exact en
  have zT : T.size ≤ 4194304 := by
    rw [← eT, bS_size]
    unfold escL
    split
    · simp
    · have := escB_len l; omega
  have hn : n ≤ 2097152 := by rw [← en]; unfold lenL; omega
  have hTe : T.toList.isEmpty = false := by
    rw [← eT, isEmpty_bS]
    have := escL_ne l
    cases h : escL l with
    | nil => exact absurd h this
    | cons a b => rfl
  have hSe : S.toList.isEmpty = ((l.length : Int) == 0) := by
    rw [← eS, isEmpty_bS, lettersL_length]
    by_cases h0 : l.length = 0
    · rw [h0]; rfl
    · have e1 : ((l.length : Int) == 0) = false := by rw [beq_eq_false_iff_ne]; omega
      rw [e1]
      apply decide_eq_false
      unfold lenL
      omega
  obtain ⟨zb, ezb⟩ : ∃ b, ((l.length : Int) == 0) = b := ⟨_, rfl⟩
  rw [ezb] at hSe
  have CL := hid (fun W v (h : HB W v l) => by have := letters_any W v l h (by omega); rwa [eS] at this : ∀ W v, HB W v l → Calls Tryd.prog 11 #[v] W fun e w' => e = .returned (.string S) ∧ Below W.heap.size W w')
  have CE := hid (fun W v (h : HB W v l) => by have := escape_any W v l h (by have := escB_len l; omega); rwa [eT] at this : ∀ W v, HB W v l → Calls Tryd.prog 16 #[v] W fun e w' => e = .returned (.string T) ∧ Below W.heap.size W w')
  have CB := hid (fun W => by
    have := bytes_any W S (by omega)
    obtain ⟨b1, b2, b3⟩ := back_letters l hby
    rwa [sS, b1, b2, b3] at this : ∀ W, Calls Tryd.prog 12 #[.string S] W fun e w' => ∃ v', e = .returned (.tuple #[v', .int .i64 0, .int .i64 0]) ∧ w'.ownsRow W.heap.size 5 1 v' l.length (l.map (Value.int .u8)) ∧ Below W.heap.size W w')
  have CU := hid (fun W => by
    have := unescape_any W T (by omega)
    rwa [sT, back_escape hby] at this : ∀ W, Calls Tryd.prog 17 #[.string T] W fun e w' => ∃ v', e = .returned (.tuple #[v', .int .i64 0, .int .i64 0]) ∧ w'.ownsRow W.heap.size 5 1 v' l.length (l.map (Value.int .u8)) ∧ Below W.heap.size W w')
  have QS := hid (fun W => clean_any W S (by rw [sS]; exact cln_letters l) (by omega))
  have QT := hid (fun W => clean_any W T (by rw [sT]; exact cln_escape hby) (by omega))
  have CN := hid (fun W => by
    have := length_any W (l.length : Int) (by omega) (by omega)
    rwa [lenI_nat, en] at this : ∀ W, Calls Tryd.prog 14 #[.int .i64 (l.length : Int)] W fun e w' => e = .returned (.int .i64 (n : Int)) ∧ w' = W)
  have HBY := hid hby
  clear hv hk hby sS sT eS eT en
  go_enter Tryd.func4, Tryd.ntmps4
  go_wp2_with fail
  refine (CL.out w _ HA.out).mono ?_
  rintro e1 x1 ⟨rfl, hB1⟩
  have B1 := hid hB1
  clear hB1
  go_wp2_with fail
  refine (CB.out x1).mono ?_
  rintro e2 x2 ⟨vb, rfl, hb, hB2⟩
  obtain ⟨pb, cb, rfl⟩ := own_slc hb
  have HBr := hid (HB.of_own hb HBY.out)
  have B2 := hid (B1.out.trans (hB2.mono B1.out.size))
  clear hb hB2 B1
  go_wp2_with fail
  refine (sameBytes_any x2 _ _ l l HBr.out (HA.out.below B2.out)).mono ?_
  rintro e3 x3 ⟨rfl, hD3⟩
  rw [decide_eq_true rfl]
  have B3 := hid (B2.out.trans ((hD3.below x2.heap.size).mono B2.out.size))
  clear hD3 B2 HBr
  go_wp2_with fail
  refine (CN.out x3).mono ?_
  rintro e4 x4 ⟨rfl, hw4⟩
  subst hw4
  go_wp2_with fail
  refine (QS.out _).mono ?_
  rintro e5 x5 ⟨rfl, hw5⟩
  subst hw5
  go_wp2_with fail
  refine (CE.out _ _ (HA.out.below B3.out)).mono ?_
  rintro e6 x6 ⟨rfl, hB6⟩
  have B6 := hid (B3.out.trans (hB6.mono B3.out.size))
  clear hB6 B3
  go_wp2_with fail
  refine (CU.out x6).mono ?_
  rintro e7 x7 ⟨vm, rfl, hm, hB7⟩
  obtain ⟨pm, cm, rfl⟩ := own_slc hm
  have HMr := hid (HB.of_own hm HBY.out)
  have B7 := hid (B6.out.trans (hB7.mono B6.out.size))
  clear hm hB7 B6
  go_wp2_with fail
  refine (sameBytes_any x7 _ _ l l HMr.out (HA.out.below B7.out)).mono ?_
  rintro e8 x8 ⟨rfl, hD8⟩
  rw [decide_eq_true rfl]
  have B8 := hid (B7.out.trans ((hD8.below x7.heap.size).mono B7.out.size))
  clear hD8 B7 HMr
  go_wp2_with fail
  refine (QT.out x8).mono ?_
  rintro e9 x9 ⟨rfl, hw9⟩
  have B9 : Hid (Below w.heap.size w x9) := by rw [hw9]; exact B8.out
  clear hw9 B8
  have C10 := number_any x9 x hx0 hx1 (K0.out.below B9.out)
  by_cases hxn : x < 0
  · have e1 : nS x = ⟨#[]⟩ := by unfold nS; rw [if_pos hxn]
    have e2 : nE x = 102 := by unfold nE; rw [if_pos hxn]
    rw [e1, e2] at C10
    have C10h := hid C10
    clear C10 e1 e2
    go_wp2_with fail
    refine C10h.out.mono ?_
    rintro e10 x10 ⟨rfl, hB10⟩
    have B10 := hid (B9.out.trans (hB10.mono B9.out.size))
    clear hB10
    go_wp2
    go_ret
    exact ⟨rfl, B10.out⟩
  · obtain ⟨m, rfl⟩ := Int.eq_ofNat_of_zero_le (show 0 ≤ x by omega)
    have e1 : nS (m : Int) = ⟨(Lib.decDigits m).toArray⟩ := by unfold nS; rw [if_neg hxn, Int.toNat_natCast]
    have e2 : nE (m : Int) = 0 := by unfold nE; rw [if_neg hxn]
    rw [e1, e2] at C10
    obtain ⟨hcan, hval, _⟩ := dec_canon m
    have r1 : rdV (Lib.decDigits m) (m : Int) = m ∧ rdE (Lib.decDigits m) (m : Int) = 0 := by
      obtain ⟨q1, q2⟩ := rd_ok (l := Lib.decDigits m) (most := (m : Int)) ⟨hcan, by rw [hval]; exact Int.le_refl _⟩
      exact ⟨by rw [q1, hval], q2⟩
    have r2 : rdV (Lib.decDigits m) ((m : Int) - 1) = 0 ∧ rdE (Lib.decDigits m) ((m : Int) - 1) = 102 := rd_no fun h => by have := h.2; rw [hval] at this; omega
    have hsz : (⟨(Lib.decDigits m).toArray⟩ : ByteArray).size ≤ 140737488355328 := by
      have := dec_len19 m (by omega)
      show (Lib.decDigits m).toArray.size ≤ _
      simp
      omega
    have CR1 := hid (fun W (h : KD W) => by
      have := read_any W ⟨(Lib.decDigits m).toArray⟩ (m : Int) (by omega) hx0 hx1 h
      rwa [show (⟨(Lib.decDigits m).toArray⟩ : ByteArray).data.toList = Lib.decDigits m from rfl, r1.1, r1.2] at this : ∀ W, KD W → Calls Tryd.prog 9 #[.string ⟨(Lib.decDigits m).toArray⟩, .int .i64 (m : Int)] W fun e w' => e = .returned (.tuple #[.int .i64 (m : Int), .int .i64 0]) ∧ Below W.heap.size W w')
    have CR2 := hid (fun W (h : KD W) => by
      have := read_any W ⟨(Lib.decDigits m).toArray⟩ ((m : Int) - 1) (by omega) (by omega) (by omega) h
      rwa [show (⟨(Lib.decDigits m).toArray⟩ : ByteArray).data.toList = Lib.decDigits m from rfl, r2.1, r2.2] at this : ∀ W, KD W → Calls Tryd.prog 9 #[.string ⟨(Lib.decDigits m).toArray⟩, .int .i64 ((m : Int) - 1)] W fun e w' => e = .returned (.tuple #[.int .i64 0, .int .i64 102]) ∧ Below W.heap.size W w')
    have QU := hid (fun W => clean_any W ⟨(Lib.decDigits m).toArray⟩ (cln_dec m) (by omega))
    have hUe : (ByteArray.mk (Lib.decDigits m).toArray).toList.isEmpty = false := by rw [ByteArray.toList_eq]; exact dec_pos m
    obtain ⟨U, eU⟩ : ∃ U : ByteArray, ⟨(Lib.decDigits m).toArray⟩ = U := ⟨_, rfl⟩
    rw [eU] at C10 CR1 CR2 QU hUe
    have C10h := hid C10
    clear C10 e1 e2 r1 r2 hsz hcan hval eU
    go_wp2_with fail
    refine C10h.out.mono ?_
    rintro e10 x10 ⟨rfl, hB10⟩
    have B10 := hid (B9.out.trans (hB10.mono B9.out.size))
    clear hB10 C10h
    go_wp2_with fail
    refine (CR1.out x10 (K0.out.below B10.out)).mono ?_
    rintro e11 x11 ⟨rfl, hB11⟩
    have B11 := hid (B10.out.trans (hB11.mono B10.out.size))
    clear hB11
    go_wp2_with fail
    refine (CR2.out x11 (K0.out.below B11.out)).mono ?_
    rintro e12 x12 ⟨rfl, hB12⟩
    have B12 := hid (B11.out.trans (hB12.mono B11.out.size))
    clear hB12
    go_wp2_with fail
    refine (QU.out x12).mono ?_
    rintro e13 x13 ⟨rfl, hw13⟩
    have B13 : Hid (Below w.heap.size w x13) := by rw [hw13]; exact B12.out
    clear hw13 B12
    go_wp2
    go_ret
    exact ⟨by simp [hUe], B13.out⟩
end Go.Proofs.YtmfamecadomipaaDoor
