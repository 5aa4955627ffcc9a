/- The document's Letters, walked. -/
import Derived.Test.YtcgecflebplgaaaBsLetters
set_option linter.unusedSimpArgs false
set_option linter.unusedVariables false
namespace Go.Proofs.Ytcgecflebplgaaa
open Go Go.RowKit

/-- So many bits from a place on, as a number. -/
def num (l : List Int) (a : Nat) : Nat → Int
  | 0 => 0
  | m + 1 => 2 * num l a m + bitL l (a + m)
theorem num_five (l : List Int) (i : Nat) : num l (5 * i) 5 = lv l i := by
  simp only [num, lv, Nat.add_zero]
  omega
theorem num_lt (l : List Int) (a m : Nat) : 0 ≤ num l a m ∧ num l a m < 2 ^ m := by
  induction m with
  | zero => simp [num]
  | succ m ih =>
    have := bitL_01 l (a + m)
    simp only [num, Int.pow_succ]
    omega
theorem num_5 (l : List Int) (a m : Nat) (h : m ≤ 5) : 0 ≤ num l a m ∧ num l a m < 32 := by
  have h1 := num_lt l a m
  have h2 : (2 : Int) ^ m ≤ 2 ^ 5 := by
    rcases (by omega : m = 0 ∨ m = 1 ∨ m = 2 ∨ m = 3 ∨ m = 4 ∨ m = 5) with rfl | rfl | rfl | rfl | rfl | rfl <;> decide
  omega
def alphS : ByteArray := ⟨#[97, 98, 99, 100, 101, 102, 103, 104, 105, 106, 107, 108, 109, 110, 111, 112, 113, 114, 115, 116, 117, 118, 119, 120, 121, 122, 50, 51, 52, 53, 54, 55]⟩
theorem alphS_sB : sB alphS = alph := by decide
theorem idx_alph (w : World) (x : Int) (h0 : 0 ≤ x) (h : x < 32) : (Instr.index 9 (.string alphS) (.int .i64 x)).run Try.prog w = .ok (.int .u8 (alph.getD x.toNat 0)) w := by
  obtain ⟨n, rfl⟩ := Int.eq_ofNat_of_zero_le h0
  have hs : alphS.size = 32 := rfl
  rw [run_index_string w 9 alphS .i64 n Try.underlying9, dif_pos (by omega)]
  congr 2
  rw [← alphS_sB, ← sB_get alphS _ (by omega)]

set_option maxRecDepth 100000 in
set_option maxHeartbeats 4000000 in
theorem rletters_any (w : World) (v : Value) (l : List Int) (h : HB w v l) (hbig : l.length ≤ 87960930222080) :
    Calls Try.prog 13 #[v] w fun e w' => e = .returned (.string (bS (lettersL l))) ∧ Below w.heap.size w w' := by
  have HA := hid h
  obtain ⟨p, c, rfl, hlc, hc⟩ := h.open
  clear h
  unfold maxLen at hc
  have hLL := lettersL_length l
  obtain ⟨L, HL⟩ : ∃ L, Hid (lettersL l = L) := ⟨_, rfl⟩
  have HLG : Hid (∀ k, k < lenL l.length → L.getD k 0 = alph.getD (lv l k).toNat 0) := fun k hk => by rw [← HL.out]; exact lettersL_get l k hk
  have HLB : Hid (Byt8 L) := by rw [← HL.out]; exact lettersL_byt l
  rw [HL.out] at hLL
  rw [HL.out]
  have hln : L.length ≤ 140737488355328 := by rw [hLL]; unfold lenL; omega
  have hlen : L.length = (8 * l.length + 4) / 5 := hLL
  go_enter Try.func13, Try.ntmps13
  go_wp2
  go_loopw [3, 4] (fun o i wr => ∃ I : Nat, I ≤ L.length ∧ i = .int .i64 (I : Int) ∧ Hid (wr.ownsRow w.heap.size 5 1 o I ((L.take I).map (Value.int .u8))) ∧ Hid (Below w.heap.size w wr)) (fun _ i _ => L.length - (intOf i).toNat)
  case atStart => exact ⟨0, Nat.zero_le _, rfl, World.ownsRow_nil _ _ _ _, Below.refl _ _⟩
  case round =>
    obtain ⟨I, hI, rfl, HO, HBw⟩ := hrel
    by_cases hlt : I < L.length
    · have hc5 : (I : Int) * 5 < 8 * (l.length : Int) := by omega
      go_wp2
      obtain ⟨w1, hw1⟩ : ∃ w1, w1 = wr := ⟨_, rfl⟩
      subst hw1
      go_loopw [5, 6] (fun x k wr => ∃ K : Nat, K ≤ 5 ∧ x = .int .i64 (num l (5 * I) K) ∧ k = .int .i64 (K : Int) ∧ wr = w1) (fun _ k _ => 5 - (intOf k).toNat)
      case atStart => exact ⟨0, by omega, rfl, rfl, rfl⟩
      case round =>
        obtain ⟨K, hK, rfl, rfl, rfl⟩ := hrel
        by_cases hlk : K < 5
        · have hnum := num_5 l (5 * I) K hK
          by_cases hin : 5 * I + K < 8 * l.length
          · obtain ⟨b1, o1, c1, e1, _, _, hc1⟩ := HA.out.ne (by omega)
            simp only [Value.slice.injEq] at e1
            obtain ⟨rfl, _, rfl⟩ := e1
            obtain ⟨Q, HQ⟩ : ∃ Q, (5 * I + K) / 8 = Q := ⟨_, rfl⟩
            have hdiv : (5 * (I : Int) + (K : Int)) / 8 = (Q : Int) := by omega
            have q1 := (HBw.out.cell (World.block_lt_of_cell? w _ (hc1 Q (by omega)))).trans (hc1 Q (by omega))
            obtain ⟨hx1, hx2⟩ := HA.out.byte Q
            obtain ⟨x, Hx⟩ : ∃ x, Hid (l.getD Q 0 = x) := ⟨_, rfl⟩
            rw [Hx.out] at q1 hx1 hx2
            have HS : Hid (wrap64 (2 * num l (5 * I) K + (x / 2 ^ (7 - (5 * I + K) % 8)).tmod 2) = num l (5 * I) (K + 1)) := by
              refine hid ?_
              have e : num l (5 * I) (K + 1) = 2 * num l (5 * I) K + x / 2 ^ (7 - (5 * I + K) % 8) % 2 := by
                simp only [num, bitL]
                rw [HQ, Hx.out]
              rw [Int.tmod_eq_emod_of_nonneg (Int.ediv_nonneg hx1 (Int.pow_nonneg (by decide))), ← e]
              have := num_5 l (5 * I) (K + 1) (by omega)
              unfold wrap64
              omega
            clear hc1
            go_wp2
            exact ⟨⟨K + 1, by omega, by rw [HS.out], by go_num, trivial⟩, by simp [intOf]; omega⟩
          · have HS : Hid (wrap64 (2 * num l (5 * I) K) = num l (5 * I) (K + 1)) := by
              refine hid ?_
              have e0 : bitL l (5 * I + K) = 0 := by
                unfold bitL
                have : l.getD ((5 * I + K) / 8) 0 = 0 := by simp [List.getD, List.getElem?_eq_none (by omega : l.length ≤ (5 * I + K) / 8)]
                rw [this]
                simp
              have e : num l (5 * I) (K + 1) = 2 * num l (5 * I) K := by
                simp only [num]
                rw [e0]
                omega
              have := num_5 l (5 * I) (K + 1) (by omega)
              rw [← e]
              unfold wrap64
              omega
            have HS2 : Hid (2 * num l (5 * I) K = num l (5 * I) (K + 1)) := by
              refine hid ?_
              have := HS.out
              unfold wrap64 at this
              omega
            go_wp2
            exact ⟨⟨K + 1, by omega, by rw [HS2.out], by go_num, trivial⟩, by simp [intOf]; omega⟩
        · have hK5 : K = 5 := by omega
          subst hK5
          rw [num_five]
          have hlv := lv_lt l I
          have q3 := idx_alph wr (lv l I) hlv.1 hlv.2
          obtain ⟨y, Hy⟩ : ∃ y, Hid (alph.getD (lv l I).toNat 0 = y) := ⟨_, rfl⟩
          rw [Hy.out] at q3
          have HV : Hid (L.getD I 0 = y) := by rw [HLG.out I (by rw [← hLL]; exact hlt)]; exact Hy.out
          have HS : Hid (L.take (I + 1) = L.take I ++ [y]) := by
            rw [List.take_succ_eq_append_getElem (by omega), ← getD_of_lt (by omega), HV.out]
            exact rfl
          obtain ⟨lw, Hlw⟩ : ∃ lw, Hid (lv l I = lw) := ⟨_, rfl⟩
          rw [Hlw.out] at q3 hlv
          rw [Hlw.out]
          have q4 : (Instr.index 9 (.string ⟨#[97, 98, 99, 100, 101, 102, 103, 104, 105, 106, 107, 108, 109, 110, 111, 112, 113, 114, 115, 116, 117, 118, 119, 120, 121, 122, 50, 51, 52, 53, 54, 55]⟩) (.int .i64 lw)).run Try.prog wr = .ok (.int .u8 y) wr := q3
          clear q3 HV
          go_wp2_with (at_builtin; refine wpList_append_byte rfl _ _ rfl w.heap.size _ I _ rfl (HO.out.alloc _) ⟨wr.heap.size, 0, none⟩ 1 y rfl (by simp) ?q1 ?q2 ?_)
          case q1 => omega
          case q2 => have := HBw.out.size; simp; omega
          intro v' w2 hown2 hgr2 _
          have HO2 : Hid (w2.ownsRow w.heap.size 5 1 v' (I + 1) ((L.take (I + 1)).map (Value.int .u8))) := by
            rw [HS.out, List.map_append, List.map_take]
            exact hown2
          have HB2 := hid ((HBw.out.alloc HBw.out.size _).grown hgr2 (by have := HBw.out.size; simp; omega) (fun k e => (HO.out.lt k e).1))
          clear hown2 hgr2
          go_wp2
          exact ⟨⟨I + 1, by omega, by go_num, HO2, HB2⟩, by simp [intOf]; omega⟩
    · have hI' : I = L.length := by omega
      have hc5 : ¬ (I : Int) * 5 < 8 * (l.length : Int) := by omega
      have HH : Hid (HB wr u3 L) := by
        refine hid (HB.of_own (B := w.heap.size) (e := 5) ?_ HLB.out)
        have := HO.out
        rw [hI', List.take_of_length_le (Nat.le_refl _)] at this
        exact this
      have hcv := conv_str HH.out
      clear hI' HO
      go_wp2
      go_ret
      exact ⟨rfl, HBw.out⟩
end Go.Proofs.Ytcgecflebplgaaa
