/- base.Letters, walked: the letters of the bytes. -/
import Derived.Test.YtmfamecadomipaaDoorBsLetters
set_option linter.unusedSimpArgs false
set_option linter.unusedVariables false
namespace Go.Proofs.YtmfamecadomipaaDoor
open Go Go.RowKit

set_option maxRecDepth 100000 in
set_option maxHeartbeats 4000000 in
theorem letters_any (w : World) (v : Value) (l : List Int) (h : HB w v l) (hbig : l.length ≤ 140737488355328) :
    Calls Tryd.prog 11 #[v] w fun e w' => e = .returned (.string (bS (lettersL l))) ∧ Below w.heap.size w w' := by
  obtain ⟨i0, hi, hz0, hz1, hz2⟩ := info_parts info_u8
  have HA := hid h
  obtain ⟨p, c, rfl, _, hc⟩ := h.open
  clear h
  unfold maxLen at hc
  obtain ⟨z, HZ⟩ : ∃ z, Hid (cells8 (zeros8 32) = z) := ⟨_, rfl⟩
  have hz := zero_b32
  rw [HZ.out] at hz
  have HZ0 := hid hz
  clear hz
  have C := hid (alphabet_any w)
  obtain ⟨m, Hm⟩ : ∃ m, Hid (cells8 alphN = m) := ⟨_, rfl⟩
  rw [Hm.out] at C
  have hms : m.size = 32 := by rw [← Hm.out, cells8_size]; rfl
  have HIm : Hid ((Tryd.prog.info? 49).map (·.size) = some m.size) := by rw [hms]; exact size_b32
  have H1m : Hid (m.all (·.oneCell') = true) := by rw [← Hm.out]; exact cells8_one _
  have HZM : Hid (z.size = m.size) := by rw [hms, ← HZ.out, cells8_size, zeros8_length]; exact rfl
  have HSZ : Hid (∀ w, Sem.run Tryd.prog (Go.sizeOf 5) w = .ok 1 w) := size_u8
  have hLL := lettersL_length l
  obtain ⟨L, HL⟩ : ∃ L, Hid (lettersL l = L) := ⟨_, rfl⟩
  have HLG : Hid (∀ k, k < lenL l.length → L.getD k 0 = alph.getD (lv l k).toNat 0) := fun k hk => by rw [← HL.out]; exact lettersL_get l k hk
  have HLB : Hid (Byt8 L) := by rw [← HL.out]; exact lettersL_byt l
  rw [HL.out] at hLL
  rw [HL.out]
  have hln : lenL l.length ≤ 281474976710656 := by unfold lenL; omega
  obtain ⟨n, Hn⟩ : ∃ n, Hid (lenL l.length = n) := ⟨_, rfl⟩
  have CL : Hid (∀ W, Calls Tryd.prog 14 #[.int .i64 (l.length : Int)] W fun e w' => e = .returned (.int .i64 (n : Int)) ∧ w' = W) := by
    refine hid fun W => ?_
    have := length_any W (l.length : Int) (by omega) (by omega)
    rw [lenI_nat, Hn.out] at this
    exact this
  rw [Hn.out] at hLL hln HLG
  go_enter Tryd.func11, Tryd.ntmps11
  go_wp2_with fail
  refine C.out.mono ?_
  rintro e w1 ⟨rfl, hB1⟩
  have B1 := hid hB1
  clear hB1 C
  obtain ⟨tb, Htb⟩ : ∃ tb, tb = w1.heap.size := ⟨_, rfl⟩
  have H0q : Hid ((w1.alloc (.cells z 49)).heap[tb]? = some (.cells z 49 (0, 0))) := by rw [Htb]; exact heap_alloc_new w1 _
  obtain ⟨w2, hw2⟩ : ∃ w2, Hid ((w1.alloc (.cells z 49)).setRow tb m = w2) := ⟨_, rfl⟩
  have HT2 : Hid (w2.heap[tb]? = some (.cells m 49 (0, 0))) := by rw [← hw2.out]; exact setRow_heap _ _ _ _ _ _ H0q.out
  have htb : w.heap.size ≤ tb := by rw [Htb]; exact B1.out.size
  have B2 : Hid (Below w.heap.size w w2) := by rw [← hw2.out]; exact below_setRow (B1.out.alloc B1.out.size _) htb m
  have hs2 : w2.heap.size = tb + 1 := by rw [← hw2.out, Htb]; simp [World.setRow]
  obtain ⟨w3, hmk, hown, hgr⟩ := run_make_full (P := Tryd.prog) w2 w.heap.size 28 5 i0 (.int .u8 0) 1 Tryd.underlying28 hi hz0 hz1 .i64 .i64 n (by rw [hz2]; omega) (by unfold maxLen; omega) (by omega)
  have hmk2 : (Instr.makeSlice 28 (.int .i64 (n : Int)) (.int .i64 (n : Int))).run Tryd.prog w2 = .ok (.slice (some ⟨w2.heap.size, 0, none⟩) n n) w3 := hmk
  clear hmk
  rw [hs2] at hmk2 hown
  have B3 : Hid (Below w.heap.size w w3) := B2.out.grown hgr (by omega) (fun k e => by cases e)
  have HT3 : Hid (w3.heap[tb]? = some (.cells m 49 (0, 0))) := (hgr.block tb (by omega) (by simp)).trans HT2.out
  have HO3 : Hid (w3.ownsRow w.heap.size 5 1 (.slice (some ⟨tb + 1, 0, none⟩) n n) n ((partTo L 0).map (Value.int .u8))) := by
    have e : (madeCells (Value.int IntKind.u8 0).cells (n * 1)).toList = (partTo L 0).map (Value.int .u8) := by
      rw [show (Value.int IntKind.u8 0).cells = #[Value.int .u8 0] from rfl, toList_madeCells_one, partTo_none, hLL, List.map_replicate, Nat.mul_one]
    rw [← e]
    exact hown
  clear hown hgr B1
  subst Htb
  go_wp2_with (first | (refine wpList_alloc_agg HZ0.out rfl rfl ?_) | (refine wpList_store_row rfl 49 _ _ rfl _ m rfl rfl 49 _ H0q.out HIm.out HZM.out H1m.out ?_) | fail)
  rw [hw2.out]
  go_wp2_with fail
  refine (CL.out _).mono ?_
  rintro e w' ⟨rfl, rfl⟩
  go_wp2
  obtain ⟨tb, Htb⟩ : ∃ tb, w1.heap.size = tb := ⟨_, rfl⟩
  rw [Htb] at htb HT3 HO3 hs2
  rw [Htb]
  clear hmk2 HT2 B2 H0q hw2 HZM H1m HIm HZ0 CL
  go_loopw [13] (fun i wr => ∃ I : Nat, I ≤ n ∧ i = .int .i64 (I : Int) ∧ Hid (wr.ownsRow w.heap.size 5 1 (.slice (some ⟨tb + 1, 0, none⟩) n n) n ((partTo L I).map (Value.int .u8))) ∧ Hid (wr.heap[tb]? = some (.cells m 49 (0, 0))) ∧ Hid (Below w.heap.size w wr)) (fun i _ => n - (intOf i).toNat)
  case atStart => exact ⟨0, Nat.zero_le _, rfl, HO3, HT3, B3⟩
  case round =>
    clear HO3 HT3 B3
    obtain ⟨I, hI, rfl, HO, HT, B⟩ := hrel
    by_cases hlt : I < n
    · have HAr := hid (HA.out.later fun a _ hx => (B.out.cell (World.block_lt_of_cell? w a hx)).trans hx)
      have C := hid (group_any wr _ l HAr.out I (by rw [Hn.out]; exact hlt) hbig)
      have hlv := lv_lt l I
      obtain ⟨x, Hx⟩ : ∃ x : Nat, Hid (lv l I = (x : Int)) := ⟨(lv l I).toNat, hid (by omega)⟩
      have HV : Hid (L.getD I 0 = ((alphN.getD x 0 : Nat) : Int)) := by
        rw [HLG.out I hlt, Hx.out]
        have := hlv.2
        rw [Hx.out] at this
        rw [alphN_alph x (by omega)]
        exact rfl
      rw [Hx.out] at C hlv
      have hx : x < 32 := by omega
      have q2 : wr.cell? ⟨tb, x, none⟩ = some (.int .u8 ((alphN.getD x 0 : Nat) : Int)) := by
        rw [cell_of_row wr tb x _ _ _ HT.out, ← Hm.out]
        exact cells8_get hx
      obtain ⟨y, HY⟩ : ∃ y : Int, Hid (((alphN.getD x 0 : Nat) : Int) = y) := ⟨_, rfl⟩
      rw [HY.out] at q2 HV
      have hcx := HO.out.cellAt I (by omega)
      have hfz := HO.out.frozenAt I
      obtain ⟨zz, hzz⟩ : ∃ zz, ((partTo L I).map (Value.int .u8))[I]? = some zz := ⟨_, List.getElem?_eq_getElem (by rw [List.length_map, partTo_length L I (by omega)]; omega)⟩
      rw [hzz] at hcx
      have HO2 : Hid ((wr.setCell ⟨tb + 1, I, none⟩ (.int .u8 y)).ownsRow w.heap.size 5 1 (.slice (some ⟨tb + 1, 0, none⟩) n n) n ((partTo L (I + 1)).map (Value.int .u8))) := by
        have h := (HO.out.stored I (.int .u8 y)).1
        rw [← List.map_set, ← HV.out, partTo_step L I (by omega)] at h
        rw [← HV.out]
        exact h
      have HT2 : Hid ((wr.setCell ⟨tb + 1, I, none⟩ (.int .u8 y)).heap[tb]? = some (.cells m 49 (0, 0))) := (heap_setCell_other wr ⟨tb + 1, I, none⟩ tb _ (by simp)).trans HT.out
      have B2 : Hid (Below w.heap.size w (wr.setCell ⟨tb + 1, I, none⟩ (.int .u8 y))) := B.out.setCell (p := ⟨tb + 1, I, none⟩) (by simp; omega) _
      clear hzz HO HT B HV hlv HAr
      go_wp2_with fail
      refine C.out.mono ?_
      rintro e w' ⟨rfl, q, rfl⟩
      clear C
      go_wp2
      exact ⟨⟨I + 1, by omega, by go_num, HO2, HT2, (B2.out.trans ((Dr.one _ _).below _))⟩, by simp [intOf]; omega⟩
    · have hI' : I = n := by omega
      have HF : Hid (wr.ownsRow w.heap.size 5 1 (.slice (some ⟨tb + 1, 0, none⟩) n n) L.length (L.map (Value.int .u8))) := by
        have := HO.out
        rw [hI', ← hLL, partTo_all] at this
        rw [← hLL]
        exact this
      have HH := hid (HB.of_own HF.out HLB.out)
      have hcv := conv_str HH.out
      clear hI' HO
      go_wp2
      go_ret
      exact ⟨rfl, B.out⟩
end Go.Proofs.YtmfamecadomipaaDoor
