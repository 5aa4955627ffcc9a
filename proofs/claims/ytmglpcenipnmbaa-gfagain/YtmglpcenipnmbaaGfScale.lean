/- gf.Scale and the document's, walked. -/
import Derived.Test.YtmglpcenipnmbaaGfDot
set_option linter.unusedSimpArgs false
set_option linter.unusedVariables false
namespace Go.Proofs.Ytmglpcenipnmbaa
open Go Go.RowKit

/-- A list times an element. -/
def scL (l : List Int) (b : Nat) : List Int := l.map fun x => ((prod x.toNat b : Nat) : Int)
theorem scL_length (l : List Int) (b : Nat) : (scL l b).length = l.length := by simp [scL]
theorem scL_get (l : List Int) (b k : Nat) (h : k < l.length) : (scL l b).getD k 0 = ((prod (gN l k) b : Nat) : Int) := by
  simp [scL, gN, List.getD, List.getElem?_eq_getElem h]
theorem scL_byt {l : List Int} (hl : ∀ x ∈ l, 0 ≤ x ∧ x < 256) (b : Nat) : ∀ x ∈ scL l b, 0 ≤ x ∧ x < 256 := by
  intro x hx
  obtain ⟨y, hy, rfl⟩ := List.mem_map.1 hx
  have := prod_lt (a := y.toNat) b (by have := hl y hy; omega)
  omega
/-- The first k of a list, and noughts. -/
def partTo (L : List Int) (k : Nat) : List Int := L.take k ++ List.replicate (L.length - k) 0
theorem partTo_length (L : List Int) (k : Nat) (h : k ≤ L.length) : (partTo L k).length = L.length := by simp [partTo]; omega
theorem partTo_step (L : List Int) (k : Nat) (h : k < L.length) : (partTo L k).set k (L.getD k 0) = partTo L (k + 1) := by
  unfold partTo
  rw [List.set_append_right _ _ (by rw [List.length_take]; omega), List.length_take, Nat.min_eq_left (Nat.le_of_lt h), Nat.sub_self, show L.length - k = (L.length - (k + 1)) + 1 by omega, List.replicate_succ, List.set_cons_zero, List.take_succ_eq_append_getElem h, getD_of_lt h, List.append_assoc]
  rfl
theorem partTo_all (L : List Int) : partTo L L.length = L := by simp [partTo]
theorem partTo_none (L : List Int) : partTo L 0 = List.replicate L.length 0 := by simp [partTo]

set_option maxRecDepth 100000 in
set_option maxHeartbeats 4000000 in
theorem scale_any (w : World) (v : Value) (l : List Int) (b : Nat) (h : HB w v l) (hb : b < 256) (hbig : l.length ≤ 140737488355328) :
    Calls Try.prog 30 #[v, .int .u8 (b : Int)] w fun e w' => ∃ v', e = .returned v' ∧ w'.ownsRow w.heap.size 5 1 v' (scL l b).length ((scL l b).map (Value.int .u8)) ∧ Below w.heap.size w w' := by
  obtain ⟨i0, hi, hz0, hz1, hz2⟩ := info_parts info_u8
  have HA := hid h
  obtain ⟨p, c, rfl, _, hc⟩ := h.open
  clear h
  unfold maxLen at hc
  obtain ⟨z, HZ⟩ : ∃ z, Hid (cells8 (zeros8 256) = z) := ⟨_, rfl⟩
  have hz := zero_b256
  rw [HZ.out] at hz
  have HZ0 := hid hz
  clear hz
  have C := hid (multiples_any w b hb)
  obtain ⟨M, HM⟩ : ∃ M, Hid (mulsL b = M) := ⟨_, rfl⟩
  have HML : Hid (M.length = 256) := by rw [← HM.out]; exact mulsL_length b
  have HMG : Hid (∀ i, i < 256 → M.getD i 0 = prod i b) := fun i hi => by rw [← HM.out]; exact mulsL_get b i hi
  rw [HM.out] at C
  obtain ⟨m, Hm⟩ : ∃ m, Hid (cells8 M = m) := ⟨_, rfl⟩
  rw [Hm.out] at C
  have hms : m.size = 256 := by rw [← Hm.out, cells8_size, HML.out]
  have HIm : Hid ((Try.prog.info? 61).map (·.size) = some m.size) := by rw [hms]; exact size_b256
  have H1m : Hid (m.all (·.oneCell') = true) := by rw [← Hm.out]; exact cells8_one _
  have HZM : Hid (z.size = m.size) := by rw [hms, ← HZ.out, cells8_size, zeros8_length]; exact rfl
  have HSZ : Hid (∀ w, Sem.run Try.prog (Go.sizeOf 5) w = .ok 1 w) := size_u8
  have hLL := scL_length l b
  obtain ⟨L, HL⟩ : ∃ L, Hid (scL l b = L) := ⟨_, rfl⟩
  have HLG : Hid (∀ k, k < l.length → L.getD k 0 = ((prod (gN l k) b : Nat) : Int)) := fun k hk => by rw [← HL.out]; exact scL_get l b k hk
  rw [HL.out] at hLL
  rw [HL.out]
  go_enter Try.func30, Try.ntmps30
  go_wp2_with fail
  refine C.out.mono ?_
  rintro e w1 ⟨rfl, hB1⟩
  have B1 := hid hB1
  clear hB1 C
  obtain ⟨tb, Htb⟩ : ∃ tb, tb = w1.heap.size := ⟨_, rfl⟩
  have H0q : Hid ((w1.alloc (.cells z 61)).heap[tb]? = some (.cells z 61 (0, 0))) := by rw [Htb]; exact heap_alloc_new w1 _
  obtain ⟨w2, hw2⟩ : ∃ w2, Hid ((w1.alloc (.cells z 61)).setRow tb m = w2) := ⟨_, rfl⟩
  have HT2 : Hid (w2.heap[tb]? = some (.cells m 61 (0, 0))) := by rw [← hw2.out]; exact setRow_heap _ _ _ _ _ _ H0q.out
  have htb : w.heap.size ≤ tb := by rw [Htb]; exact B1.out.size
  have B2 : Hid (Below w.heap.size w w2) := by rw [← hw2.out]; exact below_setRow (B1.out.alloc B1.out.size _) htb m
  have hs2 : w2.heap.size = tb + 1 := by rw [← hw2.out, Htb]; simp [World.setRow]
  obtain ⟨w3, hmk, hown, hgr⟩ := run_make_full (P := Try.prog) w2 w.heap.size 38 5 i0 (.int .u8 0) 1 Try.underlying38 hi hz0 hz1 .i64 .i64 l.length (by rw [hz2]; omega) (by unfold maxLen; omega) (by omega)
  have hmk2 : (Instr.makeSlice 38 (.int .i64 (l.length : Int)) (.int .i64 (l.length : Int))).run Try.prog w2 = .ok (.slice (some ⟨w2.heap.size, 0, none⟩) l.length l.length) w3 := hmk
  clear hmk
  rw [hs2] at hmk2 hown
  have B3 : Hid (Below w.heap.size w w3) := B2.out.grown hgr (by omega) (fun k e => by cases e)
  have HT3 : Hid (w3.heap[tb]? = some (.cells m 61 (0, 0))) := (hgr.block tb (by omega) (by simp)).trans HT2.out
  have HO3 : Hid (w3.ownsRow w.heap.size 5 1 (.slice (some ⟨tb + 1, 0, none⟩) l.length l.length) l.length ((partTo L 0).map (Value.int .u8))) := by
    have e : (madeCells (Value.int IntKind.u8 0).cells (l.length * 1)).toList = (partTo L 0).map (Value.int .u8) := by
      rw [show (Value.int IntKind.u8 0).cells = #[Value.int .u8 0] from rfl, toList_madeCells_one, partTo_none, hLL, List.map_replicate, Nat.mul_one]
    rw [← e]
    exact hown
  clear hown hgr B1
  subst Htb
  go_wp2_with (first | (refine wpList_alloc_agg HZ0.out rfl rfl ?_) | (refine wpList_store_row rfl 61 _ _ rfl _ m rfl rfl 61 _ H0q.out HIm.out HZM.out H1m.out ?_))
  rw [hw2.out]
  go_wp2
  rw [hmk2]
  go_wp2
  obtain ⟨tb, Htb⟩ : ∃ tb, w1.heap.size = tb := ⟨_, rfl⟩
  rw [Htb] at htb HT3 HO3 hs2
  rw [Htb]
  clear hmk2 HT2 B2 H0q hw2 HZM H1m HIm HZ0
  go_loopw [16] (fun i wr => ∃ I : Nat, I ≤ l.length ∧ i = .int .i64 (I : Int) ∧ Hid (wr.ownsRow w.heap.size 5 1 (.slice (some ⟨tb + 1, 0, none⟩) l.length l.length) l.length ((partTo L I).map (Value.int .u8))) ∧ Hid (wr.heap[tb]? = some (.cells m 61 (0, 0))) ∧ Hid (Below w.heap.size w wr)) (fun i _ => l.length - (intOf i).toNat)
  case atStart => exact ⟨0, Nat.zero_le _, rfl, HO3, HT3, B3⟩
  case round =>
    clear HO3 HT3 B3
    obtain ⟨I, hI, rfl, HO, HT, B⟩ := hrel
    by_cases hlt : I < l.length
    · obtain ⟨b1, o1, c1, e1, _, _, hc1⟩ := HA.out.ne (by omega)
      simp only [Value.slice.injEq] at e1
      obtain ⟨rfl, _, rfl⟩ := e1
      have q1 := (B.out.cell (World.block_lt_of_cell? w _ (hc1 I hlt))).trans (hc1 I hlt)
      obtain ⟨g1, l1⟩ := HA.out.gN I
      rw [g1] at q1
      have q2 : wr.cell? ⟨tb, gN l I, none⟩ = some (.int .u8 ((prod (gN l I) b : Nat) : Int)) := by
        rw [cell_of_row wr tb (gN l I) _ _ _ HT.out, ← Hm.out, ← HMG.out _ l1]
        exact cells8_get (by rw [HML.out]; exact l1)
      have HV : Hid (L.getD I 0 = ((prod (gN l I) b : Nat) : Int)) := HLG.out I hlt
      obtain ⟨x, HX⟩ : ∃ x, Hid (gN l I = x) := ⟨_, rfl⟩
      rw [HX.out] at q1 q2 HV l1
      obtain ⟨y, HY⟩ : ∃ y, Hid (prod x b = y) := ⟨_, rfl⟩
      rw [HY.out] at q2 HV
      have hcx := HO.out.cellAt I (by omega)
      have hfz := HO.out.frozenAt I
      obtain ⟨zz, hzz⟩ : ∃ zz, ((partTo L I).map (Value.int .u8))[I]? = some zz := ⟨_, List.getElem?_eq_getElem (by rw [List.length_map, partTo_length L I (by omega)]; omega)⟩
      rw [hzz] at hcx
      have HO2 : Hid ((wr.setCell ⟨tb + 1, I, none⟩ (.int .u8 (y : Int))).ownsRow w.heap.size 5 1 (.slice (some ⟨tb + 1, 0, none⟩) l.length l.length) l.length ((partTo L (I + 1)).map (Value.int .u8))) := by
        have h := (HO.out.stored I (.int .u8 (y : Int))).1
        rw [← List.map_set, ← HV.out, partTo_step L I (by omega)] at h
        rw [← HV.out]
        exact h
      have HT2 : Hid ((wr.setCell ⟨tb + 1, I, none⟩ (.int .u8 (y : Int))).heap[tb]? = some (.cells m 61 (0, 0))) := (heap_setCell_other wr ⟨tb + 1, I, none⟩ tb _ (by simp)).trans HT.out
      have B2 : Hid (Below w.heap.size w (wr.setCell ⟨tb + 1, I, none⟩ (.int .u8 (y : Int)))) := B.out.setCell (p := ⟨tb + 1, I, none⟩) (by simp; omega) _
      clear hzz hc1 g1 HO HT B HV
      go_wp2
      exact ⟨⟨I + 1, by omega, by go_num, HO2, HT2, B2⟩, by simp [intOf]; omega⟩
    · have hI' : I = l.length := by omega
      have HF : Hid (wr.ownsRow w.heap.size 5 1 (.slice (some ⟨tb + 1, 0, none⟩) l.length l.length) L.length (L.map (Value.int .u8))) := by
        have := HO.out
        rw [hI', ← hLL, partTo_all] at this
        rw [← hLL]
        exact this
      clear hI' HO
      go_wp2
      go_ret
      exact ⟨_, rfl, HF.out, B.out⟩
end Go.Proofs.Ytmglpcenipnmbaa
