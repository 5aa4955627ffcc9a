/- The document's Scale of layer 6, walked. -/
import Derived.Test.YtmglpcenipnmbaaGfScale
import Derived.Test.YtmglpcenipnmbaaMarks
set_option linter.unusedSimpArgs false
set_option linter.unusedVariables false
namespace Go.Proofs.Ytmglpcenipnmbaa
open Go Go.RowKit

set_option maxRecDepth 100000 in
set_option maxHeartbeats 4000000 in
theorem rscale_any (w : World) (v : Value) (l : List Int) (b : Nat) (h : HB w v l) (hb : b < 256) (hbig : l.length ≤ 140737488351232) :
    Calls Try.prog 34 #[v, .int .u8 (b : Int)] w fun e w' => ∃ v', e = .returned v' ∧ w'.ownsRow w.heap.size 5 1 v' (scL l b).length ((scL l b).map (Value.int .u8)) ∧ Below w.heap.size w w' := by
  have HA := hid h
  obtain ⟨p, c, rfl, _, hc⟩ := h.open
  clear h
  unfold maxLen at hc
  have hLL := scL_length l b
  obtain ⟨L, HL⟩ : ∃ L, Hid (scL l b = L) := ⟨_, rfl⟩
  have HLG : Hid (∀ k, k < l.length → L.getD k 0 = ((prod (gN l k) b : Nat) : Int)) := fun k hk => by rw [← HL.out]; exact scL_get l b k hk
  rw [HL.out] at hLL
  rw [HL.out]
  go_enter Try.func34, Try.ntmps34
  go_wp2
  go_loopw [5, 6] (fun o i wr => ∃ I : Nat, I ≤ l.length ∧ i = .int .i64 (I : Int) ∧ Hid (wr.ownsRow w.heap.size 5 1 o I ((L.take I).map (Value.int .u8))) ∧ Hid (Below w.heap.size w wr)) (fun _ i _ => l.length - (intOf i).toNat)
  case atStart => exact ⟨0, Nat.zero_le _, rfl, World.ownsRow_nil _ _ _ _, Below.refl _ _⟩
  case round =>
    obtain ⟨I, hI, rfl, HO, HBw⟩ := hrel
    by_cases hlt : I < l.length
    · obtain ⟨b1, o1, c1, e1, _, _, hc1⟩ := HA.out.ne (by omega)
      simp only [Value.slice.injEq] at e1
      obtain ⟨rfl, _, rfl⟩ := e1
      have q1 := (HBw.out.cell (World.block_lt_of_cell? w _ (hc1 I hlt))).trans (hc1 I hlt)
      obtain ⟨g1, l1⟩ := HA.out.gN I
      rw [g1] at q1
      have HV : Hid (L.getD I 0 = ((prod (gN l I) b : Nat) : Int)) := HLG.out I hlt
      have C := hid (rmul_any wr (gN l I) b l1 hb)
      obtain ⟨x, HX⟩ : ∃ x, Hid (gN l I = x) := ⟨_, rfl⟩
      rw [HX.out] at q1 HV l1 C
      obtain ⟨y, HY⟩ : ∃ y, Hid (prod x b = y) := ⟨_, rfl⟩
      rw [HY.out] at HV C
      have HS : Hid (L.take (I + 1) = L.take I ++ [(y : Int)]) := by
        rw [List.take_succ_eq_append_getElem (by omega), ← getD_of_lt (by omega), HV.out]
        exact rfl
      clear hc1 g1 HV
      go_wp2_with fail
      refine C.out.mono ?_
      rintro e w' ⟨rfl, hw⟩
      have hw' := hw.symm
      subst hw'
      clear hw C
      go_wp2_with (at_builtin; refine wpList_append_byte rfl _ _ rfl w.heap.size _ I _ rfl (HO.out.alloc _) ⟨wr.heap.size, 0, none⟩ 1 (y : Int) rfl (by simp) ?q1 ?q2 ?_)
      case q1 => omega
      case q2 => have := HBw.out.size; simp; omega
      intro v' w2 hown2 hgr2 _
      have HO2 : Hid (w2.ownsRow w.heap.size 5 1 v' (I + 1) ((L.take (I + 1)).map (Value.int .u8))) := by
        rw [HS.out, List.map_append, List.map_take]
        exact hown2
      have HB2 := hid ((HBw.out.alloc HBw.out.size _).grown hgr2 (by have := HBw.out.size; simp; omega) (fun k e => (HO.out.lt k e).1))
      clear hown2 hgr2
      go_wp2
      exact ⟨⟨I + 1, by omega, by go_num, HO2, HB2⟩, by simp [intOf]; omega⟩
    · have hI' : I = l.length := by omega
      have HF : Hid (wr.ownsRow w.heap.size 5 1 u5 L.length (L.map (Value.int .u8))) := by
        have := HO.out
        rw [hI', ← hLL, List.take_of_length_le (Nat.le_refl _)] at this
        exact this
      clear hI' HO
      go_wp2
      go_ret
      exact ⟨_, rfl, HF.out, HBw.out⟩
end Go.Proofs.Ytmglpcenipnmbaa
