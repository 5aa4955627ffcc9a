/- The document's plain, digit, Escape, walked. -/
import Derived.Test.YtcgecflebplgaaaBsEsc
set_option linter.unusedSimpArgs false
set_option linter.unusedVariables false
namespace Go.Proofs.Ytcgecflebplgaaa
open Go Go.RowKit

set_option maxRecDepth 100000 in
set_option maxHeartbeats 4000000 in
theorem plain_any (w : World) (c : Nat) (h : c < 256) : Calls Try.prog 35 #[.int .u8 (c : Int)] w fun e w' => e = .returned (.bool (decide (plN c))) ∧ w' = w := by
  have F : ∀ b : Bool, (b = true ↔ plN c) → Hid (b = decide (plN c)) := fun b hb => by
    refine hid ?_
    rw [Bool.eq_iff_iff, hb]
    simp
  go_enter Try.func35, Try.ntmps35
  go_wp2
  all_goals go_ret
  all_goals refine ⟨congrArg (fun b => Ending.returned (Value.bool b)) (F _ ?_).out, rfl⟩
  all_goals unfold plN
  all_goals simp
  all_goals omega
theorem hx_none (c : Int) (h : ∀ j, j < 16 → hexL.getD j 0 ≠ c) : hx c = -1 := by
  apply Classical.byContradiction
  intro hn
  have h1 := hx_lt c
  exact h (hx c).toNat (by omega) (hexL_hx c (by omega))
set_option maxRecDepth 100000 in
set_option maxHeartbeats 1000000 in
theorem digit_any (w : World) (c : Int) (hc : 0 ≤ c ∧ c < 256) : Calls Try.prog 36 #[.int .u8 c] w fun e w' => e = .returned (.int .i64 (hx c)) ∧ w' = w := by
  go_enter Try.func36, Try.ntmps36
  go_wp2
  go_loopw [3] (fun i wr => ∃ I : Nat, I ≤ 16 ∧ i = .int .i64 (I : Int) ∧ Hid (∀ j, j < I → hexL.getD j 0 ≠ c) ∧ wr = w) (fun i _ => 16 - (intOf i).toNat)
  case atStart => exact ⟨0, by omega, rfl, hid (fun j hj => by omega), rfl⟩
  case round =>
    obtain ⟨I, hI, rfl, HN, rfl⟩ := hrel
    by_cases hlt : I < 16
    · have q3 := idx_hex wr .i64 (I : Int) (by omega) (by omega)
      rw [Int.toNat_natCast] at q3
      have HV := hid (hx_hexL I hlt)
      obtain ⟨y, Hy⟩ : ∃ y, Hid (hexL.getD I 0 = y) := ⟨_, rfl⟩
      rw [Hy.out] at q3 HV
      by_cases he : y = c
      · subst he
        go_wp2
        go_ret
        exact ⟨by rw [HV.out]; rfl, rfl⟩
      · have hne : (y == c) = false := by simpa using he
        have HN2 : Hid (∀ j, j < I + 1 → hexL.getD j 0 ≠ c) := by
          refine hid fun j hj => ?_
          by_cases hji : j < I
          · exact HN.out j hji
          · have : j = I := by omega
            subst this
            rw [Hy.out]
            exact he
        go_wp2
        exact ⟨⟨I + 1, by omega, by go_num, HN2, trivial⟩, by simp [intOf]; omega⟩
    · have hv : hx c = -1 := hx_none c (fun j hj => HN.out j (by omega))
      have HV := hid hv
      clear hv
      go_wp2
      go_ret
      exact ⟨by rw [HV.out]; rfl, rfl⟩
set_option maxRecDepth 100000 in
set_option maxHeartbeats 8000000 in
theorem rescape_any (w : World) (v : Value) (l : List Int) (h : HB w v l) (hbig : l.length ≤ 46912496118442) :
    Calls Try.prog 22 #[v] w fun e w' => e = .returned (.string (bS (escL l))) ∧ Below w.heap.size w w' := by
  obtain ⟨i0, hi, hz0, hz1, hz2⟩ := info_parts info_u8
  have HA := hid h
  obtain ⟨p, c, rfl, hlc, hc⟩ := h.open
  unfold maxLen at hc
  by_cases hl0 : l.length = 0
  · have e0 : l = [] := List.length_eq_zero_iff.1 hl0
    have E : Hid (bS (escL l) = ⟨#[37]⟩) := by rw [e0]; exact rfl
    clear h
    rw [hl0]
    go_enter Try.func22, Try.ntmps22
    go_wp2
    go_ret
    exact ⟨by rw [E.out]; rfl, Below.refl _ _⟩
  · have E : Hid (escL l = escB l) := by unfold escL; rw [if_neg (fun e => hl0 (by rw [e]; rfl))]; exact rfl
    rw [E.out]
    obtain ⟨R, HR⟩ : ∃ R, Hid (escB l = R) := ⟨_, rfl⟩
    have HRB : Hid (Byt8 R) := by rw [← HR.out]; exact escB_byt h.2
    rw [HR.out]
    clear h
    have hb0 : ((l.length : Int) == 0) = false := by
      rw [beq_eq_false_iff_ne]
      omega
    go_enter Try.func22, Try.ntmps22
    go_wp2
    go_loopw [3, 4] (fun o i wr => ∃ I : Nat, I ≤ l.length ∧ i = .int .i64 (I : Int) ∧ Hid (wr.ownsRow w.heap.size 5 1 o (escB (l.take I)).length ((escB (l.take I)).map (Value.int .u8))) ∧ Hid (Below w.heap.size w wr)) (fun _ i _ => l.length - (intOf i).toNat)
    case atStart => exact ⟨0, Nat.zero_le _, rfl, World.ownsRow_nil _ _ _ _, Below.refl _ _⟩
    case round =>
      obtain ⟨I, hI, rfl, HO, B⟩ := hrel
      by_cases hlt : I < l.length
      · obtain ⟨b1, o1, c1, e1, _, _, hc1⟩ := HA.out.ne (by omega)
        simp only [Value.slice.injEq] at e1
        obtain ⟨rfl, _, rfl⟩ := e1
        have q1 := (B.out.cell (World.block_lt_of_cell? w _ (hc1 I hlt))).trans (hc1 I hlt)
        obtain ⟨hx0, hx1⟩ := HA.out.byte I
        have HST := hid (escB_take l I hlt)
        have hlen := escB_len (l.take I)
        rw [List.length_take, Nat.min_eq_left (Nat.le_of_lt hlt)] at hlen
        obtain ⟨x, Hx⟩ : ∃ x : Nat, Hid (l.getD I 0 = (x : Int)) := ⟨(l.getD I 0).toNat, hid (by omega)⟩
        rw [Hx.out] at q1 hx0 hx1 HST
        have hxl : x < 256 := by omega
        have hsz := B.out.size
        obtain ⟨A, HAA⟩ : ∃ A, Hid (escB (l.take I) = A) := ⟨_, rfl⟩
        rw [HAA.out] at HO hlen HST
        obtain ⟨pO, cO, eO⟩ := own_slc HO.out
        subst eO
        clear hc1
        have CP := plain_any wr x hxl
        by_cases hpl : plN x
        · rw [decide_eq_true hpl] at CP
          have CP := hid CP
          have HS2 : Hid (escB (l.take (I + 1)) = A ++ [(x : Int)]) := by
            rw [HST.out]
            unfold esc1
            rw [Int.toNat_natCast, if_pos hpl]
            exact rfl
          clear hpl
          go_wp2_with fail
          refine CP.out.mono ?_
          rintro e w' ⟨rfl, hw⟩
          have hw' := hw.symm
          subst hw'
          clear hw CP
          go_wp2_with (at_builtin; refine wpList_append_byte rfl _ _ rfl w.heap.size _ A.length _ rfl (HO.out.alloc _) ⟨wr.heap.size, 0, none⟩ 1 (x : Int) rfl (by simp) ?q1 ?q2 ?_)
          case q1 => omega
          case q2 => simp; omega
          intro v' w4 hown4 hgr4 hor4
          clear hor4
          have HO4 : Hid (w4.ownsRow w.heap.size 5 1 v' (escB (l.take (I + 1))).length ((escB (l.take (I + 1))).map (Value.int .u8))) := by
            rw [HS2.out, List.map_append, List.length_append]
            exact hown4
          have B4 := hid ((B.out.alloc B.out.size _).grown hgr4 (by simp; omega) (fun k e => (HO.out.lt k e).1))
          clear hown4 hgr4
          obtain ⟨n4, Hn4⟩ : ∃ n, Hid ((escB (l.take (I + 1))).length = n) := ⟨_, rfl⟩
          clear HAA hlen HST
          go_wp2
          exact ⟨⟨I + 1, by omega, by go_num, HO4, B4⟩, by simp [intOf]; omega⟩
        · rw [decide_eq_false hpl] at CP
          have CP := hid CP
          have hw1 : IntKind.u8.wrap ((x : Int) / 16) = (x : Int) / 16 := by rw [IntKind.wrap_u8]; omega
          have hmod : (x : Int).tmod 16 = (x : Int) % 16 := Int.tmod_eq_emod_of_nonneg (by omega)
          have hw2 : IntKind.u8.wrap ((x : Int) % 16) = (x : Int) % 16 := by rw [IntKind.wrap_u8]; omega
          have a1 := fun W => idx_hex W .u8 ((x : Int) / 16) (by omega) (by omega)
          have a2 := fun W => idx_hex W .u8 ((x : Int) % 16) (by omega) (by omega)
          have HS2 : Hid (escB (l.take (I + 1)) = A ++ [37, hexL.getD ((x : Int) / 16).toNat 0, hexL.getD ((x : Int) % 16).toNat 0]) := by
            rw [HST.out]
            unfold esc1
            rw [Int.toNat_natCast, if_neg hpl, show ((x : Int) / 16).toNat = x / 16 by omega, show ((x : Int) % 16).toNat = x % 16 by omega]
            exact rfl
          obtain ⟨y1, Hy1⟩ : ∃ y, Hid (hexL.getD ((x : Int) / 16).toNat 0 = y) := ⟨_, rfl⟩
          obtain ⟨y2, Hy2⟩ : ∃ y, Hid (hexL.getD ((x : Int) % 16).toNat 0 = y) := ⟨_, rfl⟩
          simp only [Hy1.out] at a1
          simp only [Hy2.out] at a2
          rw [Hy1.out, Hy2.out] at HS2
          have FIN : Hid (∀ gO cO3 w4, w4.ownsRow w.heap.size 5 1 (.slice (some ⟨gO, 0, none⟩) (A.length + 3) cO3) (A.length + 3) ((A.map (Value.int .u8)) ++ [.int .u8 37, .int .u8 y1, .int .u8 y2]) → ((wr.alloc (.cells #[.int .u8 37, .int .u8 y1, .int .u8 y2] 5)).drew).grownBy w4 (Value.ownBlock (.slice pO A.length cO)) →
              w4.ownsRow w.heap.size 5 1 (.slice (some ⟨gO, 0, none⟩) (A.length + 3) cO3) (escB (l.take (I + 1))).length ((escB (l.take (I + 1))).map (Value.int .u8)) ∧ Below w.heap.size w w4) := by
            refine hid fun gO cO3 w4 h1 h2 => ?_
            have hb0 := B.out.alloc hsz (.cells #[.int .u8 37, .int .u8 y1, .int .u8 y2] 5)
            have hb1 : Below w.heap.size w ((wr.alloc (.cells #[.int .u8 37, .int .u8 y1, .int .u8 y2] 5)).drew) := ⟨hb0.os, hb0.tape, hb0.output, hb0.size, hb0.block⟩
            exact ⟨by rw [HS2.out, List.map_append, List.length_append]; exact h1, hb1.grown h2 hb1.size (fun k e => (HO.out.lt k e).1)⟩
          clear hpl
          go_wp2_with fail
          refine CP.out.mono ?_
          rintro e w' ⟨rfl, hw⟩
          have hw' := hw.symm
          subst hw'
          clear hw CP
          go_wp2
          go_region_law
            ((refine step_append_lies _ (by rfl) _ _ _ (by rfl) w.heap.size 5 i0 _ 1 1 Try.underlying22 hi hz0 hz1 hz2 rfl (by omega) (.slice pO A.length cO) A.length _ (by rfl) ((HO.out.alloc _).drew)
                  ⟨wr.heap.size, 0, none⟩ 3 3 [.int .u8 37, .int .u8 y1, .int .u8 y2] (by rfl) (by rfl) (World.news_of_block (cs := #[.int .u8 37, .int .u8 y1, .int .u8 y2]) (t := 5) (fr := (0, 0)) (heap_alloc_new wr _)) (by simp [Value.oneCell'])
                  (by omega) (by unfold maxLen; omega) (by omega) (by simp; omega) (wr.heap.size + 1) (by simp) ?_; intro gO cO3 w3 hown3 hgrow hat hlt3))
          all_goals go_wp2
          all_goals exact ⟨⟨I + 1, by omega, by go_num, (FIN.out gO cO3 w3 hown3 hgrow).1, (FIN.out gO cO3 w3 hown3 hgrow).2⟩, by simp [intOf]; omega⟩
      · have hI' : I = l.length := by omega
        have HF : Hid (HB wr u3 R) := by
          refine hid (HB.of_own (B := w.heap.size) (e := 5) ?_ HRB.out)
          have := HO.out
          rw [hI', List.take_of_length_le (Nat.le_refl _), HR.out] at this
          exact this
        have hcv := conv_str HF.out
        clear hI' HO
        go_wp2
        go_ret
        exact ⟨rfl, B.out⟩
end Go.Proofs.Ytcgecflebplgaaa
