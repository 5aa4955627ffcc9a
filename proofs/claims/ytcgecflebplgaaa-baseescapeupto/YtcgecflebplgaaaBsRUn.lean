/- The document's Unescape, walked. -/
import Derived.Test.YtcgecflebplgaaaBsREsc
import Derived.OwnWalk
set_option linter.unusedSimpArgs false
set_option linter.unusedVariables false
namespace Go.Proofs.Ytcgecflebplgaaa
open Go Go.RowKit

theorem idx_str1 (w : World) (s : ByteArray) (i : Nat) (h : i + 1 < s.size) : (Instr.index 9 (.string s) (.int .i64 ((i : Int) + 1))).run Try.prog w = .ok (.int .u8 ((sB s).getD (i + 1) 0)) w := by
  have := idx_str w s (i + 1) h
  rwa [Int.natCast_add] at this
theorem idx_str2 (w : World) (s : ByteArray) (i : Nat) (h : i + 2 < s.size) : (Instr.index 9 (.string s) (.int .i64 ((i : Int) + 2))).run Try.prog w = .ok (.int .u8 ((sB s).getD (i + 2) 0)) w := by
  have := idx_str w s (i + 2) h
  rwa [Int.natCast_add] at this
theorem s_nil {s : ByteArray} (h : s.size = 0) : sB s = [] := List.length_eq_zero_iff.1 (by rw [sB_length]; exact h)
/-- A text held against a constant. -/
theorem eq_const (s : ByteArray) (l : List UInt8) : (s.toList == l) = decide (sB s = l.map fun b => (b.toNat : Int)) := by
  have := eq_iff_sB s ⟨l.toArray⟩
  have e : (⟨l.toArray⟩ : ByteArray).toList = l := by rw [ByteArray.toList_eq]
  rw [e] at this
  rw [this]
  congr 1

set_option maxRecDepth 100000 in
set_option maxHeartbeats 8000000 in
theorem runescape_any (w : World) (s : ByteArray) (hs : s.size ≤ 140737488351232) :
    Calls Try.prog 20 #[.string s] w fun e w' => ∃ v', e = .returned (.tuple #[v', .int .i64 (unA (sB s)).2.1, .int .i64 (unA (sB s)).2.2]) ∧ w'.ownsRow w.heap.size 5 1 v' (unA (sB s)).1.length ((unA (sB s)).1.map (Value.int .u8)) ∧ Below w.heap.size w w' := by
  have hby := sB_byt s
  have hq37 := eq_const s [37]
  have hq0 := eq_const s []
  have HI0 : Hid (∀ W i, i < s.size → (Instr.index 9 (.string s) (.int .i64 (i : Int))).run Try.prog W = .ok (.int .u8 ((sB s).getD i 0)) W) := hid fun W i h => idx_str W s i h
  have HI1 : Hid (∀ W i, i + 1 < s.size → (Instr.index 9 (.string s) (.int .i64 ((i : Int) + 1))).run Try.prog W = .ok (.int .u8 ((sB s).getD (i + 1) 0)) W) := hid fun W i h => idx_str1 W s i h
  have HI2 : Hid (∀ W i, i + 2 < s.size → (Instr.index 9 (.string s) (.int .i64 ((i : Int) + 2))).run Try.prog W = .ok (.int .u8 ((sB s).getD (i + 2) 0)) W) := hid fun W i h => idx_str2 W s i h
  have hll : (sB s).length = s.size := sB_length s
  obtain ⟨l, Hl⟩ : ∃ l, Hid (sB s = l) := ⟨_, rfl⟩
  rw [Hl.out] at hby hll HI0 HI1 HI2 hq37 hq0
  rw [Hl.out]
  have HBY := hid hby
  have HLL := hid hll
  clear hby hll
  by_cases h37 : l = [37]
  · have E : Hid (unA l = ([], 0, 0)) := by unfold unA; rw [if_neg (by rw [h37]; simp), if_pos h37]; exact rfl
    have hq : (s.toList == [37]) = true := by rw [hq37, h37]; rfl
    clear hq37 hq0 h37
    go_enter Try.func20, Try.ntmps20
    go_wp2
    go_ret3
    refine ⟨.slice none 0 0, by rw [E.out]; rfl, ?_, Below.refl _ _⟩
    rw [E.out]
    exact World.ownsRow_nil _ _ _ _
  have hq : (s.toList == [37]) = false := by rw [hq37]; exact decide_eq_false h37
  by_cases h0 : l = []
  · have E : Hid (unA l = ([], 0, 103)) := by unfold unA; rw [if_pos h0]; exact rfl
    have hqe : s.toList = [] := by
      have : (s.toList == []) = true := by rw [hq0, h0]; rfl
      simpa using this
    clear hq37 hq0 h37 h0
    go_enter Try.func20, Try.ntmps20
    go_wp2
    go_ret3
    refine ⟨.slice none 0 0, by rw [E.out]; rfl, ?_, Below.refl _ _⟩
    rw [E.out]
    exact World.ownsRow_nil _ _ _ _
  have hqe : s.toList.isEmpty = false := by
    have : (s.toList == []) = false := by rw [hq0]; exact decide_eq_false h0
    cases hsl : s.toList with
    | nil => rw [hsl] at this; simp at this
    | cons a b => rfl
  have UI := hid (UnI.start h0 h37)
  clear hq37 hq0 h37 h0
  have CP : Hid (∀ W (c : Nat), c < 256 → Calls Try.prog 35 #[.int .u8 (c : Int)] W fun e w' => e = .returned (.bool (decide (plN c))) ∧ w' = W) := hid plain_any
  have CD : Hid (∀ W (c : Int), 0 ≤ c ∧ c < 256 → Calls Try.prog 36 #[.int .u8 c] W fun e w' => e = .returned (.int .i64 (hx c)) ∧ w' = W) := hid digit_any
  go_enter Try.func20, Try.ntmps20
  go_wp2
  go_loopw [5, 6] (fun o i wr => ∃ I : Nat, ∃ A : List Int, I ≤ s.size + 2 ∧ A.length ≤ I ∧ i = .int .i64 (I : Int) ∧ Hid (UnI l I A) ∧ Hid (wr.ownsRow w.heap.size 5 1 o A.length (A.map (Value.int .u8))) ∧ Hid (Below w.heap.size w wr)) (fun _ i _ => s.size + 3 - (intOf i).toNat)
  case atStart => exact ⟨0, [], Nat.zero_le _, Nat.le_refl _, rfl, UI, World.ownsRow_nil _ _ _ _, Below.refl _ _⟩
  case round =>
    clear UI
    obtain ⟨I, A, hI, hAI, rfl, UI, HO, B⟩ := hrel
    by_cases hlt : I < s.size
    · have hIl : I < l.length := by rw [HLL.out]; exact hlt
      have hsz := B.out.size
      have q0 := fun W => HI0.out W I hlt
      obtain ⟨hc0, hc1⟩ := getD_byt HBY.out I
      obtain ⟨c, Hc⟩ : ∃ c : Nat, Hid (l.getD I 0 = (c : Int)) := ⟨(l.getD I 0).toNat, hid (by omega)⟩
      simp only [Hc.out] at q0
      rw [Hc.out] at hc0 hc1
      have CPc := CP.out wr c (by omega)
      have STEP := hid (UI.out.step hIl)
      have BAD := hid (UI.out.bad hIl)
      clear hIl
      by_cases hpl : plN c
      · have HK : Hid (unOk l I) := Or.inl (by rw [Hc.out, Int.toNat_natCast]; exact hpl)
        have HN : Hid (unN l I = 1) := by unfold unN; rw [Hc.out, Int.toNat_natCast, if_pos hpl]; exact rfl
        have HBv : Hid (unB l I = (c : Int)) := by unfold unB; rw [Hc.out, Int.toNat_natCast, if_pos hpl]; exact rfl
        have UI2 := hid (STEP.out HK.out)
        rw [HN.out, HBv.out] at UI2
        rw [decide_eq_true hpl] at CPc
        have CPh := hid CPc
        clear CPc hpl
        go_wp2_with fail
        refine CPh.out.mono ?_
        rintro e w' ⟨rfl, hw⟩
        have hw' := hw.symm
        subst hw'
        clear hw CPh
        go_wp2_with (at_builtin; refine wpList_append_byte rfl _ _ rfl w.heap.size _ A.length _ rfl (HO.out.alloc _) ⟨wr.heap.size, 0, none⟩ 1 (c : Int) rfl (by simp) ?q1 ?q2 ?_)
        case q1 => omega
        case q2 => simp; omega
        intro v' w4 hown4 hgr4 _
        have HO4 : Hid (w4.ownsRow w.heap.size 5 1 v' (A ++ [(c : Int)]).length ((A ++ [(c : Int)]).map (Value.int .u8))) := by
          rw [List.map_append, List.length_append]
          exact hown4
        have B4 := hid ((B.out.alloc B.out.size _).grown hgr4 (by simp; omega) (fun k e => (HO.out.lt k e).1))
        clear hown4 hgr4
        go_wp2
        exact ⟨⟨I + 1, A ++ [(c : Int)], by omega, by simp; omega, by go_num, UI2, HO4, B4⟩, by simp [intOf]; omega⟩
      · rw [decide_eq_false hpl] at CPc
        have CPh := hid CPc
        have HPL := hid hpl
        clear CPc hpl
        go_wp2_with fail
        refine CPh.out.mono ?_
        rintro e w' ⟨rfl, hw⟩
        have hw' := hw.symm
        subst hw'
        clear hw CPh
        by_cases h37 : c = 37
        · subst h37
          have hb37 : (((37 : Nat) : Int) != 37) = false := by decide
          by_cases hin : I + 2 < s.size
          · have q1 := fun W => HI1.out W I (by omega)
            have q2 := fun W => HI2.out W I hin
            have hd1 := hx_lt (l.getD (I + 1) 0)
            have hd2 := hx_lt (l.getD (I + 2) 0)
            have HNOK : Hid (unOk l I ↔ (0 ≤ hx (l.getD (I + 1) 0) ∧ 0 ≤ hx (l.getD (I + 2) 0) ∧ ¬ plN (16 * hx (l.getD (I + 1) 0) + hx (l.getD (I + 2) 0)).toNat)) := by
              refine hid ⟨fun h => ?_, fun h => Or.inr ⟨Hc.out, by rw [HLL.out]; exact hin, h.1, h.2.1, h.2.2⟩⟩
              rcases h with h | ⟨_, _, h1, h2, h3⟩
              · rw [Hc.out] at h; exact absurd h HPL.out
              · exact ⟨h1, h2, h3⟩
            have HN : Hid (unN l I = 3) := by unfold unN; rw [Hc.out, Int.toNat_natCast, if_neg HPL.out]; exact rfl
            have HBv : Hid (unB l I = 16 * hx (l.getD (I + 1) 0) + hx (l.getD (I + 2) 0)) := by unfold unB; rw [Hc.out, Int.toNat_natCast, if_neg HPL.out]; exact rfl
            have CD1 : Hid (∀ W, Calls Try.prog 36 #[.int .u8 (l.getD (I + 1) 0)] W fun e w' => e = .returned (.int .i64 (hx (l.getD (I + 1) 0))) ∧ w' = W) := hid fun W => CD.out W _ (getD_byt HBY.out _)
            have CD2 : Hid (∀ W, Calls Try.prog 36 #[.int .u8 (l.getD (I + 2) 0)] W fun e w' => e = .returned (.int .i64 (hx (l.getD (I + 2) 0))) ∧ w' = W) := hid fun W => CD.out W _ (getD_byt HBY.out _)
            obtain ⟨d1, Hd1⟩ : ∃ d, Hid (hx (l.getD (I + 1) 0) = d) := ⟨_, rfl⟩
            obtain ⟨d2, Hd2⟩ : ∃ d, Hid (hx (l.getD (I + 2) 0) = d) := ⟨_, rfl⟩
            rw [Hd1.out] at hd1 HNOK HBv CD1
            rw [Hd2.out] at hd2 HNOK HBv CD2
            obtain ⟨c1, Hc1⟩ : ∃ c, Hid (l.getD (I + 1) 0 = c) := ⟨_, rfl⟩
            obtain ⟨c2, Hc2⟩ : ∃ c, Hid (l.getD (I + 2) 0 = c) := ⟨_, rfl⟩
            simp only [Hc1.out] at q1
            simp only [Hc2.out] at q2
            rw [Hc1.out] at CD1
            rw [Hc2.out] at CD2
            by_cases hn1 : d1 < 0
            · have E := hid (BAD.out fun h => by have := HNOK.out.1 h; omega)
              go_wp2_with fail
              refine (CD1.out wr).mono ?_
              rintro e w' ⟨rfl, hw⟩
              have hw' := hw.symm
              subst hw'
              clear hw
              go_wp2
              go_ret3
              refine ⟨.slice none 0 0, by rw [E.out]; rfl, ?_, B.out⟩
              rw [E.out]
              exact World.ownsRow_nil _ _ _ _
            · by_cases hn2 : d2 < 0
              · have E := hid (BAD.out fun h => by have := HNOK.out.1 h; omega)
                go_wp2_with fail
                refine (CD1.out wr).mono ?_
                rintro e w' ⟨rfl, hw⟩
                have hw' := hw.symm
                subst hw'
                clear hw
                go_wp2_with fail
                refine (CD2.out wr).mono ?_
                rintro e w' ⟨rfl, hw⟩
                have hw' := hw.symm
                subst hw'
                clear hw
                go_wp2
                go_ret3
                refine ⟨.slice none 0 0, by rw [E.out]; rfl, ?_, B.out⟩
                rw [E.out]
                exact World.ownsRow_nil _ _ _ _
              · have hv0 : 0 ≤ 16 * d1 + d2 := by omega
                have hv1 : 16 * d1 + d2 < 256 := by omega
                obtain ⟨y, Hy⟩ : ∃ y : Nat, Hid (16 * d1 + d2 = (y : Int)) := ⟨(16 * d1 + d2).toNat, hid (by omega)⟩
                have hyl : y < 256 := by have := Hy.out; omega
                go_wp2_with fail
                refine (CD1.out wr).mono ?_
                rintro e w' ⟨rfl, hw⟩
                have hw' := hw.symm
                subst hw'
                clear hw
                go_wp2_with fail
                refine (CD2.out wr).mono ?_
                rintro e w' ⟨rfl, hw⟩
                have hw' := hw.symm
                subst hw'
                clear hw
                go_wp2
                go_quiet ((go_at_call 36; first | with_reducible exact Calls.quiet_of_same (CD1.out _) | with_reducible exact Calls.quiet_of_same (CD2.out _)))
                rw [Hy.out]
                have HNY : Hid (unOk l I ↔ ¬ plN y) := by
                  rw [HNOK.out, Hy.out, Int.toNat_natCast]
                  exact hid ⟨fun h => h.2.2, fun h => ⟨by omega, by omega, h⟩⟩
                rw [Hy.out] at HBv
                have CPy := fun W => CP.out W y hyl
                by_cases hpy : plN y
                · have E := hid (BAD.out fun h => HNY.out.1 h hpy)
                  simp only [decide_eq_true hpy] at CPy
                  have CPh := hid CPy
                  clear CPy hpy
                  go_wp2_with fail
                  refine (CPh.out _).mono ?_
                  rintro e w' ⟨rfl, hw⟩
                  have hw' := hw.symm
                  subst hw'
                  clear hw CPh
                  go_wp2
                  go_ret3
                  refine ⟨.slice none 0 0, by rw [E.out]; rfl, ?_, B.out.trans ((Dr.one _ _).below _)⟩
                  rw [E.out]
                  exact World.ownsRow_nil _ _ _ _
                · have UI2 := hid (STEP.out (HNY.out.2 hpy))
                  rw [HN.out, HBv.out] at UI2
                  simp only [decide_eq_false hpy] at CPy
                  have CPh := hid CPy
                  clear CPy hpy
                  go_wp2_with fail
                  refine (CPh.out _).mono ?_
                  rintro e w' ⟨rfl, hw⟩
                  have hw' := hw.symm
                  subst hw'
                  clear hw CPh
                  obtain ⟨pO, cO, eO⟩ := own_slc HO.out
                  subst eO
                  go_wp2_with (at_builtin; refine wpList_append_byte rfl _ _ rfl w.heap.size _ A.length _ rfl (HO.out.alloc _) ⟨wr.heap.size, 0, none⟩ 1 (y : Int) rfl ?qc ?q1 ?q2 ?_)
                  case qc => exact (cell_of_row (World.alloc (World.drewN wr _) _) wr.heap.size 0 _ _ _ (heap_alloc_new (World.drewN wr _) _)).trans rfl
                  case q1 => omega
                  case q2 => first | omega | (simp; omega)
                  intro v' w4 hown4 hgr4 _
                  have HO4 : Hid (w4.ownsRow w.heap.size 5 1 v' (A ++ [(y : Int)]).length ((A ++ [(y : Int)]).map (Value.int .u8))) := by
                    rw [List.map_append, List.length_append]
                    exact hown4
                  have B4 := hid (((B.out.trans ((Dr.one _ _).below _)).alloc (by have := B.out.size; exact this) _).grown hgr4 (by have := B.out.size; simp; omega) (fun k e => (HO.out.lt k e).1))
                  clear hown4 hgr4
                  go_wp2
                  exact ⟨⟨I + 3, A ++ [(y : Int)], by omega, by simp; omega, by go_num, UI2, HO4, B4⟩, by simp [intOf]; omega⟩
          · have E := hid (BAD.out fun h => by
              rcases h with h | ⟨_, h, _⟩
              · rw [Hc.out] at h; exact HPL.out h
              · rw [HLL.out] at h; exact hin h)
            have hge : ¬ ((I : Int) + 2 < (s.size : Int)) := by omega
            go_wp2
            go_ret3
            refine ⟨.slice none 0 0, by rw [E.out]; rfl, ?_, B.out⟩
            rw [E.out]
            exact World.ownsRow_nil _ _ _ _
        · have E := hid (BAD.out fun h => by
            rcases h with h | ⟨h, _⟩
            · rw [Hc.out, Int.toNat_natCast] at h; exact HPL.out h
            · rw [Hc.out] at h; omega)
          have hb37 : ((c : Int) != 37) = true := by rw [bne_iff_ne]; omega
          clear h37
          go_wp2
          go_ret3
          refine ⟨.slice none 0 0, by rw [E.out]; rfl, ?_, B.out⟩
          rw [E.out]
          exact World.ownsRow_nil _ _ _ _
    · have E := hid (UI.out.done (by rw [HLL.out]; exact hlt))
      obtain ⟨pO, cO, eO⟩ := own_slc HO.out
      subst eO
      go_wp2
      go_ret3
      refine ⟨_, by rw [E.out]; rfl, ?_, B.out⟩
      rw [E.out]
      exact HO.out
end Go.Proofs.Ytcgecflebplgaaa
