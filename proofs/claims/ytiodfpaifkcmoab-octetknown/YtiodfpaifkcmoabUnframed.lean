/- octet.Unframed, walked: the lists of which these are the frames, or the error where there are none. -/
import Derived.Test.YtiodfpaifkcmoabFrames
import Derived.Test.YtiodfpaifkcmoabWholeWalk
namespace Go.Proofs.Ytiodfpaifkcmoab
open Go.RowKit

/-- How long the slice is that lies in a reader's third cell. -/
def lenAt (w : World) (g : Nat) : Nat := match w.cell? ⟨g, 2, none⟩ with | some (.slice _ n _) => n | _ => 0
theorem RD.lenAt {w : World} {g : Nat} {m f : Bool} {l : List Int} (h : RD w g m f l) : lenAt w g = l.length := by
  obtain ⟨v, hblk, hv⟩ := h
  obtain ⟨p, c, rfl, _, _⟩ := hv.1.open
  obtain ⟨_, _, c2, _, _⟩ := three hblk
  simp [Go.Proofs.Ytiodfpaifkcmoab.lenAt, c2]

/-- What Unframed answers: the lists, their frames being the bytes; or nothing, there being no such lists. -/
def UAns (w w' : World) (raw : List Int) (v : Value) (n : Int) : Prop :=
  (n = 0 ∧ ∃ ls, OWL w w' v ls ∧ Ok ls ∧ framed ls = raw) ∨ (n = 13 ∧ v = .slice none 0 0 ∧ ∀ xs, Ok xs → framed xs ≠ raw)

set_option maxHeartbeats 2000000 in
theorem unframed_any (w : World) (v : Value) (raw : List Int) (h : HB w v raw) (hbig : raw.length ≤ 16777216) :
    Calls Try.prog 17 #[v] w fun e w' => ∃ v' n, e = .returned (.tuple #[v', .int .i64 n]) ∧ UAns w w' raw v' n ∧ Below w.heap.size w w' := by
  obtain ⟨p, c, e, hlc, hm⟩ := h.open
  have H := hid h
  clear h
  subst e
  go_enter Try.func17, Try.ntmps17
  go_wp2_with fail
  refine (newReader_any w _ raw H.out (by omega)).mono ?_
  rintro e w1 ⟨g, rfl, hr1, hg, hB1⟩
  have HR1 := hid hr1
  have HB1 := hid hB1
  clear hr1 hB1
  go_wp2
  go_loopw [4] (fun o wr => ∃ (ls : List (List Int)) (f : Bool) (l : List Int), Hid (OWL w wr o ls) ∧ Hid (RD wr g true f l) ∧ Hid (Below w.heap.size w wr) ∧ Hid (UInv raw ls f l)) (fun _ wr => lenAt wr g)
  case atStart => exact ⟨[], false, raw, OWL.nil _ _, HR1, HB1, UInv.start raw⟩
  case round =>
    clear HR1 HB1
    obtain ⟨ls, f, l, HO, HR, HBw, HU⟩ := hrel
    have hlr : l.length ≤ raw.length := HU.out.2.1
    go_wp2_with fail
    refine (left_any wr g _ _ l HR.out).mono ?_
    rintro e w1' ⟨rfl, hw⟩
    have hw' := hw.symm
    subst hw'
    clear hw
    by_cases h0 : 0 < l.length
    · have hd : decide (0 < (l.length : Int)) = true := by simp; omega
      have hf : f = false := by
        cases f with
        | false => rfl
        | true =>
          have := (HU.out.2.2.2.2 rfl).1
          subst this
          simp at h0
      subst hf
      go_wp2_with fail
      refine (long_any wr g false l HR.out).mono ?_
      rintro e w2 ⟨rfl, hr2, hg2⟩
      have HR2 := hid hr2
      have HO2 := hid (HO.out.grown hg2 (fun g' e => by
        cases e
        obtain ⟨cur, fz, hh⟩ := HR.out.block
        exact ⟨cur, _, fz, hh, by decide, by decide⟩))
      have HB2 := hid (HBw.out.grown hg2 HBw.out.size (fun k e => by cases e; exact hg))
      clear hr2 hg2
      obtain ⟨N, f2, l2, HR3, HN, HX⟩ : ∃ (N : Nat) (f2 : Bool) (l2 : List Int), Hid (RD w2 g true f2 l2) ∧ Hid (smallNo 8 (taken l 8) = N) ∧ Hid ((8 ≤ l.length ∧ N = valL (l.take 8) ∧ f2 = false ∧ l2 = l.drop 8) ∨ (l.length < 8 ∧ N = 0 ∧ f2 = true ∧ l2 = [])) := by
        refine ⟨_, _, _, HR2, rfl, ?_⟩
        by_cases h8 : 8 ≤ l.length
        · have hok : okTake l 8 = true := okTake_iff.2 ⟨by omega, by omega⟩
          left
          refine ⟨h8, ?_, by simp [hok], by simp [leftAt, hok]⟩
          have e : taken l 8 = l.take 8 := by simp [taken, hok]
          rw [e, smallNo, if_pos (by simp; omega)]
        · have hok : okTake l 8 = false := by
            cases hh : okTake l 8 with
            | false => rfl
            | true => have := okTake_iff.1 hh; omega
          right
          refine ⟨by omega, ?_, by simp [hok], by simp [leftAt, hok]⟩
          have e : taken l 8 = [] := by simp [taken, hok]
          rw [e]; rfl
      rw [HN.out]
      have hl2 : l2.length < l.length := by
        rcases HX.out with ⟨h8, _, _, e⟩ | ⟨_, _, _, e⟩ <;> rw [e] <;> simp <;> omega
      have hNb : N < 18446744073709551616 := by
        rcases HX.out with ⟨h8, e, _, _⟩ | ⟨_, e, _, _⟩
        · rw [e]
          have := valL_take_lt l (by obtain ⟨v, _, hv⟩ := HR.out; exact hv.1.2) 8
          omega
        · omega
      clear HR2
      go_wp2_with fail
      refine (left_any w2 g _ _ l2 HR3.out).mono ?_
      rintro e w1' ⟨rfl, hw⟩
      have hw' := hw.symm
      subst hw'
      clear hw
      by_cases hgt : l2.length < N
      · have hd2 : decide ((l2.length : Int) < (N : Int)) = true := by simp; omega
        have HA : Hid (UAns w w2 raw (.slice none 0 0) 13) := by
          right
          refine ⟨rfl, rfl, ?_⟩
          rcases HX.out with ⟨h8, e1, _, e2⟩ | ⟨_, e1, _, e2⟩
          · exact HU.out.none (no_frames_long h8 (by rw [← e2, ← e1]; exact hgt))
          · exfalso; omega
        go_wp2
        go_ret2
        exact ⟨_, _, rfl, HA.out, HB2.out⟩
      · have hd2 : decide ((l2.length : Int) < (N : Int)) = false := by simp; omega
        have hok : okTake l2 (N : Int) = true := okTake_iff.2 ⟨by omega, by omega⟩
        have HOK := hid hok
        clear hok
        go_wp2_with fail
        refine (bytes_any w2 g f2 l2 (N : Int) HR3.out (by omega)).mono ?_
        rintro e w3 ⟨v3, B, rfl, hown3, hBle, hb3, hr3, hg3⟩
        have et : taken l2 (N : Int) = l2.take N := by simp [taken, HOK.out]
        have el : leftAt l2 (N : Int) = l2.drop N := by simp [leftAt, HOK.out]
        rw [et] at hown3 hb3
        rw [el, HOK.out, Bool.not_true, Bool.or_false] at hr3
        have hO3 := HO2.out.grown hg3 (fun g' e => by
          cases e
          obtain ⟨cur, fz, hh⟩ := HR3.out.block
          exact ⟨cur, _, fz, hh, by decide, by decide⟩)
        have hB3 := HB2.out.grown hg3 HB2.out.size (fun k e => by cases e; exact hg)
        have hel : EL w w3 v3 (l2.take N) := .inl ⟨own_mono hown3 (Nat.le_trans HB2.out.size hBle), hb3.2⟩
        have HU3 : Hid (UInv raw (ls ++ [l2.take N]) f2 (l2.drop N)) := by
          show UInv _ _ _ _
          rcases HX.out with ⟨h8, e1, e3, e2⟩ | ⟨h8, e1, e3, e2⟩
          · subst e1 e2 e3
            exact UInv.step (by omega) (by obtain ⟨v, _, hv⟩ := HR.out; exact hv.1.2) HU.out h8 (by omega)
          · subst e1 e2 e3
            exact HU.out.short h0 h8
        obtain ⟨p3, c3, e3, _, _⟩ := hb3.open
        obtain ⟨l3, HL3⟩ : ∃ l3, Hid (l2.take N = l3) := ⟨_, rfl⟩
        rw [HL3.out] at e3 hel HU3
        obtain ⟨W4, hW4⟩ : ∃ W4, W4 = w3.alloc (.cells #[v3] 23) := ⟨_, rfl⟩
        have hal : Below w3.heap.size w3 W4 := by rw [hW4]; exact (Below.refl _ _).alloc (Nat.le_refl _) _
        have HO4 := hid (hO3.below hal)
        have HE4 := hid (hel.below hal)
        have HR4 := hid (hr3.grow hal)
        have HB4 := hid (hB3.trans (hal.mono hB3.size))
        rw [hW4] at HO4 HE4 HR4 HB4
        have hll : 8 * ls.length ≤ raw.length + 8 := HU.out.1
        clear hO3 hel hr3 hB3 hown3 hal hW4 W4 hb3 hg3 hBle et el
        subst e3
        go_wp2_with (at_builtin; refine wpList_append_OWL (w0 := w) rfl _ _ rfl _ ls rfl HO4.out ⟨w3.heap.size, 0, none⟩ 1 1 [_] [l3] rfl rfl rfl (cell_one_new _ _ _) ?q1 ?q2 ?q3 ?q4 ?_)
        case q1 => intro j hj; have : j = 0 := by omega
                   subst this; exact HE4.out
        case q2 => intro u hu; simp only [List.mem_singleton] at hu; subst hu; rfl
        case q3 => omega
        case q4 => exact HB4.out.size
        intro v5 w5 hO5 hg5 hbk
        have HO5 := hid hO5
        have HR5 := hid (HR4.out.grownOther hg5 (fun k e => (hbk k e).2))
        have HB5 := hid (HB4.out.grown hg5 HB4.out.size (fun k e => (hbk k e).1))
        clear hO5 hg5 hbk
        have HM : Hid (lenAt w5 g < lenAt wr g) := by
          show _ < _
          rw [HR5.out.lenAt, HR.out.lenAt, List.length_drop]
          omega
        go_wp2
        exact ⟨⟨_, _, _, HO5, HR5, HB5, HU3⟩, HM.out⟩
    · have hd : decide (0 < (l.length : Int)) = false := decide_eq_false (by omega)
      have hl : l = [] := List.length_eq_zero_iff.1 (by omega)
      subst hl
      go_wp2_with fail
      refine (end_any wr g true f [] HR.out).mono ?_
      rintro e w1' ⟨rfl, hw⟩
      have hw' := hw.symm
      subst hw'
      clear hw
      cases f with
      | true =>
        have HA : Hid (UAns w wr raw (.slice none 0 0) 13) := .inr ⟨rfl, rfl, (HU.out.2.2.2.2 rfl).2⟩
        rw [show endNo true true [] = 10 from rfl]
        go_wp2
        go_ret2
        exact ⟨_, _, rfl, HA.out, HBw.out⟩
      | false =>
        have HA : Hid (UAns w wr raw u4 0) := .inl ⟨rfl, ls, HO.out, HU.out.2.2.1, by have := HU.out.2.2.2.1 rfl; rw [this, List.append_nil]⟩
        rw [show endNo true false [] = 0 from rfl]
        go_wp2
        go_ret2
        exact ⟨_, _, rfl, HA.out, HBw.out⟩
end Go.Proofs.Ytiodfpaifkcmoab
