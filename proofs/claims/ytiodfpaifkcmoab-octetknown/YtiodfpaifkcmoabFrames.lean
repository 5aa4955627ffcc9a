/- octet.Framed and Unframed, walked. -/
import Derived.Test.YtiodfpaifkcmoabLists
import Derived.Test.YtiodfpaifkcmoabReads
import Derived.Test.YtiodfpaifkcmoabFrameMath
namespace Go.Proofs.Ytiodfpaifkcmoab
open Go.RowKit

theorem EL.below {w0 w w' : World} {u : Value} {l : List Int} (h : EL w0 w u l) (hb : Below w.heap.size w w') : EL w0 w' u l :=
  h.grown (row := none) ⟨hb.os, hb.tape, hb.output, hb.size, fun k hk _ => hb.block k hk⟩ (fun g e => by cases e)

set_option maxHeartbeats 1000000 in
theorem framed_any (w : World) (v : Value) (ls : List (List Int)) (h : HL w v ls) (hbig : ls.flatten.length + ls.length ≤ 1048576) :
    Calls Try.prog 16 #[v] w fun e w' => ∃ v', e = .returned v' ∧ w'.ownsRow w.heap.size 5 1 v' (framed ls).length ((framed ls).map (Value.int .u8)) ∧ HB w' v' (framed ls) ∧ Below w.heap.size w w' := by
  obtain ⟨i0, hi, hz0, hz1, hz2⟩ := info_parts info_bytes
  obtain ⟨p, c, e, hlc, hm⟩ := h.open
  unfold maxLen at hm
  have A : Hid (0 < ls.length → ∃ b off, p = some ⟨b, off, none⟩ ∧ ∀ j, j < ls.length → ∃ u, w.cell? ⟨b, off + j, none⟩ = some u ∧ HB w u (ls.getD j [])) := by
    intro h0
    obtain ⟨b, off, c', e', _, _, hh⟩ := h.ne h0
    rw [e] at e'
    simp only [Value.slice.injEq, true_and] at e'
    exact ⟨b, off, e'.1, hh⟩
  clear h
  subst e
  obtain ⟨w1, hmk, hown, hgr⟩ := run_make_own (P := Try.prog) w w.heap.size 34 23 i0 (.slice none 0 0) 1 Try.underlying34 hi hz0 hz1 .i64 .i64 (2 * ls.length) (by rw [hz2]; omega) (by unfold maxLen; omega) (Nat.le_refl _)
  rw [show ((2 * ls.length : Nat) : Int) = 2 * (ls.length : Int) by omega] at hmk
  have HB1 := hid ((Below.refl _ w).grown hgr (Nat.le_refl _) (fun k e => by cases e))
  have HO1 : Hid (OWL w w1 _ []) := ⟨[], hown, fun j hj => by simp at hj⟩
  clear hown hgr
  go_enter Try.func16, Try.ntmps16
  go_wp2
  go_loopw [3, 12] (fun o i wr => ∃ k : Nat, k ≤ ls.length ∧ i = .int .i64 k ∧ Hid (OWL w wr o (pcsTo ls k)) ∧ Hid (Below w.heap.size w wr)) (fun _ i _ => ls.length - (intOf i).toNat)
  case atStart => exact ⟨0, Nat.zero_le _, rfl, HO1, HB1⟩
  case round =>
    clear HO1 HB1 hmk
    obtain ⟨k, hk, rfl, HO, HBw⟩ := hrel
    by_cases hlt : k < ls.length
    · obtain ⟨b, off, rfl, hh⟩ := A.out (by omega)
      obtain ⟨u, hu0, hb⟩ := hh k hlt
      have hu : wr.cell? ⟨b, off + k, none⟩ = some u := (HBw.out.cell (World.block_lt_of_cell? w _ hu0)).trans hu0
      have HS := hid (pcs_snoc ls k hlt)
      have hlen : (ls.getD k []).length ≤ 1048576 := by
        have h1 := flat_snoc ls k hlt
        have h2 := flat_take_le ls (k + 1)
        rw [h1, List.length_append] at h2
        omega
      obtain ⟨l, HLk⟩ : ∃ l, Hid (l = ls.getD k []) := ⟨_, rfl⟩
      rw [← HLk.out] at hb HS hlen
      have HU := hid hb
      obtain ⟨p2, c2, hu2, _, _⟩ := hb.open
      subst hu2
      clear hh hu0 hb
      go_wp2_with fail
      refine (big_uint64 l.length (by omega) wr).mono ?_
      rintro e w2 ⟨v2, rfl, hown2, hB2⟩
      have hO2 := HO.out.below hB2
      have hel : EL w w2 v2 (bigL 8 l.length) := .inl ⟨by rw [bigL_length]; exact own_mono hown2 HBw.out.size, bigL_byt _ _⟩
      have hBw2 : Below w.heap.size w w2 := HBw.out.trans (hB2.mono HBw.out.size)
      obtain ⟨p3, c3, e3, _, _⟩ := (hel.hb hBw2).open
      rw [bigL_length] at e3
      obtain ⟨W3, hW3⟩ : ∃ W3, W3 = w2.alloc (.cells #[v2, .slice p2 l.length c2] 23) := ⟨_, rfl⟩
      have hal : Below w2.heap.size w2 W3 := by rw [hW3]; exact (Below.refl _ _).alloc (Nat.le_refl _) _
      have HO3 := hid (hO2.below hal)
      have HE3 := hid (hel.below hal)
      have HB3 := hid (hBw2.trans (hal.mono hBw2.size))
      rw [hW3] at HO3 HE3 HB3
      clear hO2 hel hBw2 hown2 hal hW3 W3 hB2
      subst e3
      go_wp2_with (at_builtin; refine wpList_append_OWL (w0 := w) rfl _ _ rfl _ _ rfl HO3.out ⟨w2.heap.size, 0, none⟩ 2 2 [_, _] [bigL 8 l.length, l] rfl rfl rfl (cell_two_new _ _ _ _) ?q1 ?q2 ?q3 ?q4 ?_)
      case q1 =>
        intro j hj
        match j, hj with
        | 0, _ => exact HE3.out
        | 1, _ => exact .inr HU.out
      case q2 =>
        intro u hu
        simp only [List.mem_cons, List.not_mem_nil, or_false] at hu
        rcases hu with rfl | rfl <;> rfl
      case q3 => have := pcsTo_length ls k; omega
      case q4 => exact HB3.out.size
      intro v' w4 hO4 hg4 hbk
      have HO4 : Hid (OWL w w4 v' (pcsTo ls (k + 1))) := by rw [HS.out]; exact hO4
      have HB4 := hid (HB3.out.grown hg4 HB3.out.size (fun k e => (hbk k e).1))
      clear hO4 hg4 hbk
      go_wp2
      exact ⟨⟨k + 1, by omega, by go_num, HO4, HB4⟩, by simp [intOf]; omega⟩
    · have HP : Hid (pcsTo ls k = pcs ls) := by
        show _ = _
        unfold pcsTo
        rw [List.take_of_length_le (by omega)]
      have HO2 : Hid (OWL w wr u3 (pcs ls)) := by rw [← HP.out]; exact HO
      have HFl := hid (framed_length ls)
      obtain ⟨fl, HF⟩ : ∃ fl, Hid (framed ls = fl) := ⟨_, rfl⟩
      rw [HF.out] at HFl
      go_wp2_with fail
      have hHL := HO2.out.hl HBw.out
      refine (join_any wr _ (pcs ls) hHL (by have := HFl.out; rw [← HF.out] at this; unfold framed at this; omega)).mono ?_
      rintro e w2 ⟨v2, rfl, hown2, hB2⟩
      have hbt := hHL.byt
      rw [show (pcs ls).flatten = fl from HF.out] at hown2 hbt
      have H2 := hid hown2
      have Hb := hid hbt
      have HB3 := hid (HBw.out.trans (hB2.mono HBw.out.size))
      have hsz := HBw.out.size
      clear hHL hown2 hB2 hbt
      go_wp2
      go_ret
      refine ⟨_, rfl, ?_, ?_, HB3.out⟩
      · rw [HF.out]; exact own_mono H2.out hsz
      · rw [HF.out]; exact HB.of_own H2.out Hb.out
end Go.Proofs.Ytiodfpaifkcmoab
