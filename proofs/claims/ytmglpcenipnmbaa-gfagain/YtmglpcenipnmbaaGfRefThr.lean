/- The document's Through: its parts, walked. -/
import Derived.Test.YtmglpcenipnmbaaGfThrough
set_option linter.unusedSimpArgs false
set_option linter.unusedVariables false
namespace Go.Proofs.Ytmglpcenipnmbaa
open Go Go.RowKit

/-- The row of 'without' when the coefficients down to the i-th are told. -/
def outF (L : List Int) (N x i k : Nat) : Nat := if i ≤ k then partF L N x k else 0
set_option maxRecDepth 100000 in
set_option maxHeartbeats 8000000 in
theorem rwithout_any (w : World) (p : Option Addr) (c : Nat) (L : List Int) (x N : Nat) (h : HB w (.slice p L.length c) L) (hl : L.length = N + 1) (hN : N ≤ 140737488351232) (hx : x < 256) :
    Calls Try.prog 61 #[.slice p L.length c, .int .u8 (x : Int)] w fun e w' => e = .returned (.slice (some ⟨w.heap.size, 0, none⟩) N N) ∧ w'.ownsRow w.heap.size 5 1 (.slice (some ⟨w.heap.size, 0, none⟩) N N) N ((tabL N (partF L N x)).map (Value.int .u8)) ∧ Below w.heap.size w w' := by
  obtain ⟨b1, o1, c1, e1, hlc, hcm, hc1⟩ := h.ne (by omega)
  simp only [Value.slice.injEq, true_and] at e1
  obtain ⟨rfl, rfl⟩ := e1
  unfold maxLen at hcm
  have HA := hid h
  have HGL : Hid (∀ k, gN L k < 256) := fun k => (HA.out.gN k).2
  have HBY := hid h.2
  have hbl := World.block_lt_of_cell? w _ (hc1 0 (by omega))
  have HC := hid hc1
  obtain ⟨i0, hi, hz0, hz1, hz2⟩ := info_parts info_u8
  obtain ⟨w1, hmk, hown, hgr⟩ := run_make_full (P := Try.prog) w w.heap.size 38 5 i0 (.int .u8 0) 1 Try.underlying38 hi hz0 hz1 .i64 .i64 N (by rw [hz2]; omega) (by unfold maxLen; omega) (Nat.le_refl _)
  have hmk2 : (Instr.makeSlice 38 (.int .i64 (N : Int)) (.int .i64 (N : Int))).run Try.prog w = .ok (.slice (some ⟨w.heap.size, 0, none⟩) N N) w1 := hmk
  have B1 : Hid (Below w.heap.size w w1) := ⟨hgr.os, hgr.tape, hgr.output, hgr.size, fun k hk => hgr.block k hk (by simp)⟩
  have O1 : Hid (w1.ownsRow w.heap.size 5 1 (.slice (some ⟨w.heap.size, 0, none⟩) N N) N ((tabL N (outF L N x N)).map (Value.int .u8))) := by
    have e : (madeCells (Value.int IntKind.u8 0).cells (N * 1)).toList = (tabL N (outF L N x N)).map (Value.int .u8) := by
      rw [show (Value.int IntKind.u8 0).cells = #[Value.int .u8 0] from rfl, toList_madeCells_one, Nat.mul_one, tabL_congr N (g := fun _ => 0) fun k hk => by unfold outF; rw [if_neg (by omega)]]
      refine List.ext_getElem (by simp [tabL]) fun j h1 h2 => ?_
      simp [tabL]
    rw [← e]
    exact hown
  have hnn : (L.length : Int) - 1 = (N : Int) := by omega
  have sz := size_u8
  clear hmk hown hgr h hc1
  go_enter Try.func61, Try.ntmps61
  go_wp2
  obtain ⟨g, hg⟩ : ∃ g, Hid (w.heap.size = g) := ⟨_, rfl⟩
  rw [hg.out] at O1 B1 hbl
  rw [hg.out]
  clear hmk2
  go_loopw [6, 7] (fun s i wr => ∃ I C : Nat, I ≤ N ∧ C < 256 ∧ Hid (C = hor (gN L) x (I + 1) (N - I)) ∧ s = .int .u8 (C : Int) ∧ i = .int .i64 (I : Int) ∧ Hid (wr.ownsRow g 5 1 (.slice (some ⟨g, 0, none⟩) N N) N ((tabL N (outF L N x I)).map (Value.int .u8))) ∧ Hid (Below g w wr)) (fun _ i _ => (intOf i).toNat)
  case atStart => exact ⟨N, 0, Nat.le_refl _, by decide, by rw [Nat.sub_self]; exact rfl, rfl, rfl, O1, B1⟩
  case round =>
    clear O1 B1
    obtain ⟨I, C, hI, hC, HC0, rfl, rfl, O, B⟩ := hrel
    cases I with
    | zero =>
      have FIN : Hid (wr.ownsRow g 5 1 (.slice (some ⟨g, 0, none⟩) N N) N ((tabL N (partF L N x)).map (Value.int .u8))) := by
        rw [tabL_congr N (g := outF L N x 0) fun k _ => by unfold outF; rw [if_pos (by omega)]]
        exact O.out
      clear O HC0
      go_wp2
      go_ret
      have hge := hg.out
      rw [hge]
      exact ⟨rfl, FIN.out, B.out⟩
    | succ J =>
      have hge : (1 : Int) ≤ ((J + 1 : Nat) : Int) := by omega
      have hj : ((J + 1 : Nat) : Int) - 1 = (J : Int) := by omega
      have hJL : J + 1 < L.length := by omega
      have q1 := (B.out.cell (p := ⟨b1, o1 + (J + 1), none⟩) hbl).trans (HC.out (J + 1) hJL)
      obtain ⟨g1, l1⟩ := HA.out.gN (J + 1)
      rw [g1] at q1
      have HN2 : Hid (gN L (J + 1) ^^^ prod C x = hor (gN L) x (J + 1) (N - J)) := by
        show _ = _
        rw [show N - J = (N - (J + 1)) + 1 by omega, hor, HC0.out, prod_comm _ x (hor_lt HGL.out hx _ _) hx]
      obtain ⟨a, Ha⟩ : ∃ a, Hid (gN L (J + 1) = a) := ⟨_, rfl⟩
      rw [Ha.out] at q1 l1 HN2
      have MU : Hid (∀ W, Calls Try.prog 14 #[.int .u8 (C : Int), .int .u8 (x : Int)] W fun e w' => e = .returned (.int .u8 ((prod C x : Nat) : Int)) ∧ w' = W) := fun W => rmul_any W _ _ hC hx
      have hp := prod_lt x hC
      obtain ⟨m, Hm⟩ : ∃ m, Hid (prod C x = m) := ⟨_, rfl⟩
      rw [Hm.out] at MU hp HN2
      have hxx := u8_xor_nat a m l1 hp
      have hxl := xor8 l1 hp
      obtain ⟨r, Hr⟩ : ∃ r, Hid (a ^^^ m = r) := ⟨_, rfl⟩
      rw [Hr.out] at HN2 hxx hxl
      clear g1 HC0
      go_wp2
      go_quiet ((go_at_call 14; exact Calls.quiet_of_same (MU.out _)))
      obtain ⟨wA, hwA, HDA⟩ : ∃ wA, Hid (wr.drewN nq = wA) ∧ Hid (Dr wr wA) := ⟨_, rfl, Dr.one _ _⟩
      rw [hwA.out]
      have OA := hid (own_below O.out (HDA.out.below _))
      have BA := hid (B.out.trans (HDA.out.below _))
      have hcx := OA.out.cellAt J (by omega)
      have hfz := OA.out.frozenAt J
      obtain ⟨zz, hzz⟩ : ∃ zz, ((tabL N (outF L N x (J + 1))).map (Value.int .u8))[J]? = some zz := ⟨_, List.getElem?_eq_getElem (by rw [List.length_map, tabL_length]; omega)⟩
      rw [hzz] at hcx
      have hst := OA.out.stored J (.int .u8 (r : Int))
      obtain ⟨wB, hwB⟩ : ∃ wB, Hid (wA.setCell ⟨g, J, none⟩ (.int .u8 (r : Int)) = wB) := ⟨_, rfl⟩
      have OB : Hid (wB.ownsRow g 5 1 (.slice (some ⟨g, 0, none⟩) N N) N ((tabL N (outF L N x J)).map (Value.int .u8))) := by
        have h1 := hst.1
        rw [← List.map_set, tabL_set, hwB.out] at h1
        rw [tabL_congr N (f := outF L N x J) (g := fun j => if j = J then r else outF L N x (J + 1) j) fun k hk => by
          by_cases e : k = J
          · rw [if_pos e, e]
            unfold outF
            rw [if_pos (Nat.le_refl _), HN2.out]
            rfl
          · rw [if_neg e]
            unfold outF
            by_cases q : J ≤ k
            · rw [if_pos q, if_pos (by omega)]
            · rw [if_neg q, if_neg (by omega)]]
        exact h1
      have BB : Hid (Below g w wB) := by rw [← hwB.out]; exact BA.out.setCell (p := ⟨g, J, none⟩) (Nat.le_refl _) _
      have hJN : J < N := by omega
      clear hst hzz OA BA O B q1 MU
      go_wp2
      rw [hwB.out]
      exact ⟨⟨J, r, by omega, hxl, HN2, rfl, by go_num, OB, BB⟩, by simp [intOf]⟩
end Go.Proofs.Ytmglpcenipnmbaa
