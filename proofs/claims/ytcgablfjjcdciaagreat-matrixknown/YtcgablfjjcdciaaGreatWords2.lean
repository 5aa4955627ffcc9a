/- Lists of uint32 of whose room nothing is known (by tools/words.py). -/
import Derived.Test.YtcgablfjjcdciaaGreatWords
set_option linter.unusedSimpArgs false
set_option linter.unusedVariables false
namespace Go.Proofs.YtcgablfjjcdciaaGreat.W
open Go Go.RowKit
/-- The words of a slice, by its cells alone. -/
def CellsW (w : World) (p : Option Addr) (l : List Int) : Prop := 0 < l.length → ∃ b off, p = some ⟨b, off, none⟩ ∧ ∀ j, j < l.length → w.cell? ⟨b, off + j, none⟩ = some (.int .u32 (l.getD j 0))
set_option maxHeartbeats 400000 in
theorem same_free (w : World) (p1 p2 : Option Addr) (c1 c2 : Nat) (la lb : List Int) (A1 : CellsW w p1 la) (A2 : CellsW w p2 lb) (hm : la.length ≤ 9223372036854775807) (hm2 : lb.length ≤ 9223372036854775807) :
    Calls Tryz.prog 11 #[.slice p1 la.length c1, .slice p2 lb.length c2] w fun e w' => e = .returned (.bool (decide (la = lb))) ∧ Dr w w' := by
  by_cases hlen : la.length = lb.length
  · by_cases h0 : 0 < la.length
    · obtain ⟨b1, o1, rfl, hk1⟩ := A1 h0
      obtain ⟨b2, o2, rfl, hk2⟩ := A2 (by omega)
      clear A1 A2 hm2
      have HL : Hid (la.length = lb.length) := hlen
      rw [← hlen]
      have hcd : ∀ j, j < la.length → w.cell? ⟨b2, o2 + j, none⟩ = some (.int .u32 (lb.getD j 0)) := fun j hj => hk2 j (by omega)
      clear hlen hk2
      go_enter Tryz.func11, Tryz.ntmps11
      go_wp2
      go_loopw [5] (fun i wr => ∃ k : Nat, k ≤ la.length ∧ i = .int .i64 k ∧ la.take k = lb.take k ∧ Dr w wr) (fun i _ => la.length - (intOf i).toNat)
      case atStart => exact ⟨0, Nat.zero_le _, rfl, rfl, Dr.refl _⟩
      case round =>
        obtain ⟨k, hk, rfl, ht, q, rfl⟩ := hrel
        by_cases hlt : k < la.length
        · have g1 := hk1 k hlt
          have g2 := hcd k hlt
          obtain ⟨x, hx⟩ : ∃ x, la.getD k 0 = x := ⟨_, rfl⟩
          obtain ⟨y, hy⟩ : ∃ y, lb.getD k 0 = y := ⟨_, rfl⟩
          rw [hx] at g1
          rw [hy] at g2
          have HX := hid hx
          have HY := hid hy
          clear hx hy hk1 hcd
          by_cases he : x = y
          · have hne : (x != y) = false := by simpa using he
            have HE := hid he
            clear he
            go_wp2
            go_quiet (fail)
            go_wp2
            exact ⟨⟨k + 1, by omega, by go_num, take_eq_step la lb k hlt (by have := HL.out; omega) ht (by rw [HX.out, HY.out, HE.out]), Dr.one _ _⟩, by simp [intOf]; omega⟩
          · have hne : (x != y) = true := by simpa using he
            go_wp2
            go_quiet (fail)
            go_wp2
            go_ret
            exact ⟨by simp [take_ne la lb k (by rw [HX.out, HY.out]; exact he)], (Dr.one _ _).drewN _⟩
        · go_wp2
          go_ret
          have e : la = lb := by
            have h1 := List.take_of_length_le (show la.length ≤ k by omega)
            have h2 := List.take_of_length_le (show lb.length ≤ k by have := HL.out; omega)
            rw [← h1, ← h2, ht]
          exact ⟨by simp [e], Dr.one _ _⟩
    · clear A1 A2
      have e1 : la = [] := List.length_eq_zero_iff.1 (by omega)
      have e2 : lb = [] := List.length_eq_zero_iff.1 (by omega)
      subst e1 e2
      go_enter Tryz.func11, Tryz.ntmps11
      go_wp2
      go_loop [5] (fun i => i = .int .i64 0) (fun _ => 0)
      case atStart => rfl
      case round =>
        subst hrel
        go_wp2
        go_ret
        exact ⟨rfl, Dr.refl _⟩
  · clear A1 A2
    have hne : ((la.length : Int) != (lb.length : Int)) = true := by rw [bne_iff_ne]; omega
    go_enter Tryz.func11, Tryz.ntmps11
    go_wp2
    go_ret
    exact ⟨by simp [show la ≠ lb from fun e => hlen (by rw [e])], Dr.refl _⟩

theorem CellsW.below {w w' : World} {p : Option Addr} {l : List Int} (h : CellsW w p l) (hb : Below w.heap.size w w') : CellsW w' p l := fun h0 => by
  obtain ⟨b, off, e, hh⟩ := h h0
  exact ⟨b, off, e, fun j hj => (hb.cell (World.block_lt_of_cell? w _ (hh j hj))).trans (hh j hj)⟩
set_option maxHeartbeats 400000 in
theorem kept_free (w : World) (p1 p2 : Option Addr) (c1 c2 : Nat) (fl l : List Int) (A1 : CellsW w p1 fl) (A2 : CellsW w p2 l) (hf : fl.length ≤ 1000000) (hl : l.length ≤ 1000000) :
    Calls Tryz.prog 68 #[.slice p1 fl.length c1, .slice p2 l.length c2] w fun e w' => e = .returned (.bool (decide (fl = lent l))) ∧ Below w.heap.size w w' := by
  have H1 := hid A1
  have H2 := hid A2
  clear A1 A2
  go_enter Tryz.func68, Tryz.ntmps68
  go_wp2_with fail
  refine (lent_free w p2 c2 l H2 (by omega)).mono ?_
  rintro e w1 ⟨v1, rfl, hown, hB⟩
  have hll := lent_length l
  obtain ⟨g, cap, rfl, _, _, _, hcl⟩ := ownsRow_cells hown (by omega)
  have A3 : Hid (CellsW w1 (some ⟨g, 0, none⟩) (lent l)) := fun _ => ⟨g, 0, rfl, fun j hj => hcl j _ (by simp [List.getD, List.getElem?_eq_getElem hj])⟩
  have A1 := hid (H1.out.below hB)
  have B1 := hid hB
  have hlb : (lent l).length ≤ 2000000 := by omega
  obtain ⟨ll, HLL⟩ : ∃ ll, Hid (lent l = ll) := ⟨_, rfl⟩
  rw [HLL.out] at A3 hlb ⊢
  clear hown hB hcl hll
  go_wp2_with fail
  refine (same_free w1 p1 _ c1 cap fl ll A1.out A3.out (by omega) (by omega)).mono ?_
  rintro e w2 ⟨rfl, hD⟩
  have B2 := hid (B1.out.trans (hD.below _))
  obtain ⟨z, HZ⟩ : ∃ z, Hid (decide (fl = ll) = z) := ⟨_, rfl⟩
  rw [HZ.out]
  clear hD
  go_wp2
  go_ret
  exact ⟨by rw [HLL.out, HZ.out]; rfl, B2.out⟩
/-- Cells that may be written. -/
def RoomW (w : World) (b off n : Nat) : Prop := ∀ j, j < n → (∃ x, w.cell? ⟨b, off + j, none⟩ = some x) ∧ w.frozen? ⟨b, off + j, none⟩ = false
set_option maxHeartbeats 1000000 in
theorem over_free (w : World) (b off n c : Nat) (h : RoomW w b off n) (hn : n ≤ 1000000) :
    Calls Tryz.prog 69 #[.slice (some ⟨b, off, none⟩) n c] w fun e w' => e = .returned (.tuple #[]) ∧ w.grownBy w' (some b) := by
  have HR := hid h
  clear h
  go_enter Tryz.func69, Tryz.ntmps69
  go_wp2
  go_loopw [2] (fun i wr => ∃ k : Nat, k ≤ n ∧ i = .int .i64 (k : Int) ∧ Hid (RoomW wr b off n) ∧ Hid (w.grownBy wr (some b))) (fun i _ => n - (intOf i).toNat)
  case atStart => exact ⟨0, Nat.zero_le _, rfl, HR, ⟨rfl, rfl, rfl, Nat.le_refl _, fun _ _ _ => rfl⟩⟩
  case round =>
    clear HR
    obtain ⟨k, hk, rfl, HR, HG⟩ := hrel
    by_cases hlt : k < n
    · have hl1 : (k : Int) < (n : Int) := by omega
      obtain ⟨⟨x, q0⟩, q1⟩ := HR.out k hlt
      have e3 : Hid (((k : Int) + 3) = ((k + 3 : Nat) : Int)) := by show (_ : Int) = _; omega
      go_wp2_with fail
      refine (mark_eq wr 7 (k + 3) _ _ rfl (by omega) (by omega) (by omega)).mono ?_
      rintro e w2 ⟨rfl, hw⟩
      have hw' := hw.symm
      subst hw'
      clear hw
      obtain ⟨y, HY⟩ : ∃ y, Hid (mkB 7 (k + 3) = y) := ⟨_, rfl⟩
      rw [HY.out]
      have R2 : Hid (RoomW (wr.setCell ⟨b, off + k, none⟩ (.int .u32 y)) b off n) := fun j hj => by
        obtain ⟨⟨x', r0⟩, r1⟩ := HR.out j hj
        refine ⟨?_, by rw [World.frozen?_setCell]; exact r1⟩
        by_cases e : j = k
        · subst e
          exact ⟨_, World.cell?_setCell_same wr _ _ r0⟩
        · exact ⟨x', by rw [World.cell?_setCell_other wr _ _ _ (by intro q; simp only [Addr.mk.injEq] at q; omega)]; exact r0⟩
      have G2 : Hid (w.grownBy (wr.setCell ⟨b, off + k, none⟩ (.int .u32 y)) (some b)) := HG.out.trans ⟨rfl, rfl, rfl, by simp, fun i _ hi => heap_setCell_other wr ⟨b, off + k, none⟩ i _ (fun e => hi (by simp [e]))⟩
      go_wp2
      exact ⟨⟨k + 1, by omega, by go_num, R2, G2⟩, by simp [intOf]; omega⟩
    · have hl1 : ¬ (k : Int) < (n : Int) := by omega
      go_wp2
      go_end0
      exact ⟨rfl, HG.out⟩
end Go.Proofs.YtcgablfjjcdciaaGreat.W
