/- The law OctetWhole, walked: it answers true for bytes and cuts of at most 2^20 each, and turns nothing that was there. -/
import Derived.Test.YtiodfpaifkcmoabLists
import Derived.Test.YtiodfpaifkcmoabReader
namespace Go.Proofs.Ytiodfpaifkcmoab
open Go.RowKit

/-- v is a slice of the ints l, in the world w. -/
def HI (w : World) (v : Value) (l : List Int) : Prop :=
  ∃ (p : Option Addr) (c : Nat), v = .slice p l.length c ∧ l.length ≤ c ∧ c ≤ maxLen ∧
    (l ≠ [] → ∃ b off, p = some ⟨b, off, none⟩ ∧ ∀ j, j < l.length → w.cell? ⟨b, off + j, none⟩ = some (.int .i64 (l.getD j 0)))

theorem HI.open {w : World} {v : Value} {l : List Int} (h : HI w v l) : ∃ (p : Option Addr) (c : Nat), v = .slice p l.length c ∧ l.length ≤ c ∧ c ≤ maxLen ∧
    Hid (0 < l.length → ∃ b off, p = some ⟨b, off, none⟩ ∧ ∀ j, j < l.length → w.cell? ⟨b, off + j, none⟩ = some (.int .i64 (l.getD j 0))) := by
  obtain ⟨p, c, h1, h2, h3, h4⟩ := h
  exact ⟨p, c, h1, h2, h3, fun h0 => h4 (by intro e; subst e; simp at h0)⟩

theorem RD.block {w : World} {g : Nat} {m f : Bool} {l : List Int} (h : RD w g m f l) : BT w g 71 := by
  obtain ⟨v, hb, _⟩ := h
  exact ⟨_, _, hb⟩

theorem RD.grownOther {w w' : World} {g : Nat} {m f : Bool} {l : List Int} {row : Option Nat} (h : RD w g m f l) (hg : w.grownBy w' row) (hr : ∀ k, row = some k → BT w k 23) : RD w' g m f l := by
  obtain ⟨v, hblk, hv⟩ := h
  refine ⟨v, ?_, hv.grown hg fun k e => ?_⟩
  · rw [hg.block g (Array.getElem?_eq_some_iff.1 hblk).1 ?_]
    · exact hblk
    · intro e
      obtain ⟨cur, fz, hh⟩ := hr g e.symm
      rw [hblk] at hh
      simp at hh
  · obtain ⟨cur, fz, hh⟩ := hr k e
    exact ⟨cur, _, fz, hh, by decide⟩

/-- What the loop keeps: the parts, the reader, how they make the whole. -/
def Inv (w wr : World) (g : Nat) (lb : List Int) (parts : Value) (k : Nat) : Prop :=
  ∃ (ls : List (List Int)) (f : Bool) (l : List Int), ls.length = k ∧ OWL w wr parts ls ∧ RD wr g true f l ∧ Below w.heap.size w wr ∧ (f = false → ls.flatten ++ l = lb) ∧ ls.flatten.length + l.length ≤ lb.length

theorem taken_left (l : List Int) (n : Int) : okTake l n = true → taken l n ++ leftAt l n = l := by
  intro h
  simp [taken, leftAt, h]

theorem taken_left_le (l : List Int) (n : Int) : (taken l n).length + (leftAt l n).length ≤ l.length := by
  unfold taken leftAt
  split
  · simp; omega
  · simp

set_option maxHeartbeats 1000000 in
theorem whole_walk (w : World) (vb vc : Value) (lb cs : List Int) (hb : HB w vb lb) (hc : HI w vc cs) (hlb : lb.length ≤ 1048576) (hcs : cs.length ≤ 1048576) :
    Calls Try.prog 5 #[vb, vc] w fun e w' => e = .returned (.bool true) ∧ Below w.heap.size w w' := by
  obtain ⟨p1, c1, rfl, _, hm1⟩ := hb.open
  obtain ⟨p2, c2, rfl, hl2, hm2, HC⟩ := hc.open
  unfold maxLen at hm1 hm2
  have HBb := hid hb
  clear hb hc
  have hne : ((lb.length : Int) != (lb.length : Int)) = false := by simp
  go_enter Try.func5, Try.ntmps5
  go_wp2_with fail
  refine (newReader_any w _ lb HBb.out (by omega)).mono ?_
  rintro e w1 ⟨g, rfl, hr1, hg, hB1⟩
  have HR1 := hid hr1
  have HB1 := hid hB1
  clear hr1 hB1
  go_wp2_with fail
  refine (left_any w1 g _ _ lb HR1.out).mono ?_
  rintro e w1' ⟨rfl, hw⟩
  have hw' := hw.symm
  subst hw'
  clear hw
  go_wp2
  go_loopw [6, 7] (fun o i wr => ∃ k : Nat, k ≤ cs.length ∧ i = .int .i64 k ∧ Inv w wr g lb o k) (fun _ i _ => cs.length - (intOf i).toNat)
  case atStart => exact ⟨0, Nat.zero_le _, rfl, [], false, lb, rfl, OWL.nil _ _, HR1.out, HB1.out, fun _ => rfl, by simp⟩
  case round =>
    clear HR1 HB1
    obtain ⟨k, hk, rfl, ls, f, l, hlk, hO, hR, hB, hwh, hle⟩ := hrel
    have HO := hid hO
    have HR := hid hR
    have HBw := hid hB
    have HW := hid hwh
    have HLE := hid hle
    have HLK := hid hlk
    clear hO hR hB hwh hle hlk
    by_cases hlt : k < cs.length
    · obtain ⟨b, off, rfl, hh⟩ := HC.out (by omega)
      have hcell0 := hh k hlt
      have hcell := (HBw.out.cell (World.block_lt_of_cell? w _ hcell0)).trans hcell0
      obtain ⟨x, HX⟩ : ∃ x, Hid (cs.getD k 0 = x) := ⟨_, rfl⟩
      rw [HX.out] at hcell
      clear hh hcell0
      go_wp2_with fail
      refine (bytes_any wr g f l x HR.out (by have := HLE.out; omega)).mono ?_
      rintro e w2 ⟨v2, B, rfl, hown2, hBle, hb2, hr2, hg2⟩
      have hO2 : OWL w w2 u6 ls := HO.out.grown hg2 (fun g' e => by
        cases e
        obtain ⟨cur, fz, hh⟩ := HR.out.block
        exact ⟨cur, _, fz, hh, by decide, by decide⟩)
      obtain ⟨p3, c3, e3, _, _⟩ := hb2.open
      have hel : EL w w2 v2 (taken l x) := .inl ⟨own_mono hown2 (Nat.le_trans HBw.out.size hBle), hb2.2⟩
      have hB2 : Below w.heap.size w w2 := HBw.out.grown hg2 HBw.out.size (fun k e => by cases e; exact hg)
      obtain ⟨W3, hW3⟩ : ∃ W3, W3 = w2.alloc (.cells #[v2] 23) := ⟨_, rfl⟩
      have hal : Below w2.heap.size w2 W3 := by rw [hW3]; exact (Below.refl _ _).alloc (Nat.le_refl _) _
      have HO3 := hid (hO2.below hal)
      have HE3 := hid (hel.grown (w' := W3) (row := none) (grown_below hal) (fun g e => by cases e))
      have HR3 := hid (hr2.grow hal)
      have HB3 := hid (hB2.trans (hal.mono hB2.size))
      rw [hW3] at HO3 HE3 HR3 HB3
      have HH2 := hid hown2
      clear hO2 hel hr2 hB2 hown2 hal hW3 W3 hb2 hg2 hBle
      subst e3
      go_wp2_with (at_builtin; refine wpList_append_OWL (w0 := w) rfl _ _ rfl _ ls rfl HO3.out ⟨w2.heap.size, 0, none⟩ 1 1 [_] [taken l x] rfl rfl rfl (cell_one_new _ _ _) ?q1 ?q2 ?q3 ?q4 ?_)
      case q1 => intro j hj; have : j = 0 := by omega
                 subst this; exact HE3.out
      case q2 => intro u hu; simp only [List.mem_singleton] at hu; subst hu; rfl
      case q3 => have := HLK.out; omega
      case q4 => exact HB3.out.size
      intro v' w4 hO4 hg4 hbk
      have HO4 := hid hO4
      have HR4 := hid (HR3.out.grownOther hg4 (fun k e => (hbk k e).2))
      have HB4 := hid (HB3.out.grown hg4 HB3.out.size (fun k e => (hbk k e).1))
      clear hO4 hg4 hbk
      have HW4 : Hid ((f || !okTake l x) = false → (ls ++ [taken l x]).flatten ++ leftAt l x = lb) := by
        intro hf
        have h1 : f = false := by cases f <;> simp_all
        have h2 : okTake l x = true := by cases h : okTake l x <;> simp_all
        rw [List.flatten_append, List.append_assoc]
        simp only [List.flatten_cons, List.flatten_nil, List.append_nil]
        rw [taken_left l x h2]
        exact HW.out h1
      have HLE4 : Hid ((ls ++ [taken l x]).flatten.length + (leftAt l x).length ≤ lb.length) := by
        show _ ≤ _
        have := taken_left_le l x
        have h2 := HLE.out
        rw [List.flatten_append, List.length_append]
        simp only [List.flatten_cons, List.flatten_nil, List.append_nil]
        omega
      have HLK4 : Hid ((ls ++ [taken l x]).length = k + 1) := by
        show _ = _
        rw [List.length_append, HLK.out]; rfl
      go_wp2
      exact ⟨⟨k + 1, by omega, by go_num, _, _, _, HLK4.out, HO4.out, HR4.out, HB4.out, HW4.out, HLE4.out⟩, by simp [intOf]; omega⟩
    · obtain ⟨fl, HF⟩ : ∃ fl, Hid (fl = ls.flatten) := ⟨_, rfl⟩
      go_wp2_with fail
      refine (join_any wr _ ls (HO.out.hl HBw.out) (by have := HLE.out; omega)).mono ?_
      rintro e w2 ⟨v2, rfl, hown2, hB2⟩
      have hj2 : HB w2 v2 ls.flatten := HB.of_own hown2 (HO.out.hl HBw.out).byt
      rw [← HF.out] at hj2
      have hr2 := HR.out.grow hB2
      have hB3 : Below w.heap.size w w2 := HBw.out.trans (hB2.mono HBw.out.size)
      have hb2 : HB w2 (.slice p1 lb.length c1) lb := HBb.out.below hB3
      have H2 := hid hj2
      have R2 := hid hr2
      have B3 := hid hB3
      have Hb2 := hid hb2
      obtain ⟨pj, cj, ej, _, _⟩ := hj2.open
      clear hj2 hr2 hB3 hb2 hown2 hB2
      subst ej
      go_wp2_with fail
      refine (sameBytes_any w2 _ _ _ lb H2.out Hb2.out).mono ?_
      rintro e w3 ⟨rfl, hD⟩
      have R3 := hid (R2.out.grow (hD.below _))
      have B4 := hid (B3.out.trans ((hD.below _).mono B3.out.size))
      clear hD
      obtain ⟨z, HZ⟩ : ∃ z, Hid (z = decide (fl = lb)) := ⟨_, rfl⟩
      rw [← HZ.out]
      go_wp2_with fail
      refine (end_any w3 g true f l R3.out).mono ?_
      rintro e w4 ⟨rfl, hw⟩
      have hw' := hw.symm
      subst hw'
      clear hw
      by_cases he : endNo true f l = 0
      · have HE := hid he
        rw [he]
        have hz : z = true := by
          rw [HZ.out]
          simp only [decide_eq_true_eq]
          have h1 : f = false := by
            cases f with
            | false => rfl
            | true => simp [endNo] at he
          have h2 : l = [] := by
            subst h1
            apply Classical.byContradiction
            intro hn
            have : l.length ≠ 0 := fun e => hn (List.length_eq_zero_iff.1 e)
            simp [endNo, hn] at he
          have := HW.out h1
          rwa [h2, List.append_nil, ← HF.out] at this
        subst hz
        clear he
        go_wp2
        go_ret
        exact ⟨rfl, B4.out⟩
      · have hne2 : (endNo true f l != 0) = true := by rw [bne_iff_ne]; exact he
        obtain ⟨y, HY⟩ : ∃ y, Hid (y = endNo true f l) := ⟨_, rfl⟩
        rw [← HY.out] at hne2 ⊢
        clear he
        go_wp2
        go_ret
        exact ⟨rfl, B4.out⟩
end Go.Proofs.Ytiodfpaifkcmoab
