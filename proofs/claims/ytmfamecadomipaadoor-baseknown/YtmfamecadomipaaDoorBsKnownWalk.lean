/- BaseKnown, walked. -/
import Derived.Test.YtmfamecadomipaaDoorBsTexts
import Derived.Test.YtmfamecadomipaaDoorBsFields
import Derived.Test.YtmfamecadomipaaDoorBsBytesW
import Derived.Test.YtmfamecadomipaaDoorBsLettersW
import Derived.Test.YtmfamecadomipaaDoorBsLen
import Derived.Test.YtmfamecadomipaaDoorBsUn
import Derived.Test.YtmfamecadomipaaDoorBsEsc
import Derived.Test.YtmfamecadomipaaDoorBsNum
import Derived.Lib.SlBytesConst
set_option linter.unusedSimpArgs false
set_option linter.unusedVariables false
namespace Go.Proofs.YtmfamecadomipaaDoor
open Go Go.RowKit

theorem hb_one (w : World) (x : Int) (hx : 0 ≤ x ∧ x < 256) : HB (w.alloc (.cells #[.int .u8 x] 5)) (.slice (some ⟨w.heap.size, 0, none⟩) 1 1) [x] := by
  refine ⟨⟨_, 1, rfl, by simp, by decide, (fun e => by cases e), fun _ => ⟨w.heap.size, 0, rfl, fun j hj => ?_⟩⟩, by intro y hy; simp at hy; omega⟩
  simp at hj
  subst hj
  simp
theorem hb_none (w : World) : HB w (.slice none 0 0) [] := by
  refine ⟨⟨_, 0, rfl, by simp, by decide, fun _ => ?_, fun h => ?_⟩, by intro y hy; simp at hy⟩
  · rfl
  · simp at h
theorem t_letters0 : bS (lettersL []) = ⟨#[]⟩ := by decide
theorem t_letters1 : bS (lettersL [0]) = ⟨#[97, 97]⟩ := by decide
theorem t_letters2 : bS (lettersL [255]) = ⟨#[55, 52]⟩ := by decide
theorem t_len5 : lenI 5 = 8 := by decide
theorem t_len16 : lenI 16 = 26 := by decide
theorem t_len32 : lenI 32 = 52 := by decide
theorem t_num0 : nS 0 = ⟨#[48]⟩ ∧ nE 0 = 0 := by
  refine ⟨?_, by decide⟩
  have h := canon_dec 1 [48] rfl (by decide)
  have e : valD [48] = 0 := by decide
  rw [e] at h
  unfold nS
  rw [if_neg (by decide), show (0 : Int).toNat = 0 from rfl, h]
theorem t_num42 : nS 42 = ⟨#[52, 50]⟩ ∧ nE 42 = 0 := by
  refine ⟨?_, by decide⟩
  have h := canon_dec 2 [52, 50] rfl (by decide)
  have e : valD [52, 50] = 42 := by decide
  rw [e] at h
  unfold nS
  rw [if_neg (by decide), show (42 : Int).toNat = 42 from rfl, h]
theorem t_num1 : nE (-1) = 102 := by decide
theorem t_esc : bS (escL [97, 32, 98, 47, 195, 169]) = ⟨#[97, 37, 50, 48, 98, 37, 50, 102, 37, 99, 51, 37, 97, 57]⟩ := by decide
theorem t_esc0 : bS (escL []) = ⟨#[37]⟩ := by decide
def knT : List ByteArray := [⟨#[65]⟩, ⟨#[97, 49]⟩, ⟨#[97]⟩, ⟨#[97, 98]⟩, ⟨#[97, 98, 99]⟩]
def knP : List Int := [0, 1, 0, 1, 2]
def knE : List Int := [100, 100, 101, 101, 101]
theorem kn_bytes : ∀ j, j < 5 → byL (sB (knT.getD j ⟨#[]⟩)) = [] ∧ byP (sB (knT.getD j ⟨#[]⟩)) = knP.getD j 0 ∧ byE (sB (knT.getD j ⟨#[]⟩)) = knE.getD j 0 ∧ (knT.getD j ⟨#[]⟩).size ≤ 3 := by decide
def knR : List ByteArray := [⟨#[48, 48, 55]⟩, ⟨#[49, 48]⟩, ⟨#[]⟩, ⟨#[43, 49]⟩]
theorem kn_read : ∀ j, j < 4 → rdE (knR.getD j ⟨#[]⟩).data.toList 9 = 102 ∧ (knR.getD j ⟨#[]⟩).size ≤ 3 := by decide
def knW : List ByteArray := [⟨#[]⟩, ⟨#[97, 37, 52, 49]⟩, ⟨#[97, 37, 52]⟩, ⟨#[37, 50, 70]⟩, ⟨#[97, 37]⟩, ⟨#[120, 32, 121]⟩]
def knH : List Int := [0, 1, 1, 0, 1, 1]
theorem kn_un : ∀ j, j < 6 → (unA (sB (knW.getD j ⟨#[]⟩))).2.1 = knH.getD j 0 ∧ (unA (sB (knW.getD j ⟨#[]⟩))).2.2 = 103 ∧ (knW.getD j ⟨#[]⟩).size ≤ 4 := by decide
theorem kn_f1 : (fieldsL (sB ⟨#[97, 58, 58, 98]⟩)).map strV = [.string ⟨#[97]⟩, .string ⟨#[]⟩, .string ⟨#[98]⟩] := by simp [fieldsL, sB, strV, bS]
theorem kn_f0 : (fieldsL (sB ⟨#[]⟩)).map strV = [.string ⟨#[]⟩] := by simp [fieldsL, sB, strV, bS]

theorem lit_cell (w : World) (vs : List Value) (t : TypeId) (j : Nat) (v : Value) (h : vs[j]? = some v) : (w.alloc (.cells vs.toArray t)).cell? ⟨w.heap.size, j, none⟩ = some v := by
  have : (w.alloc (.cells vs.toArray t)).heap[w.heap.size]? = some (.cells vs.toArray t) := heap_alloc_new w _
  simp only [World.cell?, this]
  simp [h]
theorem lit_str (w : World) (l : List ByteArray) (j : Nat) (h : j < l.length) : (w.alloc (.cells (l.map Value.string).toArray 9)).cell? ⟨w.heap.size, j, none⟩ = some (.string (l.getD j ⟨#[]⟩)) :=
  lit_cell w _ _ _ _ (by simp [List.getD, List.getElem?_eq_getElem h])
theorem lit_int (w : World) (l : List Int) (t : TypeId) (j : Nat) (h : j < l.length) : (w.alloc (.cells (l.map (Value.int .i64)).toArray t)).cell? ⟨w.heap.size, j, none⟩ = some (.int .i64 (l.getD j 0)) :=
  lit_cell w _ _ _ _ (by simp [List.getD, List.getElem?_eq_getElem h])
theorem below_alloc (w : World) (o : Obj) : Below w.heap.size w (w.alloc o) := (Below.refl _ _).alloc (Nat.le_refl _) _
theorem HTx.lit (w : World) (l : List ByteArray) (h : l.length ≤ 1000) : HTx (w.alloc (.cells (l.map Value.string).toArray 9)) (.slice (some ⟨w.heap.size, 0, none⟩) l.length l.length) l :=
  Or.inr ⟨_, _, _, rfl, by omega, fun j hj => by rw [Nat.zero_add]; exact lit_str w l j hj⟩
theorem HTx.below {w w' : World} {v : Value} {l : List ByteArray} (h : HTx w v l) (hb : Below w.heap.size w w') : HTx w' v l := by
  rcases h with h | ⟨b, o, c, e, hl, hc⟩
  · exact Or.inl h
  · exact Or.inr ⟨b, o, c, e, hl, fun j hj => (hb.cell (World.block_lt_of_cell? w _ (hc j hj))).trans (hc j hj)⟩
theorem HTx.of_own {w : World} {B : Nat} {v : Value} {G : List (List Int)} (h : w.ownsRow B 9 1 v G.length (G.map strV)) (h0 : 0 < G.length) : HTx w v (G.map bS) := by
  obtain ⟨g, cap, rfl, _, hn, hm, hcl⟩ := ownsRow_cells h h0
  unfold maxLen at hm
  refine Or.inr ⟨g, 0, cap, by simp, by simp; omega, fun j hj => ?_⟩
  simp at hj
  refine hcl j _ ?_
  simp [strV, List.getD, List.getElem?_eq_getElem hj]
def knW3 (w : World) : World := ((w.alloc (.cells (knT.map Value.string).toArray 9)).alloc (.cells (knP.map (Value.int .i64)).toArray 3)).alloc (.cells (knE.map (Value.int .i64)).toArray 22)
theorem knW3_cells (w : World) (j : Nat) (h : j < 5) : (knW3 w).cell? ⟨w.heap.size, j, none⟩ = some (.string (knT.getD j ⟨#[]⟩)) ∧ (knW3 w).cell? ⟨w.heap.size + 1, j, none⟩ = some (.int .i64 (knP.getD j 0)) ∧ (knW3 w).cell? ⟨w.heap.size + 1 + 1, j, none⟩ = some (.int .i64 (knE.getD j 0)) := by
  have a1 := lit_str w knT j h
  have a2 := lit_int (w.alloc (.cells (knT.map Value.string).toArray 9)) knP 3 j h
  have a3 := lit_int ((w.alloc (.cells (knT.map Value.string).toArray 9)).alloc (.cells (knP.map (Value.int .i64)).toArray 3)) knE 22 j h
  have b1 := (below_alloc (w.alloc (.cells (knT.map Value.string).toArray 9)) (.cells (knP.map (Value.int .i64)).toArray 3))
  have b2 := (below_alloc ((w.alloc (.cells (knT.map Value.string).toArray 9)).alloc (.cells (knP.map (Value.int .i64)).toArray 3)) (.cells (knE.map (Value.int .i64)).toArray 22))
  refine ⟨?_, ?_, ?_⟩
  · exact (b2.cell (by simp; omega)).trans ((b1.cell (by simp)).trans a1)
  · refine (b2.cell (by simp)).trans ?_
    simpa using a2
  · simpa [knW3] using a3
theorem knW3_below (w : World) : Below w.heap.size w (knW3 w) := ((below_alloc w _).alloc (by simp) _).alloc (by simp; omega) _

theorem hb_six (w : World) : HB (w.alloc (.cells #[.int .u8 97, .int .u8 32, .int .u8 98, .int .u8 47, .int .u8 195, .int .u8 169] 5 (6, 7))) (.slice (some ⟨w.heap.size, 0, none⟩) 6 6) [97, 32, 98, 47, 195, 169] := by
  refine ⟨⟨_, 6, rfl, by simp, by decide, (fun e => by cases e), fun _ => ⟨w.heap.size, 0, rfl, fun j hj => ?_⟩⟩, by intro x hx; simp at hx; omega⟩
  simp at hj
  rw [Nat.zero_add, World.cell?_alloc_mark]
  match j, hj with
  | 0, _ => rfl
  | 1, _ => rfl
  | 2, _ => rfl
  | 3, _ => rfl
  | 4, _ => rfl
  | 5, _ => rfl
def knW2 (w : World) : World := (w.alloc (.cells (knW.map Value.string).toArray 9)).alloc (.cells (knH.map (Value.int .i64)).toArray 3)
theorem knW2_cells (w : World) (j : Nat) (h : j < 6) : (knW2 w).cell? ⟨w.heap.size, j, none⟩ = some (.string (knW.getD j ⟨#[]⟩)) ∧ (knW2 w).cell? ⟨w.heap.size + 1, j, none⟩ = some (.int .i64 (knH.getD j 0)) := by
  have a1 := lit_str w knW j h
  have a2 := lit_int (w.alloc (.cells (knW.map Value.string).toArray 9)) knH 3 j h
  have b1 := (below_alloc (w.alloc (.cells (knW.map Value.string).toArray 9)) (.cells (knH.map (Value.int .i64)).toArray 3))
  refine ⟨?_, ?_⟩
  · exact (b1.cell (by simp)).trans a1
  · simpa [knW2] using a2
theorem knW2_below (w : World) : Below w.heap.size w (knW2 w) := (below_alloc w _).alloc (by simp) _
def knF : List ByteArray := [⟨#[97]⟩, ⟨#[]⟩, ⟨#[98]⟩]
theorem kn_fields (w : World) : Calls Tryd.prog 19 #[.string ⟨#[97, 58, 58, 98]⟩] w fun e w' => ∃ v', e = .returned v' ∧ HTx w' v' knF ∧ Below w.heap.size w w' := by
  refine (fields_any w ⟨#[97, 58, 58, 98]⟩ (by decide)).mono ?_
  rintro e w' ⟨v', rfl, ho, hb⟩
  refine ⟨v', rfl, ?_, hb⟩
  have := HTx.of_own ho (fieldsL_pos _)
  rwa [show (fieldsL (sB ⟨#[97, 58, 58, 98]⟩)).map bS = knF by decide] at this
theorem kn_fields0 (w : World) : Calls Tryd.prog 19 #[.string ⟨#[]⟩] w fun e w' => ∃ v', e = .returned v' ∧ HTx w' v' [⟨#[]⟩] ∧ Below w.heap.size w w' := by
  refine (fields_any w ⟨#[]⟩ (by decide)).mono ?_
  rintro e w' ⟨v', rfl, ho, hb⟩
  refine ⟨v', rfl, ?_, hb⟩
  have := HTx.of_own ho (fieldsL_pos _)
  rwa [show (fieldsL (sB ⟨#[]⟩)).map bS = [⟨#[]⟩] by decide] at this
theorem kn_same (w : World) (v : Value) (h : HTx w v knF) : Calls Tryd.prog 18 #[v, .slice (some ⟨w.heap.size, 0, none⟩) 3 3] (w.alloc (.cells #[.string ⟨#[97]⟩, .string ⟨#[]⟩, .string ⟨#[98]⟩] 9)) fun e w' => e = .returned (.bool true) ∧ Below w.heap.size w w' := by
  refine (sameTexts_any _ v _ knF knF (h.below (below_alloc w _)) (HTx.lit w knF (by decide))).mono ?_
  rintro e w' ⟨rfl, hd⟩
  exact ⟨by simp, (below_alloc w _).trans (hd.below _)⟩
theorem kn_same0 (w : World) (v : Value) (h : HTx w v [⟨#[]⟩]) : Calls Tryd.prog 18 #[v, .slice (some ⟨w.heap.size, 0, none⟩) 1 1] (w.alloc (.cells #[.string ⟨#[]⟩] 9)) fun e w' => e = .returned (.bool true) ∧ Below w.heap.size w w' := by
  refine (sameTexts_any _ v _ [⟨#[]⟩] [⟨#[]⟩] (h.below (below_alloc w _)) (HTx.lit w [⟨#[]⟩] (by decide))).mono ?_
  rintro e w' ⟨rfl, hd⟩
  exact ⟨by simp, (below_alloc w _).trans (hd.below _)⟩

set_option maxRecDepth 100000 in
set_option maxHeartbeats 8000000 in
theorem known_walk (w : World) (hk : KD w) :
    Calls Tryd.prog 6 #[] w fun r w' => r = .returned (.bool true) ∧ Below w.heap.size w w' := by
  have K0 := hid hk
  clear hk
  have CL0 := hid (fun W : World => letters_any W _ _ (hb_none W) (by simp))
  have CL1 := hid (fun W : World => letters_any _ _ _ (hb_one W 0 (by decide)) (by simp))
  have CL2 := hid (fun W : World => letters_any _ _ _ (hb_one W 255 (by decide)) (by simp))
  rw [t_letters0] at CL0
  rw [t_letters1] at CL1
  rw [t_letters2] at CL2
  have CN5 := hid (fun W : World => length_any W 5 (by decide) (by decide))
  have CN16 := hid (fun W : World => length_any W 16 (by decide) (by decide))
  have CN32 := hid (fun W : World => length_any W 32 (by decide) (by decide))
  rw [t_len5] at CN5
  rw [t_len16] at CN16
  rw [t_len32] at CN32
  have CM0 := hid (fun (W : World) (h : KD W) => number_any W 0 (by decide) (by decide) h)
  have CM42 := hid (fun (W : World) (h : KD W) => number_any W 42 (by decide) (by decide) h)
  have CM1 := hid (fun (W : World) (h : KD W) => number_any W (-1) (by decide) (by decide) h)
  rw [t_num0.1, t_num0.2] at CM0
  rw [t_num42.1, t_num42.2] at CM42
  rw [t_num1] at CM1
  have CE := hid (fun (W : World) => escape_any _ _ _ (hb_six W) (by decide))
  have CE0 := hid (fun (W : World) => escape_any W _ _ (hb_none W) (by decide))
  rw [t_esc] at CE
  rw [t_esc0] at CE0
  go_enter Tryd.func6, Tryd.ntmps6
  go_wp2_with fail
  refine (CL0.out _).mono ?_
  rintro e1 w1 ⟨rfl, hB⟩
  have B1 := hid hB
  clear hB
  go_wp2_with fail
  refine (CL1.out _).mono ?_
  rintro e1 w2 ⟨rfl, hB⟩
  have B2 := hid ((B1.out.alloc B1.out.size (.cells #[.int .u8 0] 5)).trans (hB.mono (by have := B1.out.size; simp; omega)))
  clear hB
  go_wp2_with fail
  refine (CL2.out _).mono ?_
  rintro e1 w3 ⟨rfl, hB⟩
  have B3 := hid ((B2.out.alloc B2.out.size (.cells #[.int .u8 255] 5)).trans (hB.mono (by have := B2.out.size; simp; omega)))
  clear hB
  go_wp2_with fail
  refine (CN5.out _).mono ?_
  rintro e1 w4 ⟨rfl, rfl⟩
  go_wp2_with fail
  refine (CN16.out _).mono ?_
  rintro e1 w4 ⟨rfl, rfl⟩
  go_wp2_with fail
  refine (CN32.out _).mono ?_
  rintro e1 w4 ⟨rfl, rfl⟩
  clear CL0 CL1 CL2 CN5 CN16 CN32
  go_wp2
  have BW : Hid (Below w.heap.size w (knW3 w4)) := hid (B3.out.trans ((knW3_below w4).mono B3.out.size))
  have CW := hid (knW3_cells w4)
  change Code.wp _ _ _ _ (knW3 w4)
  obtain ⟨W, HW⟩ : ∃ W, Hid (knW3 w4 = W) := ⟨_, rfl⟩
  rw [HW.out] at BW CW
  rw [HW.out]
  clear HW
  obtain ⟨g, Hg⟩ : ∃ g, Hid (w4.heap.size = g) := ⟨_, rfl⟩
  rw [Hg.out] at CW
  rw [Hg.out]
  clear Hg B1 B2 B3
  go_loopw [4] (fun i wr => ∃ I : Nat, I ≤ 5 ∧ i = .int .i64 (I : Int) ∧ Hid (Below W.heap.size W wr)) (fun i _ => 5 - (intOf i).toNat)
  case atStart => exact ⟨0, Nat.zero_le _, rfl, Below.refl _ _⟩
  case round =>
    obtain ⟨I, hI, rfl, HBw⟩ := hrel
    by_cases hlt : I < 5
    · obtain ⟨q1, q2, q3⟩ := CW.out I hlt
      have q1 := (HBw.out.cell (World.block_lt_of_cell? W _ q1)).trans q1
      have q2 := (HBw.out.cell (World.block_lt_of_cell? W _ q2)).trans q2
      have q3 := (HBw.out.cell (World.block_lt_of_cell? W _ q3)).trans q3
      obtain ⟨k1, k2, k3, k4⟩ := kn_bytes I hlt
      have C := bytes_any wr (knT.getD I ⟨#[]⟩) (by omega)
      rw [k1, k2, k3] at C
      obtain ⟨T, HT⟩ : ∃ T, Hid (knT.getD I ⟨#[]⟩ = T) := ⟨_, rfl⟩
      obtain ⟨P, HP⟩ : ∃ P, Hid (knP.getD I 0 = P) := ⟨_, rfl⟩
      obtain ⟨E, HE⟩ : ∃ E, Hid (knE.getD I 0 = E) := ⟨_, rfl⟩
      rw [HT.out, HP.out, HE.out] at C
      rw [HT.out] at q1
      rw [HP.out] at q2
      rw [HE.out] at q3
      have CH := hid C
      have Q2 := hid q2
      have Q3 := hid q3
      clear C k1 k2 k3 k4 HT HP HE q2 q3
      go_wp2_with fail
      refine CH.out.mono ?_
      rintro e1 x1 ⟨v1, rfl, ho, hB⟩
      obtain ⟨p, c, rfl⟩ := own_slc ho
      have q2 := (hB.cell (World.block_lt_of_cell? wr _ Q2.out)).trans Q2.out
      have q3 := (hB.cell (World.block_lt_of_cell? wr _ Q3.out)).trans Q3.out
      have HB2 := hid (HBw.out.trans (hB.mono HBw.out.size))
      clear hB ho CH Q2 Q3 q1
      have hne1 : (P != P) = false := by simp
      have hne2 : (E != E) = false := by simp
      go_wp2
      exact ⟨⟨I + 1, by omega, by go_num, HB2⟩, by simp [intOf]; omega⟩
    · have B4 := hid (BW.out.trans (HBw.out.mono BW.out.size))
      clear CW BW HBw
      go_wp2_with fail
      refine (CM0.out _ (K0.out.below B4.out)).mono ?_
      rintro e1 x1 ⟨rfl, hB⟩
      have B5 := hid (B4.out.trans (hB.mono B4.out.size))
      clear hB CM0 B4
      go_wp2_with fail
      refine (CM42.out _ (K0.out.below B5.out)).mono ?_
      rintro e1 x2 ⟨rfl, hB⟩
      have B6 := hid (B5.out.trans (hB.mono B5.out.size))
      clear hB CM42 B5
      go_wp2_with fail
      refine (CM1.out _ (K0.out.below B6.out)).mono ?_
      rintro e1 x3 ⟨rfl, hB⟩
      have B7 := hid (B6.out.trans (hB.mono B6.out.size))
      clear hB CM1 B6
      go_wp2
      have BW : Hid (Below w.heap.size w (x3.alloc (.cells (knR.map Value.string).toArray 9))) := hid (B7.out.alloc B7.out.size _)
      have CW := hid (lit_str x3 knR)
      change Code.wp _ _ _ _ (x3.alloc (.cells (knR.map Value.string).toArray 9))
      obtain ⟨W2, HW⟩ : ∃ W, Hid (x3.alloc (.cells (knR.map Value.string).toArray 9) = W) := ⟨_, rfl⟩
      rw [HW.out] at BW CW
      rw [HW.out]
      clear HW
      obtain ⟨g2, Hg⟩ : ∃ g, Hid (x3.heap.size = g) := ⟨_, rfl⟩
      rw [Hg.out] at CW
      rw [Hg.out]
      clear Hg B7
      clear hlt hI
      go_loopw [117] (fun i wr => ∃ I : Nat, I ≤ 4 ∧ i = .int .i64 (I : Int) ∧ Hid (Below W2.heap.size W2 wr)) (fun i _ => 4 - (intOf i).toNat)
      case atStart => exact ⟨0, Nat.zero_le _, rfl, Below.refl _ _⟩
      case round =>
        obtain ⟨J, hJ, rfl, HBw⟩ := hrel
        by_cases hlt : J < 4
        · have q1 := CW.out J hlt
          have q1 := (HBw.out.cell (World.block_lt_of_cell? W2 _ q1)).trans q1
          obtain ⟨k1, k2⟩ := kn_read J hlt
          have C := read_any wr (knR.getD J ⟨#[]⟩) 9 (by omega) (by decide) (by decide) (K0.out.below (BW.out.trans (HBw.out.mono BW.out.size)))
          rw [k1] at C
          obtain ⟨T, HT⟩ : ∃ T, Hid (knR.getD J ⟨#[]⟩ = T) := ⟨_, rfl⟩
          rw [HT.out] at C q1
          obtain ⟨V, HV⟩ : ∃ V, Hid (rdV T.data.toList 9 = V) := ⟨_, rfl⟩
          rw [HV.out] at C
          have CH := hid C
          clear C k1 k2 HT HV
          go_wp2_with fail
          refine CH.out.mono ?_
          rintro e1 x4 ⟨rfl, hB⟩
          have HB2 := hid (HBw.out.trans (hB.mono HBw.out.size))
          clear hB CH q1
          go_wp2
          exact ⟨⟨J + 1, by omega, by go_num, HB2⟩, by simp [intOf]; omega⟩
        · have B8 := hid (BW.out.trans (HBw.out.mono BW.out.size))
          clear CW BW HBw
          have hcv := Go.Lib.run_convert_bytes_const wr 28 5 #[.int .u8 97, .int .u8 32, .int .u8 98, .int .u8 47, .int .u8 195, .int .u8 169] 6 6 Tryd.underlying28 Tryd.underlying5
          go_wp2_with fail
          refine (CE.out _).mono ?_
          rintro e1 y1 ⟨rfl, hB⟩
          have B9 := hid ((B8.out.alloc B8.out.size (.cells #[.int .u8 97, .int .u8 32, .int .u8 98, .int .u8 47, .int .u8 195, .int .u8 169] 5 (6, 7))).trans (hB.mono (by have := B8.out.size; simp; omega)))
          clear hB CE hcv B8
          go_wp2_with fail
          refine (CE0.out _).mono ?_
          rintro e1 y2 ⟨rfl, hB⟩
          have B10 := hid (B9.out.trans (hB.mono B9.out.size))
          clear hB CE0 B9
          go_wp2
          have BW : Hid (Below w.heap.size w (knW2 y2)) := hid (B10.out.trans ((knW2_below y2).mono B10.out.size))
          have CW := hid (knW2_cells y2)
          change Code.wp _ _ _ _ (knW2 y2)
          obtain ⟨W3, HW⟩ : ∃ W, Hid (knW2 y2 = W) := ⟨_, rfl⟩
          rw [HW.out] at BW CW
          rw [HW.out]
          clear HW
          obtain ⟨g3, Hg⟩ : ∃ g, Hid (y2.heap.size = g) := ⟨_, rfl⟩
          rw [Hg.out] at CW
          rw [Hg.out]
          clear Hg B10
          clear hlt hJ
          go_loopw [20] (fun i wr => ∃ I : Nat, I ≤ 6 ∧ i = .int .i64 (I : Int) ∧ Hid (Below W3.heap.size W3 wr)) (fun i _ => 6 - (intOf i).toNat)
          case atStart => exact ⟨0, Nat.zero_le _, rfl, Below.refl _ _⟩
          case round =>
            obtain ⟨L, hL, rfl, HBw⟩ := hrel
            by_cases hlt : L < 6
            · obtain ⟨q1, q2⟩ := CW.out L hlt
              have q1 := (HBw.out.cell (World.block_lt_of_cell? W3 _ q1)).trans q1
              have q2 := (HBw.out.cell (World.block_lt_of_cell? W3 _ q2)).trans q2
              obtain ⟨k1, k2, k3⟩ := kn_un L hlt
              have C := unescape_any wr (knW.getD L ⟨#[]⟩) (by omega)
              rw [k1, k2] at C
              obtain ⟨T, HT⟩ : ∃ T, Hid (knW.getD L ⟨#[]⟩ = T) := ⟨_, rfl⟩
              obtain ⟨P, HP⟩ : ∃ P, Hid (knH.getD L 0 = P) := ⟨_, rfl⟩
              rw [HT.out, HP.out] at C
              rw [HT.out] at q1
              rw [HP.out] at q2
              have CH := hid C
              have Q2 := hid q2
              clear C k1 k2 k3 HT HP q2
              go_wp2_with fail
              refine CH.out.mono ?_
              rintro e1 x1 ⟨v1, rfl, ho, hB⟩
              have q2 := (hB.cell (World.block_lt_of_cell? wr _ Q2.out)).trans Q2.out
              have HB2 := hid (HBw.out.trans (hB.mono HBw.out.size))
              clear hB ho CH Q2 q1
              have hne1 : (P != P) = false := by simp
              go_wp2
              exact ⟨⟨L + 1, by omega, by go_num, HB2⟩, by simp [intOf]; omega⟩
            · have B11 := hid (BW.out.trans (HBw.out.mono BW.out.size))
              clear CW BW HBw
              go_wp2_with fail
              refine (kn_fields wr).mono ?_
              rintro e1 z1 ⟨v1, rfl, ht, hB⟩
              have B12 := hid (B11.out.trans (hB.mono B11.out.size))
              have C1 := hid (kn_same z1 v1 ht)
              clear hB ht B11
              go_wp2_with fail
              refine C1.out.mono ?_
              rintro e1 z2 ⟨rfl, hB⟩
              have B13 := hid (B12.out.trans (hB.mono B12.out.size))
              clear hB C1 B12
              go_wp2_with fail
              refine (kn_fields0 z2).mono ?_
              rintro e1 z3 ⟨v3, rfl, ht, hB⟩
              have B14 := hid (B13.out.trans (hB.mono B13.out.size))
              have C1 := hid (kn_same0 z3 v3 ht)
              clear hB ht B13
              go_wp2_with fail
              refine C1.out.mono ?_
              rintro e1 z4 ⟨rfl, hB⟩
              have B15 := hid (B14.out.trans (hB.mono B14.out.size))
              clear hB C1 B14
              go_wp2
              go_ret
              exact ⟨rfl, B15.out⟩
end Go.Proofs.YtmfamecadomipaaDoor
