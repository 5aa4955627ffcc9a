/- ClockNames, walked. -/
import Derived.Test.YtajdopmhdagehaaCksD
import Derived.Test.YtajdopmhdagehaaCksEq
import Derived.Test.YtajdopmhdagehaaCkAw
set_option linter.unusedVariables false
set_option linter.unusedSimpArgs false
namespace Go.Proofs.Ytajdopmhdagehaa.Ds
open Go.Proofs.Ytajdopmhdagehaa
open Go Go.RowKit

theorem part_perm {R M2 A B : List (Rw Pr)} {t : Int} (h : (R ++ M2).Perm (A ++ B)) (hR : ∀ r ∈ R, r.x.2.1 ≤ t) (hM : ∀ q ∈ M2, t < q.x.2.1) (hA : ∀ r ∈ A, r.x.2.1 ≤ t) (hB : ∀ q ∈ B, t < q.x.2.1) : R.Perm A ∧ M2.Perm B := by
  have f1 : ∀ X Y : List (Rw Pr), (∀ r ∈ X, r.x.2.1 ≤ t) → (∀ q ∈ Y, t < q.x.2.1) → (X ++ Y).filter (fun r => decide (r.x.2.1 ≤ t)) = X ∧ (X ++ Y).filter (fun r => !decide (r.x.2.1 ≤ t)) = Y := fun X Y hX hY => by
    constructor
    · rw [List.filter_append, List.filter_eq_self.2 (fun r hr => by simpa using hX r hr), List.filter_eq_nil_iff.2 (fun r hr => by have := hY r hr; simp; omega), List.append_nil]
    · rw [List.filter_append, List.filter_eq_nil_iff.2 (fun r hr => by simpa using hX r hr), List.filter_eq_self.2 (fun r hr => by have := hY r hr; simp; omega), List.nil_append]
  have h1 := h.filter (fun r => decide (r.x.2.1 ≤ t))
  have h2 := h.filter (fun r => !decide (r.x.2.1 ≤ t))
  rw [(f1 R M2 hR hM).1, (f1 A B hA hB).1] at h1
  rw [(f1 R M2 hR hM).2, (f1 A B hA hB).2] at h2
  exact ⟨h1, h2⟩
/-- The ticks and texts of the examples. -/
def nT (i : Nat) : Int := if i = 0 then 7 else if i = 1 then 6 else if i = 2 then 7 else 5
def nS (i : Nat) : ByteArray := if i = 0 then ⟨#[97]⟩ else if i = 1 then ⟨#[98]⟩ else if i = 2 then ⟨#[99]⟩ else ⟨#[100]⟩
def rowsN (b : Nat → Nat) : Nat → List (Rw Pr)
  | 0 => []
  | i + 1 => ⟨b i, i, ((i : Int), nT i, nS i)⟩ :: rowsN b i
theorem rowsN_up (b : Nat → Nat) (x : Nat) : ∀ i, rowsN (fun k => if k = i then x else b k) i = rowsN b i := by
  have : ∀ i j, j ≤ i → rowsN (fun k => if k = i then x else b k) j = rowsN b j := by
    intro i j
    induction j with
    | zero => intro _; rfl
    | succ j ih =>
      intro h
      have hne : ¬ j = i := by omega
      simp only [rowsN, if_neg hne]
      rw [ih (by omega)]
  exact fun i => this i i (Nat.le_refl _)
theorem nS_at (i : Nat) (hi : i < 4) : #[Value.string ⟨#[97]⟩, Value.string ⟨#[98]⟩, Value.string ⟨#[99]⟩, Value.string ⟨#[100]⟩][i]? = some (.string (nS i)) := by
  have : i = 0 ∨ i = 1 ∨ i = 2 ∨ i = 3 := by omega
  rcases this with rfl | rfl | rfl | rfl <;> rfl
theorem nT_at (i : Nat) (hi : i < 4) : #[Value.int .i64 7, Value.int .i64 6, Value.int .i64 7, Value.int .i64 5][i]? = some (.int .i64 (nT i)) := by
  have : i = 0 ∨ i = 1 ∨ i = 2 ∨ i = 3 := by omega
  rcases this with rfl | rfl | rfl | rfl <;> rfl
theorem nT_ok (i : Nat) : rcE 5 (nT i) = 0 := by
  unfold nT
  split
  · decide
  · split
    · decide
    · split <;> decide
set_option maxRecDepth 100000 in
set_option maxHeartbeats 16000000 in
theorem cnames_walk (w : World) : Calls Try.prog 5 #[] w fun e w' => e = .returned (.bool true) ∧ Below w.heap.size w w' := by
  have HEQ := run_eql_due
  have CA := hid (awake_any w)
  go_enter Try.func5, Try.ntmps5
  go_wp2_with fail
  refine CA.out.mono ?_
  rintro e w0 ⟨rfl, hb⟩
  have B0 : Hid (Below w.heap.size w w0) := hid hb
  clear hb CA
  have CC := hid (cnew_ok w0 5 (by decide))
  go_wp2_with fail
  refine CC.out.mono ?_
  rintro e w1 ⟨c1, rfl, hk, hb⟩
  have B1 : Hid (Below w.heap.size w w1) := hid (B0.out.trans (hb.mono B0.out.size))
  have LO1 : Hid (∀ k, (fun k => w0.heap.size ≤ k ∧ k < w1.heap.size) k → w.heap.size ≤ k) := hid fun k hk => by have := B0.out.size; have := hk.1; omega
  have K1 := hid hk
  obtain ⟨S1, HS1⟩ : ∃ S1, Hid ((fun k => w0.heap.size ≤ k ∧ k < w1.heap.size) = S1) := ⟨_, rfl⟩
  rw [HS1.out] at K1 LO1
  clear hk hb CC HS1
  have HLIT := hid (heap_alloc_new w1 (.cells #[.string ⟨#[97]⟩, .string ⟨#[98]⟩, .string ⟨#[99]⟩, .string ⟨#[100]⟩] 9))
  have K2 := hid (K1.out.below ((Below.refl _ _).alloc (Nat.le_refl _) (.cells #[.string ⟨#[97]⟩, .string ⟨#[98]⟩, .string ⟨#[99]⟩, .string ⟨#[100]⟩] 9)))
  have B2 := hid (B1.out.alloc B1.out.size (.cells #[.string ⟨#[97]⟩, .string ⟨#[98]⟩, .string ⟨#[99]⟩, .string ⟨#[100]⟩] 9))
  have NL2 : Hid (¬ S1 w1.heap.size) := hid fun q => by have := K1.out.lt _ q; omega
  obtain ⟨w2, HW2⟩ : ∃ W, Hid (w1.alloc (.cells #[.string ⟨#[97]⟩, .string ⟨#[98]⟩, .string ⟨#[99]⟩, .string ⟨#[100]⟩] 9) = W) := ⟨_, rfl⟩
  obtain ⟨sb, HSB⟩ : ∃ x, Hid (w1.heap.size = x) := ⟨_, rfl⟩
  rw [HW2.out] at HLIT K2 B2
  rw [HSB.out] at HLIT NL2
  clear K1
  go_wp2_with fail
  rw [HW2.out, HSB.out]
  go_loopw [35] (fun vi wr => ∃ (i : Nat) (b : Nat → Nat) (S : Nat → Prop), vi = .int .i64 (i : Int) ∧ i ≤ 4 ∧ Hid (CK wr c1 5 (rowsN b i) i S) ∧ Hid (∀ k, S k → w.heap.size ≤ k) ∧ Hid (¬ S sb) ∧ Hid (wr.heap[sb]? = some (.cells #[.string ⟨#[97]⟩, .string ⟨#[98]⟩, .string ⟨#[99]⟩, .string ⟨#[100]⟩] 9 (0, 0))) ∧ Hid (Below w.heap.size w wr)) (fun vi _ => 4 - (intOf vi).toNat)
  case atStart => exact ⟨0, fun _ => 0, S1, rfl, by omega, K2, LO1, NL2, HLIT, B2⟩
  case round =>
    clear K2 LO1 NL2 HLIT B2
    obtain ⟨i, b, S, rfl, hi, HK, HLO, HNL, HLIT, HB⟩ := hrel
    by_cases hlt : i < 4
    · have hlt' : (i : Int) < 4 := by omega
      have hci : wr.cell? ⟨sb, i, none⟩ = some (.string (nS i)) := by rw [cell_of_row _ _ _ _ _ _ HLIT.out]; exact nS_at i hlt
      have HK4 := hid (HK.out.below ((Below.refl _ _).alloc (Nat.le_refl _) (.cells #[.int .i64 7, .int .i64 6, .int .i64 7, .int .i64 5] 3)))
      have hti : (wr.alloc (.cells #[.int .i64 7, .int .i64 6, .int .i64 7, .int .i64 5] 3)).cell? ⟨wr.heap.size, i, none⟩ = some (.int .i64 (nT i)) := by rw [cell_of_row _ _ _ _ _ _ (heap_alloc_new wr _)]; exact nT_at i hlt
      have CS := hid (cset_ok HK4.out (nT i) (nT_ok i) (nS i) (by omega))
      go_wp2_with fail
      refine CS.out.mono ?_
      rintro e w3 ⟨rfl, b3, S3, hk3, he3, hs3⟩
      have B3 : Hid (Below w.heap.size w w3) := hid ((HB.out.alloc HB.out.size _).trans (he3.below (by have := HB.out.size; simp; omega) HLO.out))
      have hwsz : (wr.alloc (.cells #[.int .i64 7, .int .i64 6, .int .i64 7, .int .i64 5] 3)).heap.size = wr.heap.size + 1 := by simp
      have hsbl := (Array.getElem?_eq_some_iff.1 HLIT.out).1
      have LO3 : Hid (∀ k, S3 k → w.heap.size ≤ k) := hid fun k hk => by
        rcases hs3 k hk with q | q
        · exact HLO.out k q
        · have := HB.out.size; omega
      have NL3 : Hid (¬ S3 sb) := hid fun q => by
        rcases hs3 sb q with z | z
        · exact HNL.out z
        · omega
      have HL3 := hid ((he3.block sb (by rw [hwsz]; omega) HNL.out).trans ((heap_alloc_old wr _ hsbl).trans HLIT.out))
      have K3 : Hid (CK w3 c1 5 (rowsN (fun k => if k = i then b3 else b k) (i + 1)) (i + 1) S3) := hid (by simp only [rowsN, if_pos]; rw [rowsN_up]; exact hk3)
      clear hk3 he3 hs3 CS hci hti hwsz hsbl
      go_wp2_with fail
      exact ⟨⟨i + 1, _, S3, by go_num, by omega, K3, LO3, NL3, HL3, B3⟩, by simp [intOf]; omega⟩
    · obtain rfl : i = 4 := by omega
      have K4 : Hid (CK wr c1 5 [⟨b 3, 3, ((3 : Int), 5, ⟨#[100]⟩)⟩, ⟨b 2, 2, ((2 : Int), 7, ⟨#[99]⟩)⟩, ⟨b 1, 1, ((1 : Int), 6, ⟨#[98]⟩)⟩, ⟨b 0, 0, ((0 : Int), 7, ⟨#[97]⟩)⟩] 4 S) := hid HK.out
      clear HK HLIT HNL
      obtain ⟨b3, e3⟩ : ∃ x, Hid (b 3 = x) := ⟨_, rfl⟩
      obtain ⟨b2, e2⟩ : ∃ x, Hid (b 2 = x) := ⟨_, rfl⟩
      obtain ⟨b1, e1⟩ : ∃ x, Hid (b 1 = x) := ⟨_, rfl⟩
      obtain ⟨b0, e0⟩ : ∃ x, Hid (b 0 = x) := ⟨_, rfl⟩
      rw [e3.out, e2.out, e1.out, e0.out] at K4
      clear e3 e2 e1 e0
      have CC := hid (cset_bad K4.out (-1) (by decide) ⟨#[101]⟩)
      rw [show rcE 5 (-1) = 2 from by decide] at CC
      go_wp2_with fail
      refine CC.out.mono ?_
      rintro e w11 ⟨rfl, hk, he⟩
      have B11 : Hid (Below w.heap.size w w11) := hid (HB.out.trans (he.below HB.out.size HLO.out))
      have K11 : Hid (CK w11 c1 5 [⟨b3, 3, ((3 : Int), 5, ⟨#[100]⟩)⟩, ⟨b2, 2, ((2 : Int), 7, ⟨#[99]⟩)⟩, ⟨b1, 1, ((1 : Int), 6, ⟨#[98]⟩)⟩, ⟨b0, 0, ((0 : Int), 7, ⟨#[97]⟩)⟩] 4 S) := hid hk
      clear hk he CC
      clear K4
      have CC := hid (cset_bad K11.out (1099511627777) (by decide) ⟨#[101]⟩)
      rw [show rcE 5 (1099511627777) = 2 from by decide] at CC
      go_wp2_with fail
      refine CC.out.mono ?_
      rintro e w12 ⟨rfl, hk, he⟩
      have B12 : Hid (Below w.heap.size w w12) := hid (B11.out.trans (he.below B11.out.size HLO.out))
      have K12 : Hid (CK w12 c1 5 [⟨b3, 3, ((3 : Int), 5, ⟨#[100]⟩)⟩, ⟨b2, 2, ((2 : Int), 7, ⟨#[99]⟩)⟩, ⟨b1, 1, ((1 : Int), 6, ⟨#[98]⟩)⟩, ⟨b0, 0, ((0 : Int), 7, ⟨#[97]⟩)⟩] 4 S) := hid hk
      clear hk he CC
      clear K11
      have CC := hid (ctake_some (r := ⟨b3, 3, ((3 : Int), 5, ⟨#[100]⟩)⟩) (M2 := [⟨b2, 2, ((2 : Int), 7, ⟨#[99]⟩)⟩, ⟨b1, 1, ((1 : Int), 6, ⟨#[98]⟩)⟩, ⟨b0, 0, ((0 : Int), 7, ⟨#[97]⟩)⟩]) K12.out (List.perm_middle (α := Rw Pr) (l₁ := []) (a := ⟨b3, 3, ((3 : Int), 5, ⟨#[100]⟩)⟩) (l₂ := [⟨b2, 2, ((2 : Int), 7, ⟨#[99]⟩)⟩, ⟨b1, 1, ((1 : Int), 6, ⟨#[98]⟩)⟩, ⟨b0, 0, ((0 : Int), 7, ⟨#[97]⟩)⟩])) (by simp [ahd, keyD]))
      go_wp2_with fail
      refine CC.out.mono ?_
      rintro e w13 ⟨rfl, hk, he⟩
      have B13 : Hid (Below w.heap.size w w13) := hid (B12.out.trans (he.below B12.out.size HLO.out))
      have K13 : Hid (CK w13 c1 5 [⟨b2, 2, ((2 : Int), 7, ⟨#[99]⟩)⟩, ⟨b1, 1, ((1 : Int), 6, ⟨#[98]⟩)⟩, ⟨b0, 0, ((0 : Int), 7, ⟨#[97]⟩)⟩] 4 S) := hid hk
      clear hk he CC
      clear K12
      have NS14 : Hid (¬ S w13.heap.size) := hid fun q => by have := K13.out.lt _ q; omega
      have B14 := hid (B13.out.alloc B13.out.size (.cells #[.int .i64 3, .int .i64 5, .string ⟨#[100]⟩] 56))
      have K14 := hid (K13.out.below ((Below.refl _ _).alloc (Nat.le_refl _) (.cells #[.int .i64 3, .int .i64 5, .string ⟨#[100]⟩] 56)))
      have HX14 := hid (heap_alloc_new w13 (.cells #[.int .i64 3, .int .i64 5, .string ⟨#[100]⟩] 56))
      obtain ⟨w14, HW14⟩ : ∃ W, Hid (w13.alloc (.cells #[.int .i64 3, .int .i64 5, .string ⟨#[100]⟩] 56) = W) := ⟨_, rfl⟩
      obtain ⟨x14, HXB14⟩ : ∃ x, Hid (w13.heap.size = x) := ⟨_, rfl⟩
      rw [HW14.out] at B14 K14 HX14
      rw [HXB14.out] at HX14 NS14
      clear K13
      go_wp2_with fail
      rw [HW14.out, HXB14.out]
      have CC := hid (cuntil_ok K14.out 6 (by decide) (by simp))
      go_wp2_with fail
      refine CC.out.mono ?_
      rintro e w15 ⟨vo15, rfl, R, M2, hk, he, hP, hown, hpw, hdue, hlate⟩
      obtain ⟨hRA, hMB⟩ := part_perm (A := [⟨b1, 1, ((1 : Int), 6, ⟨#[98]⟩)⟩]) (B := [⟨b2, 2, ((2 : Int), 7, ⟨#[99]⟩)⟩, ⟨b0, 0, ((0 : Int), 7, ⟨#[97]⟩)⟩]) (hP.symm.trans (List.perm_middle (α := Rw Pr) (l₁ := [⟨b2, 2, ((2 : Int), 7, ⟨#[99]⟩)⟩]) (a := ⟨b1, 1, ((1 : Int), 6, ⟨#[98]⟩)⟩) (l₂ := [⟨b0, 0, ((0 : Int), 7, ⟨#[97]⟩)⟩]))) hdue hlate (by simp) (by simp)
      replace hk := hk.perm hMB
      obtain rfl := List.perm_singleton.1 hRA
      obtain ⟨g15, cap15, cur15, hvo, -, hcur, -, -, -, htk⟩ : ∃ g cap cur, vo15 = .slice (some ⟨g, 0, none⟩) 1 cap ∧ w14.heap.size ≤ g ∧ w15.heap[g]? = some (.cells cur 56 (0, 0)) ∧ 1 ≤ cap ∧ cap ≤ maxLen ∧ cur.size = cap * 3 ∧ cur.toList.take (1 * 3) = dcL (1, 6, ⟨#[98]⟩) := by
        rcases hown.2 with ⟨_, e⟩ | q
        · simp at e
        · simpa using q
      have y15 : w15.cell? ⟨g15, 2, none⟩ = some (.string ⟨#[98]⟩) := by
        rw [cell_of_row _ _ _ _ _ _ hcur]
        have := congrArg (fun l : List Value => l[2]?) htk
        simpa [dcL] using this
      subst hvo
      clear hcur htk
      clear hP hown hpw hdue hlate hRA hMB
      have x14_15 := hid ((he.block x14 (Array.getElem?_eq_some_iff.1 HX14.out).1 NS14.out).trans HX14.out)
      have B15 : Hid (Below w.heap.size w w15) := hid (B14.out.trans (he.below B14.out.size HLO.out))
      have K15 : Hid (CK w15 c1 6 [⟨b2, 2, ((2 : Int), 7, ⟨#[99]⟩)⟩, ⟨b0, 0, ((0 : Int), 7, ⟨#[97]⟩)⟩] 4 S) := hid hk
      clear hk he CC
      clear K14
      have qx14_0 : w15.cell? ⟨x14, 0, none⟩ = some (.int .i64 3) := by rw [cell_of_row _ _ _ _ _ _ x14_15.out]; rfl
      have qx14_1 : w15.cell? ⟨x14, 1, none⟩ = some (.int .i64 5) := by rw [cell_of_row _ _ _ _ _ _ x14_15.out]; rfl
      have qx14_2 : w15.cell? ⟨x14, 2, none⟩ = some (.string ⟨#[100]⟩) := by rw [cell_of_row _ _ _ _ _ _ x14_15.out]; rfl
      have CC := hid (cnow_ok K15.out)
      go_wp2_with fail
      refine CC.out.mono ?_
      rintro e wz ⟨rfl, hw⟩
      rw [hw]
      clear hw CC
      have CC := hid (cset_ok K15.out 6 (by decide) ⟨#[102]⟩ (by decide))
      go_wp2_with fail
      refine CC.out.mono ?_
      rintro e w16 ⟨rfl, b16, S16, hk, he, hs⟩
      have LO16 : Hid (∀ k, S16 k → w.heap.size ≤ k) := hid fun k hk => by
        rcases hs k hk with q | q
        · exact HLO.out k q
        · have := B15.out.size; omega
      have B16 : Hid (Below w.heap.size w w16) := hid (B15.out.trans (he.below B15.out.size HLO.out))
      have K16 : Hid (CK w16 c1 6 [⟨b16, 4, ((4 : Int), 6, ⟨#[102]⟩)⟩, ⟨b2, 2, ((2 : Int), 7, ⟨#[99]⟩)⟩, ⟨b0, 0, ((0 : Int), 7, ⟨#[97]⟩)⟩] 5 S16) := hid hk
      clear hk he hs CC K15
      have CC := hid (cdrop_in K16.out (0))
      go_wp2_with fail
      refine CC.out.mono ?_
      rintro e w17 h
      rcases h with ⟨hn, -, -, -⟩ | ⟨r, M2, hP, hrt, he0, hk, he⟩
      · exact absurd rfl (hn ⟨b0, 0, ((0 : Int), 7, ⟨#[97]⟩)⟩ (by simp))
      have hra : r = ⟨b0, 0, ((0 : Int), 7, ⟨#[97]⟩)⟩ := by
        have hm := hP.symm.subset List.mem_cons_self
        simp only [List.mem_cons, List.not_mem_nil, or_false] at hm
        rcases hm with rfl | rfl | rfl <;> first | rfl | (simp at hrt)
      subst hra
      subst he0
      replace hk := hk.perm (List.Perm.cons_inv (hP.symm.trans (List.perm_middle (α := Rw Pr) (l₁ := [⟨b16, 4, ((4 : Int), 6, ⟨#[102]⟩)⟩, ⟨b2, 2, ((2 : Int), 7, ⟨#[99]⟩)⟩]) (a := ⟨b0, 0, ((0 : Int), 7, ⟨#[97]⟩)⟩) (l₂ := []))))
      clear hP hrt
      have B17 : Hid (Below w.heap.size w w17) := hid (B16.out.trans (he.below B16.out.size LO16.out))
      have K17 : Hid (CK w17 c1 6 [⟨b16, 4, ((4 : Int), 6, ⟨#[102]⟩)⟩, ⟨b2, 2, ((2 : Int), 7, ⟨#[99]⟩)⟩] 5 S16) := hid hk
      clear hk he CC
      clear K16
      have CC := hid (cdrop_in K17.out (0))
      go_wp2_with fail
      refine CC.out.mono ?_
      rintro e w18 h
      rcases h.symm with ⟨r, M2, hP, hrt, -, -, -⟩ | ⟨hn, he0, hk, he⟩
      · exfalso
        have hm := hP.symm.subset List.mem_cons_self
        simp only [List.mem_cons, List.not_mem_nil, or_false] at hm
        rcases hm with rfl | rfl <;> simp at hrt
      subst he0
      clear hn h
      have B18 : Hid (Below w.heap.size w w18) := hid (B17.out.trans (he.below B17.out.size LO16.out))
      have K18 : Hid (CK w18 c1 6 [⟨b16, 4, ((4 : Int), 6, ⟨#[102]⟩)⟩, ⟨b2, 2, ((2 : Int), 7, ⟨#[99]⟩)⟩] 5 S16) := hid hk
      clear hk he CC
      clear K17
      have CC := hid (ctake_some (r := ⟨b16, 4, ((4 : Int), 6, ⟨#[102]⟩)⟩) (M2 := [⟨b2, 2, ((2 : Int), 7, ⟨#[99]⟩)⟩]) K18.out (List.perm_middle (α := Rw Pr) (l₁ := []) (a := ⟨b16, 4, ((4 : Int), 6, ⟨#[102]⟩)⟩) (l₂ := [⟨b2, 2, ((2 : Int), 7, ⟨#[99]⟩)⟩])) (by simp [ahd, keyD]))
      go_wp2_with fail
      refine CC.out.mono ?_
      rintro e w19 ⟨rfl, hk, he⟩
      have B19 : Hid (Below w.heap.size w w19) := hid (B18.out.trans (he.below B18.out.size LO16.out))
      have K19 : Hid (CK w19 c1 6 [⟨b2, 2, ((2 : Int), 7, ⟨#[99]⟩)⟩] 5 S16) := hid hk
      clear hk he CC
      clear K18
      have NS20 : Hid (¬ S16 w19.heap.size) := hid fun q => by have := K19.out.lt _ q; omega
      have B20 := hid (B19.out.alloc B19.out.size (.cells #[.int .i64 4, .int .i64 6, .string ⟨#[102]⟩] 56))
      have K20 := hid (K19.out.below ((Below.refl _ _).alloc (Nat.le_refl _) (.cells #[.int .i64 4, .int .i64 6, .string ⟨#[102]⟩] 56)))
      have HX20 := hid (heap_alloc_new w19 (.cells #[.int .i64 4, .int .i64 6, .string ⟨#[102]⟩] 56))
      obtain ⟨w20, HW20⟩ : ∃ W, Hid (w19.alloc (.cells #[.int .i64 4, .int .i64 6, .string ⟨#[102]⟩] 56) = W) := ⟨_, rfl⟩
      obtain ⟨x20, HXB20⟩ : ∃ x, Hid (w19.heap.size = x) := ⟨_, rfl⟩
      rw [HW20.out] at B20 K20 HX20
      rw [HXB20.out] at HX20 NS20
      clear K19
      go_wp2_with fail
      rw [HW20.out, HXB20.out]
      have CC := hid (ctake_some (r := ⟨b2, 2, ((2 : Int), 7, ⟨#[99]⟩)⟩) (M2 := []) K20.out (List.perm_middle (α := Rw Pr) (l₁ := []) (a := ⟨b2, 2, ((2 : Int), 7, ⟨#[99]⟩)⟩) (l₂ := [])) (by simp [ahd, keyD]))
      go_wp2_with fail
      refine CC.out.mono ?_
      rintro e w21 ⟨rfl, hk, he⟩
      have x20_21 := hid ((he.block x20 (Array.getElem?_eq_some_iff.1 HX20.out).1 NS20.out).trans HX20.out)
      have B21 : Hid (Below w.heap.size w w21) := hid (B20.out.trans (he.below B20.out.size LO16.out))
      have K21 : Hid (CK w21 c1 7 [] 5 S16) := hid hk
      clear hk he CC
      clear K20
      have NS22 : Hid (¬ S16 w21.heap.size) := hid fun q => by have := K21.out.lt _ q; omega
      have x20_22 := hid ((heap_alloc_old w21 (.cells #[.int .i64 2, .int .i64 7, .string ⟨#[99]⟩] 56) (Array.getElem?_eq_some_iff.1 x20_21.out).1).trans x20_21.out)
      have B22 := hid (B21.out.alloc B21.out.size (.cells #[.int .i64 2, .int .i64 7, .string ⟨#[99]⟩] 56))
      have K22 := hid (K21.out.below ((Below.refl _ _).alloc (Nat.le_refl _) (.cells #[.int .i64 2, .int .i64 7, .string ⟨#[99]⟩] 56)))
      have HX22 := hid (heap_alloc_new w21 (.cells #[.int .i64 2, .int .i64 7, .string ⟨#[99]⟩] 56))
      obtain ⟨w22, HW22⟩ : ∃ W, Hid (w21.alloc (.cells #[.int .i64 2, .int .i64 7, .string ⟨#[99]⟩] 56) = W) := ⟨_, rfl⟩
      obtain ⟨x22, HXB22⟩ : ∃ x, Hid (w21.heap.size = x) := ⟨_, rfl⟩
      rw [HW22.out] at B22 K22 HX22 x20_22
      rw [HXB22.out] at HX22 NS22
      clear K21
      go_wp2_with fail
      rw [HW22.out, HXB22.out]
      have CC := hid (ctake_none K22.out)
      go_wp2_with fail
      refine CC.out.mono ?_
      rintro e w23 ⟨rfl, hk, he⟩
      have x20_23 := hid ((he.block x20 (Array.getElem?_eq_some_iff.1 x20_22.out).1 NS20.out).trans x20_22.out)
      have x22_23 := hid ((he.block x22 (Array.getElem?_eq_some_iff.1 HX22.out).1 NS22.out).trans HX22.out)
      have B23 : Hid (Below w.heap.size w w23) := hid (B22.out.trans (he.below B22.out.size LO16.out))
      have K23 : Hid (CK w23 c1 7 [] 5 S16) := hid hk
      clear hk he CC
      clear K22
      have NS24 : Hid (¬ S16 w23.heap.size) := hid fun q => by have := K23.out.lt _ q; omega
      have x20_24 := hid ((heap_alloc_old w23 (.cells #[.int .i64 0, .int .i64 0, .string ⟨#[]⟩] 56) (Array.getElem?_eq_some_iff.1 x20_23.out).1).trans x20_23.out)
      have x22_24 := hid ((heap_alloc_old w23 (.cells #[.int .i64 0, .int .i64 0, .string ⟨#[]⟩] 56) (Array.getElem?_eq_some_iff.1 x22_23.out).1).trans x22_23.out)
      have B24 := hid (B23.out.alloc B23.out.size (.cells #[.int .i64 0, .int .i64 0, .string ⟨#[]⟩] 56))
      have K24 := hid (K23.out.below ((Below.refl _ _).alloc (Nat.le_refl _) (.cells #[.int .i64 0, .int .i64 0, .string ⟨#[]⟩] 56)))
      have HX24 := hid (heap_alloc_new w23 (.cells #[.int .i64 0, .int .i64 0, .string ⟨#[]⟩] 56))
      obtain ⟨w24, HW24⟩ : ∃ W, Hid (w23.alloc (.cells #[.int .i64 0, .int .i64 0, .string ⟨#[]⟩] 56) = W) := ⟨_, rfl⟩
      obtain ⟨x24, HXB24⟩ : ∃ x, Hid (w23.heap.size = x) := ⟨_, rfl⟩
      rw [HW24.out] at B24 K24 HX24 x20_24 x22_24
      rw [HXB24.out] at HX24 NS24
      clear K23
      go_wp2_with fail
      rw [HW24.out, HXB24.out]
      have CC := hid (cuntil_bad K24.out (6) (by decide))
      rw [show rcE 7 (6) = 180 from by decide] at CC
      go_wp2_with fail
      refine CC.out.mono ?_
      rintro e w25 ⟨rfl, hk, he⟩
      have x20_25 := hid ((he.block x20 (Array.getElem?_eq_some_iff.1 x20_24.out).1 NS20.out).trans x20_24.out)
      have x22_25 := hid ((he.block x22 (Array.getElem?_eq_some_iff.1 x22_24.out).1 NS22.out).trans x22_24.out)
      have x24_25 := hid ((he.block x24 (Array.getElem?_eq_some_iff.1 HX24.out).1 NS24.out).trans HX24.out)
      have B25 : Hid (Below w.heap.size w w25) := hid (B24.out.trans (he.below B24.out.size LO16.out))
      have K25 : Hid (CK w25 c1 7 [] 5 S16) := hid hk
      clear hk he CC
      clear K24
      have CC := hid (cuntil_ok K25.out 9 (by decide) (by simp))
      go_wp2_with fail
      refine CC.out.mono ?_
      rintro e w26 ⟨vo26, rfl, R, M2, hk, he, hP, hown, hpw, hdue, hlate⟩
      obtain ⟨hRA, hMB⟩ := part_perm (A := []) (B := []) (hP.symm.trans (List.Perm.refl _)) hdue hlate (by simp) (by simp)
      replace hk := hk.perm hMB
      obtain rfl := List.perm_nil.1 hRA
      obtain ⟨pv26, cap26, hvo⟩ : ∃ p cap, vo26 = .slice p 0 cap := by
        rcases hown.2 with ⟨q, _⟩ | ⟨g, cap, cur, q, _⟩
        · exact ⟨_, _, q⟩
        · exact ⟨_, _, q⟩
      subst hvo
      clear hP hown hpw hdue hlate hRA hMB
      have x20_26 := hid ((he.block x20 (Array.getElem?_eq_some_iff.1 x20_25.out).1 NS20.out).trans x20_25.out)
      have x22_26 := hid ((he.block x22 (Array.getElem?_eq_some_iff.1 x22_25.out).1 NS22.out).trans x22_25.out)
      have x24_26 := hid ((he.block x24 (Array.getElem?_eq_some_iff.1 x24_25.out).1 NS24.out).trans x24_25.out)
      have B26 : Hid (Below w.heap.size w w26) := hid (B25.out.trans (he.below B25.out.size LO16.out))
      have K26 : Hid (CK w26 c1 9 [] 5 S16) := hid hk
      clear hk he CC
      clear K25
      have CC := hid (cnew_bad w26 (-1) (by decide))
      go_wp2_with fail
      refine CC.out.mono ?_
      rintro e wz ⟨rfl, hw⟩
      rw [hw]
      clear hw CC
      have CC := hid (cnew_bad w26 (1099511627777) (by decide))
      go_wp2_with fail
      refine CC.out.mono ?_
      rintro e wz ⟨rfl, hw⟩
      rw [hw]
      clear hw CC
      have qx20_0 : w26.cell? ⟨x20, 0, none⟩ = some (.int .i64 4) := by rw [cell_of_row _ _ _ _ _ _ x20_26.out]; rfl
      have qx20_1 : w26.cell? ⟨x20, 1, none⟩ = some (.int .i64 6) := by rw [cell_of_row _ _ _ _ _ _ x20_26.out]; rfl
      have qx20_2 : w26.cell? ⟨x20, 2, none⟩ = some (.string ⟨#[102]⟩) := by rw [cell_of_row _ _ _ _ _ _ x20_26.out]; rfl
      have qx22_0 : w26.cell? ⟨x22, 0, none⟩ = some (.int .i64 2) := by rw [cell_of_row _ _ _ _ _ _ x22_26.out]; rfl
      have qx22_1 : w26.cell? ⟨x22, 1, none⟩ = some (.int .i64 7) := by rw [cell_of_row _ _ _ _ _ _ x22_26.out]; rfl
      have qx22_2 : w26.cell? ⟨x22, 2, none⟩ = some (.string ⟨#[99]⟩) := by rw [cell_of_row _ _ _ _ _ _ x22_26.out]; rfl
      have qx24_0 : w26.cell? ⟨x24, 0, none⟩ = some (.int .i64 0) := by rw [cell_of_row _ _ _ _ _ _ x24_26.out]; rfl
      have qx24_1 : w26.cell? ⟨x24, 1, none⟩ = some (.int .i64 0) := by rw [cell_of_row _ _ _ _ _ _ x24_26.out]; rfl
      have qx24_2 : w26.cell? ⟨x24, 2, none⟩ = some (.string ⟨#[]⟩) := by rw [cell_of_row _ _ _ _ _ _ x24_26.out]; rfl
      have CC := hid (cnow_ok K26.out)
      go_wp2_with fail
      refine CC.out.mono ?_
      rintro e wz ⟨rfl, hw⟩
      rw [hw]
      clear hw CC
      go_wp2_with fail
      go_ret
      exact ⟨rfl, B26.out⟩
end Go.Proofs.Ytajdopmhdagehaa.Ds
