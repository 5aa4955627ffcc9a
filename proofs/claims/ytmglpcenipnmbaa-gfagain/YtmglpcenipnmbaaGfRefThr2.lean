/- The document's Through, walked. -/
import Derived.Test.YtmglpcenipnmbaaGfRefThr
set_option linter.unusedSimpArgs false
set_option linter.unusedVariables false
namespace Go.Proofs.Ytmglpcenipnmbaa
open Go Go.RowKit

theorem HPt.cells {w : World} {p : Option Addr} {n c : Nat} {X Y : Nat → Nat} (h : HPt w (.slice p n c) n X Y) (hn : 0 < n) : ∃ b off, p = some ⟨b, off, none⟩ ∧ ∀ i, i < n → w.cell? ⟨b, off + i * 2, none⟩ = some (.int .u8 (X i : Int)) ∧ w.cell? ⟨b, off + i * 2 + 1, none⟩ = some (.int .u8 (Y i : Int)) := by
  obtain ⟨p', c', ee, -, -, -, -, h6⟩ := h
  simp only [Value.slice.injEq, true_and] at ee
  obtain ⟨rfl, rfl⟩ := ee
  obtain ⟨b, off, rfl, hcl⟩ := h6 hn
  exact ⟨b, off, rfl, fun i hi => ⟨(hcl i hi).1, by rw [Nat.add_assoc]; exact (hcl i hi).2⟩⟩
/-- What the loop over the places keeps. -/
def WhInv (w : World) (X : Nat → Nat) (I : Nat) (pz : Option Addr) (cz : Nat) (Z : List Int) (wr : World) : Prop :=
  HB wr (.slice pz Z.length cz) Z ∧ Z.length = I + 1 ∧ gN Z I = 1 ∧ (∀ x, x < 256 → (horn x Z = 0 ↔ ∃ j, j < I ∧ x = X j)) ∧ Below w.heap.size w wr
/-- The row of the sum when J coefficients of a part are in. -/
def sumF (W : List Int) (n : Nat) (X C : Nat → Nat) (m j l : Nat) : Nat := lagF W n X C m l ^^^ (if l < j then prod (partF W n (X m) l) (C m) else 0)
theorem sumF_none (W : List Int) (n : Nat) (X C : Nat → Nat) (m l : Nat) : sumF W n X C m 0 l = lagF W n X C m l := by
  unfold sumF
  rw [if_neg (by omega), Nat.xor_zero]
theorem sumF_all (W : List Int) (n : Nat) (X : Nat → Nat) {C : Nat → Nat} (hC : ∀ i, C i < 256) (m l : Nat) : sumF W n X C m n l = lagF W n X C (m + 1) l := by
  unfold sumF
  rw [lagF]
  congr 1
  by_cases h : l < n
  · rw [if_pos h]
  · rw [if_neg h]
    unfold partF
    rw [show n - l = 0 by omega, hor, zero_prod _ (hC m)]
theorem sumF_next (W : List Int) (n : Nat) (X C : Nat → Nat) (m j l : Nat) : sumF W n X C m (j + 1) l = if l = j then lagF W n X C m j ^^^ prod (partF W n (X m) j) (C m) else sumF W n X C m j l := by
  unfold sumF
  by_cases e : l = j
  · rw [if_pos e, e, if_pos (by omega)]
  · rw [if_neg e]
    congr 1
    by_cases q : l < j
    · rw [if_pos q, if_pos (by omega)]
    · rw [if_neg q, if_neg (by omega)]
set_option maxRecDepth 100000 in
set_option maxHeartbeats 16000000 in
theorem rthrough_any (w : World) (v : Value) (n : Nat) (X Y : Nat → Nat) (h : HPt w v n X Y) : Calls Try.prog 44 #[v] w (ThrPost w n X Y) := by
  obtain ⟨p, c, rfl, hnc, hcm, hX, hY, -⟩ := id h
  have HP := hid h
  have HX := hid hX
  have HY := hid hY
  unfold maxLen at hcm
  have sz := size_pt
  have su := size_u8
  clear hX hY h
  go_enter Try.func44, Try.ntmps44
  by_cases hlong : 256 < n
  · have hg : (256 : Int) < (n : Int) := by omega
    have FIN : Hid (ThrPost w n X Y (.returned (.tuple #[.slice none 0 0, .int .i64 61])) w) := ⟨fun _ => rfl, fun h => absurd hlong (by omega), fun h => absurd hlong (by omega), Below.refl _ _⟩
    clear hlong
    go_wp2
    go_ret2
    exact FIN.out
  · have hg : ¬ (256 : Int) < (n : Int) := by omega
    have HL : Hid (n ≤ 256) := Nat.le_of_not_lt hlong
    clear hlong
    go_wp2
    go_loopw [4] (fun i wr => ∃ I : Nat, I ≤ n ∧ i = .int .i64 (I : Int) ∧ Hid (Dist X I) ∧ Hid (Dr w wr)) (fun i _ => n - (intOf i).toNat)
    case atStart => exact ⟨0, Nat.zero_le _, rfl, fun i j _ h => absurd h (by omega), Dr.refl _⟩
    case round =>
      obtain ⟨I, hI, rfl, HDI, D⟩ := hrel
      by_cases hlt : I < n
      · obtain ⟨b, off, rfl, hcl⟩ := (HP.out.below (D.out.below _)).cells (by omega)
        go_wp2
        go_loopw [5] (fun j wq => ∃ J : Nat, J ≤ I ∧ j = .int .i64 (J : Int) ∧ Hid (∀ k, k < J → X I ≠ X k) ∧ Hid (Dr w wq)) (fun j _ => I - (intOf j).toNat)
        case atStart => exact ⟨0, Nat.zero_le _, rfl, fun k h => absurd h (by omega), D⟩
        case round =>
          clear D hcl
          obtain ⟨J, hJ, rfl, HJ, D⟩ := hrel
          obtain ⟨b', off', ep, hcl⟩ := (HP.out.below (D.out.below _)).cells (by omega)
          simp only [Option.some.injEq, Addr.mk.injEq, and_true] at ep
          obtain ⟨rfl, rfl⟩ := ep
          by_cases hjl : J < I
          · have q0 := (hcl I hlt).1
            have q1 := (hcl J (by omega)).1
            have hJn : J < n := by omega
            clear hcl
            by_cases he : X I = X J
            · have he' : ((X I : Int) == (X J : Int)) = true := by rw [he]; simp
              have FIN : Hid (∀ W, Dr w W → ThrPost w n X Y (.returned (.tuple #[.slice none 0 0, .int .i64 62])) W) := fun W hW =>
                ⟨fun h => absurd h (by have := HL.out; omega), fun _ _ => rfl, fun _ hd => absurd he.symm (hd J I hjl hlt), hW.below _⟩
              obtain ⟨x, Hx⟩ : ∃ x, Hid (X I = x) := ⟨_, rfl⟩
              obtain ⟨y, Hy⟩ : ∃ y, Hid (X J = y) := ⟨_, rfl⟩
              rw [Hx.out] at q0 he'
              rw [Hy.out] at q1 he'
              clear he
              go_wp2
              go_quiet (fail)
              go_wp2
              go_ret2
              exact FIN.out _ (D.out.drewN _)
            · have he' : ((X I : Int) == (X J : Int)) = false := by simp only [beq_eq_false_iff_ne, ne_eq]; omega
              have HE := hid he
              obtain ⟨x, Hx⟩ : ∃ x, Hid (X I = x) := ⟨_, rfl⟩
              obtain ⟨y, Hy⟩ : ∃ y, Hid (X J = y) := ⟨_, rfl⟩
              rw [Hx.out] at q0 he'
              rw [Hy.out] at q1 he'
              clear he
              go_wp2
              go_quiet (fail)
              go_wp2
              exact ⟨⟨J + 1, by omega, by go_num, (fun k hk => by
                by_cases e : k = J
                · rw [e]; exact HE.out
                · exact HJ.out k (by omega)), D.out.drewN _⟩, by simp [intOf]; omega⟩
          · have HN : Hid (Dist X (I + 1)) := dist_next HDI.out fun j hj => HJ.out j (by omega)
            clear hcl
            go_wp2
            exact ⟨⟨I + 1, by omega, by go_num, HN, D⟩, by simp [intOf]; omega⟩
      · have HD : Hid (Dist X n) := by rw [show n = I by omega]; exact HDI
        clear HDI
        go_wp2
        obtain ⟨w2, hw2⟩ : ∃ w2, Hid (wr.alloc (.cells #[.int .u8 1] 5) = w2) := ⟨_, rfl⟩
        have B12 : Hid (Below wr.heap.size wr w2) := by rw [← hw2.out]; exact (Below.refl _ wr).alloc (Nat.le_refl _) _
        have B2 : Hid (Below w.heap.size w w2) := (D.out.below _).trans (B12.out.mono (D.out.below w.heap.size).size)
        have Z2 : Hid (HB w2 (.slice (some ⟨wr.heap.size, 0, none⟩) 1 1) [1]) := by
          rw [← hw2.out]
          refine ⟨⟨_, _, rfl, Nat.le_refl _, by decide, (fun e => by cases e), fun _ => ⟨wr.heap.size, 0, rfl, fun j hj => ?_⟩⟩, by simp⟩
          have : j = 0 := by simpa using hj
          subst this
          rw [cell_of_row _ wr.heap.size _ _ _ _ (heap_alloc_new wr _)]
          rfl
        rw [hw2.out]
        go_loopw [6, 7] (fun z i wq => ∃ (K : Nat) (pz : Option Addr) (cz : Nat) (Z : List Int), K ≤ n ∧ i = .int .i64 (K : Int) ∧ z = .slice pz Z.length cz ∧ Hid (WhInv w X K pz cz Z wq)) (fun _ i _ => n - (intOf i).toNat)
        case atStart =>
          refine ⟨0, some ⟨wr.heap.size, 0, none⟩, 1, [1], Nat.zero_le _, rfl, rfl, Z2.out, rfl, rfl, ?_, B2.out⟩
          intro x hx
          rw [horn, horn, zero_prod x hx]
          simp
        case round =>
          clear Z2 B2 B12 hw2
          obtain ⟨K, pz, cz, Z, hK, rfl, rfl, HW⟩ := hrel
          by_cases hkl : K < n
          · obtain ⟨hZ, hzl, hzt, hzr, hB⟩ := HW.out
            obtain ⟨b, off, rfl, hcl⟩ := (HP.out.below hB).cells (by omega)
            have q0 := (hcl K hkl).1
            have hxl := HX.out K
            obtain ⟨x, Hx⟩ : ∃ x, Hid (X K = x) := ⟨_, rfl⟩
            rw [Hx.out] at q0 hxl
            obtain ⟨w5, hw5⟩ : ∃ w5, Hid (wr.alloc (.cells #[.int .u8 (x : Int), .int .u8 1] 5) = w5) := ⟨_, rfl⟩
            have B5 : Hid (Below wr.heap.size wr w5) := by rw [← hw5.out]; exact (Below.refl _ wr).alloc (Nat.le_refl _) _
            have L5 : Hid (HB w5 (.slice (some ⟨wr.heap.size, 0, none⟩) 2 2) [(x : Int), 1]) := by
              rw [← hw5.out]
              refine ⟨⟨_, _, rfl, Nat.le_refl _, by decide, (fun e => by cases e), fun _ => ⟨wr.heap.size, 0, rfl, fun j hj => ?_⟩⟩, lin_byt hxl⟩
              rw [cell_of_row _ wr.heap.size _ _ _ _ (heap_alloc_new wr _)]
              match j, hj with
              | 0, _ => rfl
              | 1, _ => rfl
            have cm := rproduct_any w5 pz (some ⟨wr.heap.size, 0, none⟩) cz 2 Z [(x : Int), 1] (hZ.below B5.out) L5.out (by omega) (by simp) (by have := HL.out; simp; omega)
            rw [← timesL_eq Z _ hZ.2 (by simp)] at cm
            obtain ⟨Z', HZ'⟩ : ∃ Z', Hid (timesL Z [(x : Int), 1] = Z') := ⟨_, rfl⟩
            rw [HZ'.out] at cm
            have CM : Hid (Calls Try.prog 60 #[.slice pz Z.length cz, .slice (some ⟨wr.heap.size, 0, none⟩) 2 2] w5 fun e w' => ∃ v', e = .returned v' ∧ w'.ownsRow w5.heap.size 5 1 v' Z'.length (Z'.map (Value.int .u8)) ∧ Below w5.heap.size w5 w') := cm
            have HZY : Hid (∀ c ∈ Z', 0 ≤ c ∧ c < 256) := by rw [← HZ'.out, timesL]; exact cutL_byt (tabL_byt _ fun i => cv_lt (gN_lt (lin_byt hxl)) _ i)
            have NL : Hid (Z'.length = K + 1 + 1 ∧ gN Z' (K + 1) = 1) := by rw [← HZ'.out]; exact zer_len hZ.2 hxl hzl hzt
            have NR : Hid (∀ y, y < 256 → (horn y Z' = 0 ↔ ∃ j, j < K + 1 ∧ y = X j)) := by
              intro x' hx'
              rw [← HZ'.out, zer_step hZ.2 hxl hx', prod_nought _ _ (horn_lt x' Z hZ.2) (xor8 hx' hxl), hzr x' hx']
              constructor
              · rintro (⟨j, hj, e⟩ | e)
                · exact ⟨j, by omega, e⟩
                · refine ⟨K, by omega, ?_⟩
                  have e2 := congrArg (fun z => z ^^^ x) e
                  rw [Hx.out]
                  simpa [Nat.xor_assoc] using e2
              · rintro ⟨j, hj, e⟩
                by_cases ej : j = K
                · right
                  rw [e, ej, Hx.out, Nat.xor_self]
                · exact .inl ⟨j, by omega, e⟩
            have B05 := hid (hB.trans (B5.out.mono hB.size))
            clear hcl cm hZ hzl hzt hzr hB HW
            go_wp2_with fail
            rw [hw5.out]
            refine CM.out.mono ?_
            rintro e w6 ⟨v', rfl, ho, hB6⟩
            obtain ⟨p', c', ev⟩ := own_slc ho
            subst ev
            have NEXT : Hid (WhInv w X (K + 1) p' c' Z' w6) := ⟨HB.of_own ho HZY.out, NL.out.1, NL.out.2, NR.out, B05.out.trans (hB6.mono B05.out.size)⟩
            clear ho hB6 CM
            go_wp2
            exact ⟨⟨K + 1, p', c', Z', by omega, by go_num, rfl, NEXT⟩, by simp [intOf]; omega⟩
          · obtain ⟨hZ, hzl, hzt, hzr, hB⟩ := HW.out
            have hKn : K = n := by omega
            rw [hKn] at hzl hzt hzr
            obtain ⟨w5, hw5⟩ : ∃ w5, w5 = wr := ⟨_, rfl⟩
            subst hw5
            have HZ := hid hZ
            have HZL := hid hzl
            have HZT := hid hzt
            have HR : Hid (∀ i, i < n → horn (X i) Z = 0) := fun i hi => (hzr (X i) (HX.out i)).2 ⟨i, hi, rfl⟩
            have B05 := hid hB
            obtain ⟨C, HC⟩ : ∃ C : Nat → Nat, Hid (C = fun i => prod (Y i) (inv (evS (partF Z n (X i)) (X i) n))) := ⟨_, rfl⟩
            have HCL : Hid (∀ i, C i < 256) := fun i => by rw [HC.out]; exact prod_lt _ (HY.out i)
            obtain ⟨i0, hi, hz0, hz1, hz2⟩ := info_parts info_u8
            obtain ⟨w6, hmk, hown, hgr⟩ := run_make_full (P := Try.prog) w5 w5.heap.size 38 5 i0 (.int .u8 0) 1 Try.underlying38 hi hz0 hz1 .i64 .i64 (n + 1) (by rw [hz2]; have := HL.out; omega) (by unfold maxLen; have := HL.out; omega) (Nat.le_refl _)
            have hmk2 : (Instr.makeSlice 38 (.int .i64 ((n : Int) + 1)) (.int .i64 ((n : Int) + 1))).run Try.prog w5 = .ok (.slice (some ⟨w5.heap.size, 0, none⟩) (n + 1) (n + 1)) w6 := hmk
            have B56 : Hid (Below w5.heap.size w5 w6) := ⟨hgr.os, hgr.tape, hgr.output, hgr.size, fun k hk => hgr.block k hk (by simp)⟩
            have O6 : Hid (w6.ownsRow w5.heap.size 5 1 (.slice (some ⟨w5.heap.size, 0, none⟩) (n + 1) (n + 1)) (n + 1) ((tabL (n + 1) (lagF Z n X C 0)).map (Value.int .u8))) := by
              have e : (madeCells (Value.int IntKind.u8 0).cells ((n + 1) * 1)).toList = (tabL (n + 1) (lagF Z n X C 0)).map (Value.int .u8) := by
                rw [show (Value.int IntKind.u8 0).cells = #[Value.int .u8 0] from rfl, toList_madeCells_one, Nat.mul_one]
                refine List.ext_getElem (by simp [tabL]) fun j h1 h2 => ?_
                simp [tabL, lagF]
              rw [← e]
              exact hown
            have hlw := hB.size
            clear hmk hown hgr hZ hzl hzt hzr hB HW hKn
            go_wp2
            clear hmk2
            go_loopw [9] (fun i wq => ∃ M : Nat, M ≤ n ∧ i = .int .i64 (M : Int) ∧ Hid (wq.ownsRow w5.heap.size 5 1 (.slice (some ⟨w5.heap.size, 0, none⟩) (n + 1) (n + 1)) (n + 1) ((tabL (n + 1) (lagF Z n X C M)).map (Value.int .u8))) ∧ Hid (Below w5.heap.size w5 wq)) (fun i _ => n - (intOf i).toNat)
            case atStart => exact ⟨0, Nat.zero_le _, rfl, O6, B56⟩
            case round =>
              clear O6 B56
              obtain ⟨M, hM, rfl, O, B⟩ := hrel
              by_cases hml : M < n
              · have B0 := hid (B05.out.trans (B.out.mono hlw))
                obtain ⟨b, off, rfl, hcl⟩ := (HP.out.below B0.out).cells (by omega)
                have q0 := (hcl M hml).1
                have q1 := (hcl M hml).2
                have hxl := HX.out M
                have hyl := HY.out M
                have hcM : C M = prod (Y M) (inv (evS (partF Z n (X M)) (X M) n)) := by rw [HC.out]
                have HSM : Hid (∀ j l, sumF Z n X C M (j + 1) l = if l = j then lagF Z n X C M j ^^^ prod (partF Z n (X M) j) (C M) else sumF Z n X C M j l) := fun j l => sumF_next Z n X C M j l
                obtain ⟨x, Hx⟩ : ∃ x, Hid (X M = x) := ⟨_, rfl⟩
                obtain ⟨y, Hy⟩ : ∃ y, Hid (Y M = y) := ⟨_, rfl⟩
                rw [Hx.out] at q0 hxl hcM HSM
                rw [Hy.out] at q1 hyl hcM
                have hcl2 := HCL.out M
                have hpl := partF_lt HZ.out.2 hxl n
                have hel := evS_lt hpl x n
                have hev : evTo (tabL n (partF Z n x)) x (tabL n (partF Z n x)).length = evS (partF Z n x) x n := by
                  rw [tabL_length, evTo_evS]
                  exact evS_congr x n fun k hk => gN_tabL n _ k hk
                obtain ⟨ev, HEv⟩ : ∃ ev, Hid (evS (partF Z n x) x n = ev) := ⟨_, rfl⟩
                rw [HEv.out] at hcM hel hev
                obtain ⟨cM, HcM⟩ : ∃ cM, Hid (C M = cM) := ⟨_, rfl⟩
                rw [HcM.out] at hcM hcl2 HSM
                have CW := hid (rwithout_any wr pz cz Z x n (HZ.out.below B.out) HZL.out (by have := HL.out; omega) hxl)
                have CE : Hid (∀ W v, HB W v (tabL n (partF Z n x)) → Calls Try.prog 35 #[v, .int .u8 (x : Int)] W fun e w' => e = .returned (.int .u8 (ev : Int)) ∧ w' = W) := fun W v hv => by
                  have := reval_any W v _ x hv hxl
                  rw [hev] at this
                  exact this
                have CI : Hid (∀ W, Calls Try.prog 47 #[.int .u8 (ev : Int)] W fun e w' => e = .returned (.int .u8 ((inv ev : Nat) : Int)) ∧ w' = W) := fun W => rinverse_any W _ hel
                have CM : Hid (∀ W, Calls Try.prog 14 #[.int .u8 (y : Int), .int .u8 ((inv ev : Nat) : Int)] W fun e w' => e = .returned (.int .u8 (cM : Int)) ∧ w' = W) := fun W => by
                  rw [hcM]
                  exact rmul_any W _ _ hyl (inv_lt ev)
                obtain ⟨iv, HIV⟩ : ∃ iv, Hid (inv ev = iv) := ⟨_, rfl⟩
                rw [HIV.out] at CI CM
                have HPL := hid hpl
                clear hcl hcM hel hev hpl
                go_wp2_with fail
                refine CW.out.mono ?_
                rintro e w7 ⟨rfl, hop, hB7⟩
                have OP7 := hid hop
                have HP7 : Hid (HB w7 (.slice (some ⟨wr.heap.size, 0, none⟩) n n) (tabL n (partF Z n x))) := HB.of_own (by rw [tabL_length]; exact hop) (tabL_byt n HPL.out)
                have OS7 := hid (own_below O.out hB7)
                have B7 := hid (B.out.trans (hB7.mono B.out.size))
                have qx := (hB7.cell (World.block_lt_of_cell? wr _ q0)).trans q0
                have qy := (hB7.cell (World.block_lt_of_cell? wr _ q1)).trans q1
                have hgs := (O.out.lt w5.heap.size rfl).2
                obtain ⟨gp, hgp⟩ : ∃ gp, Hid (wr.heap.size = gp) := ⟨_, rfl⟩
                rw [hgp.out] at OP7 HP7 hgs
                rw [hgp.out]
                clear hop hB7 q0 q1 CW O B B0
                go_wp2
                go_quiet ((first | (go_at_call 35; exact Calls.quiet_of_same (CE.out _ _ (HP7.out.later fun _ _ hx => hx))) | (go_at_call 47; exact Calls.quiet_of_same (CI.out _)) | (go_at_call 14; exact Calls.quiet_of_same (CM.out _))))
                obtain ⟨wA, hwA, HDA⟩ : ∃ wA, Hid (w7.drewN nq = wA) ∧ Hid (Dr w7 wA) := ⟨_, rfl, Dr.one _ _⟩
                rw [hwA.out]
                have OSA : Hid (wA.ownsRow w5.heap.size 5 1 (.slice (some ⟨w5.heap.size, 0, none⟩) (n + 1) (n + 1)) (n + 1) ((tabL (n + 1) (sumF Z n X C M 0)).map (Value.int .u8))) := by
                  rw [tabL_congr _ (g := lagF Z n X C M) fun l _ => sumF_none Z n X C M l]
                  exact own_below OS7.out (HDA.out.below _)
                have OPA := hid (own_below OP7.out (HDA.out.below _))
                have BA := hid (B7.out.trans (HDA.out.below _))
                clear OS7 OP7 B7 HP7 qx qy CE CI CM hwA
                go_wp2
                go_loopw [12] (fun k wq => ∃ J : Nat, J ≤ n ∧ k = .int .i64 (J : Int) ∧ Hid (wq.ownsRow w5.heap.size 5 1 (.slice (some ⟨w5.heap.size, 0, none⟩) (n + 1) (n + 1)) (n + 1) ((tabL (n + 1) (sumF Z n X C M J)).map (Value.int .u8))) ∧ Hid (wq.ownsRow gp 5 1 (.slice (some ⟨gp, 0, none⟩) n n) n ((tabL n (partF Z n x)).map (Value.int .u8))) ∧ Hid (Below w5.heap.size w5 wq)) (fun k _ => n - (intOf k).toNat)
                case atStart => exact ⟨0, Nat.zero_le _, rfl, OSA, OPA, BA⟩
                case round =>
                  clear OSA OPA BA HDA
                  obtain ⟨J, hJ, rfl, OS, OP, B⟩ := hrel
                  by_cases hjl : J < n
                  · have hcv : wr.cell? ⟨w5.heap.size, J, none⟩ = some (.int .u8 ((lagF Z n X C M J : Nat) : Int)) := by
                      rw [OS.out.cellAt J (by omega), List.getElem?_map]
                      simp only [tabL, List.getElem?_map, List.getElem?_range (show J < n + 1 by omega), Option.map_some, sumF]
                      rw [if_neg (by omega), Nat.xor_zero]
                    have hpc : wr.cell? ⟨gp, J, none⟩ = some (.int .u8 ((partF Z n x J : Nat) : Int)) := by
                      rw [OP.out.cellAt J (by omega), List.getElem?_map]
                      simp only [tabL, List.getElem?_map, List.getElem?_range hjl, Option.map_some]
                    have hfz := OS.out.frozenAt J
                    have lp := HPL.out J
                    have lu := lagF_lt HZ.out.2 n HX.out C M J
                    have MU : Hid (∀ W, Calls Try.prog 14 #[.int .u8 ((partF Z n x J : Nat) : Int), .int .u8 (cM : Int)] W fun e w' => e = .returned (.int .u8 ((prod (partF Z n x J) cM : Nat) : Int)) ∧ w' = W) := fun W => rmul_any W _ _ lp hcl2
                    have lm := prod_lt cM lp
                    have HST : Hid (∀ W, Dr wr W → (W.setCell ⟨w5.heap.size, J, none⟩ (.int .u8 ((lagF Z n X C M J ^^^ prod (partF Z n x J) cM : Nat) : Int))).ownsRow w5.heap.size 5 1 (.slice (some ⟨w5.heap.size, 0, none⟩) (n + 1) (n + 1)) (n + 1) ((tabL (n + 1) (sumF Z n X C M (J + 1))).map (Value.int .u8)) ∧ (W.setCell ⟨w5.heap.size, J, none⟩ (.int .u8 ((lagF Z n X C M J ^^^ prod (partF Z n x J) cM : Nat) : Int))).ownsRow gp 5 1 (.slice (some ⟨gp, 0, none⟩) n n) n ((tabL n (partF Z n x)).map (Value.int .u8)) ∧ Below w5.heap.size w5 (W.setCell ⟨w5.heap.size, J, none⟩ (.int .u8 ((lagF Z n X C M J ^^^ prod (partF Z n x J) cM : Nat) : Int)))) := fun W hW => by
                      have h0 := own_below OS.out (hW.below _)
                      have hst := h0.stored J (.int .u8 ((lagF Z n X C M J ^^^ prod (partF Z n x J) cM : Nat) : Int))
                      have h1 := hst.1
                      rw [← List.map_set, tabL_set] at h1
                      refine ⟨?_, (own_below OP.out (hW.below _)).kept hst.2 (.inr (by simp only [Value.ownBlock, ne_eq, Option.some.injEq]; omega)), (B.out.trans (hW.below _)).setCell (p := ⟨w5.heap.size, J, none⟩) (Nat.le_refl _) _⟩
                      rw [tabL_congr (n + 1) fun l _ => HSM.out J l]
                      exact h1
                    obtain ⟨u, HU⟩ : ∃ u, Hid (lagF Z n X C M J = u) := ⟨_, rfl⟩
                    obtain ⟨a, Ha⟩ : ∃ a, Hid (partF Z n x J = a) := ⟨_, rfl⟩
                    rw [HU.out] at hcv lu HST
                    rw [Ha.out] at hpc lp MU lm HST
                    obtain ⟨m, Hm⟩ : ∃ m, Hid (prod a cM = m) := ⟨_, rfl⟩
                    rw [Hm.out] at MU lm HST
                    have hxx := u8_xor_nat u m lu lm
                    have hJ1 : J < n + 1 := by omega
                    clear OS OP B
                    go_wp2
                    refine wp_region_quiet_lastA (n := 14) (by kernel_rfl) rfl rfl (by kernel_rfl) (by kernel_rfl) ?_
                    simp only [List.take_succ_cons, List.take_zero]
                    repeat (go_big_quiet_step ((go_at_call 14; exact Calls.quiet_of_same (MU.out _))))
                    refine wpQuiet_nil ?_
                    rintro w' ⟨nq, rfl⟩
                    have hcd : (wr.drewN nq).cell? ⟨w5.heap.size, J, none⟩ = some (.int .u8 (u : Int)) := hcv
                    have hfd : (wr.drewN nq).frozen? ⟨w5.heap.size, J, none⟩ = false := hfz
                    go_simp
                    have hst := HST.out (wr.drewN nq) (Dr.one _ _)
                    obtain ⟨W2, hW2⟩ : ∃ W2, Hid ((wr.drewN nq).setCell ⟨w5.heap.size, J, none⟩ (.int .u8 ((u ^^^ m : Nat) : Int)) = W2) := ⟨_, rfl⟩
                    rw [hW2.out] at hst
                    rw [hW2.out]
                    have H1 := hid hst.1
                    have H2 := hid hst.2.1
                    have H3 := hid hst.2.2
                    clear hst hcd hfd hcv hfz hpc HST
                    go_wp2
                    exact ⟨⟨J + 1, by omega, by go_num, H1, H2, H3⟩, by simp [intOf]; omega⟩
                  · have HO2 : Hid (wr.ownsRow w5.heap.size 5 1 (.slice (some ⟨w5.heap.size, 0, none⟩) (n + 1) (n + 1)) (n + 1) ((tabL (n + 1) (lagF Z n X C (M + 1))).map (Value.int .u8))) := by
                      rw [tabL_congr (n + 1) (f := lagF Z n X C (M + 1)) (g := sumF Z n X C M n) fun l _ => (sumF_all Z n X HCL.out M l).symm]
                      have hJn : J = n := by omega
                      rw [hJn] at OS
                      exact OS.out
                    clear OS OP
                    go_wp2
                    exact ⟨⟨M + 1, by omega, by go_num, HO2, B⟩, by simp [intOf]; omega⟩
              · have hMn : M = n := by omega
                rw [hMn] at O
                have FEV : Hid (∀ i, i < n → evS (lagF Z n X C n) (X i) n = Y i) := fun i hi => by
                  have := lagF_ev HZ.out.2 HZL.out HZT.out HX.out HY.out HD.out HR.out (C := C) (fun i _ => by rw [HC.out]) HCL.out hi n (Nat.le_refl _)
                  rw [if_pos hi] at this
                  exact this
                have hlf := lagF_lt HZ.out.2 n HX.out C n
                have hb : HB wr (.slice (some ⟨w5.heap.size, 0, none⟩) (tabL (n + 1) (lagF Z n X C n)).length (n + 1)) (tabL (n + 1) (lagF Z n X C n)) := by rw [tabL_length]; exact HB.of_own (by rw [tabL_length]; exact O.out) (tabL_byt _ hlf)
                have ct := rcut_any wr (some ⟨w5.heap.size, 0, none⟩) (n + 1) _ hb
                have ho := own_mono (own_trim O.out) hlw
                rw [← cutL_length, tabL_length] at ct
                rw [cut_ext n _ (lagF_far n X HCL.out n n (Nat.le_refl _))] at ct ho
                have CT := hid ct
                have FIN : Hid (ThrPost w n X Y (.returned (.tuple #[.slice (some ⟨w5.heap.size, 0, none⟩) (cutL (tabL n (lagF Z n X C n))).length (n + 1), .int .i64 0])) wr) :=
                  ⟨fun h => absurd h (by have := HL.out; omega), fun _ h => absurd HD.out h, fun _ _ => ⟨_, _, rfl, hlf, ho, FEV.out⟩, B05.out.trans (B.out.mono hlw)⟩
                clear ct ho hb hlf O B hMn
                go_wp2_with fail
                refine CT.out.mono ?_
                rintro e w7 ⟨rfl, hw⟩
                subst hw
                go_wp2
                go_ret2
                exact FIN.out
end Go.Proofs.Ytmglpcenipnmbaa
