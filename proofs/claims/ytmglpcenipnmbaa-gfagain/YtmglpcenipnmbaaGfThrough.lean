/- gf.Through, walked. -/
import Derived.Test.YtmglpcenipnmbaaGfThrMath
import Derived.Test.YtmglpcenipnmbaaGfListsWalk
import Derived.Deep.RegionHeld3
set_option linter.unusedSimpArgs false
set_option linter.unusedVariables false
namespace Go.Proofs.Ytmglpcenipnmbaa
open Go Go.RowKit

theorem Below.keep {A C : World} (h : Below A.heap.size A C) {g : Nat} {X : Obj} (hg : A.heap[g]? = some X) : C.heap[g]? = some X :=
  (h.block g (Array.getElem?_eq_some_iff.1 hg).1).trans hg
theorem gadd_any (w : World) (a b : Nat) (ha : a < 256) (hb : b < 256) : Calls Try.prog 9 #[.int .u8 (a : Int), .int .u8 (b : Int)] w fun e w' => e = .returned (.int .u8 ((a ^^^ b : Nat) : Int)) ∧ w' = w := by
  have hx := u8_xor_nat a b ha hb
  go_enter Try.func9, Try.ntmps9
  go_wp2
  go_ret
  exact ⟨rfl, rfl⟩
/-- n points: the places X, the values Y. -/
def HPt (w : World) (v : Value) (n : Nat) (X Y : Nat → Nat) : Prop :=
  ∃ (p : Option Addr) (c : Nat), v = .slice p n c ∧ n ≤ c ∧ c ≤ maxLen ∧ (∀ i, X i < 256) ∧ (∀ i, Y i < 256) ∧
    (0 < n → ∃ b off, p = some ⟨b, off, none⟩ ∧ ∀ i, i < n → w.cell? ⟨b, off + i * 2, none⟩ = some (.int .u8 (X i : Int)) ∧ w.cell? ⟨b, off + (i * 2 + 1), none⟩ = some (.int .u8 (Y i : Int)))
theorem HPt.below {w w' : World} {v : Value} {n : Nat} {X Y : Nat → Nat} (h : HPt w v n X Y) (hb : Below w.heap.size w w') : HPt w' v n X Y := by
  obtain ⟨p, c, h1, h2, h3, h4, h5, h6⟩ := h
  refine ⟨p, c, h1, h2, h3, h4, h5, fun hn => ?_⟩
  obtain ⟨b, off, e, hh⟩ := h6 hn
  exact ⟨b, off, e, fun i hi => ⟨(hb.cell (World.block_lt_of_cell? w _ (hh i hi).1)).trans (hh i hi).1, (hb.cell (World.block_lt_of_cell? w _ (hh i hi).2)).trans (hh i hi).2⟩⟩
theorem info_pt : (Try.prog.info? 54).map (fun i => (i.zero, i.size)) = some (some (.agg #[.int .u8 0, .int .u8 0]), 2) := by kernel_rfl
theorem size_pt : ∀ w, Sem.run Try.prog (Go.sizeOf 54) w = .ok 2 w := fun w => by
  have h := info_pt
  cases hi : Try.prog.info? 54 with
  | none => rw [hi] at h; cases h
  | some i =>
    rw [hi] at h
    simp only [Option.map_some, Option.some.injEq, Prod.mk.injEq] at h
    simp [Go.sizeOf, typeInfo, hi, h.2]
def ThrPost (w : World) (n : Nat) (X Y : Nat → Nat) (e : Ending) (w' : World) : Prop :=
  (256 < n → e = .returned (.tuple #[.slice none 0 0, .int .i64 61])) ∧
  (n ≤ 256 → ¬ Dist X n → e = .returned (.tuple #[.slice none 0 0, .int .i64 62])) ∧
  (n ≤ 256 → Dist X n → ∃ (v : Value) (f : Nat → Nat), e = .returned (.tuple #[v, .int .i64 0]) ∧ (∀ i, f i < 256) ∧
    w'.ownsRow w.heap.size 5 1 v (cutL (tabL n f)).length ((cutL (tabL n f)).map (Value.int .u8)) ∧ (∀ i, i < n → evS f (X i) n = Y i)) ∧
  Below w.heap.size w w'
/-- The loop's invariant. -/
def ThrInv (w : World) (n gt : Nat) (X Y : Nat → Nat) (I : Nat) (pz : Option Addr) (cz : Nat) (Z : List Int) (f : Nat → Nat) (wr : World) : Prop :=
  HB wr (.slice pz Z.length cz) Z ∧ (∀ q : Addr, pz = some q → q.block ≠ gt) ∧ Z.length ≤ I + 1 ∧ (∀ x, x < 256 → (horn x Z = 0 ↔ ∃ j, j < I ∧ x = X j)) ∧ (∀ i, f i < 256) ∧ (∀ j, j < I → evS f (X j) n = Y j) ∧
  wr.ownsRow w.heap.size 5 1 (.slice (some ⟨gt, 0, none⟩) n n) n ((tabL n f).map (Value.int .u8)) ∧ Below w.heap.size w wr ∧ Dist X I
theorem own_trim {w : World} {B n c : Nat} {p : Option Addr} {f : Nat → Nat} (h : w.ownsRow B 5 1 (.slice p n c) n ((tabL n f).map (Value.int .u8))) : w.ownsRow B 5 1 (.slice p (cutL (tabL n f)).length c) (cutL (tabL n f)).length ((cutL (tabL n f)).map (Value.int .u8)) := by
  have e : (cutL (tabL n f)).length = cutN (tabL n f) n := by rw [cutL_length, tabL_length]
  have := own_cut h
  rw [e] at this ⊢
  exact this
theorem gdiv_v (W : World) (a h d : Nat) (er : Int) (ha : a < 256) (hh : h < 256) (hq : (if h = 0 then ((0 : Nat), (60 : Int)) else (prod a (inv h), 0)) = (d, er)) :
    Calls Try.prog 18 #[.int .u8 (a : Int), .int .u8 (h : Int)] W fun e w' => e = .returned (.tuple #[.int .u8 (d : Int), .int .i64 er]) ∧ Below W.heap.size W w' := by
  by_cases h0 : h = 0
  · rw [if_pos h0] at hq
    cases hq
    subst h0
    exact div_none W a ha
  · rw [if_neg h0] at hq
    cases hq
    exact div_any W a h ha hh h0
theorem pt_cells {w : World} {g x y : Nat} (h : w.heap[g]? = some (.cells #[.int .u8 (x : Int), .int .u8 (y : Int)] 54 (0, 0))) : w.cell? ⟨g, 0, none⟩ = some (.int .u8 (x : Int)) ∧ w.cell? ⟨g, 1, none⟩ = some (.int .u8 (y : Int)) :=
  ⟨by rw [cell_of_row w g 0 _ _ _ h]; rfl, by rw [cell_of_row w g 1 _ _ _ h]; rfl⟩
theorem dist_next {X : Nat → Nat} {I : Nat} (h : Dist X I) (hn : ∀ j, j < I → X I ≠ X j) : Dist X (I + 1) := fun i j hij hj => by
  by_cases e : j = I
  · subst e
    exact (hn i hij).symm
  · exact h i j hij (by omega)
set_option maxRecDepth 100000 in
set_option maxHeartbeats 8000000 in
theorem gthrough_any (w : World) (v : Value) (n : Nat) (X Y : Nat → Nat) (h : HPt w v n X Y) : Calls Try.prog 43 #[v] w (ThrPost w n X Y) := by
  have HP := hid h
  obtain ⟨p, c, rfl, hnc, hcm, hX, hY, hcell⟩ := h
  have HX := hid hX
  have HY := hid hY
  unfold maxLen at hcm
  have sz := size_pt
  have su := size_u8
  clear hX hY hcell
  go_enter Try.func43, Try.ntmps43
  by_cases hlong : 256 < n
  · have hg : (256 : Int) < (n : Int) := by omega
    have FIN : Hid (ThrPost w n X Y (.returned (.tuple #[.slice none 0 0, .int .i64 61])) w) := ⟨fun _ => rfl, fun h => absurd hlong (by omega), fun h => absurd hlong (by omega), Below.refl _ _⟩
    clear hlong
    go_wp2
    go_ret2
    exact FIN.out
  · have hg : ¬ (256 : Int) < (n : Int) := by omega
    have HL : Hid (n ≤ 256) := Nat.le_of_not_lt hlong
    clear hlong
    obtain ⟨i0, hi, hz0, hz1, hz2⟩ := info_parts info_u8
    obtain ⟨w1, hmk, hown, hgr⟩ := run_make_full (P := Try.prog) w w.heap.size 38 5 i0 (.int .u8 0) 1 Try.underlying38 hi hz0 hz1 .i64 .i64 n (by rw [hz2]; have := HL.out; omega) (by unfold maxLen; have := HL.out; omega) (Nat.le_refl _)
    have hmk2 : (Instr.makeSlice 38 (.int .i64 (n : Int)) (.int .i64 (n : Int))).run Try.prog w = .ok (.slice (some ⟨w.heap.size, 0, none⟩) n n) w1 := hmk
    have B1 : Hid (Below w.heap.size w w1) := ⟨hgr.os, hgr.tape, hgr.output, hgr.size, fun k hk => hgr.block k hk (by simp)⟩
    have OT1 : Hid (w1.ownsRow w.heap.size 5 1 (.slice (some ⟨w.heap.size, 0, none⟩) n n) n ((tabL n fun _ => 0).map (Value.int .u8))) := by
      have e : (madeCells (Value.int IntKind.u8 0).cells (n * 1)).toList = (tabL n fun _ => 0).map (Value.int .u8) := by
        rw [show (Value.int IntKind.u8 0).cells = #[Value.int .u8 0] from rfl, toList_madeCells_one, Nat.mul_one]
        refine List.ext_getElem (by simp [tabL]) fun j h1 h2 => ?_
        simp [tabL]
      rw [← e]
      exact hown
    have hlt := (OT1.out.lt w.heap.size rfl).2
    clear hmk hown hgr
    go_wp2
    obtain ⟨w2, hw2⟩ : ∃ w2, Hid (w1.alloc (.cells #[.int .u8 1] 5) = w2) := ⟨_, rfl⟩
    have B12 : Hid (Below w1.heap.size w1 w2) := by rw [← hw2.out]; exact (Below.refl _ w1).alloc (Nat.le_refl _) _
    have Z2 : Hid (HB w2 (.slice (some ⟨w1.heap.size, 0, none⟩) 1 1) [1]) := by
      rw [← hw2.out]
      refine ⟨⟨_, _, rfl, Nat.le_refl _, by decide, (fun e => by cases e), fun _ => ⟨w1.heap.size, 0, rfl, fun j hj => ?_⟩⟩, by simp⟩
      have : j = 0 := by simpa using hj
      subst this
      rw [cell_of_row _ w1.heap.size _ _ _ _ (heap_alloc_new w1 _)]
      rfl
    rw [hw2.out]
    go_loopw [5, 19] (fun z i wr => ∃ (I : Nat) (pz : Option Addr) (cz : Nat) (Z : List Int) (f : Nat → Nat), I ≤ n ∧ i = .int .i64 (I : Int) ∧ z = .slice pz Z.length cz ∧ Hid (ThrInv w n w.heap.size X Y I pz cz Z f wr)) (fun _ i _ => n - (intOf i).toNat)
    case atStart =>
      refine ⟨0, some ⟨w1.heap.size, 0, none⟩, 1, [1], fun _ => 0, Nat.zero_le _, rfl, rfl, Z2.out, ?_, by simp, ?_, fun _ => by show 0 < 256; decide, fun j hj => absurd hj (by omega), ?_, B1.out.trans (B12.out.mono B1.out.size), fun i j _ h => absurd h (by omega)⟩
      · intro q e
        cases e
        show w1.heap.size ≠ w.heap.size
        omega
      · intro x hx
        rw [horn, horn, zero_prod x hx]
        simp
      · exact own_below OT1.out B12.out
    case round =>
      obtain ⟨I, pz, cz, Z, f, hI, rfl, rfl, HINV⟩ := hrel
      by_cases hlast : I = n
      · have hl1 : ¬ (I : Int) < (n : Int) := by omega
        have HE : Hid (I = n) := hlast
        obtain ⟨-, -, -, -, hf, hev, hot, hBr, hdi⟩ := HINV.out
        have hb : HB wr (.slice (some ⟨w.heap.size, 0, none⟩) (tabL n f).length n) (tabL n f) := by rw [tabL_length]; exact HB.of_own (by rw [tabL_length]; exact hot) (tabL_byt n hf)
        have ct := trimmed_any wr (some ⟨w.heap.size, 0, none⟩) n (tabL n f) hb
        rw [← cutL_length, tabL_length] at ct
        have CT := hid ct
        have FIN : Hid (ThrPost w n X Y (.returned (.tuple #[.slice (some ⟨w.heap.size, 0, none⟩) (cutL (tabL n f)).length n, .int .i64 0])) wr) := by
          rw [hlast] at hev hdi
          exact ⟨fun h => absurd h (by have := HL.out; omega), fun _ h => absurd hdi h, fun _ _ => ⟨_, f, rfl, hf, own_trim hot, hev⟩, hBr⟩
        clear HINV hf hev hot hBr hdi hb ct hlast
        go_wp2_with fail
        refine CT.out.mono ?_
        rintro e w3 ⟨rfl, hw⟩
        subst hw
        go_wp2
        go_ret2
        exact FIN.out
      · have hl1 : (I : Int) < (n : Int) := by omega
        have hBr : Below w.heap.size w wr := HINV.out.2.2.2.2.2.2.2.1
        obtain ⟨p', c', ee, -, -, -, -, h6⟩ := HP.out.below hBr
        simp only [Value.slice.injEq, true_and] at ee
        obtain ⟨rfl, rfl⟩ := ee
        obtain ⟨b, off, rfl, hcl⟩ := h6 (by omega)
        have q0 := (hcl I (by omega)).1
        have q1 : wr.cell? ⟨b, off + I * 2 + 1, none⟩ = some (.int .u8 (Y I : Int)) := by rw [Nat.add_assoc]; exact (hcl I (by omega)).2
        obtain ⟨x, Hx⟩ : ∃ x, Hid (X I = x) := ⟨_, rfl⟩
        obtain ⟨y, Hy⟩ : ∃ y, Hid (Y I = y) := ⟨_, rfl⟩
        rw [Hx.out] at q0
        rw [Hy.out] at q1
        clear hcl h6
        obtain ⟨hZ, hzb, hzl, hzr, hf, hev, hot, -, hdi⟩ := HINV.out
        have HZ := hid hZ
        have HZB := hid hzb
        have HZL := hid hzl
        have HZR := hid hzr
        have HF := hid hf
        have HEV := hid hev
        have OT := hid hot
        have HDI := hid hdi
        have BR := hid hBr
        have hxl : x < 256 := by rw [← Hx.out]; exact HX.out I
        have hyl : y < 256 := by rw [← Hy.out]; exact HY.out I
        have ht := horn_tab n hf x hxl
        obtain ⟨t, Ht⟩ : ∃ t, Hid (evS f x n = t) := ⟨_, rfl⟩
        have htl : t < 256 := by rw [← Ht.out]; exact evS_lt hf x n
        rw [Ht.out] at ht
        obtain ⟨h, Hh⟩ : ∃ h, Hid (horn x Z = h) := ⟨_, rfl⟩
        have hhl : h < 256 := by rw [← Hh.out]; exact horn_lt x Z hZ.2
        obtain ⟨d, er, HD⟩ : ∃ d er, Hid ((if h = 0 then ((0 : Nat), (60 : Int)) else (prod (y ^^^ t) (inv h), 0)) = (d, er)) := ⟨_, _, rfl⟩
        obtain ⟨s, Hs⟩ : ∃ s, Hid (y ^^^ t = s) := ⟨_, rfl⟩
        have hsl : s < 256 := by rw [← Hs.out]; exact xor8 hyl htl
        have CE1 : Hid (∀ W, Below wr.heap.size wr W → Calls Try.prog 31 #[.slice (some ⟨w.heap.size, 0, none⟩) n n, .int .u8 (x : Int)] W fun e w' => e = .returned (.int .u8 (t : Int)) ∧ Below W.heap.size W w') := fun W hW => by
          have o := own_below OT.out hW
          have hb : HB W (.slice (some ⟨w.heap.size, 0, none⟩) n n) (tabL n f) := HB.of_own (by rw [tabL_length]; exact o) (tabL_byt n HF.out)
          rw [← ht]
          exact eval_any W _ _ x hb hxl
        have CE2 : Hid (∀ W, Below wr.heap.size wr W → Calls Try.prog 31 #[.slice pz Z.length cz, .int .u8 (x : Int)] W fun e w' => e = .returned (.int .u8 (h : Int)) ∧ Below W.heap.size W w') := fun W hW => by
          rw [← Hh.out]
          exact eval_any W _ _ x (HZ.out.below hW) hxl
        have CA : Hid (∀ W, Calls Try.prog 9 #[.int .u8 (y : Int), .int .u8 (t : Int)] W fun e w' => e = .returned (.int .u8 (s : Int)) ∧ w' = W) := fun W => by
          rw [← Hs.out]
          exact gadd_any W y t hyl htl
        have CD : Hid (∀ W, Calls Try.prog 18 #[.int .u8 (s : Int), .int .u8 (h : Int)] W fun e w' => e = .returned (.tuple #[.int .u8 (d : Int), .int .i64 er]) ∧ Below W.heap.size W w') := fun W => gdiv_v W s h d er hsl hhl (by rw [← Hs.out]; exact HD.out)
        clear hZ hzb hzl hzr hf hev hot hdi hBr ht HINV
        go_wp2_with fail
        obtain ⟨wp, hwp⟩ : ∃ wp, Hid (wr.alloc (.cells #[.int .u8 (x : Int), .int .u8 (y : Int)] 54) = wp) := ⟨_, rfl⟩
        rw [hwp.out]
        have BP : Hid (Below wr.heap.size wr wp) := by rw [← hwp.out]; exact (Below.refl _ wr).alloc (Nat.le_refl _) _
        have KP : Hid (wp.heap[wr.heap.size]? = some (.cells #[.int .u8 (x : Int), .int .u8 (y : Int)] 54 (0, 0))) := by rw [← hwp.out]; exact heap_alloc_new wr _
        refine wp_region_held_drew (S := (fun W : World => W.heap[wr.heap.size]? = some (.cells #[.int .u8 (x : Int), .int .u8 (y : Int)] 54 (0, 0)))) (by kernel_rfl) KP.out (fun hHeld => ?_)
        have HS := hid hHeld
        clear hHeld
        change wpAnyH _ _ _ _ _ _ _ _ (World.drew _)
        have B3 : Hid (Below wr.heap.size wr wp.drew) := BP.out.trans (Below.trans (b := wp.drew) ⟨rfl, rfl, rfl, Nat.le_refl _, fun _ _ => rfl⟩ (Below.refl _ _))
        have hsp := BP.out.size
        refine wpAnyH_take (i := 0) (v := ?_) rfl (by kernel_rfl) (by kernel_rfl) (by kernel_rfl) (fun _ _ _ h => h) (Or.inl ⟨by rfl, ?q0⟩) HS.out ?_
        case q0 => intro w hSw; go_simp; rfl
        simp only [Act.put, List.getElem_toArray, List.getElem_cons_zero, List.getElem_cons_succ, List.setIfInBounds_toArray, List.set_cons_zero, List.set_cons_succ]
        refine wpAnyH_take (i := 1) (v := ?_) rfl (by kernel_rfl) (by kernel_rfl) (by kernel_rfl) (fun _ _ _ h => h) (Or.inl ⟨by rfl, ?q1⟩) HS.out ?_
        case q1 => intro w hSw; have hc := pt_cells hSw; have hc0 := hc.1; have hc1 := hc.2; clear hc; go_simp; rfl
        simp only [Act.put, List.getElem_toArray, List.getElem_cons_zero, List.getElem_cons_succ, List.setIfInBounds_toArray, List.set_cons_zero, List.set_cons_succ]
        refine wpAnyH_take (i := 2) (v := ?_) rfl (by kernel_rfl) (by kernel_rfl) (by kernel_rfl) (fun _ _ _ h => h) (Or.inl ⟨by rfl, ?q2⟩) HS.out ?_
        case q2 => intro w hSw; go_simp; rfl
        simp only [Act.put, List.getElem_toArray, List.getElem_cons_zero, List.getElem_cons_succ, List.setIfInBounds_toArray, List.set_cons_zero, List.set_cons_succ]
        refine wpAnyH_take (i := 3) (v := ?_) rfl (by kernel_rfl) (by kernel_rfl) (by kernel_rfl) (fun _ _ _ h => h) (Or.inl ⟨by rfl, ?q3⟩) HS.out ?_
        case q3 => intro w hSw; go_simp; rfl
        simp only [Act.put, List.getElem_toArray, List.getElem_cons_zero, List.getElem_cons_succ, List.setIfInBounds_toArray, List.set_cons_zero, List.set_cons_succ]
        refine wpAnyH_take (i := 4) (v := ?_) rfl (by kernel_rfl) (by kernel_rfl) (by kernel_rfl) (fun _ _ _ h => h) (Or.inl ⟨by rfl, ?q4⟩) HS.out ?_
        case q4 => intro w hSw; have hc := pt_cells hSw; have hc0 := hc.1; have hc1 := hc.2; clear hc; go_simp; rfl
        simp only [Act.put, List.getElem_toArray, List.getElem_cons_zero, List.getElem_cons_succ, List.setIfInBounds_toArray, List.set_cons_zero, List.set_cons_succ]
        refine wpAnyH_take (i := 7) (v := ?_) rfl (by kernel_rfl) (by kernel_rfl) (by kernel_rfl) (fun _ _ _ h => h) (Or.inl ⟨by rfl, ?q7⟩) HS.out ?_
        case q7 => intro w hSw; go_simp; rfl
        simp only [Act.put, List.getElem_toArray, List.getElem_cons_zero, List.getElem_cons_succ, List.setIfInBounds_toArray, List.set_cons_zero, List.set_cons_succ]
        refine wpAnyH_take (i := 8) (v := ?_) rfl (by kernel_rfl) (by kernel_rfl) (by kernel_rfl) (fun _ _ _ h => h) (Or.inl ⟨by rfl, ?q8⟩) HS.out ?_
        case q8 => intro w hSw; go_simp; rfl
        simp only [Act.put, List.getElem_toArray, List.getElem_cons_zero, List.getElem_cons_succ, List.setIfInBounds_toArray, List.set_cons_zero, List.set_cons_succ]
        refine wpAnyH_take (i := 9) (v := ?_) rfl (by kernel_rfl) (by kernel_rfl) (by kernel_rfl) (fun _ _ _ h => h) (Or.inl ⟨by rfl, ?q9⟩) HS.out ?_
        case q9 => intro w hSw; have hc := pt_cells hSw; have hc0 := hc.1; have hc1 := hc.2; clear hc; go_simp; rfl
        simp only [Act.put, List.getElem_toArray, List.getElem_cons_zero, List.getElem_cons_succ, List.setIfInBounds_toArray, List.set_cons_zero, List.set_cons_succ]
        refine wpAnyH_ready (rs := [5]) (by kernel_rfl) (by simp) ?_
        refine AllReadyH.cons rfl (fun K hK => ?_) AllReadyH.nil
        go_simp
        refine (CE1.out _ B3.out).mono ?_
        rintro e w4 ⟨rfl, hB⟩
        have HS := hid (p := (fun W : World => W.heap[wr.heap.size]? = some (.cells #[.int .u8 (x : Int), .int .u8 (y : Int)] 54 (0, 0))) _) (Below.keep hB HS.out)
        have B4 := hid (B3.out.trans (hB.mono B3.out.size))
        clear hB
        refine hK.out _ _ HS.out (fun _ => ?_)
        clear hK K
        refine wpAnyH_ready (rs := [6]) (by kernel_rfl) (by simp) ?_
        refine AllReadyH.cons rfl (fun K hK => ?_) AllReadyH.nil
        go_simp
        refine (CA.out w4).mono ?_
        rintro e w5 ⟨rfl, hw⟩
        subst hw
        refine hK.out _ _ HS.out (fun _ => ?_)
        clear hK K
        refine wpAnyH_ready (rs := [10]) (by kernel_rfl) (by simp) ?_
        refine AllReadyH.cons rfl (fun K hK => ?_) AllReadyH.nil
        go_simp
        refine (CE2.out _ B4.out).mono ?_
        rintro e w6 ⟨rfl, hB⟩
        have HS := hid (p := (fun W : World => W.heap[wr.heap.size]? = some (.cells #[.int .u8 (x : Int), .int .u8 (y : Int)] 54 (0, 0))) _) (Below.keep hB HS.out)
        have B6 := hid (B4.out.trans (hB.mono B4.out.size))
        clear hB
        refine hK.out _ _ HS.out (fun _ => ?_)
        clear hK K
        refine wpAnyH_ready (rs := [11]) (by kernel_rfl) (by simp) ?_
        refine AllReadyH.cons rfl (fun K hK => ?_) AllReadyH.nil
        go_simp
        refine (CD.out w6).mono ?_
        rintro e w7 ⟨rfl, hB⟩
        have HS := hid (p := (fun W : World => W.heap[wr.heap.size]? = some (.cells #[.int .u8 (x : Int), .int .u8 (y : Int)] 54 (0, 0))) _) (Below.keep hB HS.out)
        have B7 := hid (B6.out.trans (hB.mono B6.out.size))
        clear hB
        refine hK.out _ _ HS.out (fun _ => ?_)
        clear hK K
        refine wpAnyH_take (i := 12) (v := ?_) rfl (by kernel_rfl) (by kernel_rfl) (by kernel_rfl) (fun _ _ _ h => h) (Or.inl ⟨by rfl, ?q12⟩) HS.out ?_
        case q12 => intro w hSw; go_simp; rfl
        simp only [Act.put, List.getElem_toArray, List.getElem_cons_zero, List.getElem_cons_succ, List.setIfInBounds_toArray, List.set_cons_zero, List.set_cons_succ]
        refine wpAnyH_take (i := 13) (v := ?_) rfl (by kernel_rfl) (by kernel_rfl) (by kernel_rfl) (fun _ _ _ h => h) (Or.inl ⟨by rfl, ?q13⟩) HS.out ?_
        case q13 => intro w hSw; go_simp; rfl
        simp only [Act.put, List.getElem_toArray, List.getElem_cons_zero, List.getElem_cons_succ, List.setIfInBounds_toArray, List.set_cons_zero, List.set_cons_succ]
        refine wpAnyH_take (i := 14) (v := ?_) rfl (by kernel_rfl) (by kernel_rfl) (by kernel_rfl) (fun _ _ _ h => h) (Or.inl ⟨by rfl, ?q14⟩) HS.out ?_
        case q14 => intro w hSw; go_simp; rfl
        simp only [Act.put, List.getElem_toArray, List.getElem_cons_zero, List.getElem_cons_succ, List.setIfInBounds_toArray, List.set_cons_zero, List.set_cons_succ]
        refine wpAnyH_take (i := 15) (v := ?_) rfl (by kernel_rfl) (by kernel_rfl) (by kernel_rfl) (fun _ _ _ h => h) (Or.inl ⟨by rfl, ?q15⟩) HS.out ?_
        case q15 => intro w hSw; go_simp; rfl
        simp only [Act.put, List.getElem_toArray, List.getElem_cons_zero, List.getElem_cons_succ, List.setIfInBounds_toArray, List.set_cons_zero, List.set_cons_succ]
        refine wpAnyH_take (i := 16) (v := ?_) rfl (by kernel_rfl) (by kernel_rfl) (by kernel_rfl) (fun _ _ _ h => h) (Or.inl ⟨by rfl, ?q16⟩) HS.out ?_
        case q16 => intro w hSw; go_simp; rfl
        simp only [Act.put, List.getElem_toArray, List.getElem_cons_zero, List.getElem_cons_succ, List.setIfInBounds_toArray, List.set_cons_zero, List.set_cons_succ]
        refine wpAnyH_done (by kernel_rfl) ?_ _
        have hgw := (OT.out.lt w.heap.size rfl).2
        have hs7 := B7.out.size
        have hlw := BR.out.size
        have B07 := hid (BR.out.trans (B7.out.mono hlw))
        by_cases h0 : h = 0
        · have e60 : d = 0 ∧ er = 60 := by
            have := HD.out
            rw [if_pos h0] at this
            cases this
            exact ⟨rfl, rfl⟩
          obtain ⟨rfl, rfl⟩ := e60
          have FIN : Hid (ThrPost w n X Y (.returned (.tuple #[.slice none 0 0, .int .i64 62])) w7) := by
            refine ⟨fun h => absurd h (by have := HL.out; omega), fun _ _ => rfl, fun _ hd => ?_, B07.out⟩
            obtain ⟨j, hj, hxj⟩ := (HZR.out x hxl).1 (Hh.out.trans h0)
            exact absurd (Hx.out.trans hxj).symm (hd j I hj (by omega))
          clear CE1 CE2 CA CD HD h0 HZ HZB HZL HZR HF HEV OT HDI BR B3 B4 B6 B7 B07 HS KP BP hwp
          go_wp2
          go_ret2
          exact FIN.out
        · have e0 : prod (y ^^^ t) (inv h) = d ∧ er = 0 := by
            have := HD.out
            rw [if_neg h0] at this
            cases this
            exact ⟨rfl, rfl⟩
          obtain ⟨hd, rfl⟩ := e0
          have hdl : d < 256 := by rw [← hd]; exact prod_lt _ (xor8 hyl htl)
          have OT7 := hid (own_below OT.out B7.out)
          have Z7 := hid (HZ.out.below B7.out)
          have CS : Hid (Calls Try.prog 58 #[.slice (some ⟨w.heap.size, 0, none⟩) n n, .slice pz Z.length cz, .int .u8 (d : Int), .int .i64 0] w7 fun e w' => e = .returned (.tuple #[]) ∧ w'.ownsRow w.heap.size 5 1 (.slice (some ⟨w.heap.size, 0, none⟩) n n) n ((tabL n (fun i => f i ^^^ sh Z d 0 i)).map (Value.int .u8)) ∧ w7.grownBy w' (some w.heap.size)) :=
            addShifted_any w7 w.heap.size n n w.heap.size 0 d cz pz Z f HF.out (by have := HL.out; omega) OT7.out Z7.out (fun _ b off e => HZB.out _ e) hdl (by have := HZL.out; omega)
          have STEP := hid (thr_step (c := d) HF.out HZ.out.2 (n := n) (by have := HZL.out; omega) hxl hyl (fun e => h0 (Hh.out.symm.trans e)) (by rw [Ht.out, Hh.out]; exact hd))
          have KP7 := hid HS.out
          clear CE1 CE2 CA CD HD hd OT B3 B4 B6 HS KP BP hwp OT7
          go_wp2_with fail
          refine CS.out.mono ?_
          rintro e w8 ⟨rfl, ho8, hg8⟩
          have OT8 := hid ho8
          have hs8 := hg8.size
          have hwr : wr.heap.size < w7.heap.size := (Array.getElem?_eq_some_iff.1 KP7.out).1
          have KP8 := hid ((hg8.block wr.heap.size hwr (by simp only [ne_eq, Option.some.injEq]; omega)).trans KP7.out)
          have c0 := (pt_cells KP8.out).1
          have Z8 := hid (Z7.out.other hg8 (by
            cases pz with
            | none => exact .inl rfl
            | some q => exact .inr (fun e => HZB.out q rfl (by simpa [Value.ownBlock] using e))))
          have B08 := hid (B07.out.grown hg8 B07.out.size (fun k e => by cases e; exact Nat.le_refl _))
          clear CS ho8 hg8 KP7 Z7
          go_wp2_with fail
          obtain ⟨w9, hw9⟩ : ∃ w9, Hid (w8.alloc (.cells #[.int .u8 (x : Int), .int .u8 1] 5) = w9) := ⟨_, rfl⟩
          have B89 : Hid (Below w8.heap.size w8 w9) := by rw [← hw9.out]; exact (Below.refl _ w8).alloc (Nat.le_refl _) _
          have L9 : Hid (HB w9 (.slice (some ⟨w8.heap.size, 0, none⟩) 2 2) [(x : Int), 1]) := by
            rw [← hw9.out]
            refine ⟨⟨_, _, rfl, Nat.le_refl _, by decide, (fun e => by cases e), fun _ => ⟨w8.heap.size, 0, rfl, fun j hj => ?_⟩⟩, lin_byt hxl⟩
            rw [cell_of_row _ w8.heap.size _ _ _ _ (heap_alloc_new w8 _)]
            match j, hj with
            | 0, _ => rfl
            | 1, _ => rfl
          rw [hw9.out]
          have hs89 := B89.out.size
          have CM : Hid (Calls Try.prog 55 #[.slice pz Z.length cz, .slice (some ⟨w8.heap.size, 0, none⟩) 2 2] w9 fun e w' => ∃ g, e = .returned (.slice (some ⟨g, 0, none⟩) (Z.length + 2) (Z.length + 2)) ∧ w'.ownsRow w9.heap.size 5 1 (.slice (some ⟨g, 0, none⟩) (Z.length + 2) (Z.length + 2)) (Z.length + 2) ((tabL (Z.length + 2) (cv Z [(x : Int), 1] Z.length)).map (Value.int .u8)) ∧ Below w9.heap.size w9 w') :=
            multiplied_any w9 pz (some ⟨w8.heap.size, 0, none⟩) cz 2 Z [(x : Int), 1] (Z8.out.below B89.out) L9.out (by have := HZL.out; have := HL.out; simp; omega)
          refine CM.out.mono ?_
          rintro e w10 ⟨g, rfl, ho10, hB10⟩
          have hgl := (ho10.lt g rfl)
          obtain ⟨Z', HZ'⟩ : ∃ Z', Hid (timesL Z [(x : Int), 1] = Z') := ⟨_, rfl⟩
          have HB10 : HB w10 (.slice (some ⟨g, 0, none⟩) (tabL (Z.length + 2) (cv Z [(x : Int), 1] Z.length)).length (Z.length + 2)) (tabL (Z.length + 2) (cv Z [(x : Int), 1] Z.length)) := by
            rw [tabL_length]
            exact HB.of_own (by rw [tabL_length]; exact ho10) (tabL_byt _ fun i => cv_lt (gN_lt (lin_byt hxl)) _ i)
          have ct := trimmed_any w10 (some ⟨g, 0, none⟩) (Z.length + 2) _ HB10
          have zt := cutL_hb HB10
          rw [← cutL_length, tabL_length, show cutL (tabL (Z.length + 2) (cv Z [(x : Int), 1] Z.length)) = Z' from HZ'.out] at ct
          rw [show cutL (tabL (Z.length + 2) (cv Z [(x : Int), 1] Z.length)) = Z' from HZ'.out] at zt
          have CT := hid ct
          have Z10 := hid zt
          have B810 := hid (B89.out.trans (hB10.mono hs89))
          have OT10 := hid (own_below OT8.out B810.out)
          have B010 := hid (B08.out.trans (B810.out.mono B08.out.size))
          clear ct zt HB10 ho10 hB10 CM L9 Z8 hw9
          go_wp2_with fail
          refine CT.out.mono ?_
          rintro e w11 ⟨rfl, hw⟩
          subst hw
          clear CT
          have NEXT : Hid (ThrInv w n w.heap.size X Y (I + 1) (some ⟨g, 0, none⟩) (Z.length + 2) Z' (fun i => f i ^^^ sh Z d 0 i) w11) := by
            refine ⟨Z10.out, ?_, ?_, ?_, fun i => xor8 (HF.out i) (sh_lt (gN_lt HZ.out.2) _ _ _), ?_, OT10.out, B010.out, ?_⟩
            · intro q e
              cases e
              show g ≠ w.heap.size
              omega
            · rw [← HZ'.out, timesL_eq Z _ HZ.out.2 (by simp)]
              have h1 : ∀ L : List Int, (cutL L).length ≤ L.length := fun L => by rw [cutL_length]; exact cutN_le _ _
              have h2 := h1 (tabL (Z.length + [(x : Int), 1].length - 1) (cvF (gN Z) [(x : Int), 1] Z.length))
              rw [tabL_length] at h2
              have h3 := HZL.out
              have h4 : [(x : Int), 1].length = 2 := rfl
              omega
            · intro x' hx'
              rw [← HZ'.out, zer_step HZ.out.2 hxl hx', prod_nought _ _ (horn_lt x' Z HZ.out.2) (xor8 hx' hxl), HZR.out x' hx']
              constructor
              · rintro (⟨j, hj, e⟩ | e)
                · exact ⟨j, by omega, e⟩
                · refine ⟨I, by omega, ?_⟩
                  have e2 := congrArg (fun z => z ^^^ x) e
                  rw [Hx.out]
                  simpa [Nat.xor_assoc] using e2
              · rintro ⟨j, hj, e⟩
                by_cases ej : j = I
                · right
                  rw [e, ej, Hx.out, Nat.xor_self]
                · exact .inl ⟨j, by omega, e⟩
            · intro j hj
              by_cases ej : j = I
              · rw [ej, Hx.out, Hy.out]
                exact STEP.out.1
              · rw [STEP.out.2 (X j) (HX.out j) ((HZR.out (X j) (HX.out j)).2 ⟨j, by omega, rfl⟩)]
                exact HEV.out j (by omega)
            · refine dist_next HDI.out fun j hj e => h0 ?_
              rw [← Hh.out]
              exact (HZR.out x hxl).2 ⟨j, hj, by rw [← Hx.out]; exact e⟩
          go_wp2
          exact ⟨⟨I + 1, _, _, Z', _, by omega, by go_num, rfl, NEXT⟩, by simp [intOf]; omega⟩
end Go.Proofs.Ytmglpcenipnmbaa
