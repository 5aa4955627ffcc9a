/- Of the road to happyLastsCard_holds: HzV, HzW, HzGr, OpensHz, HzX, HzS, HzT, HzQ. -/
import Derived.Test.YtlhjpflljokinaaDoorG02
import Derived.Test.YtlhjpflljokinaaDoorG00
import Derived.Deep.SlicePairs
import Derived.Deep.MidRow
set_option linter.unusedVariables false
set_option linter.unusedSimpArgs false
namespace Go.Proofs.YtlhjpflljokinaaDoor.Hz
open Go Go.RowKit Go.Proofs.YtlhjpflljokinaaDoor Go.Maps
abbrev Q3 : List (Nat × Nat) := [(0, 0), (0, 1), (1, 0)]
theorem q3_len {m : List (Nat × Nat)} (h : Hy.MaxM Q3 m) : m.length = 2 := by
  have h1 := h.2 [(0, 1), (1, 0)] ⟨by decide, by decide⟩
  have h2 := h.1.le_servers (A := 2) (by decide)
  have e : Hy.places Prod.fst 2 Q3 = 2 := by decide
  rw [e] at h2
  simp only [List.length_cons, List.length_nil] at h1
  omega
theorem q3_fst : Hy.places Prod.fst 32 Q3 = 2 := by decide +kernel
theorem q3_snd : Hy.places Prod.snd 255 Q3 = 2 := by decide +kernel
def HALF : Nat := 4602678819172646912
theorem half_ok : azB [HALF, HALF] = true := by decide +kernel
theorem half_odds : Fl.tot 1 (Fl.tab 2 [(1, HALF), (1, HALF)]) = 4604930618986332160 := by decide +kernel
abbrev p3 : List Pr := [(0, 0), (0, 1), (1, 0)]
theorem p3_may : mayL p3 = true := by decide +kernel
set_option maxRecDepth 100000 in
set_option maxHeartbeats 4000000 in
theorem lives_any (w : World) (hT : TabAt 0 Lib.deBruijn32tab w) :
    Calls Tryd.prog 8 #[] w fun e w' => e = .returned (.bool true) ∧ Below w.heap.size w w' := by
  obtain ⟨W1, HW1⟩ : ∃ W1, Hid (w.alloc (.cells #[.int .i64 0, .int .i64 0, .int .i64 0, .int .i64 1, .int .i64 1, .int .i64 0] 51) = W1) := ⟨_, rfl⟩
  have HB1 : Hid (Below w.heap.size w W1) := by rw [← HW1.out]; exact (Below.refl _ w).alloc (Nat.le_refl _) _
  have HC1 : Hid (W1.heap[w.heap.size]? = some (.cells #[.int .i64 0, .int .i64 0, .int .i64 0, .int .i64 1, .int .i64 1, .int .i64 0] 51 (0, 0))) := by rw [← HW1.out]; exact heap_alloc_new w _
  have hP : HP W1 (.slice (some ⟨w.heap.size, 0, none⟩) 3 3) p3 := by
    refine ⟨⟨_, 3, rfl, by decide, by decide, (fun e => by cases e), fun _ => ⟨w.heap.size, 0, rfl, fun j hj => ?_⟩⟩, by decide⟩
    have : j = 0 ∨ j = 1 ∨ j = 2 := by simp only [List.length_cons, List.length_nil] at hj; omega
    rcases this with rfl | rfl | rfl <;> exact ⟨(cell_of_row _ _ _ _ _ _ HC1.out).trans rfl, (cell_of_row _ _ _ _ _ _ HC1.out).trans rfl⟩
  have CL := hid (look_any W1 _ p3 hP (tab_below hT HB1.out))
  clear hP hT
  go_enter Tryd.func8, Tryd.ntmps8
  go_wp2_with fail
  rw [HW1.out]
  refine CL.out.mono ?_
  rintro e W2 ⟨hLo, hb2⟩
  obtain ⟨m, hm, rfl⟩ := hLo.1 p3_may
  have hm' : Hy.MaxM Q3 m := hm
  have HB2 : Hid (Below w.heap.size w W2) := hid (HB1.out.trans (hb2.mono HB1.out.size))
  rw [q3_len hm', show p3.map natP = Q3 from rfl, q3_fst, q3_snd]
  clear hLo hm hm' hb2 CL HC1 HB1 HW1
  obtain ⟨W3, HW3⟩ : ∃ W3, Hid (W2.alloc (.cells #[.int .i64 2, .int .i64 2, .int .i64 2] 32) = W3) := ⟨_, rfl⟩
  have HS3 : Hid (W3.heap.size = W2.heap.size + 1) := by rw [← HW3.out]; refine hid ?_; simp
  have HC3 : Hid (W3.heap[W2.heap.size]? = some (.cells #[.int .i64 2, .int .i64 2, .int .i64 2] 32 (0, 0))) := by rw [← HW3.out]; exact heap_alloc_new W2 _
  have HB3 : Hid (Below w.heap.size w W3) := by rw [← HW3.out]; exact hid (HB2.out.alloc HB2.out.size _)
  obtain ⟨W4, HW4⟩ : ∃ W4, Hid (W3.alloc (.cells #[.float .f64 4602678819172646912, .float .f64 4602678819172646912] 40) = W4) := ⟨_, rfl⟩
  have HC4 : Hid (W4.heap[W3.heap.size]? = some (.cells #[.float .f64 4602678819172646912, .float .f64 4602678819172646912] 40 (0, 0))) := by rw [← HW4.out]; exact heap_alloc_new W3 _
  have HB4 : Hid (Below W3.heap.size W3 W4) := by rw [← HW4.out]; exact hid ((Below.refl _ W3).alloc (Nat.le_refl _) _)
  have hF : HF W4 (.slice (some ⟨W3.heap.size, 0, none⟩) 2 2) [HALF, HALF] := by
    refine ⟨⟨_, 2, rfl, by decide, by decide, (fun e => by cases e), fun _ => ⟨W3.heap.size, 0, rfl, fun j hj => ?_⟩⟩, by decide⟩
    have : j = 0 ∨ j = 1 := by simp only [List.length_cons, List.length_nil] at hj; omega
    rcases this with rfl | rfl <;> exact (cell_of_row _ _ _ _ _ _ HC4.out).trans rfl
  have CO := odds_any W4 _ [HALF, HALF] 1 hF (by decide)
  rw [if_pos half_ok, if_pos half_ok] at CO
  change Calls _ _ _ _ (fun e w' => e = .returned (.tuple #[.float .f64 (Fl.tot 1 (Fl.tab 2 [(1, HALF), (1, HALF)])), .int .i64 0]) ∧ Below W4.heap.size W4 w') at CO
  rw [half_odds] at CO
  have CX := hid CO
  rw [HS3.out] at CX HC4
  clear CO hF
  have hq0 : W3.cell? ⟨W2.heap.size, 0, none⟩ = some (.int .i64 2) := (cell_of_row _ _ _ _ _ _ HC3.out).trans rfl
  go_wp2_with fail
  rw [HW3.out, HW4.out]
  refine CX.out.mono ?_
  rintro e W5 ⟨rfl, hb5⟩
  have HB5 : Hid (Below W3.heap.size W3 W5) := hid (HB4.out.trans (hb5.mono HB4.out.size))
  have HC5 : Hid (W5.heap[W2.heap.size]? = some (.cells #[.int .i64 2, .int .i64 2, .int .i64 2] 32 (0, 0))) := hid ((HB5.out.block _ (by rw [HS3.out]; omega)).trans HC3.out)
  have HBW : Hid (Below w.heap.size w W5) := hid (HB3.out.trans (HB5.out.mono HB3.out.size))
  clear hb5 hq0 CX
  have hq0 : W5.cell? ⟨W2.heap.size, 0, none⟩ = some (.int .i64 2) := (cell_of_row _ _ _ _ _ _ HC5.out).trans rfl
  have hq1 : W5.cell? ⟨W2.heap.size, 1, none⟩ = some (.int .i64 2) := (cell_of_row _ _ _ _ _ _ HC5.out).trans rfl
  have hq2 : W5.cell? ⟨W2.heap.size, 2, none⟩ = some (.int .i64 2) := (cell_of_row _ _ _ _ _ _ HC5.out).trans rfl
  have hfe : FloatKind.f64.format.order 4604930618986332160 4604930618986332160 = some .eq := by decide +kernel
  go_wp2
  go_ret
  exact ⟨rfl, HBW.out⟩
def prl : List Pr → List Value
  | [] => []
  | p :: ps => .int .i64 p.1 :: .int .i64 p.2 :: prl ps
theorem prl_length : ∀ (ps : List Pr), (prl ps).length = ps.length * 2
  | [] => rfl
  | p :: ps => by simp [prl, prl_length ps]; omega
theorem prl_append : ∀ (a b : List Pr), prl (a ++ b) = prl a ++ prl b
  | [], b => rfl
  | p :: a, b => by simp [prl, prl_append a b]
theorem prl_fst : ∀ (ps : List Pr) (i : Nat), i < ps.length → (prl ps)[i * 2]? = some (.int .i64 (ps.getD i (0, 0)).1)
  | p :: ps, 0, _ => rfl
  | p :: ps, i + 1, h => by
    rw [show (i + 1) * 2 = i * 2 + 1 + 1 by omega]
    simp only [prl, List.getElem?_cons_succ]
    rw [prl_fst ps i (by simpa using h)]
    rfl
theorem prl_snd : ∀ (ps : List Pr) (i : Nat), i < ps.length → (prl ps)[i * 2 + 1]? = some (.int .i64 (ps.getD i (0, 0)).2)
  | p :: ps, 0, _ => rfl
  | p :: ps, i + 1, h => by
    rw [show (i + 1) * 2 + 1 = i * 2 + 1 + 1 + 1 by omega]
    simp only [prl, List.getElem?_cons_succ]
    rw [prl_snd ps i (by simpa using h)]
    rfl
theorem prl_one : ∀ (ps : List Pr), ∀ u ∈ prl ps, u.oneCell' = true
  | [], u, h => by cases h
  | p :: ps, u, h => by
    simp only [prl, List.mem_cons] at h
    rcases h with rfl | rfl | h
    · rfl
    · rfl
    · exact prl_one ps u h
theorem prl_cell {w : World} {b off : Nat} {ps : List Pr} (h : ∀ j, j < ps.length → w.cell? ⟨b, off + j * 2, none⟩ = some (.int .i64 (ps.getD j (0, 0)).1) ∧ w.cell? ⟨b, off + j * 2 + 1, none⟩ = some (.int .i64 (ps.getD j (0, 0)).2)) (j : Nat) (u : Value) (hj : (prl ps)[j]? = some u) :
    w.cell? ⟨b, off + j, none⟩ = some u := by
  have hlt : j < ps.length * 2 := by have := (List.getElem?_eq_some_iff.1 hj).1; rwa [prl_length] at this
  rcases Nat.mod_two_eq_zero_or_one j with e | e
  · have e2 : j = j / 2 * 2 := by omega
    rw [e2] at hj ⊢
    rw [prl_fst ps _ (by omega)] at hj
    rw [(h (j / 2) (by omega)).1, hj]
  · have e2 : j = j / 2 * 2 + 1 := by omega
    rw [e2] at hj ⊢
    rw [prl_snd ps _ (by omega)] at hj
    rw [← Nat.add_assoc, (h (j / 2) (by omega)).2, hj]
theorem info_pr : (Tryd.prog.info? 51).map (fun i => (i.zero, i.size, i.bytes)) = some (some (.agg #[.int .i64 0, .int .i64 0]), 2, 16) := by kernel_rfl
theorem wpList_append_prs {w : World} {ops : Array Oper} {rest : List Oper} {o : Oper} {a : Act} {Q : Exit → Act → World → Prop} (hgd : o.guard = none) (s x : Operand)
    (ho : o.op = .call { callee := .builtin .append, args := #[s, x], argTypes := #[25, 25] })
    (base : Nat) (v : Value) (k : Nat) (xs : List Value) (hs : a.eval s = v) (hown : w.ownsRow base 51 2 v k xs)
    (u : Value) (ps : List Pr) (hx : a.eval x = u) (hu : HP w u ps) (hbytes : (k + ps.length) * 16 ≤ 140737488355328) (hbase : base ≤ w.heap.size)
    (h : ∀ v' w', w'.ownsRow base 51 2 v' (k + ps.length) (xs ++ prl ps) → w.grownBy w' v.ownBlock → wpList Tryd.prog ops Q rest (a.put o.dst v') w') : wpList Tryd.prog ops Q (o :: rest) a w := by
  obtain ⟨i0, hi, hz0, hz1, hz2⟩ := info_parts info_pr
  obtain ⟨⟨p, c, rfl, hlc, hm, hn0, hcell⟩, _⟩ := hu
  cases p with
  | none =>
    have hc0 := hn0 rfl
    subst hc0
    have e : ps = [] := List.length_eq_zero_iff.1 (by omega)
    subst e
    refine wpList_append_own_none hgd s x 25 ho base 51 i0 2 Tryd.underlying25 hi v k xs hs hown hx ?_
    exact h v w (by simpa [prl] using hown) ⟨rfl, rfl, rfl, Nat.le_refl _, fun _ _ _ => rfl⟩
  | some ad =>
    refine wpList_append_own w hgd s x 25 ho base 51 i0 (.agg #[.int .i64 0, .int .i64 0]) 2 16 Tryd.underlying25 hi hz0 hz1 hz2 rfl (by decide) v k xs hs hown ad ps.length c (prl ps) hx (prl_length _) ?_ (prl_one ps) (by unfold maxLen; omega) hbytes hbase (fun v' w' h1 h2 _ => h v' w' h1 h2)
    intro j y hj
    have hne : ps ≠ [] := fun e => by subst e; cases hj
    obtain ⟨b, off, e, hh⟩ := hcell hne
    cases e
    rw [Go.WideShapes.add_plain]
    exact prl_cell hh j y hj
theorem HP.of_own {w : World} {B : Nat} {v : Value} {ps : List Pr} (h : w.ownsRow B 51 2 v ps.length (prl ps)) (hb : ∀ p ∈ ps, (-9223372036854775808 ≤ p.1 ∧ p.1 < 9223372036854775808) ∧ (-9223372036854775808 ≤ p.2 ∧ p.2 < 9223372036854775808)) : HP w v ps := by
  refine ⟨?_, hb⟩
  have hc := @World.ownsRow.cells w B 51 2 v ps.length (prl ps) h
  rcases h.2 with ⟨rfl, e0⟩ | ⟨g, cap, cur, rfl, hB, _, hn, hm, _, _⟩
  · have e : ps = [] := List.length_eq_zero_iff.1 e0
    subst e
    exact ⟨none, 0, rfl, Nat.le_refl _, Nat.zero_le _, fun _ => rfl, fun h => absurd rfl h⟩
  · refine ⟨_, cap, rfl, hn, hm, (fun e => by cases e), fun _ => ⟨g, 0, rfl, fun j hj => ?_⟩⟩
    have q1 := @hc g rfl (j * 2) _ (prl_fst ps j hj)
    have q2 := @hc g rfl (j * 2 + 1) _ (prl_snd ps j hj)
    rw [Go.WideShapes.add_plain] at q1 q2
    exact ⟨q1, by rw [Nat.add_assoc]; exact q2⟩
set_option maxRecDepth 100000 in
set_option maxHeartbeats 4000000 in
theorem may_any (w : World) (v : Value) (ps : List Pr) (hP : HP w v ps) :
    Calls Tryd.prog 12 #[v] w fun e w' => e = .returned (.bool (mayL ps)) ∧ Below w.heap.size w w' := by
  obtain ⟨n, HLn⟩ : ∃ n, Hid (ps.length = n) := ⟨_, rfl⟩
  have HPH := hid hP
  obtain ⟨p0, c, rfl, hc1, hc2⟩ := hP.open
  unfold maxLen at hc2
  rw [HLn.out] at hc1 HPH ⊢
  clear hP
  go_enter Tryd.func12, Tryd.ntmps12
  by_cases hbig : 8192 < n
  · have HM : Hid (mayL ps = false) := hid (by unfold mayL; rw [HLn.out, decide_eq_false (by omega)]; rfl)
    go_wp2
    go_ret
    exact ⟨by rw [HM.out]; rfl, Below.refl _ _⟩
  · go_wp2
    go_loopw [3] (fun x wr => ∃ k : Nat, k ≤ n ∧ x = .int .i64 k ∧ Hid ((ps.take k).all mayP = true) ∧ Hid (Below w.heap.size w wr)) (fun x _ => n - (intOf x).toNat)
    case atStart => exact ⟨0, Nat.zero_le _, rfl, hid rfl, hid (Below.refl _ _)⟩
    case round =>
      obtain ⟨k, hk, rfl, HA, HBr⟩ := hrel
      by_cases hkn : k < n
      · obtain ⟨b, off, c', ev, -, -, hbl, hcl⟩ := HPH.out.ne (by rw [HLn.out]; omega)
        simp only [Value.slice.injEq] at ev
        obtain ⟨rfl, -, rfl⟩ := ev
        have hcs := (hcl k (by rw [HLn.out]; exact hkn))
        have hc3 := (HBr.out.cell (World.block_lt_of_cell? w _ hcs.1)).trans hcs.1
        have hc4 := (HBr.out.cell (World.block_lt_of_cell? w _ hcs.2)).trans hcs.2
        obtain ⟨q, HQ⟩ : ∃ q, Hid (ps.getD k (0, 0) = q) := ⟨_, rfl⟩
        rw [HQ.out] at hc3 hc4
        obtain ⟨s, m⟩ := q
        simp only [] at hc3 hc4
        clear hcs hcl
        have HB3 : Hid (Below w.heap.size w (wr.alloc (.cells #[.int .i64 s, .int .i64 m] 51))) := hid (HBr.out.alloc HBr.out.size _)
        cases hm : mayP (s, m) with
        | true =>
          have hm' := mayP_iff.1 hm
          simp only [] at hm'
          obtain ⟨m1, m2, m3, m4⟩ := hm'
          have HA2 : Hid ((ps.take (k + 1)).all mayP = true) := hid (by
            rw [List.take_succ_eq_append_getElem (by rw [HLn.out]; exact hkn), List.all_append, HA.out]
            have e : ps[k]'(by rw [HLn.out]; exact hkn) = (s, m) := by
              rw [← HQ.out, List.getD_eq_getElem?_getD, List.getElem?_eq_getElem (by rw [HLn.out]; exact hkn)]
              rfl
            simp [e, hm])
          clear hm
          go_wp2
          exact ⟨⟨k + 1, by omega, by go_num, HA2, HB3⟩, by simp [intOf]; omega⟩
        | false =>
          have HM : Hid (mayL ps = false) := hid (by
            have : ps.all mayP = false := by
              rw [List.all_eq_false]
              refine ⟨ps.getD k (0, 0), ?_, by rw [HQ.out, hm]; decide⟩
              rw [List.getD_eq_getElem?_getD, List.getElem?_eq_getElem (by rw [HLn.out]; exact hkn)]
              exact List.getElem_mem _
            unfold mayL
            rw [this, Bool.and_false])
          have HNO : Hid (¬ (0 ≤ s ∧ s < 32 ∧ 0 ≤ m ∧ m < 255)) := hid (fun z => by rw [mayP_iff.2 z] at hm; cases hm)
          clear hm
          by_cases h1 : s < 0
          · go_wp2
            go_ret
            exact ⟨by rw [HM.out]; rfl, HB3.out⟩
          · by_cases h2 : 32 ≤ s
            · go_wp2
              go_ret
              exact ⟨by rw [HM.out]; rfl, HB3.out⟩
            · by_cases h3 : m < 0
              · go_wp2
                go_ret
                exact ⟨by rw [HM.out]; rfl, HB3.out⟩
              · have h4 : 255 ≤ m := by have := HNO.out; omega
                go_wp2
                go_ret
                exact ⟨by rw [HM.out]; rfl, HB3.out⟩
      · have HM : Hid (mayL ps = true) := hid (by
          have := HA.out
          rw [List.take_of_length_le (by rw [HLn.out]; omega)] at this
          unfold mayL
          rw [this, HLn.out, decide_eq_true (by omega)]
          rfl)
        go_wp2
        go_ret
        exact ⟨by rw [HM.out]; rfl, HBr.out⟩
set_option maxRecDepth 100000 in
theorem lmay_any (w : World) (v : Value) (ps : List Pr) (hP : HP w v ps) :
    Calls Tryd.prog 26 #[v] w fun e w' => e = .returned (.bool (mayL ps)) ∧ Below w.heap.size w w' := by
  have CM := hid (may_any w v ps hP)
  obtain ⟨p, c, ev, -, -⟩ := hP.open
  generalize ps.length = n at ev
  subst ev
  clear hP
  go_enter Tryd.func26, Tryd.ntmps26
  go_wp2_with fail
  refine CM.out.mono ?_
  rintro e w1 ⟨rfl, hb⟩
  have HB := hid hb
  clear hb CM
  obtain ⟨r, HR⟩ : ∃ r, Hid (mayL ps = r) := ⟨_, rfl⟩
  rw [HR.out]
  go_wp2
  go_ret
  exact ⟨by rw [HR.out]; rfl, HB.out⟩
end Go.Proofs.YtlhjpflljokinaaDoor.Hz
namespace Go.Proofs.YtlhjpflljokinaaDoor
open Go Go.RowKit Hz
def OkPr (q : Pr) : Prop := (-9223372036854775808 ≤ q.1 ∧ q.1 < 9223372036854775808) ∧ (-9223372036854775808 ≤ q.2 ∧ q.2 < 9223372036854775808)
def Spr (ps : List Pr) (a b c : Nat) : Prop := a = Hy.places Prod.fst 32 (ps.map natP) ∧ b = Hy.places Prod.snd 255 (ps.map natP) ∧ ∃ m, Hy.MaxM (ps.map natP) m ∧ c = m.length
theorem Spr.bound {ps : List Pr} {a b c : Nat} (h : Spr ps a b c) (hm : ps.all mayP = true) : c ≤ a ∧ c ≤ b := by
  obtain ⟨rfl, rfl, m, h1, rfl⟩ := h
  exact ⟨h1.1.le_servers (mayL_lt hm).1, h1.1.le_numbers (mayL_lt hm).2⟩
theorem Spr.small {ps : List Pr} {a b c : Nat} (h : Spr ps a b c) : a ≤ 32 ∧ b ≤ 255 := by
  obtain ⟨rfl, rfl, m, h1, rfl⟩ := h
  unfold Hy.places
  exact ⟨Nat.le_trans (List.countP_le_length ..) (by simp), Nat.le_trans (List.countP_le_length ..) (by simp)⟩
theorem Spr.more {ps : List Pr} {p : Pr} {a b c a' b' c' : Nat} (h : Spr ps a b c) (h' : Spr (ps ++ [p]) a' b' c') (hm : (ps ++ [p]).all mayP = true) : (a ≤ a' ∧ a' ≤ a + 1) ∧ (b ≤ b' ∧ b' ≤ b + 1) ∧ c ≤ c' ∧ c' ≤ c + 1 := by
  obtain ⟨rfl, rfl, m, h1, rfl⟩ := h
  obtain ⟨rfl, rfl, m', h1', rfl⟩ := h'
  have e : (ps ++ [p]).map natP = ps.map natP ++ [natP p] := by simp
  rw [e] at h1' ⊢
  have hp := mayL_lt hm
  rw [e] at hp
  have hpm : natP p ∈ ps.map natP ++ [natP p] := by simp
  exact ⟨Hy.places_more _ _ _ _ (hp.1 _ hpm), Hy.places_more _ _ _ _ (hp.2 _ hpm), Hy.max_more h1 h1'⟩
theorem LoQ.cases {ps : List Pr} {e : Ending} (h : LoQ ps e) : ∃ (a b c : Nat) (er : Int), e = .returned (.tuple #[.agg #[.int .i64 (a : Int), .int .i64 (b : Int), .int .i64 (c : Int)], .int .i64 er]) ∧ (mayL ps = true ∧ er = 0 ∧ Spr ps a b c ∨ mayL ps = false ∧ er = 230) := by
  cases hm : mayL ps with
  | true =>
    obtain ⟨m, h1, h2⟩ := h.1 hm
    exact ⟨_, _, _, 0, h2, .inl ⟨rfl, rfl, rfl, rfl, m, h1, rfl⟩⟩
  | false => exact ⟨0, 0, 0, 230, h.2 hm, .inr ⟨rfl, rfl⟩⟩
set_option maxRecDepth 100000 in
set_option maxHeartbeats 8000000 in
theorem hgrows_walk (w : World) (v : Value) (ps : List Pr) (q : Pr) (hP : HP w v ps) (hq : OkPr q) (hl : ps.length ≤ 8796093021952) (hT : TabAt 0 Lib.deBruijn32tab w) :
    Calls Tryd.prog 4 #[v, .agg #[.int .i64 q.1, .int .i64 q.2]] w fun e w' => e = .returned (.bool true) ∧ Below w.heap.size w w' := by
  obtain ⟨s, n⟩ := q
  obtain ⟨hs, hn⟩ := hq
  simp only [] at hs hn
  obtain ⟨W1, HW1⟩ : ∃ W1, Hid (w.alloc (.cells #[.int .i64 s, .int .i64 n] 51) = W1) := ⟨_, rfl⟩
  have HB1 : Hid (Below w.heap.size w W1) := by rw [← HW1.out]; exact (Below.refl _ w).alloc (Nat.le_refl _) _
  have HC1 : Hid (W1.heap[w.heap.size]? = some (.cells #[.int .i64 s, .int .i64 n] 51 (0, 0))) := by rw [← HW1.out]; exact heap_alloc_new w _
  have HPw := hid hP
  have HTw := hid hT
  have CL := hid (lives_any W1 (tab_below hT HB1.out))
  have HBN : Hid (∀ p ∈ ps ++ [(s, n)], (-9223372036854775808 ≤ p.1 ∧ p.1 < 9223372036854775808) ∧ (-9223372036854775808 ≤ p.2 ∧ p.2 < 9223372036854775808)) := hid (fun p hp => by
    rcases List.mem_append.1 hp with q | q
    · exact hP.2 p q
    · rw [List.mem_singleton.1 q]; exact ⟨hs, hn⟩)
  obtain ⟨p0, c0, ev, -, -⟩ := hP.open
  obtain ⟨n0, HN0⟩ : ∃ n0, Hid (ps.length = n0) := ⟨_, rfl⟩
  rw [HN0.out] at ev hl
  subst ev
  clear hP hT hs hn
  go_enter Tryd.func4, Tryd.ntmps4
  go_wp2_with fail
  rw [HW1.out]
  refine CL.out.mono ?_
  rintro e W2 ⟨rfl, hb2⟩
  have HB2 : Hid (Below w.heap.size w W2) := hid (HB1.out.trans (hb2.mono HB1.out.size))
  have HC2 : Hid (W2.heap[w.heap.size]? = some (.cells #[.int .i64 s, .int .i64 n] 51 (0, 0))) := hid ((hb2.block _ (Array.getElem?_eq_some_iff.1 HC1.out).1).trans HC1.out)
  clear hb2 CL HW1
  have CA := hid (look_any W2 _ ps (HPw.out.below HB2.out) (tab_below HTw.out HB2.out))
  go_wp2_with fail
  refine CA.out.mono ?_
  rintro e W3 ⟨hLo, hb3⟩
  obtain ⟨a1, a2, a3, er, rfl, hc⟩ := LoQ.cases hLo
  have HCA := hid hc
  have HB3 : Hid (Below w.heap.size w W3) := hid (HB2.out.trans (hb3.mono HB2.out.size))
  have HC3 : Hid (W3.heap[w.heap.size]? = some (.cells #[.int .i64 s, .int .i64 n] 51 (0, 0))) := hid ((hb3.block _ (Array.getElem?_eq_some_iff.1 HC2.out).1).trans HC2.out)
  clear hc hLo hb3 CA
  obtain ⟨W4, HW4⟩ : ∃ W4, Hid (W3.alloc (.cells #[.int .i64 (a1 : Int), .int .i64 (a2 : Int), .int .i64 (a3 : Int)] 32) = W4) := ⟨_, rfl⟩
  have HB4 : Hid (Below w.heap.size w W4) := by rw [← HW4.out]; exact hid (HB3.out.alloc HB3.out.size _)
  have HC4 : Hid (W4.heap[w.heap.size]? = some (.cells #[.int .i64 s, .int .i64 n] 51 (0, 0))) := by rw [← HW4.out]; exact hid ((Below.heap_alloc _ _ _ (Array.getElem?_eq_some_iff.1 HC3.out).1).trans HC3.out)
  have HD4 : Hid (W4.heap[W3.heap.size]? = some (.cells #[.int .i64 (a1 : Int), .int .i64 (a2 : Int), .int .i64 (a3 : Int)] 32 (0, 0))) := by rw [← HW4.out]; exact heap_alloc_new W3 _
  obtain ⟨ga, HGA⟩ : ∃ ga, Hid (W3.heap.size = ga) := ⟨_, rfl⟩
  rw [HGA.out] at HD4
  have HG0 : Hid (w.heap.size < ga) := hid (by have := (Array.getElem?_eq_some_iff.1 HC3.out).1; have := HGA.out; omega)
  have HE4 : Hid (W4.ownsRow W4.heap.size 51 2 (.slice none 0 0) 0 []) := hid (World.ownsRow_nil ..)
  have HP4 := hid (HPw.out.below HB4.out)
  go_wp2_with (first | (rw [HW4.out, HGA.out]; at_builtin; refine wpList_append_prs rfl _ _ rfl W4.heap.size _ 0 [] rfl HE4.out _ ps rfl HP4.out ?q1 (Nat.le_refl _) ?_) | fail)
  case q1 => rw [HN0.out]; omega
  intro v5 W5 hown5 hgr5
  have HO5 := hid hown5
  have HB45 : Hid (Below W4.heap.size W4 W5) := hid ⟨hgr5.os, hgr5.tape, hgr5.output, hgr5.size, fun k hk => hgr5.block k hk (by simp [Value.ownBlock])⟩
  have HB5 : Hid (Below w.heap.size w W5) := hid (HB4.out.trans (HB45.out.mono HB4.out.size))
  have HC5 : Hid (W5.heap[w.heap.size]? = some (.cells #[.int .i64 s, .int .i64 n] 51 (0, 0))) := hid ((HB45.out.block _ (Array.getElem?_eq_some_iff.1 HC4.out).1).trans HC4.out)
  have HD5 : Hid (W5.heap[ga]? = some (.cells #[.int .i64 (a1 : Int), .int .i64 (a2 : Int), .int .i64 (a3 : Int)] 32 (0, 0))) := hid ((HB45.out.block _ (Array.getElem?_eq_some_iff.1 HD4.out).1).trans HD4.out)
  clear hown5 hgr5 HP4
  have hq0 : W5.cell? ⟨w.heap.size, 0, none⟩ = some (.int .i64 s) := (cell_of_row _ _ _ _ _ _ HC5.out).trans rfl
  have hq1 : W5.cell? ⟨w.heap.size, 1, none⟩ = some (.int .i64 n) := (cell_of_row _ _ _ _ _ _ HC5.out).trans rfl
  obtain ⟨W6, HW6⟩ : ∃ W6, Hid (W5.alloc (.cells #[.int .i64 s, .int .i64 n] 51) = W6) := ⟨_, rfl⟩
  have HB56 : Hid (Below W5.heap.size W5 W6) := by rw [← HW6.out]; exact hid ((Below.refl _ W5).alloc (Nat.le_refl _) _)
  have HX6 : Hid (W6.heap[W5.heap.size]? = some (.cells #[.int .i64 s, .int .i64 n] 51 (0, 0))) := by rw [← HW6.out]; exact heap_alloc_new W5 _
  have HO6 : Hid (W6.ownsRow W4.heap.size 51 2 v5 ps.length (prl ps)) := hid (HO5.out.kept ⟨HB56.out.os, HB56.out.tape, HB56.out.output, HB56.out.size, fun k hk _ => HB56.out.block k hk⟩ (none_or _))
  have HP6 : Hid (HP W6 (.slice (some ⟨W5.heap.size, 0, none⟩) 1 1) [(s, n)]) := hid (by
    refine ⟨⟨_, 1, rfl, Nat.le_refl _, by decide, (fun e => by cases e), fun _ => ⟨W5.heap.size, 0, rfl, fun j hj => ?_⟩⟩, fun p hp => HBN.out p (List.mem_append_right _ hp)⟩
    obtain rfl : j = 0 := by simp only [List.length_cons, List.length_nil] at hj; omega
    exact ⟨(cell_of_row _ _ _ _ _ _ HX6.out).trans rfl, (cell_of_row _ _ _ _ _ _ HX6.out).trans rfl⟩)
  go_wp2_with (first | (rw [HW6.out]; at_builtin; refine wpList_append_prs rfl _ _ rfl W4.heap.size _ _ _ rfl HO6.out _ [(s, n)] rfl HP6.out ?q2 (Nat.le_trans HB45.out.size HB56.out.size) ?_) | fail)
  case q2 => rw [HN0.out]; simp only [List.length_cons, List.length_nil]; omega
  intro v7 W7 hown7 hgr7
  have HB47 : Hid (Below W4.heap.size W4 W7) := hid (by
    refine (HB45.out.trans (HB56.out.mono HB45.out.size)).trans ⟨hgr7.os, hgr7.tape, hgr7.output, hgr7.size, fun k hk => hgr7.block k ?_ ?_⟩
    · have := HB45.out.size; have := HB56.out.size; omega
    · intro e
      have := HO6.out.lt k e.symm
      omega)
  have HP7 : Hid (HP W7 v7 (ps ++ [(s, n)])) := hid (HP.of_own (B := W4.heap.size) (by rw [List.length_append, prl_append]; exact hown7) HBN.out)
  have HB7 : Hid (Below w.heap.size w W7) := hid (HB4.out.trans (HB47.out.mono HB4.out.size))
  have HD7 : Hid (W7.heap[ga]? = some (.cells #[.int .i64 (a1 : Int), .int .i64 (a2 : Int), .int .i64 (a3 : Int)] 32 (0, 0))) := hid ((HB47.out.block _ (Array.getElem?_eq_some_iff.1 HD4.out).1).trans HD4.out)
  clear hown7 hgr7 HO6 HP6 HX6 HB56 HW6 HO5 HB45 HC5 HD5 hq0 hq1 HE4
  obtain ⟨p7, c7, ev, -, -⟩ := HP7.out.open
  obtain ⟨n7, HN7⟩ : ∃ n7, Hid ((ps ++ [(s, n)]).length = n7) := ⟨_, rfl⟩
  rw [HN7.out] at ev
  subst ev
  have CB := hid (look_any W7 _ _ HP7.out (tab_below HTw.out HB7.out))
  go_wp2_with fail
  refine CB.out.mono ?_
  rintro e W8 ⟨hLo, hb8⟩
  obtain ⟨b1, b2, b3, fr, rfl, hc⟩ := LoQ.cases hLo
  have HCB := hid hc
  have HB78 := hid hb8
  have HB8 : Hid (Below w.heap.size w W8) := hid (HB7.out.trans (hb8.mono HB7.out.size))
  clear hc hLo hb8 CB
  obtain ⟨W9, HW9⟩ : ∃ W9, Hid (W8.alloc (.cells #[.int .i64 (b1 : Int), .int .i64 (b2 : Int), .int .i64 (b3 : Int)] 32) = W9) := ⟨_, rfl⟩
  have HB89 : Hid (Below W8.heap.size W8 W9) := by rw [← HW9.out]; exact hid ((Below.refl _ W8).alloc (Nat.le_refl _) _)
  have HB79 : Hid (Below W7.heap.size W7 W9) := hid (HB78.out.trans (HB89.out.mono HB78.out.size))
  have HB9 : Hid (Below w.heap.size w W9) := hid (HB8.out.trans (HB89.out.mono HB8.out.size))
  have HD9 : Hid (W9.heap[ga]? = some (.cells #[.int .i64 (a1 : Int), .int .i64 (a2 : Int), .int .i64 (a3 : Int)] 32 (0, 0))) := hid ((HB79.out.block _ (Array.getElem?_eq_some_iff.1 HD7.out).1).trans HD7.out)
  have HF9 : Hid (W9.heap[W8.heap.size]? = some (.cells #[.int .i64 (b1 : Int), .int .i64 (b2 : Int), .int .i64 (b3 : Int)] 32 (0, 0))) := by rw [← HW9.out]; exact heap_alloc_new W8 _
  obtain ⟨gb, HGB⟩ : ∃ gb, Hid (W8.heap.size = gb) := ⟨_, rfl⟩
  rw [HGB.out] at HF9
  have HP9 := hid (HP7.out.below HB79.out)
  have HPa := hid (HPw.out.below HB9.out)
  have CM := hid (lmay_any W9 _ ps HPa.out)
  go_wp2_with (first | (rw [HW9.out, HGB.out]; fail) | fail)
  rw [HW9.out, HGB.out]
  refine CM.out.mono ?_
  rintro e Wa ⟨rfl, hba⟩
  have HBa9 := hid hba
  have HBa : Hid (Below w.heap.size w Wa) := hid (HB9.out.trans (hba.mono HB9.out.size))
  have HDa : Hid (Wa.heap[ga]? = some (.cells #[.int .i64 (a1 : Int), .int .i64 (a2 : Int), .int .i64 (a3 : Int)] 32 (0, 0))) := hid ((hba.block _ (Array.getElem?_eq_some_iff.1 HD9.out).1).trans HD9.out)
  have HFa : Hid (Wa.heap[gb]? = some (.cells #[.int .i64 (b1 : Int), .int .i64 (b2 : Int), .int .i64 (b3 : Int)] 32 (0, 0))) := hid ((hba.block _ (Array.getElem?_eq_some_iff.1 HF9.out).1).trans HF9.out)
  clear hba CM
  rcases HCA.out with ⟨ma, rfl, SA⟩ | ⟨ma, rfl⟩
  · rw [ma]
    have HSA := hid SA
    have HMA := hid ma
    clear ma SA
    have CM2 := hid (lmay_any Wa _ _ (HP9.out.below HBa9.out))
    go_wp2_with fail
    refine CM2.out.mono ?_
    rintro e Wb ⟨rfl, hbb⟩
    have HBb : Hid (Below w.heap.size w Wb) := hid (HBa.out.trans (hbb.mono HBa.out.size))
    have HDb : Hid (Wb.heap[ga]? = some (.cells #[.int .i64 (a1 : Int), .int .i64 (a2 : Int), .int .i64 (a3 : Int)] 32 (0, 0))) := hid ((hbb.block _ (Array.getElem?_eq_some_iff.1 HDa.out).1).trans HDa.out)
    have HFb : Hid (Wb.heap[gb]? = some (.cells #[.int .i64 (b1 : Int), .int .i64 (b2 : Int), .int .i64 (b3 : Int)] 32 (0, 0))) := hid ((hbb.block _ (Array.getElem?_eq_some_iff.1 HFa.out).1).trans HFa.out)
    have HPb := hid ((HP9.out.below HBa9.out).below hbb)
    have HPc := hid (HPw.out.below HBb.out)
    clear hbb CM2
    rcases HCB.out with ⟨mb, rfl, SB⟩ | ⟨mb, rfl⟩
    · rw [mb]
      obtain ⟨q1, q2⟩ := HSA.out.bound (mayL_all HMA.out)
      obtain ⟨q3, q4⟩ := SB.bound (mayL_all mb)
      obtain ⟨⟨q5, q6⟩, ⟨q7, q8⟩, q9, q10⟩ := HSA.out.more SB (mayL_all mb)
      obtain ⟨z1, z2⟩ := HSA.out.small
      clear mb SB HSA HMA
      have d0 : Wb.cell? ⟨ga, 0, none⟩ = some (.int .i64 (a1 : Int)) := (cell_of_row _ _ _ _ _ _ HDb.out).trans rfl
      have d1 : Wb.cell? ⟨ga, 1, none⟩ = some (.int .i64 (a2 : Int)) := (cell_of_row _ _ _ _ _ _ HDb.out).trans rfl
      have d2 : Wb.cell? ⟨ga, 2, none⟩ = some (.int .i64 (a3 : Int)) := (cell_of_row _ _ _ _ _ _ HDb.out).trans rfl
      have f0 : Wb.cell? ⟨gb, 0, none⟩ = some (.int .i64 (b1 : Int)) := (cell_of_row _ _ _ _ _ _ HFb.out).trans rfl
      have f1 : Wb.cell? ⟨gb, 1, none⟩ = some (.int .i64 (b2 : Int)) := (cell_of_row _ _ _ _ _ _ HFb.out).trans rfl
      have f2 : Wb.cell? ⟨gb, 2, none⟩ = some (.int .i64 (b3 : Int)) := (cell_of_row _ _ _ _ _ _ HFb.out).trans rfl
      go_wp2
      go_ret
      exact ⟨by
        show Ending.returned (Value.bool (decide ((b2 : Int) ≤ (a2 : Int) + 1))) = _
        rw [decide_eq_true (by omega)], HBb.out⟩
    · rw [mb]
      have HMB := hid mb
      clear mb
      have CM3 := hid (lmay_any Wb _ ps HPc.out)
      rw [HMA.out] at CM3
      go_wp2_with fail
      refine CM3.out.mono ?_
      rintro e Wc ⟨rfl, hbc⟩
      have HBc : Hid (Below w.heap.size w Wc) := hid (HBb.out.trans (hbc.mono HBb.out.size))
      have CM4 := hid (lmay_any Wc _ _ (HPb.out.below hbc))
      rw [HMB.out] at CM4
      clear hbc CM3
      go_wp2_with fail
      refine CM4.out.mono ?_
      rintro e Wd ⟨rfl, hbd⟩
      have HBd : Hid (Below w.heap.size w Wd) := hid (HBc.out.trans (hbd.mono HBc.out.size))
      clear hbd CM4
      go_wp2
      go_ret
      exact ⟨rfl, HBd.out⟩
  · rw [ma]
    have HMA := hid ma
    clear ma
    have CM3 := hid (lmay_any Wa _ ps (HPw.out.below HBa.out))
    rw [HMA.out] at CM3
    go_wp2_with fail
    refine CM3.out.mono ?_
    rintro e Wc ⟨rfl, hbc⟩
    have HBc : Hid (Below w.heap.size w Wc) := hid (HBa.out.trans (hbc.mono HBa.out.size))
    have CM4 := hid (lmay_any Wc _ _ ((HP9.out.below HBa9.out).below hbc))
    clear hbc CM3
    rcases HCB.out with ⟨mb, rfl, SB⟩ | ⟨mb, rfl⟩
    · rw [mb] at CM4
      clear mb SB
      go_wp2_with fail
      refine CM4.out.mono ?_
      rintro e Wd ⟨rfl, hbd⟩
      have HBd : Hid (Below w.heap.size w Wd) := hid (HBc.out.trans (hbd.mono HBc.out.size))
      clear hbd CM4
      go_wp2
      go_ret
      exact ⟨rfl, HBd.out⟩
    · rw [mb] at CM4
      clear mb
      go_wp2_with fail
      refine CM4.out.mono ?_
      rintro e Wd ⟨rfl, hbd⟩
      have HBd : Hid (Below w.heap.size w Wd) := hid (HBc.out.trans (hbd.mono HBc.out.size))
      clear hbd CM4
      go_wp2
      go_ret
      exact ⟨rfl, HBd.out⟩
end Go.Proofs.YtlhjpflljokinaaDoor
namespace Go.Proofs.YtlhjpflljokinaaDoor
open Go.ChangeShapes Go.WideShapes Go.ChangeAt Go.RowKit Hz
variable {H : Type} {enc : TypeId × Value → H} {W : World}
theorem Opn.cells_pr : Tryd.prog.cellsOf 51 = 2 := by kernel_rfl
theorem Opn.cells_intz : Tryd.prog.cellsOf 3 = 1 := by kernel_rfl
theorem Opn.bytes_pr : Tryd.prog.bytesOf 51 = 16 := by kernel_rfl
theorem open_HP {base : Nat} {v : Value} {d : DataW H} {p : List MemPlace} (h : DataW.Trod enc Tryd.prog W base (fun _ => true) true 25 v d p) (hv : ∃ a n c, v = .slice a n c) :
    ∃ ps, HP W v ps ∧ ∀ ts ds (j : Nat), (DataW.weightsEach Tryd.prog ts ds).all (· ≤ reachBytes) = true → ts[j]? = some 25 → ds[j]? = some d → ps.length ≤ 8796093021952 := by
  obtain ⟨a, n, c, rfl⟩ := hv
  obtain ⟨fuel, hf⟩ := h
  rcases Go.Deep.open_slice_pairs Tryd.underlying25 Tryd.underlying51 Opn.cells_pr rfl rfl Opn.cells_intz Opn.cells_intz hf with ⟨hcs, hx⟩ | ⟨a, len, cap, m, n, V0, V1, D0, D1, P0, P1, hcs, hb, hl, hm, hmm, hx, hel⟩
  · simp only [Value.cells, List.cons.injEq, and_true] at hcs
    rw [hcs]
    exact ⟨[], ⟨⟨none, 0, rfl, Nat.le_refl _, Nat.zero_le _, fun _ => rfl, fun h => absurd rfl h⟩, fun p hp => by cases hp⟩, fun _ _ _ _ _ _ => Nat.zero_le _⟩
  · simp only [Value.cells, List.cons.injEq, and_true] at hcs
    rw [hcs]
    simp only [if_true] at hmm
    subst hmm
    simp only [Prod.mk.injEq] at hx
    obtain ⟨rfl, _⟩ := hx
    have each : ∀ i, i < len → ∃ q : Pr, OkPr q ∧ V0 i = .int .i64 q.1 ∧ V1 i = .int .i64 q.2 := by
      intro i hi
      obtain ⟨_, _, h3, h4⟩ := hel i (by omega)
      obtain ⟨x, e1, _, w1⟩ := DataW.trod_int Tryd.underlying3 h3
      obtain ⟨y, e2, _, w2⟩ := DataW.trod_int Tryd.underlying3 h4
      have b1 := bounds_i64 w1
      have b2 := bounds_i64 w2
      simp only [List.cons.injEq, and_true] at e1 e2
      exact ⟨(x, y), ⟨⟨b1.1, by omega⟩, ⟨b2.1, by omega⟩⟩, e1, e2⟩
    have hch : ∃ T : Nat → Pr, ∀ i, i < len → OkPr (T i) ∧ V0 i = .int .i64 (T i).1 ∧ V1 i = .int .i64 (T i).2 := by
      refine ⟨fun i => if hi : i < len then Classical.choose (each i hi) else (0, 0), fun i hi => ?_⟩
      simp only [hi, dif_pos]
      exact Classical.choose_spec (each i hi)
    obtain ⟨T, hT⟩ := hch
    have hlen : ((List.range len).map T).length = len := by simp
    have hat : ∀ j, j < len → ((List.range len).map T).getD j (0, 0) = T j := fun j hj => by
      rw [List.getD_eq_getElem?_getD, List.getElem?_map, List.getElem?_range hj]
      rfl
    refine ⟨(List.range len).map T, ⟨⟨some a, _, by rw [hlen], by rw [hlen]; omega, hm, (fun e => by cases e), fun hne => ?_⟩, fun p hp => ?_⟩, fun ts ds j hs ht hd => ?_⟩
    · have h0 : 0 < len := by rw [← hlen]; exact List.length_pos_iff.2 hne
      obtain ⟨b, off, sp⟩ := a
      obtain ⟨hu, _⟩ := hel 0 (by omega)
      have hsp : sp = none := by simpa [Addr.add] using World.cell?_spot hu
      subst hsp
      refine ⟨b, off, rfl, fun i hi => ?_⟩
      rw [hlen] at hi
      obtain ⟨h1, h2, _, _⟩ := hel i (by omega)
      rw [Go.WideShapes.add_plain] at h1 h2
      rw [hat i hi, ← (hT i hi).2.1, ← (hT i hi).2.2]
      exact ⟨h1, by rw [Nat.add_assoc]; exact h2⟩
    · obtain ⟨i, hi, rfl⟩ := List.mem_map.1 hp
      exact (hT i (List.mem_range.1 hi)).1
    · have := sized_slice hs ht hd Tryd.underlying25
      rw [Opn.bytes_pr] at this
      simp only [List.length_map, List.length_range, reachBytes] at this
      rw [hlen]
      omega
set_option maxRecDepth 100000 in
theorem open_prV {base : Nat} {v : Value} (h : Value.okWide Tryd.prog W .any base 51 v) : ∃ q : Pr, OkPr q ∧ v = .agg #[.int .i64 q.1, .int .i64 q.2] := by
  have ht : Tryd.prog.cellTypes Tryd.prog.depth 51 = some [3, 3] := by kernel_rfl
  simp only [Value.okWide, Tryd.underlying51] at h
  obtain ⟨cs, rfl, h1, ts, h2, _, h3⟩ := h
  rw [ht] at h2
  cases h2
  rw [Opn.cells_pr] at h1
  have key : ∀ (i : Nat) (v : Value), cs[i]? = some v → ∃ k : Int, (-9223372036854775808 ≤ k ∧ k < 9223372036854775808) ∧ v = .int .i64 k := fun i v hv => by
    obtain ⟨u, h4, h5⟩ := h3 i v hv
    have hu8 : u = 3 := by
      have := List.mem_of_getElem? h4
      simpa using this
    subst hu8
    simp only [Cell.okWide, Tryd.underlying3] at h5
    cases v <;> simp only [Cell.ok, Tryd.underlying3] at h5
    obtain ⟨rfl, h6⟩ := h5
    have h7 := bounds_i64 (by simpa [Lit.wf, IntKind.has] using h6)
    exact ⟨_, ⟨h7.1, by omega⟩, rfl⟩
  obtain ⟨x, hx, e1⟩ := key 0 cs[0] (Array.getElem?_eq_getElem (by omega))
  obtain ⟨y, hy, e2⟩ := key 1 cs[1] (Array.getElem?_eq_getElem (by omega))
  refine ⟨(x, y), ⟨hx, hy⟩, ?_⟩
  congr 1
  apply Array.ext
  · simp [h1]
  · intro i hi1 hi2
    have : i = 0 ∨ i = 1 := by omega
    rcases this with rfl | rfl
    · exact e1
    · exact e2
end Go.Proofs.YtlhjpflljokinaaDoor
namespace Go.Proofs.YtlhjpflljokinaaDoor.Hz
open Go Go.RowKit Go.Proofs.YtlhjpflljokinaaDoor Go.Maps
def wl (l : List Int) (s n : Nat) : List Int := (if 0 ≤ Lib.idxBy (fun x y : Int => x == y) l (n : Int) then l.set (Lib.idxBy (fun x y : Int => x == y) l (n : Int)).toNat (-1) else l).set s (n : Int)
theorem idx_cases (l : List Int) (n : Nat) : (∃ i, i < l.length ∧ l.getD i (-1) = (n : Int) ∧ Lib.idxBy (fun x y : Int => x == y) l (n : Int) = (i : Int)) ∨ ((∀ i, l.getD i (-1) ≠ (n : Int)) ∧ Lib.idxBy (fun x y : Int => x == y) l (n : Int) = -1) := by
  have at1 : ∀ i, i < l.length → l[i]! = l.getD i (-1) := fun i hi => by simp [List.getD, List.getElem?_eq_getElem hi, getElem!_pos l i hi]
  by_cases h : ∃ i, i < l.length ∧ l.getD i (-1) = (n : Int)
  · have hl : ∃ i, (i < l.length ∧ l.getD i (-1) = (n : Int)) ∧ ∀ j, j < i → l.getD j (-1) ≠ (n : Int) := by
      obtain ⟨i, hi⟩ := h
      induction i using Nat.strongRecOn with
      | ind i ih =>
        by_cases q : ∃ j, j < i ∧ l.getD j (-1) = (n : Int)
        · obtain ⟨j, h1, h2⟩ := q
          exact ih j h1 ⟨by omega, h2⟩
        · exact ⟨i, hi, fun j hj e => q ⟨j, hj, e⟩⟩
    obtain ⟨i, ⟨h1, h2⟩, h3⟩ := hl
    refine .inl ⟨i, h1, h2, ?_⟩
    unfold Lib.idxBy
    rw [Lib.idxByFrom_hit _ _ l i 0 h1 (by rw [at1 i h1, h2]; simp) (fun j hj => by
      rw [at1 j (by omega)]
      have := h3 j hj
      exact beq_eq_false_iff_ne.2 (fun e => this e.symm))]
    simp
  · refine .inr ⟨fun i e => ?_, ?_⟩
    · by_cases hi : i < l.length
      · exact h ⟨i, hi, e⟩
      · have : l.getD i (-1) = -1 := by simp [List.getD, List.getElem?_eq_none (by omega : l.length ≤ i)]
        rw [this] at e
        omega
    · unfold Lib.idxBy
      exact Lib.idxByFrom_miss _ _ l 0 (fun j hj => by
        rw [at1 j hj]
        exact beq_eq_false_iff_ne.2 (fun e => h ⟨j, hj, e.symm⟩))
theorem OkA.setN {l : List Int} (h : OkA l) (i : Nat) : OkA (l.set i (-1)) := by
  refine ⟨by rw [List.length_set]; exact h.1, fun x hx => ?_⟩
  rcases List.mem_or_eq_of_mem_set hx with q | q
  · exact h.2 x q
  · exact .inl q
theorem wl_ok {l : List Int} (h : OkA l) {s n : Nat} (hn : n < 255) : OkA (wl l s n) := by
  unfold wl
  split
  · exact (h.setN _).set hn
  · exact h.set hn
theorem oL_iff {l : List Int} (h : OkA l) {k n : Nat} : oL l k = some n ↔ l.getD k (-1) = (n : Int) := by
  unfold oL
  have := h.at k
  by_cases q : l.getD k (-1) = -1
  · rw [if_pos q]
    constructor
    · intro h; cases h
    · intro e; omega
  · rw [if_neg q]
    constructor
    · intro e
      injection e with e
      omega
    · intro e
      congr 1
      omega
theorem oL_wl {l : List Int} (h : OkA l) {s n : Nat} (hs : s < 32) (inj : ∀ a b t, oL l a = some t → oL l b = some t → a = b) : oL (wl l s n) = Hy.setO (oL l) s n := by
  have hl := h.1
  rcases idx_cases l n with ⟨i, h1, h2, h3⟩ | ⟨h1, h2⟩
  · have e : wl l s n = (l.set i (-1)).set s (n : Int) := by
      unfold wl
      rw [h3, if_pos (by omega)]
      simp
    rw [e]
    have hi : oL l i = some n := (oL_iff h).2 h2
    rw [oL_set (by rw [List.length_set, hl]; exact hs)]
    funext k
    unfold Hy.updO Hy.setO
    by_cases q : k = s
    · rw [if_pos q, if_pos q]
    · rw [if_neg q, if_neg q]
      by_cases z : k = i
      · subst z
        rw [if_pos hi]
        unfold oL
        have : (l.set k (-1)).getD k (-1) = -1 := by simp [List.getD, h1]
        rw [if_pos this]
      · have hk : ¬ oL l k = some n := fun e2 => z (inj k i n e2 hi)
        rw [if_neg hk]
        unfold oL
        have : (l.set i (-1)).getD k (-1) = l.getD k (-1) := by simp [List.getD, List.getElem?_set_ne (fun e => z e.symm)]
        rw [this]
  · have e : wl l s n = l.set s (n : Int) := by
      unfold wl
      rw [h2, if_neg (by omega)]
    rw [e, oL_set (by rw [hl]; exact hs)]
    funext k
    unfold Hy.updO Hy.setO
    by_cases q : k = s
    · rw [if_pos q, if_pos q]
    · rw [if_neg q, if_neg q]
      have hk : ¬ oL l k = some n := fun e2 => h1 k ((oL_iff h).1 e2)
      rw [if_neg hk]
theorem index_any (w : World) (g : Nat) (l : List Int) (x : Int) (hO : OA w g l) (hl : l.length = 32) :
    Calls Tryd.prog 63 #[.slice (some ⟨g, 0, none⟩) 32 32, .int .i64 x] w fun e w' => e = .returned (.int .i64 (Lib.idxBy (fun x y : Int => x == y) l x)) ∧ w' = w := by
  have := Tryd.slices_Index (Value.int .i64) (fun x y => x == y) (EqlAt.int _ _ _) g 0 32 32 l x w (by omega) (by omega) fun j hj => by
    rw [Nat.zero_add, hO.cell hj]
    simp [List.getD, List.getElem?_eq_getElem hj, getElem!_pos l j hj]
  rw [List.take_of_length_le (by omega)] at this
  exact this
set_option maxRecDepth 100000 in
set_option maxHeartbeats 4000000 in
theorem with_any (w : World) (l : List Int) (s n : Nat) (hok : OkA l) (hs : s < 32) (hn : n < 255) :
    Calls Tryd.prog 59 #[.agg (ca l), .int .i64 (s : Int), .int .i64 (n : Int)] w fun e w' => e = .returned (.agg (ca (wl l s n))) ∧ Below w.heap.size w w' := by
  have HOK := hid hok
  have HSZ := hid (size_mt hok.1)
  obtain ⟨cl, HCL⟩ : ∃ cl, Hid (ca l = cl) := ⟨_, rfl⟩
  rw [HCL.out] at HSZ ⊢
  obtain ⟨W1, HW1⟩ : ∃ W1, Hid ((w.alloc (.cells cl 64)).alloc (.cells (ca (List.replicate 32 0)) 64) = W1) := ⟨_, rfl⟩
  have HB1 : Hid (Below w.heap.size w W1) := by rw [← HW1.out]; exact hid (((Below.refl _ w).alloc (Nat.le_refl _) _).alloc (by simp) _)
  have HC1 : Hid (OA W1 w.heap.size l) := by
    rw [← HW1.out]
    refine hid ?_
    unfold OA
    rw [HCL.out]
    exact (Below.heap_alloc _ _ _ (by simp)).trans (heap_alloc_new w _)
  have HR1 : Hid (OA W1 (w.heap.size + 1) (List.replicate 32 0)) := by
    rw [← HW1.out]
    have := heap_alloc_new (w.alloc (.cells cl 64)) (.cells (ca (List.replicate 32 0)) 64)
    rw [show (w.alloc (.cells cl 64)).heap.size = w.heap.size + 1 by simp] at this
    exact hid this
  have CI := hid (index_any W1 w.heap.size l (n : Int) HC1.out hok.1)
  clear hok
  -- the end: from a world with the matching in its box
  have fin : ∀ (L : List Int) (W : World), OkA L → OA W w.heap.size L → OA W (w.heap.size + 1) (List.replicate 32 0) → Below w.heap.size w W → Hid (OkA L ∧ OA W w.heap.size L ∧ OA W (w.heap.size + 1) (List.replicate 32 0) ∧ Below w.heap.size w W) := fun L W a b c d => ⟨a, b, c, d⟩
  go_enter Tryd.func59, Tryd.ntmps59
  go_wp2_with fail
  change Calls _ _ _ ((w.alloc (.cells cl 64)).alloc (.cells (ca (List.replicate 32 0)) 64)) _
  rw [HW1.out]
  refine CI.out.mono ?_
  rintro e W2 ⟨rfl, hw2⟩
  rw [hw2]
  clear hw2 CI
  rcases idx_cases l n with ⟨i, h1, h2, h3⟩ | ⟨h1, h2⟩
  · rw [HOK.out.1] at h1
    have HWL : Hid (wl l s n = (l.set i (-1)).set s (n : Int)) := hid (by
      unfold wl
      rw [h3, if_pos (by omega)]
      simp)
    rw [h3]
    clear h3 h2
    have k1 := HC1.out.cell (i := i) (by rw [HOK.out.1]; exact h1)
    have k2 := HC1.out.free i
    have F2 := fin _ _ (HOK.out.setN i) (HC1.out.set i (-1)) ((heap_setCell_other _ _ _ _ (by simp)).trans HR1.out) (HB1.out.setCell (p := ⟨w.heap.size, i, none⟩) (Nat.le_refl _) (.int .i64 (-1)))
    obtain ⟨W3, HW3⟩ : ∃ W3, Hid (W1.setCell ⟨w.heap.size, i, none⟩ (.int .i64 (-1)) = W3) := ⟨_, rfl⟩
    rw [HW3.out] at F2
    have k3 := F2.out.2.1.cell (i := s) (by rw [F2.out.1.1]; exact hs)
    have k4 := F2.out.2.1.free s
    obtain ⟨W4, HW4⟩ : ∃ W4, Hid (W3.setCell ⟨w.heap.size, s, none⟩ (.int .i64 (n : Int)) = W4) := ⟨_, rfl⟩
    have HC4 : Hid (OA W4 w.heap.size (wl l s n)) := by rw [← HW4.out, HWL.out]; exact hid (F2.out.2.1.set s (n : Int))
    have HR4 : Hid (OA W4 (w.heap.size + 1) (List.replicate 32 0)) := by rw [← HW4.out]; exact hid ((heap_setCell_other _ _ _ _ (by simp)).trans F2.out.2.2.1)
    have HB4 : Hid (Below w.heap.size w W4) := by rw [← HW4.out]; exact hid (F2.out.2.2.2.setCell (p := ⟨w.heap.size, s, none⟩) (Nat.le_refl _) _)
    have HOKw : Hid (OkA (wl l s n)) := hid (wl_ok HOK.out hn)
    have HZ : Hid ((Tryd.prog.info? 64).map (·.size) = some (ca (wl l s n)).size) := hid (size_mt HOKw.out.1)
    have H1 : Hid ((ca (wl l s n)).all (·.oneCell') = true) := hid (ca_one _)
    have H2 : Hid ((ca (List.replicate 32 0)).size = (ca (wl l s n)).size) := by rw [ca_size, ca_size, HOKw.out.1]; exact hid rfl
    unfold OA at HC4 HR4
    obtain ⟨cx, HCX⟩ : ∃ cx, Hid (ca (wl l s n) = cx) := ⟨_, rfl⟩
    rw [HCX.out] at HC4 HZ H1 H2
    generalize ca (List.replicate 32 0) = c0 at HR4 H2
    generalize (l.set i (-1)).getD s (-1) = y at k3
    clear fin F2 HR1 HC1
    go_wp2_with (first
      | rw [HW3.out] | rw [HW4.out]
      | (refine wpList_load_row rfl 64 _ rfl w.heap.size rfl 64 cx (0, 0) _ HC4.out Tryd.underlying64 rfl HZ.out ?_)
      | (refine wpList_store_row rfl 64 _ _ rfl (w.heap.size + 1) cx rfl rfl 64 c0 HR4.out HZ.out H2.out H1.out ?_))
    refine bodyPost_ret (v := .agg cx) (results_cell1 (p := 6) (ty := 64) rfl _ _ (w.heap.size + 1) 64 cx (0, 0) _ rfl (setRow_heap W4 (w.heap.size + 1) c0 cx _ _ HR4.out) Tryd.underlying64 rfl HZ.out) rfl ?_
    exact ⟨by rw [HCX.out], below_setRow HB4.out (Nat.le_succ _) _⟩
  · have HWL : Hid (wl l s n = l.set s (n : Int)) := hid (by
      unfold wl
      rw [h2, if_neg (by omega)])
    rw [h2]
    clear h2 h1
    have F2 := fin _ _ HOK.out HC1.out HR1.out HB1.out
    have k3 := F2.out.2.1.cell (i := s) (by rw [F2.out.1.1]; exact hs)
    have k4 := F2.out.2.1.free s
    obtain ⟨W4, HW4⟩ : ∃ W4, Hid (W1.setCell ⟨w.heap.size, s, none⟩ (.int .i64 (n : Int)) = W4) := ⟨_, rfl⟩
    have HC4 : Hid (OA W4 w.heap.size (wl l s n)) := by rw [← HW4.out, HWL.out]; exact hid (F2.out.2.1.set s (n : Int))
    have HR4 : Hid (OA W4 (w.heap.size + 1) (List.replicate 32 0)) := by rw [← HW4.out]; exact hid ((heap_setCell_other _ _ _ _ (by simp)).trans F2.out.2.2.1)
    have HB4 : Hid (Below w.heap.size w W4) := by rw [← HW4.out]; exact hid (F2.out.2.2.2.setCell (p := ⟨w.heap.size, s, none⟩) (Nat.le_refl _) _)
    have HOKw : Hid (OkA (wl l s n)) := hid (wl_ok HOK.out hn)
    have HZ : Hid ((Tryd.prog.info? 64).map (·.size) = some (ca (wl l s n)).size) := hid (size_mt HOKw.out.1)
    have H1 : Hid ((ca (wl l s n)).all (·.oneCell') = true) := hid (ca_one _)
    have H2 : Hid ((ca (List.replicate 32 0)).size = (ca (wl l s n)).size) := by rw [ca_size, ca_size, HOKw.out.1]; exact hid rfl
    unfold OA at HC4 HR4
    obtain ⟨cx, HCX⟩ : ∃ cx, Hid (ca (wl l s n) = cx) := ⟨_, rfl⟩
    rw [HCX.out] at HC4 HZ H1 H2
    generalize ca (List.replicate 32 0) = c0 at HR4 H2
    generalize l.getD s (-1) = y at k3
    clear fin F2 HR1 HC1
    go_wp2_with (first
      | rw [HW4.out]
      | (refine wpList_load_row rfl 64 _ rfl w.heap.size rfl 64 cx (0, 0) _ HC4.out Tryd.underlying64 rfl HZ.out ?_)
      | (refine wpList_store_row rfl 64 _ _ rfl (w.heap.size + 1) cx rfl rfl 64 c0 HR4.out HZ.out H2.out H1.out ?_))
    refine bodyPost_ret (v := .agg cx) (results_cell1 (p := 6) (ty := 64) rfl _ _ (w.heap.size + 1) 64 cx (0, 0) _ rfl (setRow_heap W4 (w.heap.size + 1) c0 cx _ _ HR4.out) Tryd.underlying64 rfl HZ.out) rfl ?_
    exact ⟨by rw [HCX.out], below_setRow HB4.out (Nat.le_succ _) _⟩
def intP (p : Nat × Nat) : Pr := ((p.1 : Int), (p.2 : Int))
def plK (l : List Int) (k : Nat) : List Pr := (Hy.fmL (oL l) (List.range k)).map intP
theorem plK_step (l : List Int) (k : Nat) : plK l (k + 1) = plK l k ++ (match oL l k with | some n => [((k : Int), (n : Int))] | none => []) := by
  unfold plK Hy.fmL
  rw [List.range_succ, List.filterMap_append, List.map_append]
  congr 1
  cases h : oL l k <;> simp [h, intP]
theorem plK_len (l : List Int) (k : Nat) : (plK l k).length ≤ k := by
  unfold plK Hy.fmL
  rw [List.length_map]
  exact Nat.le_trans (List.length_filterMap_le ..) (by simp)
set_option maxRecDepth 100000 in
set_option maxHeartbeats 4000000 in
theorem pairs_any (w : World) (l : List Int) (hok : OkA l) :
    Calls Tryd.prog 36 #[.agg (ca l)] w fun e w' => ∃ v, e = .returned v ∧ w'.ownsRow w.heap.size 51 2 v (plK l 32).length (prl (plK l 32)) ∧ Below w.heap.size w w' := by
  have HIX := hid (fun W => index_mt W l hok.1)
  have HSZ := hid (size_mt hok.1)
  have HOK := hid hok
  obtain ⟨cl, HCL⟩ : ∃ c, Hid (ca l = c) := ⟨_, rfl⟩
  rw [HCL.out] at HIX HSZ ⊢
  obtain ⟨W1, HW1⟩ : ∃ W1, Hid (w.alloc (.cells cl 64) = W1) := ⟨_, rfl⟩
  have HB1 : Hid (Below w.heap.size w W1) := by rw [← HW1.out]; exact (Below.refl _ w).alloc (Nat.le_refl _) _
  have HC1 : Hid (W1.heap[w.heap.size]? = some (.cells cl 64 (0, 0))) := by rw [← HW1.out]; exact heap_alloc_new w _
  have HE1 : Hid (W1.ownsRow w.heap.size 51 2 (.slice none 0 0) (plK l 0).length (prl (plK l 0))) := hid (World.ownsRow_nil ..)
  clear hok
  go_enter Tryd.func36, Tryd.ntmps36
  go_wp2_with (refine wpList_load_row rfl 64 _ rfl w.heap.size rfl 64 cl (0, 0) _ (by rw [HW1.out]; exact HC1.out) Tryd.underlying64 rfl HSZ.out ?_)
  rw [HW1.out]
  go_loopw [3, 7] (fun z i wr => ∃ (k : Nat) (p : Option Addr) (m c : Nat), k ≤ 32 ∧ i = .int .i64 (k : Int) ∧ z = .slice p m c ∧ Hid (wr.ownsRow w.heap.size 51 2 (.slice p m c) (plK l k).length (prl (plK l k))) ∧ Hid (Below w.heap.size w wr)) (fun _ i _ => 32 - (intOf i).toNat)
  case atStart => exact ⟨0, none, 0, 0, by omega, rfl, rfl, HE1, HB1⟩
  case round =>
    clear HE1 HB1 HC1
    obtain ⟨k, p, m, c, hk, rfl, rfl, HO, HB⟩ := hrel
    by_cases hlt : k < 32
    · have hix := HIX.out wr k hlt
      have HST := hid (plK_step l k)
      have HLE := hid (plK_len l k)
      by_cases hx : l.getD k (-1) = -1
      · have HN : Hid (plK l (k + 1) = plK l k) := by
          rw [HST.out]
          have : oL l k = none := by unfold oL; rw [if_pos hx]
          rw [this]
          exact hid (List.append_nil _)
        rw [hx] at hix
        clear HST
        go_wp2
        exact ⟨⟨k + 1, p, m, c, by omega, by go_num, rfl, by rw [HN.out]; exact HO, HB⟩, by simp [intOf]; omega⟩
      · obtain ⟨n, HNn⟩ : ∃ n : Nat, Hid (l.getD k (-1) = (n : Int)) := ⟨(l.getD k (-1)).toNat, hid (by rcases HOK.out.at k with q | q; exact absurd q hx; omega)⟩
        have HN : Hid (plK l (k + 1) = plK l k ++ [((k : Int), (n : Int))]) := by
          rw [HST.out, (oL_iff HOK.out).2 HNn.out]
          exact hid rfl
        rw [HNn.out] at hix hx
        have hxb : (((n : Nat) : Int) == -1) = false := beq_eq_false_iff_ne.2 hx
        have hnb : n < 255 := by
          rcases HOK.out.at k with q | q
          · rw [HNn.out] at q; exact absurd q hx
          · rw [HNn.out] at q; omega
        clear HST
        obtain ⟨W2, HW2⟩ : ∃ W2, Hid (wr.alloc (.cells #[.int .i64 (k : Int), .int .i64 (n : Int)] 51) = W2) := ⟨_, rfl⟩
        have HB2 : Hid (Below wr.heap.size wr W2) := by rw [← HW2.out]; exact hid ((Below.refl _ wr).alloc (Nat.le_refl _) _)
        have HX2 : Hid (W2.heap[wr.heap.size]? = some (.cells #[.int .i64 (k : Int), .int .i64 (n : Int)] 51 (0, 0))) := by rw [← HW2.out]; exact heap_alloc_new wr _
        have HO2 : Hid (W2.ownsRow w.heap.size 51 2 (.slice p m c) (plK l k).length (prl (plK l k))) := hid (HO.out.kept ⟨HB2.out.os, HB2.out.tape, HB2.out.output, HB2.out.size, fun k hk _ => HB2.out.block k hk⟩ (none_or _))
        have HP2 : Hid (HP W2 (.slice (some ⟨wr.heap.size, 0, none⟩) 1 1) [((k : Int), (n : Int))]) := hid (by
          refine ⟨⟨_, 1, rfl, Nat.le_refl _, by decide, (fun e => by cases e), fun _ => ⟨wr.heap.size, 0, rfl, fun j hj => ?_⟩⟩, fun p hp => ?_⟩
          · obtain rfl : j = 0 := by simp only [List.length_cons, List.length_nil] at hj; omega
            exact ⟨(cell_of_row _ _ _ _ _ _ HX2.out).trans rfl, (cell_of_row _ _ _ _ _ _ HX2.out).trans rfl⟩
          · rw [List.mem_singleton.1 hp]
            simp only []
            omega)
        have HBL : Hid (w.heap.size ≤ W2.heap.size) := hid (Nat.le_trans HB.out.size HB2.out.size)
        go_wp2_with (first | (rw [HW2.out]; at_builtin; refine wpList_append_prs rfl _ _ rfl w.heap.size _ _ _ rfl HO2.out _ [((k : Int), (n : Int))] rfl HP2.out ?q2 HBL.out ?_) | fail)
        case q2 => have := HLE.out; simp only [List.length_cons, List.length_nil]; omega
        intro v3 W3 hown3 hgr3
        have HO3 : Hid (W3.ownsRow w.heap.size 51 2 v3 (plK l (k + 1)).length (prl (plK l (k + 1)))) := hid (by
          rw [HN.out, List.length_append, prl_append]
          exact hown3)
        have HB3 : Hid (Below w.heap.size w W3) := hid ((HB.out.trans (HB2.out.mono HB.out.size)).trans ⟨hgr3.os, hgr3.tape, hgr3.output, hgr3.size, fun j hj => hgr3.block j (by have := HBL.out; omega) (fun e => by
          have := HO2.out.lt j e.symm
          omega)⟩)
        clear hown3 hgr3 HO2 HP2 HX2
        obtain ⟨p3, m3, c3, ev⟩ : ∃ p m c, v3 = .slice p m c := by
          rcases HO3.out.2 with ⟨rfl, _⟩ | ⟨g, cap, cur, rfl, _⟩
          · exact ⟨_, _, _, rfl⟩
          · exact ⟨_, _, _, rfl⟩
        subst ev
        go_wp2
        exact ⟨⟨k + 1, p3, m3, c3, by omega, by go_num, rfl, HO3, HB3⟩, by simp [intOf]; omega⟩
    · obtain rfl : k = 32 := by omega
      go_wp2
      go_ret
      exact ⟨_, rfl, HO.out, HB.out⟩
theorem fixed_u32 (s : Nat) (hs : s < 32) : ((2 : Int) ^ (s + 1) % 4294967296 - 1) % 4294967296 = ((2 ^ (s + 1) - 1 : Nat) : Int) := by
  have : s = 0 ∨ s = 1 ∨ s = 2 ∨ s = 3 ∨ s = 4 ∨ s = 5 ∨ s = 6 ∨ s = 7 ∨ s = 8 ∨ s = 9 ∨ s = 10 ∨ s = 11 ∨ s = 12 ∨ s = 13 ∨ s = 14 ∨ s = 15 ∨ s = 16 ∨ s = 17 ∨ s = 18 ∨ s = 19 ∨ s = 20 ∨ s = 21 ∨ s = 22 ∨ s = 23 ∨ s = 24 ∨ s = 25 ∨ s = 26 ∨ s = 27 ∨ s = 28 ∨ s = 29 ∨ s = 30 ∨ s = 31 := by omega
  rcases this with h | h | h | h | h | h | h | h | h | h | h | h | h | h | h | h | h | h | h | h | h | h | h | h | h | h | h | h | h | h | h | h <;> subst h <;> decide
theorem bt_fixed (s : Nat) : bt (2 ^ (s + 1) - 1) = Hy.upTo (s + 1) := by
  funext k
  unfold bt Hy.upTo
  exact Nat.testBit_two_pow_sub_one ..
theorem fixed_lt (s : Nat) (hs : s < 32) : 2 ^ (s + 1) - 1 < 4294967296 := by
  have : 2 ^ (s + 1) ≤ 2 ^ 32 := Nat.pow_le_pow_right (by decide) (by omega)
  have : 0 < 2 ^ (s + 1) := Nat.two_pow_pos _
  omega
theorem shr_bit (m s : Nat) (hm : m < 4294967296) : bits .and .u32 ((m : Int) / 2 ^ s) 1 = if m.testBit s then 1 else 0 := by
  have e : ((m : Int) / 2 ^ s) = ((m / 2 ^ s : Nat) : Int) := by
    rw [show ((2 : Int) ^ s) = ((2 ^ s : Nat) : Int) by rw [Int.natCast_pow]; rfl]
    exact (Int.natCast_ediv m (2 ^ s)).symm
  have hd : m / 2 ^ s < 4294967296 := Nat.lt_of_le_of_lt (Nat.div_le_self ..) hm
  rw [e, show (1 : Int) = ((1 : Nat) : Int) from rfl, and_u32 _ 1 hd (by decide), Nat.and_one_is_mod]
  have : m.testBit s = decide (m / 2 ^ s % 2 = 1) := by rw [Nat.testBit_eq_decide_div_mod_eq]
  rw [this]
  by_cases h : m / 2 ^ s % 2 = 1
  · rw [h]; simp
  · have h0 : m / 2 ^ s % 2 = 0 := by omega
    rw [h0]; simp
theorem any_pre {l : List Int} (h : OkA l) {n s : Nat} (hs : s ≤ 32) : (l.take s).any (fun y => (n : Int) == y) = true ↔ ∃ k, k < s ∧ oL l k = some n := by
  rw [List.any_eq_true]
  constructor
  · rintro ⟨x, hx, he⟩
    obtain ⟨k, hk, rfl⟩ := List.getElem_of_mem hx
    have hkl : k < s ∧ k < l.length := by rw [List.length_take] at hk; omega
    refine ⟨k, hkl.1, (oL_iff h).2 ?_⟩
    rw [List.getElem_take] at he
    have e : (n : Int) = l[k] := by simpa using he
    rw [e]
    simp [List.getD, List.getElem?_eq_getElem hkl.2]
  · rintro ⟨k, hk, hs'⟩
    have e := (oL_iff h).1 hs'
    have hkl : k < l.length := by rw [h.1]; omega
    have e2 : l.getD k (-1) = l[k] := by simp [List.getD, List.getElem?_eq_getElem hkl]
    refine ⟨l[k], ?_, by rw [← e2, e]; simp⟩
    rw [List.mem_take_iff_getElem]
    exact ⟨k, by omega, rfl⟩
theorem keyed2 {P : Nat → Array Value → World → Prop} {K : Act → World → Prop} {G : Prop} (A : Nat → Array Value → Act) (hkey : ∀ d c W', P d c W' → K (A d c) W') (main : (∀ d c W', P d c W' → K (A d c) W') → G) : G := main hkey
theorem info_mtz : (Tryd.prog.info? 64).map (fun i => (i.zero, i.size, i.bytes)) = some (some (.agg (ca (List.replicate 32 0))), 32, 256) := by kernel_rfl
theorem run_alloc_mt (w : World) : (Instr.alloc 64 true (.tuple #[])).run Tryd.prog w = .ok (.pointer (some ⟨w.heap.size, 0, none⟩)) (w.alloc (.cells (ca (List.replicate 32 0)) 64)) := by
  obtain ⟨i0, hi, hz0, hz1, hz2⟩ := info_parts info_mtz
  simp only [Instr.alloc, zeroValue, typeInfo, newVar, newRow, Value.cells]
  simp [hi, hz0, Value.cells]
theorem wp_alloc_mt {o : Oper} {a : Act} {w : World} {K : Act → World → Prop} {Q : Exit → Act → World → Prop} (ho : o.op = .alloc 64)
    (h : K (a.put o.dst (.pointer (some ⟨w.heap.size, 0, none⟩))) (w.alloc (.cells (ca (List.replicate 32 0)) 64))) : o.wp Tryd.prog a w K Q := by
  have hr := run_alloc_mt w
  unfold Oper.wp
  simp only [execOp, ho, Sem.run_bind, hr, Result.andThen_ok]
  exact h
theorem range_mt {W : World} {g : Nat} {l : List Int} (h : OA W g l) : W.rangeAt g 0 (l.map fun x : Int => Value.int .i64 x) := fun j v hv => by
  rw [cell_of_row W g (0 + j) _ _ _ h, Nat.zero_add]
  simpa [ca] using hv
theorem alen_mt : Tryd.prog.arrayLen 64 = 32 := by kernel_rfl
theorem aelem_mt : Tryd.prog.elem 64 = 3 := by kernel_rfl
theorem slice_mt (W : World) (g s : Nat) (hs : s ≤ 32) : (Instr.sliceAt 64 (.pointer (some ⟨g, 0, none⟩)) none (some (.int .i64 (s : Int))) none).run Tryd.prog W = .ok (.slice (some ⟨g, 0, none⟩) s 32) W := by
  have h := run_sliceAt_array_h (P := Tryd.prog) W 64 ⟨g, 0, none⟩ (by rw [alen_mt, aelem_mt]; exact Tryd.underlying64) .i64 (s : Int) (by omega) (by rw [alen_mt]; omega)
  rw [h, aelem_mt, Tryd.sizeOf3, Result.andThen_ok, Int.toNat_natCast, alen_mt]
  rfl
structure SW (w : World) (b nn c : Nat) (p : Option Addr) (l : List Int) (W : World) : Prop where
  lay : W.heap[w.heap.size]? = some (.cells #[.map (some b), .slice p nn c] 59 (0, 0))
  mt : OA W (w.heap.size + 1) l
  res : OA W (w.heap.size + 1 + 1) (List.replicate 32 0)
  bel : Below w.heap.size w W
theorem SW.below {w W W' : World} {b nn c : Nat} {p : Option Addr} {l : List Int} (h : SW w b nn c p l W) (hb : Below W.heap.size W W') : SW w b nn c p l W' :=
  ⟨(hb.block _ (Array.getElem?_eq_some_iff.1 h.lay).1).trans h.lay, h.mt.below hb, h.res.below hb, h.bel.trans (hb.mono h.bel.size)⟩
theorem SW.c0 {w W : World} {b nn c : Nat} {p : Option Addr} {l : List Int} (h : SW w b nn c p l W) : W.cell? ⟨w.heap.size, 0, none⟩ = some (.map (some b)) := (cell_of_row _ _ _ _ _ _ h.lay).trans rfl
theorem SW.c1 {w W : World} {b nn c : Nat} {p : Option Addr} {l : List Int} (h : SW w b nn c p l W) : W.cell? ⟨w.heap.size, 1, none⟩ = some (.slice p nn c) := (cell_of_row _ _ _ _ _ _ h.lay).trans rfl
theorem chain3 (w : World) (a1 a2 a3 : Obj) : (((w.alloc a1).alloc a2).alloc a3).heap[w.heap.size]? = some a1 ∧ (((w.alloc a1).alloc a2).alloc a3).heap[w.heap.size + 1]? = some a2 ∧ (((w.alloc a1).alloc a2).alloc a3).heap[w.heap.size + 1 + 1]? = some a3 := by
  have at1 : ∀ (W : World) (a : Obj) (k : Nat), (W.alloc a).heap[k]? = if k = W.heap.size then some a else W.heap[k]? := fun W a k => by
    show (W.heap.push a)[k]? = _
    rw [Array.getElem?_push]
  have s1 : ∀ (W : World) (a : Obj), (W.alloc a).heap.size = W.heap.size + 1 := fun W a => by simp
  refine ⟨?_, ?_, ?_⟩
  · rw [at1, if_neg (by rw [s1, s1]; omega), at1, if_neg (by rw [s1]; omega), at1, if_pos rfl]
  · rw [at1, if_neg (by rw [s1, s1]; omega), at1, if_pos (by rw [s1])]
  · rw [at1, if_pos (by rw [s1, s1])]
set_option maxRecDepth 100000 in
set_option maxHeartbeats 16000000 in
theorem settled_any (w : World) (b : Nat) (v : Value) (Q : List (Nat × Nat)) (l : List Int) (s : Nat) (hL : Lay w b v Q) (hT : TabAt 0 Lib.deBruijn32tab w) (h1 : ∀ p ∈ Q, p.1 < 32) (h2 : ∀ p ∈ Q, p.2 < 255) (hok : OkA l) (hM : Hy.OkM Q (oL l)) (hmo : Hy.Most Q 32 (oL l)) (hs : s < 32) :
    Calls Tryd.prog 52 #[.agg #[.map (some b), v], .agg (ca l), .int .i64 (s : Int)] w fun e w' => ∃ l', e = .returned (.agg (ca l')) ∧ OkA l' ∧ Hy.Stl Q 32 s (oL l) (oL l') ∧ Below w.heap.size w w' := by
  have HSZ := hid (size_mt hok.1)
  obtain ⟨p, c, rfl, hc1, hc2⟩ := hL.nums.open
  unfold maxLen at hc2
  have hlen := ks_len Q
  obtain ⟨ns, HNS⟩ : ∃ ns, Hid (ks Q = ns) := ⟨_, rfl⟩
  have HKL : Hid (∀ k ∈ ns, k < 255) := fun k hk => ks_lt (by rw [HNS.out]; exact hk)
  have HQ1 := hid h1
  have HQ2 := hid h2
  have HTT := hid hT
  have HLL := hid hL
  have HOK := hid hok
  have HMM := hid hM
  have HMO := hid hmo
  rw [HNS.out] at HLL hlen hc1 ⊢
  obtain ⟨nn, HLn⟩ : ∃ n, Hid (ns.length = n) := ⟨_, rfl⟩
  rw [HLn.out] at HLL hlen hc1 ⊢
  obtain ⟨cl, HCL⟩ : ∃ cl, Hid (ca l = cl) := ⟨_, rfl⟩
  rw [HCL.out] at HSZ ⊢
  have HNW : Hid (HN w (.slice p nn c) ns) := by
    have := HLL.out.nums
    rw [HNS.out] at this
    exact this
  clear hL hT h1 h2 hok hM hmo
  obtain ⟨W1, HW1⟩ : ∃ W1, Hid (((w.alloc (.cells #[.map (some b), .slice p nn c] 59)).alloc (.cells cl 64)).alloc (.cells (ca (List.replicate 32 0)) 64) = W1) := ⟨_, rfl⟩
  have HSW : Hid (SW w b nn c p l W1) := by
    have HCH := chain3 w (.cells #[.map (some b), .slice p nn c] 59) (.cells cl 64) (.cells (ca (List.replicate 32 0)) 64)
    rw [HW1.out] at HCH
    refine hid ⟨HCH.1, by unfold OA; rw [HCL.out]; exact HCH.2.1, HCH.2.2, ?_⟩
    rw [← HW1.out]
    exact (((Below.refl _ w).alloc (Nat.le_refl _) _).alloc (by simp) _).alloc (by simp; omega) _
  have HMT1 : Hid (W1.heap[w.heap.size + 1]? = some (.cells cl 64 (0, 0))) := by rw [← HCL.out]; exact hid HSW.out.mt
  have CZ := size_any W1 l HOK.out.1
  rw [HCL.out] at CZ
  have CS := hid CZ
  clear CZ
  obtain ⟨sz, HSN⟩ : ∃ sz, Hid (cnt l = sz) := ⟨_, rfl⟩
  rw [HSN.out] at CS
  have hfx := fixed_u32 s hs
  obtain ⟨fx, HFX⟩ : ∃ fx, Hid (2 ^ (s + 1) - 1 = fx) := ⟨_, hid rfl⟩
  rw [HFX.out] at hfx
  have hfl : fx < 4294967296 := by rw [← HFX.out]; exact fixed_lt s hs
  have HBF : Hid (bt fx = Hy.upTo (s + 1)) := by rw [← HFX.out]; exact hid (bt_fixed s)
  have hs1 : (s : Int) + 1 ≤ 32 := by omega
  go_enter Tryd.func52, Tryd.ntmps52
  refine wp_seq_k fun K0 h0 => ?_
  have H0 := hid h0
  clear h0
  go_wp2
  refine H0.out _ _ ?_
  clear H0
  change Code.wp _ _ _ _ (((w.alloc (.cells #[.map (some b), .slice p nn c] 59)).alloc (.cells cl 64)).alloc (.cells (ca (List.replicate 32 0)) 64))
  rw [HW1.out]
  go_wp2_with (refine wpList_load_row rfl 64 _ rfl (w.heap.size + 1) rfl 64 cl (0, 0) _ HMT1.out Tryd.underlying64 rfl HSZ.out ?_)
  refine CS.out.mono ?_
  rintro e W2 ⟨rfl, hb2⟩
  have HS2 := hid (HSW.out.below hb2)
  clear hb2 CS HSW HMT1 HW1
  have hl0 := HS2.out.c0
  have hl1 := HS2.out.c1
  go_wp2
  rw [hfx]
  clear hfx
  go_loopw [21] (fun x wr => ∃ i : Nat, i ≤ nn ∧ x = .int .i64 (i : Int) ∧ Hid (∀ n ∈ ns.take i, ¬ Hy.Can Q (oL l) s n) ∧ Hid (SW w b nn c p l wr)) (fun x _ => nn - (intOf x).toNat)
  case atStart => exact ⟨0, Nat.zero_le _, rfl, hid (fun n hn => by simp at hn), HS2⟩
  case round =>
    clear HS2 hl0 hl1
    obtain ⟨i, hi, rfl, HNC, HSr⟩ := hrel
    by_cases hlt : i < nn
    · have HNN : Hid (HN wr (.slice p nn c) ns) := hid (HNW.out.below HSr.out.bel)
      obtain ⟨b2, off, rfl, hbl, hcl⟩ := HNN.out.ne (by rw [HLn.out]; omega)
      have hcell := hcl i (by rw [HLn.out]; exact hlt)
      have hn255 : ns.getD i 0 < 255 := HKL.out _ (by
        rw [List.getD_eq_getElem?_getD, List.getElem?_eq_getElem (by rw [HLn.out]; exact hlt)]
        exact List.getElem_mem _)
      obtain ⟨n, HN1⟩ : ∃ n, Hid (ns.getD i 0 = n) := ⟨_, rfl⟩
      rw [HN1.out] at hcell hn255
      have HTK : Hid (ns.take (i + 1) = ns.take i ++ [n]) := hid (take_next (by rw [HLn.out]; exact hlt) HN1.out)
      have HLr := hid (HLL.out.below HSr.out.bel)
      have hlook := HLr.out.map.look n (by omega)
      have hlc0 := HSr.out.c0
      have hbit := shr_bit (mk Q n) s (mk_lt HQ1.out n)
      obtain ⟨m, HMm⟩ : ∃ m, Hid (mk Q n = m) := ⟨_, rfl⟩
      rw [HMm.out] at hlook hbit
      have hmb : m < 4294967296 := by rw [← HMm.out]; exact mk_lt HQ1.out n
      have HAJ : Hid (m.testBit s = true ↔ (s, n) ∈ Q) := hid (by rw [← HMm.out, mk_bit, decide_eq_true_eq])
      have next : ¬ Hy.Can Q (oL l) s n → Hid (∀ k ∈ ns.take (i + 1), ¬ Hy.Can Q (oL l) s k) := fun hno => hid (fun k hk => by
        rw [HTK.out] at hk
        rcases List.mem_append.1 hk with q | q
        · exact HNC.out k q
        · rw [List.mem_singleton.1 q]; exact hno)
      clear hcl
      cases hb : m.testBit s with
      | false =>
        have HN2 := next (fun hc => by
          have := HAJ.out.2 hc.free.1
          rw [hb] at this; cases this)
        rw [hb] at hbit
        simp only [Bool.false_eq_true, if_false] at hbit
        clear next hb HAJ
        go_wp2
        exact ⟨⟨i + 1, by omega, by go_num, HN2, HSr⟩, by simp [intOf]; omega⟩
      | true =>
        have HP1 : Hid ((s, n) ∈ Q) := hid (HAJ.out.1 hb)
        rw [hb] at hbit
        simp only [if_true] at hbit
        have CC := hid (contains_any wr (w.heap.size + 1) l s (n : Int) HSr.out.mt HOK.out.1 (by omega))
        have HAN := hid (any_pre HOK.out (n := n) (s := s) (by omega))
        have hsl := slice_mt wr (w.heap.size + 1) s (by omega)
        clear hb HAJ
        cases hany : (l.take s).any (fun y => (n : Int) == y) with
        | true =>
          rw [hany] at CC HAN
          have HN2 := next (fun hc => by
            obtain ⟨k, hk, hk2⟩ := HAN.out.1 rfl
            exact hc.free.2 k hk hk2)
          clear next HAN hany
          go_wp2_with fail
          refine CC.out.mono ?_
          rintro y w3 ⟨rfl, hw3⟩
          rw [hw3]
          clear hw3 CC
          go_wp2
          exact ⟨⟨i + 1, by omega, by go_num, HN2, HSr⟩, by simp [intOf]; omega⟩
        | false =>
          rw [hany] at CC HAN
          have HFR : Hid (∀ k, k < s → oL l k ≠ some n) := hid (fun k hk e => by have := HAN.out.2 ⟨k, hk, e⟩; cases this)
          clear HAN hany
          go_wp2_with fail
          refine CC.out.mono ?_
          rintro y w3 ⟨rfl, hw3⟩
          rw [hw3]
          clear hw3 CC
          have HWK : Hid (OkA (wl l s n)) := hid (wl_ok HOK.out hn255)
          have HWO : Hid (oL (wl l s n) = Hy.setO (oL l) s n) := hid (oL_wl HOK.out hs HMM.out.inj)
          have HWM : Hid (Hy.OkM Q (oL (wl l s n))) := by rw [HWO.out]; exact hid (Hy.setO_ok HMM.out HP1.out)
          have CW : Hid (∀ W, Calls Tryd.prog 59 #[.agg (l.map fun x : Int => Value.int .i64 x).toArray, .int .i64 (s : Int), .int .i64 (n : Int)] W fun e w' => e = .returned (.agg (ca (wl l s n))) ∧ Below W.heap.size W w') := hid fun W => with_any W l s n HOK.out hs hn255
          have CG : Hid (∀ W, Below wr.heap.size wr W → Calls Tryd.prog 49 #[.agg #[.map (some b), .slice (some ⟨b2, off, none⟩) nn c], .agg (ca (wl l s n)), .int .u32 (fx : Int)] W fun e w' => ∃ l', e = .returned (.agg (ca l')) ∧ OkA l' ∧ Hy.Gwn Q 32 (Hy.upTo (s + 1)) (Hy.setO (oL l) s n) (oL l') ∧ Below W.heap.size W w') := hid fun W hW => by
            rw [← HBF.out, ← HWO.out]
            have hb' := HSr.out.bel.trans (hW.mono HSr.out.bel.size)
            exact grown_any W b _ Q _ fx (by have := HLL.out.below hb'; exact this) (tab_below HTT.out hb') HQ1.out HQ2.out HWK.out HWM.out hfl
          obtain ⟨cw, HCW⟩ : ∃ cw, Hid (ca (wl l s n) = cw) := ⟨_, rfl⟩
          rw [HCW.out] at CW CG
          have SZL : Hid ((Tryd.prog.info? 64).map (·.size) = some (l.map fun x : Int => Value.int .i64 x).length) := hid (by rw [List.length_map, HOK.out.1]; exact info_mt)
          have ZC : Hid (∀ W' : World, Below wr.heap.size wr W' → W'.cell? ⟨w.heap.size, 0, none⟩ = some (.map (some b)) ∧ W'.cell? ⟨w.heap.size, 1, none⟩ = some (.slice (some ⟨b2, off, none⟩) nn c)) := hid fun W' hh => ⟨(HSr.out.below hh).c0, (HSr.out.below hh).c1⟩
          have NX := hid next
          have HLESS : Hid (∀ n', n' < n → ¬ Hy.Can Q (oL l) s n') := hid (fun n' hn' hc => by
            have hm : n' ∈ ns := by rw [← HNS.out]; exact (mem_ks HQ2.out).2 ⟨s, hc.free.1⟩
            refine HNC.out n' ?_ hc
            have hsr : ns.Pairwise (· < ·) := by rw [← HNS.out]; exact ks_srt Q
            obtain ⟨j, hj, e⟩ := List.getElem_of_mem hm
            have hi' : i < ns.length := by rw [HLn.out]; exact hlt
            have ei : ns[i] = n := by rw [← HN1.out, List.getD_eq_getElem?_getD, List.getElem?_eq_getElem hi']; rfl
            have hji : j < i := by
              apply Classical.byContradiction
              intro hcc
              rcases Nat.lt_or_ge i j with q | q
              · have := (List.pairwise_iff_getElem.1 hsr) i j hi' hj q
                omega
              · have : i = j := by omega
                subst this
                omega
            rw [List.mem_take_iff_getElem]
            exact ⟨j, by omega, e⟩)
          clear next
          go_wp2_with fail
          refine keyed2 (P := fun (d : Nat) (cx : Array Value) (W' : World) => ∃ l2, Hid (ca l2 = cx) ∧ Hid (OkA l2) ∧ Hid (Hy.Gwn Q 32 (Hy.upTo (s + 1)) (Hy.setO (oL l) s n) (oL l2)) ∧ Hid (OA W' d l2) ∧ Hid (w.heap.size + 1 + 1 < d) ∧ Hid (Below wr.heap.size wr W')) (K := ?K) ?A ?key (fun key => ?main)
          case main =>
            refine wp_region_held_drew (S := fun W' => Below wr.heap.size wr W') (by kernel_rfl) (below_drew (Below.refl _ wr)) (fun hHeld => ?_)
            have HS := hid hHeld
            clear hHeld
            change wpAnyH _ _ _ _ _ _ _ _ (World.drew _)
            refine wpAnyH_take (i := 0) (v := ?_) rfl (by kernel_rfl) (by kernel_rfl) (by kernel_rfl) (fun _ _ _ h => h) (Or.inl ⟨by rfl, ?q0⟩) HS.out ?_
            case q0 => intro w hSw; obtain ⟨z0, z1⟩ := ZC.out _ hSw; go_simp; rfl
            simp only [Act.put, List.getElem_toArray, List.getElem_cons_zero, List.getElem_cons_succ, List.setIfInBounds_toArray, List.set_cons_zero, List.set_cons_succ]
            refine wpAnyH_take (i := 1) rfl (by kernel_rfl) (by kernel_rfl) (by kernel_rfl) (fun _ _ _ h => h) (yieldsIf_load_mid (by rfl) 64 _ rfl (w.heap.size + 1) 0 rfl (l.map fun x : Int => Value.int .i64 x) _ (fun W hW => range_mt (HSr.out.below hW).mt) Tryd.underlying64 rfl SZL.out) HS.out ?_
            simp only [Act.put, List.getElem_toArray, List.getElem_cons_zero, List.getElem_cons_succ, List.setIfInBounds_toArray, List.set_cons_zero, List.set_cons_succ]
            refine wpAnyH_take (i := 2) (v := ?_) rfl (by kernel_rfl) (by kernel_rfl) (by kernel_rfl) (fun _ _ _ h => h) (Or.inl ⟨by rfl, ?q2⟩) HS.out ?_
            case q2 => intro w hSw; obtain ⟨z0, z1⟩ := ZC.out _ hSw; go_simp; rfl
            simp only [Act.put, List.getElem_toArray, List.getElem_cons_zero, List.getElem_cons_succ, List.setIfInBounds_toArray, List.set_cons_zero, List.set_cons_succ]
            refine wpAnyH_take (i := 3) (v := ?_) rfl (by kernel_rfl) (by kernel_rfl) (by kernel_rfl) (fun _ _ _ h => h) (Or.inl ⟨by rfl, ?q3⟩) HS.out ?_
            case q3 => intro w hSw; obtain ⟨z0, z1⟩ := ZC.out _ hSw; go_simp; rfl
            simp only [Act.put, List.getElem_toArray, List.getElem_cons_zero, List.getElem_cons_succ, List.setIfInBounds_toArray, List.set_cons_zero, List.set_cons_succ]
            refine wpAnyH_take (i := 5) (v := ?_) rfl (by kernel_rfl) (by kernel_rfl) (by kernel_rfl) (fun _ _ _ h => h) (Or.inl ⟨by rfl, ?q5⟩) HS.out ?_
            case q5 => intro w hSw; obtain ⟨z0, z1⟩ := ZC.out _ hSw; go_simp; rfl
            simp only [Act.put, List.getElem_toArray, List.getElem_cons_zero, List.getElem_cons_succ, List.setIfInBounds_toArray, List.set_cons_zero, List.set_cons_succ]
            refine wpAnyH_ready (rs := [4, 7]) (by kernel_rfl) (by simp) ?_
            refine AllReadyH.cons rfl (fun K hK => ?_) (AllReadyH.cons rfl (fun K hK => ?_) AllReadyH.nil)
            · replace hK := hid hK
              go_simp
              refine (CW.out _).mono ?_
              rintro e Wc ⟨rfl, hB8⟩
              have S8 : Hid (Below wr.heap.size wr Wc) := hid (HS.out.trans (hB8.mono HS.out.size))
              clear hB8
              refine hK.out _ _ S8.out (fun _ => ?_)
              clear hK K
              try simp only [Act.put, List.getElem_toArray, List.getElem_cons_zero, List.getElem_cons_succ, List.setIfInBounds_toArray, List.set_cons_zero, List.set_cons_succ]
              replace HS := S8
              refine wpAnyH_ready (rs := [6, 7]) (by kernel_rfl) (by simp) ?_
              refine AllReadyH.cons rfl (fun K hK => ?_) (AllReadyH.cons rfl (fun K hK => ?_) AllReadyH.nil)
              · replace hK := hid hK
                go_simp
                refine (CG.out _ HS.out).mono ?_
                rintro e Wg ⟨l2, rfl, hok2, hG2, hB9⟩
                have S9 : Hid (Below wr.heap.size wr Wg) := hid (HS.out.trans (hB9.mono HS.out.size))
                have HOK2 := hid hok2
                have HG2 := hid hG2
                obtain ⟨cx, HCX⟩ : ∃ cx, Hid (ca l2 = cx) := ⟨_, rfl⟩
                rw [HCX.out]
                clear hok2 hG2
                clear hB9
                refine hK.out _ _ S9.out (fun _ => ?_)
                clear hK K
                try simp only [Act.put, List.getElem_toArray, List.getElem_cons_zero, List.getElem_cons_succ, List.setIfInBounds_toArray, List.set_cons_zero, List.set_cons_succ]
                replace HS := S9
                refine wpAnyH_ready (rs := [7]) (by kernel_rfl) (by simp) ?_
                refine AllReadyH.cons rfl (fun K hK => ?_) AllReadyH.nil
                replace hK := hid hK
                rw [if_pos (by rfl)]
                refine wp_alloc_mt rfl ?_
                obtain ⟨Wa, HWa⟩ : ∃ Wa, Hid (Wg.alloc (.cells (ca (List.replicate 32 0)) 64) = Wa) := ⟨_, rfl⟩
                rw [HWa.out]
                have Sa : Hid (Below wr.heap.size wr Wa) := hid (by rw [← HWa.out]; exact HS.out.alloc HS.out.size _)
                obtain ⟨d, HDD⟩ : ∃ d, Hid (Wg.heap.size = d) := ⟨_, rfl⟩
                have Ra : Hid (OA Wa d (List.replicate 32 0)) := hid (by rw [← HWa.out, ← HDD.out]; exact heap_alloc_new Wg _)
                have HDL : Hid (w.heap.size + 1 + 1 < d ∧ wr.heap.size ≤ d) := hid (by have := HS.out.size; have := HSr.out.res.lt; have := HDD.out; omega)
                try rw [HDD.out]
                refine hK.out _ _ Sa.out (fun _ => ?_)
                clear hK K
                try simp only [Act.put, List.getElem_toArray, List.getElem_cons_zero, List.getElem_cons_succ, List.setIfInBounds_toArray, List.set_cons_zero, List.set_cons_succ]
                replace HS := Sa
                refine wpAnyH_ready (rs := [8]) (by kernel_rfl) (by simp) ?_
                refine AllReadyH.cons rfl (fun K hK => ?_) AllReadyH.nil
                replace hK := hid hK
                have HZ : Hid ((Tryd.prog.info? 64).map (·.size) = some cx.size) := by rw [← HCX.out]; exact hid (size_mt HOK2.out.1)
                have H1 : Hid (cx.all (·.oneCell') = true) := by rw [← HCX.out]; exact hid (ca_one _)
                have H2 : Hid ((ca (List.replicate 32 0)).size = cx.size) := by rw [← HCX.out, ca_size, ca_size, HOK2.out.1]; exact hid rfl
                rw [if_pos (by rfl)]
                refine wp_store_row 64 _ _ rfl d cx rfl rfl 64 _ Ra.out HZ.out H2.out H1.out ?_
                have Se : Hid (Below wr.heap.size wr (Wa.setRow d cx)) := hid (below_setRow HS.out HDL.out.2 _)
                refine hK.out _ _ Se.out (fun _ => ?_)
                clear hK K
                try simp only [Act.put, List.getElem_toArray, List.getElem_cons_zero, List.getElem_cons_succ, List.setIfInBounds_toArray, List.set_cons_zero, List.set_cons_succ]
                refine wpAnyH_done (by kernel_rfl) ?_ _
                exact key d cx _ ⟨l2, HCX, HOK2, HG2, hid (by unfold OA; rw [HCX.out]; exact setRow_heap _ _ _ cx _ _ Ra.out), hid HDL.out.1, Se⟩
              · replace hK := hid hK
                rw [if_pos (by rfl)]
                refine wp_alloc_mt rfl ?_
                obtain ⟨Wa, HWa⟩ : ∃ Wa, Hid (Wc.alloc (.cells (ca (List.replicate 32 0)) 64) = Wa) := ⟨_, rfl⟩
                rw [HWa.out]
                have Sa : Hid (Below wr.heap.size wr Wa) := hid (by rw [← HWa.out]; exact HS.out.alloc HS.out.size _)
                obtain ⟨d, HDD⟩ : ∃ d, Hid (Wc.heap.size = d) := ⟨_, rfl⟩
                have Ra : Hid (OA Wa d (List.replicate 32 0)) := hid (by rw [← HWa.out, ← HDD.out]; exact heap_alloc_new Wc _)
                have HDL : Hid (w.heap.size + 1 + 1 < d ∧ wr.heap.size ≤ d) := hid (by have := HS.out.size; have := HSr.out.res.lt; have := HDD.out; omega)
                try rw [HDD.out]
                refine hK.out _ _ Sa.out (fun _ => ?_)
                clear hK K
                try simp only [Act.put, List.getElem_toArray, List.getElem_cons_zero, List.getElem_cons_succ, List.setIfInBounds_toArray, List.set_cons_zero, List.set_cons_succ]
                replace HS := Sa
                refine wpAnyH_ready (rs := [6]) (by kernel_rfl) (by simp) ?_
                refine AllReadyH.cons rfl (fun K hK => ?_) AllReadyH.nil
                replace hK := hid hK
                go_simp
                refine (CG.out _ HS.out).mono ?_
                rintro e Wg ⟨l2, rfl, hok2, hG2, hB9⟩
                have S9 : Hid (Below wr.heap.size wr Wg) := hid (HS.out.trans (hB9.mono HS.out.size))
                have HOK2 := hid hok2
                have HG2 := hid hG2
                obtain ⟨cx, HCX⟩ : ∃ cx, Hid (ca l2 = cx) := ⟨_, rfl⟩
                rw [HCX.out]
                clear hok2 hG2
                replace Ra := hid (Ra.out.below hB9)
                clear hB9
                refine hK.out _ _ S9.out (fun _ => ?_)
                clear hK K
                try simp only [Act.put, List.getElem_toArray, List.getElem_cons_zero, List.getElem_cons_succ, List.setIfInBounds_toArray, List.set_cons_zero, List.set_cons_succ]
                replace HS := S9
                refine wpAnyH_ready (rs := [8]) (by kernel_rfl) (by simp) ?_
                refine AllReadyH.cons rfl (fun K hK => ?_) AllReadyH.nil
                replace hK := hid hK
                have HZ : Hid ((Tryd.prog.info? 64).map (·.size) = some cx.size) := by rw [← HCX.out]; exact hid (size_mt HOK2.out.1)
                have H1 : Hid (cx.all (·.oneCell') = true) := by rw [← HCX.out]; exact hid (ca_one _)
                have H2 : Hid ((ca (List.replicate 32 0)).size = cx.size) := by rw [← HCX.out, ca_size, ca_size, HOK2.out.1]; exact hid rfl
                rw [if_pos (by rfl)]
                refine wp_store_row 64 _ _ rfl d cx rfl rfl 64 _ Ra.out HZ.out H2.out H1.out ?_
                have Se : Hid (Below wr.heap.size wr (Wg.setRow d cx)) := hid (below_setRow HS.out HDL.out.2 _)
                refine hK.out _ _ Se.out (fun _ => ?_)
                clear hK K
                try simp only [Act.put, List.getElem_toArray, List.getElem_cons_zero, List.getElem_cons_succ, List.setIfInBounds_toArray, List.set_cons_zero, List.set_cons_succ]
                refine wpAnyH_done (by kernel_rfl) ?_ _
                exact key d cx _ ⟨l2, HCX, HOK2, HG2, hid (by unfold OA; rw [HCX.out]; exact setRow_heap _ _ _ cx _ _ Ra.out), hid HDL.out.1, Se⟩
            · replace hK := hid hK
              rw [if_pos (by rfl)]
              refine wp_alloc_mt rfl ?_
              obtain ⟨Wa, HWa⟩ : ∃ Wa, Hid (wr.drew.alloc (.cells (ca (List.replicate 32 0)) 64) = Wa) := ⟨_, rfl⟩
              rw [HWa.out]
              have Sa : Hid (Below wr.heap.size wr Wa) := hid (by rw [← HWa.out]; exact HS.out.alloc HS.out.size _)
              obtain ⟨d, HDD⟩ : ∃ d, Hid (wr.drew.heap.size = d) := ⟨_, rfl⟩
              have Ra : Hid (OA Wa d (List.replicate 32 0)) := hid (by rw [← HWa.out, ← HDD.out]; exact heap_alloc_new wr.drew _)
              have HDL : Hid (w.heap.size + 1 + 1 < d ∧ wr.heap.size ≤ d) := hid (by have := HS.out.size; have := HSr.out.res.lt; have := HDD.out; omega)
              try rw [HDD.out]
              refine hK.out _ _ Sa.out (fun _ => ?_)
              clear hK K
              try simp only [Act.put, List.getElem_toArray, List.getElem_cons_zero, List.getElem_cons_succ, List.setIfInBounds_toArray, List.set_cons_zero, List.set_cons_succ]
              replace HS := Sa
              refine wpAnyH_ready (rs := [4]) (by kernel_rfl) (by simp) ?_
              refine AllReadyH.cons rfl (fun K hK => ?_) AllReadyH.nil
              replace hK := hid hK
              go_simp
              refine (CW.out _).mono ?_
              rintro e Wc ⟨rfl, hB8⟩
              have S8 : Hid (Below wr.heap.size wr Wc) := hid (HS.out.trans (hB8.mono HS.out.size))
              replace Ra := hid (Ra.out.below hB8)
              clear hB8
              refine hK.out _ _ S8.out (fun _ => ?_)
              clear hK K
              try simp only [Act.put, List.getElem_toArray, List.getElem_cons_zero, List.getElem_cons_succ, List.setIfInBounds_toArray, List.set_cons_zero, List.set_cons_succ]
              replace HS := S8
              refine wpAnyH_ready (rs := [6]) (by kernel_rfl) (by simp) ?_
              refine AllReadyH.cons rfl (fun K hK => ?_) AllReadyH.nil
              replace hK := hid hK
              go_simp
              refine (CG.out _ HS.out).mono ?_
              rintro e Wg ⟨l2, rfl, hok2, hG2, hB9⟩
              have S9 : Hid (Below wr.heap.size wr Wg) := hid (HS.out.trans (hB9.mono HS.out.size))
              have HOK2 := hid hok2
              have HG2 := hid hG2
              obtain ⟨cx, HCX⟩ : ∃ cx, Hid (ca l2 = cx) := ⟨_, rfl⟩
              rw [HCX.out]
              clear hok2 hG2
              replace Ra := hid (Ra.out.below hB9)
              clear hB9
              refine hK.out _ _ S9.out (fun _ => ?_)
              clear hK K
              try simp only [Act.put, List.getElem_toArray, List.getElem_cons_zero, List.getElem_cons_succ, List.setIfInBounds_toArray, List.set_cons_zero, List.set_cons_succ]
              replace HS := S9
              refine wpAnyH_ready (rs := [8]) (by kernel_rfl) (by simp) ?_
              refine AllReadyH.cons rfl (fun K hK => ?_) AllReadyH.nil
              replace hK := hid hK
              have HZ : Hid ((Tryd.prog.info? 64).map (·.size) = some cx.size) := by rw [← HCX.out]; exact hid (size_mt HOK2.out.1)
              have H1 : Hid (cx.all (·.oneCell') = true) := by rw [← HCX.out]; exact hid (ca_one _)
              have H2 : Hid ((ca (List.replicate 32 0)).size = cx.size) := by rw [← HCX.out, ca_size, ca_size, HOK2.out.1]; exact hid rfl
              rw [if_pos (by rfl)]
              refine wp_store_row 64 _ _ rfl d cx rfl rfl 64 _ Ra.out HZ.out H2.out H1.out ?_
              have Se : Hid (Below wr.heap.size wr (Wg.setRow d cx)) := hid (below_setRow HS.out HDL.out.2 _)
              refine hK.out _ _ Se.out (fun _ => ?_)
              clear hK K
              try simp only [Act.put, List.getElem_toArray, List.getElem_cons_zero, List.getElem_cons_succ, List.setIfInBounds_toArray, List.set_cons_zero, List.set_cons_succ]
              refine wpAnyH_done (by kernel_rfl) ?_ _
              exact key d cx _ ⟨l2, HCX, HOK2, HG2, hid (by unfold OA; rw [HCX.out]; exact setRow_heap _ _ _ cx _ _ Ra.out), hid HDL.out.1, Se⟩
          case key =>
            rintro d cx W4 ⟨l2, HCX, HOK2, HG2, HO2, HD2, HB4⟩
            have HS4 := hid (HSr.out.below HB4.out)
            have HZ : Hid ((Tryd.prog.info? 64).map (·.size) = some cx.size) := by rw [← HCX.out]; exact hid (size_mt HOK2.out.1)
            have H1 : Hid (cx.all (·.oneCell') = true) := by rw [← HCX.out]; exact hid (ca_one _)
            have HM4 : Hid (W4.heap[d]? = some (.cells cx 64 (0, 0))) := by rw [← HCX.out]; exact hid HO2.out
            have CZ := size_any W4 l2 HOK2.out.1
            rw [HCX.out] at CZ
            have CS := hid CZ
            have HIF : Hid (Hy.sz 32 (oL l2) = Hy.sz 32 (oL l) ↔ Hy.Can Q (oL l) s n) := hid (Hy.can_iff HQ1.out HMM.out HMO.out HP1.out HFR.out HG2.out)
            rw [← cnt_sz HOK2.out, ← cnt_sz HOK.out, HSN.out] at HIF
            obtain ⟨sn, HSN2⟩ : ∃ sn, Hid (cnt l2 = sn) := ⟨_, rfl⟩
            rw [HSN2.out] at CS HIF
            clear CZ
            go_wp2_with (refine wpList_load_row rfl 64 _ rfl d rfl 64 cx (0, 0) _ HM4.out Tryd.underlying64 rfl HZ.out ?_)
            refine CS.out.mono ?_
            rintro e W5 ⟨rfl, hb5⟩
            have HS5 := hid (HS4.out.below hb5)
            have HM5 : Hid (W5.heap[d]? = some (.cells cx 64 (0, 0))) := hid ((hb5.block _ (Array.getElem?_eq_some_iff.1 HM4.out).1).trans HM4.out)
            clear hb5 CS
            by_cases hq : sn = sz
            · have HST : Hid (Hy.Stl Q 32 s (oL l) (oL l2)) := hid (Hy.stl_take HFR.out HG2.out (by rw [← cnt_sz HOK2.out, ← cnt_sz HOK.out, HSN2.out, HSN.out]; exact hq) (fun n' hn' => HLESS.out n' hn'))
              have HRS : Hid (W5.heap[w.heap.size + 1 + 1]? = some (.cells (ca (List.replicate 32 0)) 64 (0, 0))) := hid HS5.out.res
              have H2 : Hid ((ca (List.replicate 32 0)).size = cx.size) := by rw [← HCX.out, ca_size, ca_size, HOK2.out.1]; exact hid rfl
              have hqb : (((sn : Nat) : Int) == (sz : Int)) = true := by rw [hq]; exact beq_self_eq_true _
              generalize ca (List.replicate 32 0) = c0 at HRS H2
              clear hq HIF
              go_wp2_with (first
                | (refine wpList_load_row rfl 64 _ rfl d rfl 64 cx (0, 0) _ HM5.out Tryd.underlying64 rfl HZ.out ?_)
                | (refine wpList_store_row rfl 64 _ _ rfl (w.heap.size + 1 + 1) cx rfl rfl 64 c0 HRS.out HZ.out H2.out H1.out ?_))
              refine bodyPost_ret (v := .agg cx) (results_cell1 (p := 6) (ty := 64) rfl _ _ (w.heap.size + 1 + 1) 64 cx (0, 0) _ rfl (setRow_heap W5 (w.heap.size + 1 + 1) c0 cx _ _ HRS.out) Tryd.underlying64 rfl HZ.out) rfl ?_
              exact ⟨l2, by rw [HCX.out], HOK2.out, HST.out, below_setRow HS5.out.bel (by omega) _⟩
            · have HN2 : Hid (∀ k ∈ ns.take (i + 1), ¬ Hy.Can Q (oL l) s k) := NX.out (fun hc => hq (HIF.out.2 hc))
              have hqb : (((sn : Nat) : Int) == (sz : Int)) = false := beq_eq_false_iff_ne.2 (fun z => hq (by omega))
              clear hq HIF
              go_wp2
              exact ⟨⟨i + 1, by omega, by go_num, HN2, HS5⟩, by simp [intOf]; omega⟩
    · obtain rfl : i = nn := by omega
      have HST : Hid (Hy.Stl Q 32 s (oL l) (oL l)) := hid (Hy.stl_none HMM.out (fun n' hc => by
        have hm : n' ∈ ns := by rw [← HNS.out]; exact (mem_ks HQ2.out).2 ⟨s, hc.free.1⟩
        exact HNC.out n' (by rw [List.take_of_length_le (by rw [HLn.out]; exact Nat.le_refl _)]; exact hm) hc))
      have HMr : Hid (wr.heap[w.heap.size + 1]? = some (.cells cl 64 (0, 0))) := by rw [← HCL.out]; exact hid HSr.out.mt
      have HRS : Hid (wr.heap[w.heap.size + 1 + 1]? = some (.cells (ca (List.replicate 32 0)) 64 (0, 0))) := hid HSr.out.res
      have H1 : Hid (cl.all (·.oneCell') = true) := by rw [← HCL.out]; exact hid (ca_one _)
      have H2 : Hid ((ca (List.replicate 32 0)).size = cl.size) := by rw [← HCL.out, ca_size, ca_size, HOK.out.1]; exact hid rfl
      generalize ca (List.replicate 32 0) = c0 at HRS H2
      go_wp2_with (first
        | (refine wpList_load_row rfl 64 _ rfl (w.heap.size + 1) rfl 64 cl (0, 0) _ HMr.out Tryd.underlying64 rfl HSZ.out ?_)
        | (refine wpList_store_row rfl 64 _ _ rfl (w.heap.size + 1 + 1) cl rfl rfl 64 c0 HRS.out HSZ.out H2.out H1.out ?_))
      refine bodyPost_ret (v := .agg cl) (results_cell1 (p := 6) (ty := 64) rfl _ _ (w.heap.size + 1 + 1) 64 cl (0, 0) _ rfl (setRow_heap wr (w.heap.size + 1 + 1) c0 cl _ _ HRS.out) Tryd.underlying64 rfl HSZ.out) rfl ?_
      exact ⟨l, by rw [HCL.out], HOK.out, HST.out, below_setRow HSr.out.bel (by omega) _⟩
structure FI (Q : List (Nat × Nat)) (k : Nat) (l : List Int) : Prop where
  ok : OkA l
  okM : Hy.OkM Q (oL l)
  most : Hy.Most Q 32 (oL l)
  least : ∀ s, s < k → ∀ n', Hy.Can Q (oL l) s n' → ∃ n, oL l s = some n ∧ n ≤ n'
theorem FI.step {Q : List (Nat × Nat)} {k : Nat} {l l' : List Int} (h : FI Q k l) (hok : OkA l') (hS : Hy.Stl Q 32 k (oL l) (oL l')) : FI Q (k + 1) l' := by
  refine ⟨hok, hS.ok, fun m hm => by rw [hS.size]; exact h.most m hm, fun s hs n' hc => ?_⟩
  have agr : ∀ s, s ≤ k → Hy.Can Q (oL l') s n' → Hy.Can Q (oL l) s n' := fun s hs ⟨m, h1, h2, h3⟩ => ⟨m, h1, fun j n hj => by
    have hj' : j < s := of_decide_eq_true hj
    rw [h2 j n hj, hS.keep j (by omega)], h3⟩
  by_cases q : s = k
  · subst q
    exact hS.least n' (agr s (Nat.le_refl _) hc)
  · obtain ⟨n, h1, h2⟩ := h.least s (by omega) n' (agr s (by omega) hc)
    exact ⟨n, by rw [hS.keep s (by omega)]; exact h1, h2⟩
set_option maxRecDepth 100000 in
set_option maxHeartbeats 8000000 in
theorem first_any (w : World) (b : Nat) (v : Value) (Q : List (Nat × Nat)) (hL : Lay w b v Q) (hT : TabAt 0 Lib.deBruijn32tab w) (h1 : ∀ p ∈ Q, p.1 < 32) (h2 : ∀ p ∈ Q, p.2 < 255) :
    Calls Tryd.prog 35 #[.agg #[.map (some b), v]] w fun e w' => ∃ l, e = .returned (.agg (ca l)) ∧ OkA l ∧ Hy.First Q (Hy.ml 32 (oL l)) ∧ Below w.heap.size w w' := by
  obtain ⟨p, c, ev, -, -⟩ := hL.nums.open
  generalize (ks Q).length = nn at ev
  subst ev
  obtain ⟨W1, HW1⟩ : ∃ W1, Hid ((w.alloc (.cells #[.map (some b), .slice p nn c] 59)).alloc (.cells (ca (List.replicate 32 0)) 64) = W1) := ⟨_, rfl⟩
  have HB1 : Hid (Below w.heap.size w W1) := by rw [← HW1.out]; exact hid (((Below.refl _ w).alloc (Nat.le_refl _) _).alloc (by simp) _)
  have HC1 : Hid (W1.heap[w.heap.size]? = some (.cells #[.map (some b), .slice p nn c] 59 (0, 0))) := by
    rw [← HW1.out]
    exact hid ((Below.heap_alloc _ _ _ (by simp)).trans (heap_alloc_new w _))
  have HR1 : Hid (OA W1 (w.heap.size + 1) (List.replicate 32 0)) := by
    rw [← HW1.out]
    have := heap_alloc_new (w.alloc (.cells #[.map (some b), .slice p nn c] 59)) (.cells (ca (List.replicate 32 0)) 64)
    rw [show (w.alloc (.cells #[.map (some b), .slice p nn c] 59)).heap.size = w.heap.size + 1 by simp] at this
    exact hid this
  have HLw := hid hL
  have HTw := hid hT
  have HQ1 := hid h1
  have HQ2 := hid h2
  have CG := hid (greatest_any W1 b (.slice p nn c) Q (hL.below HB1.out) (tab_below hT HB1.out) h1 h2)
  have hq0 : W1.cell? ⟨w.heap.size, 0, none⟩ = some (.map (some b)) := (cell_of_row _ _ _ _ _ _ HC1.out).trans rfl
  have hq1 : W1.cell? ⟨w.heap.size, 1, none⟩ = some (.slice p nn c) := (cell_of_row _ _ _ _ _ _ HC1.out).trans rfl
  clear hL hT h1 h2
  go_enter Tryd.func35, Tryd.ntmps35
  refine wp_seq_k fun K0 h0 => ?_
  have H0 := hid h0
  clear h0
  go_wp2
  refine H0.out _ _ ?_
  clear H0
  change Code.wp _ _ _ _ ((w.alloc (.cells #[.map (some b), .slice p nn c] 59)).alloc (.cells (ca (List.replicate 32 0)) 64))
  rw [HW1.out]
  go_wp2_with fail
  refine CG.out.mono ?_
  rintro e W2 ⟨l0, rfl, hok, hM, hmo, hb2⟩
  have HF0 : Hid (FI Q 0 l0) := hid ⟨hok, hM, hmo, fun s hs => absurd hs (Nat.not_lt_zero _)⟩
  have HB12 := hid hb2
  have HC2 : Hid (W2.heap[w.heap.size]? = some (.cells #[.map (some b), .slice p nn c] 59 (0, 0))) := hid ((hb2.block _ (Array.getElem?_eq_some_iff.1 HC1.out).1).trans HC1.out)
  have HR2 : Hid (OA W2 (w.heap.size + 1) (List.replicate 32 0)) := hid (HR1.out.below hb2)
  have HB2 : Hid (Below w.heap.size w W2) := hid (HB1.out.trans (hb2.mono HB1.out.size))
  clear hok hM hmo hb2 CG hq0 hq1
  obtain ⟨cl, HCL⟩ : ∃ cl, Hid (ca l0 = cl) := ⟨_, rfl⟩
  rw [HCL.out]
  obtain ⟨W3, HW3⟩ : ∃ W3, Hid ((W2.alloc (.cells (ca (List.replicate 32 0)) 64)).setRow W2.heap.size cl = W3) := ⟨_, rfl⟩
  have HZ0 : Hid ((W2.alloc (.cells (ca (List.replicate 32 0)) 64)).heap[W2.heap.size]? = some (.cells (ca (List.replicate 32 0)) 64 (0, 0))) := hid (heap_alloc_new W2 _)
  have HM3 : Hid (W3.heap[W2.heap.size]? = some (.cells cl 64 (0, 0))) := by rw [← HW3.out]; exact hid (setRow_heap _ _ _ cl _ _ HZ0.out)
  have HB23 : Hid (Below W2.heap.size W2 W3) := by rw [← HW3.out]; exact hid (below_setRow ((Below.refl _ W2).alloc (Nat.le_refl _) _) (Nat.le_refl _) _)
  have HZ : Hid ((Tryd.prog.info? 64).map (·.size) = some cl.size) := by rw [← HCL.out]; exact hid (size_mt HF0.out.ok.1)
  have H1 : Hid (cl.all (·.oneCell') = true) := by rw [← HCL.out]; exact hid (ca_one _)
  have HOLD : Hid (32 = cl.size) := by rw [← HCL.out, ca_size, HF0.out.ok.1]; exact hid rfl
  have HC3 : Hid (W3.heap[w.heap.size]? = some (.cells #[.map (some b), .slice p nn c] 59 (0, 0))) := hid ((HB23.out.block _ (Array.getElem?_eq_some_iff.1 HC2.out).1).trans HC2.out)
  have HR3 : Hid (OA W3 (w.heap.size + 1) (List.replicate 32 0)) := hid (HR2.out.below HB23.out)
  have HB3 : Hid (Below w.heap.size w W3) := hid (HB2.out.trans (HB23.out.mono HB2.out.size))
  have HGG : Hid (w.heap.size + 1 < W2.heap.size) := hid HR2.out.lt
  go_wp2_with (refine wpList_store_row rfl 64 _ _ rfl W2.heap.size cl rfl rfl 64 _ (heap_alloc_new W2 _) HZ.out HOLD.out H1.out ?_)
  change Code.wp _ _ _ _ ((W2.alloc (.cells (ca (List.replicate 32 0)) 64)).setRow W2.heap.size cl)
  rw [HW3.out]
  obtain ⟨g, HG⟩ : ∃ g, Hid (W2.heap.size = g) := ⟨_, rfl⟩
  rw [HG.out] at HM3 HGG ⊢
  have HM3' : Hid (OA W3 g l0) := by unfold OA; rw [HCL.out]; exact HM3
  go_loopw [7] (fun x wr => ∃ (k : Nat) (l : List Int), k ≤ 32 ∧ x = .int .i64 (k : Int) ∧ Hid (FI Q k l) ∧ Hid (OA wr g l) ∧ Hid (wr.heap[w.heap.size]? = some (.cells #[.map (some b), .slice p nn c] 59 (0, 0))) ∧ Hid (OA wr (w.heap.size + 1) (List.replicate 32 0)) ∧ Hid (Below w.heap.size w wr)) (fun x _ => 32 - (intOf x).toNat)
  case atStart => exact ⟨0, l0, by omega, rfl, HF0, HM3', HC3, HR3, HB3⟩
  case round =>
    clear HF0 HM3 HM3' HC3 HR3 HB3 HW3 HZ H1 HOLD HZ0 HC2 HR2 HB2 HB23 HB12 HCL
    obtain ⟨k, l, hk, rfl, HF, HM, HC, HR, HB⟩ := hrel
    have HZ : Hid ((Tryd.prog.info? 64).map (·.size) = some (ca l).size) := hid (size_mt HF.out.ok.1)
    by_cases hlt : k < 32
    · have CS := hid (settled_any wr b (.slice p nn c) Q l k (HLw.out.below HB.out) (tab_below HTw.out HB.out) HQ1.out HQ2.out HF.out.ok HF.out.okM HF.out.most hlt)
      obtain ⟨cx, HCX⟩ : ∃ cx, Hid (ca l = cx) := ⟨_, rfl⟩
      have HMx : Hid (wr.heap[g]? = some (.cells cx 64 (0, 0))) := by rw [← HCX.out]; exact hid HM.out
      rw [HCX.out] at CS HZ
      have hq0 : wr.cell? ⟨w.heap.size, 0, none⟩ = some (.map (some b)) := (cell_of_row _ _ _ _ _ _ HC.out).trans rfl
      have hq1 : wr.cell? ⟨w.heap.size, 1, none⟩ = some (.slice p nn c) := (cell_of_row _ _ _ _ _ _ HC.out).trans rfl
      go_wp2_with (refine wpList_load_row rfl 64 _ rfl g rfl 64 cx (0, 0) _ HMx.out Tryd.underlying64 rfl HZ.out ?_)
      refine CS.out.mono ?_
      rintro e W4 ⟨l', rfl, hok', hS', hb4⟩
      have HF4 : Hid (FI Q (k + 1) l') := hid (HF.out.step hok' hS')
      have HMx4 : Hid (W4.heap[g]? = some (.cells cx 64 (0, 0))) := hid ((hb4.block _ (Array.getElem?_eq_some_iff.1 HMx.out).1).trans HMx.out)
      have HC4 : Hid (W4.heap[w.heap.size]? = some (.cells #[.map (some b), .slice p nn c] 59 (0, 0))) := hid ((hb4.block _ (Array.getElem?_eq_some_iff.1 HC.out).1).trans HC.out)
      have HR4 : Hid (OA W4 (w.heap.size + 1) (List.replicate 32 0)) := hid (HR.out.below hb4)
      have HB4 : Hid (Below w.heap.size w W4) := hid (HB.out.trans (hb4.mono HB.out.size))
      have HZ4 : Hid ((Tryd.prog.info? 64).map (·.size) = some (ca l').size) := hid (size_mt hok'.1)
      have H14 : Hid ((ca l').all (·.oneCell') = true) := hid (ca_one _)
      have H24 : Hid (cx.size = (ca l').size) := by rw [← HCX.out, ca_size, ca_size, HF.out.ok.1, hok'.1]; exact hid rfl
      obtain ⟨cy, HCY⟩ : ∃ cy, Hid (ca l' = cy) := ⟨_, rfl⟩
      rw [HCY.out] at HZ4 H14 H24 ⊢
      clear hok' hS' hb4 CS hq0 hq1
      obtain ⟨W5, HW5⟩ : ∃ W5, Hid (W4.setRow g cy = W5) := ⟨_, rfl⟩
      have HM5 : Hid (OA W5 g l') := by rw [← HW5.out]; unfold OA; rw [HCY.out]; exact hid (setRow_heap _ _ _ cy _ _ HMx4.out)
      have HC5 : Hid (W5.heap[w.heap.size]? = some (.cells #[.map (some b), .slice p nn c] 59 (0, 0))) := by rw [← HW5.out]; exact hid ((setRow_other _ _ _ _ (by have := HGG.out; omega)).trans HC4.out)
      have HR5 : Hid (OA W5 (w.heap.size + 1) (List.replicate 32 0)) := by rw [← HW5.out]; exact hid ((setRow_other _ _ _ _ (by have := HGG.out; omega)).trans HR4.out)
      have HB5 : Hid (Below w.heap.size w W5) := by rw [← HW5.out]; exact hid (below_setRow HB4.out (by have := HGG.out; omega) _)
      go_wp2_with (first | rw [HW5.out] | (refine wpList_store_row rfl 64 _ _ rfl g cy rfl rfl 64 cx HMx4.out HZ4.out H24.out H14.out ?_))
      exact ⟨⟨k + 1, l', by omega, by go_num, HF4, HM5, HC5, HR5, HB5⟩, by simp [intOf]; omega⟩
    · obtain rfl : k = 32 := by omega
      have HFI : Hid (Hy.First Q (Hy.ml 32 (oL l))) := hid (Hy.first_of HQ1.out HF.out.okM HF.out.most HF.out.least)
      have HOKl := hid HF.out.ok
      have H1 : Hid ((ca l).all (·.oneCell') = true) := hid (ca_one _)
      have H2 : Hid ((ca (List.replicate 32 0)).size = (ca l).size) := by rw [ca_size, ca_size, HOKl.out.1]; exact hid rfl
      unfold OA at HM HR
      obtain ⟨cx, HCX⟩ : ∃ cx, Hid (ca l = cx) := ⟨_, rfl⟩
      rw [HCX.out] at HM HZ H1 H2
      generalize ca (List.replicate 32 0) = c0 at HR H2
      go_wp2_with (first
        | (refine wpList_load_row rfl 64 _ rfl g rfl 64 cx (0, 0) _ HM.out Tryd.underlying64 rfl HZ.out ?_)
        | (refine wpList_store_row rfl 64 _ _ rfl (w.heap.size + 1) cx rfl rfl 64 c0 HR.out HZ.out H2.out H1.out ?_))
      refine bodyPost_ret (v := .agg cx) (results_cell1 (p := 2) (ty := 64) rfl _ _ (w.heap.size + 1) 64 cx (0, 0) _ rfl (setRow_heap wr (w.heap.size + 1) c0 cx _ _ HR.out) Tryd.underlying64 rfl HZ.out) rfl ?_
      exact ⟨l, by rw [HCX.out], HOKl.out, HFI.out, below_setRow HB.out (Nat.le_succ _) _⟩
def MaQ (w : World) (ps : List Pr) (e : Ending) (w' : World) : Prop :=
  (mayL ps = true → ∃ v m, e = .returned (.tuple #[v, .int .i64 0]) ∧ Hy.First (ps.map natP) m ∧ w'.ownsRow w.heap.size 51 2 v (m.map intP).length (prl (m.map intP))) ∧
  (mayL ps = false → e = .returned (.tuple #[.slice none 0 0, .int .i64 230]))
theorem own2_mono {w : World} {B B' e n : Nat} {v : Value} {xs : List Value} (h : w.ownsRow B e 2 v n xs) (hb : B' ≤ B) : w.ownsRow B' e 2 v n xs := by
  refine ⟨h.1, ?_⟩
  rcases h.2 with h2 | ⟨g, cap, cur, h1, h2, h3⟩
  · exact .inl h2
  · exact .inr ⟨g, cap, cur, h1, Nat.le_trans hb h2, h3⟩
theorem own2_slc {w : World} {B n : Nat} {e : TypeId} {v : Value} {xs : List Value} (h : w.ownsRow B e 2 v n xs) : ∃ p c, v = .slice p n c := by
  rcases h.2 with ⟨rfl, rfl⟩ | ⟨g, cap, cur, rfl, _⟩
  · exact ⟨none, 0, rfl⟩
  · exact ⟨_, _, rfl⟩
set_option maxRecDepth 100000 in
set_option maxHeartbeats 8000000 in
theorem match_any (w : World) (v : Value) (ps : List Pr) (hP : HP w v ps) (hT : TabAt 0 Lib.deBruijn32tab w) :
    Calls Tryd.prog 14 #[v] w fun e w' => MaQ w ps e w' ∧ Below w.heap.size w w' := by
  have CL := hid (lay_any w v ps hP)
  have HTw := hid hT
  obtain ⟨p0, c0, ev, -, -⟩ := hP.open
  generalize ps.length = n0 at ev
  subst ev
  clear hP hT
  go_enter Tryd.func14, Tryd.ntmps14
  go_wp2_with fail
  refine CL.out.mono ?_
  rintro e W2 ⟨hg, hbd, hb2⟩
  have HB2 := hid hb2
  have HT2 := hid (tab_below HTw.out hb2)
  clear hb2 CL
  cases hm : mayL ps with
  | false =>
    have hbd' := hbd hm
    subst hbd'
    clear hg hbd
    have HM := hid hm
    clear hm
    have HB3 : Hid (Below w.heap.size w (W2.alloc (.cells #[.map none, .slice none 0 0] 59))) := hid (HB2.out.alloc HB2.out.size _)
    go_wp2
    go_ret2
    exact ⟨⟨(fun z => by rw [HM.out] at z; cases z), fun _ => rfl⟩, HB3.out⟩
  | true =>
    obtain ⟨b, vs, hey, hL⟩ := hg hm
    subst hey
    obtain ⟨p, c, ev, -, -⟩ := hL.nums.open
    obtain ⟨nn, HNN⟩ : ∃ nn, Hid ((ks (ps.map natP)).length = nn) := ⟨_, rfl⟩
    rw [HNN.out] at ev
    subst ev
    have HALL := hid (mayL_all hm)
    have HM := hid hm
    have HL := hid hL
    clear hg hbd hm hL
    obtain ⟨W3, HW3⟩ : ∃ W3, Hid (W2.alloc (.cells #[.map (some b), .slice p nn c] 59) = W3) := ⟨_, rfl⟩
    have HB23 : Hid (Below W2.heap.size W2 W3) := by rw [← HW3.out]; exact hid ((Below.refl _ W2).alloc (Nat.le_refl _) _)
    have HC3 : Hid (W3.heap[W2.heap.size]? = some (.cells #[.map (some b), .slice p nn c] 59 (0, 0))) := by rw [← HW3.out]; exact heap_alloc_new W2 _
    have HB3 : Hid (Below w.heap.size w W3) := hid (HB2.out.trans (HB23.out.mono HB2.out.size))
    have CF := hid (first_any W3 b (.slice p nn c) (ps.map natP) (HL.out.below HB23.out) (tab_below HT2.out HB23.out) (mayL_lt HALL.out).1 (mayL_lt HALL.out).2)
    go_wp2_with fail
    rw [HW3.out]
    refine CF.out.mono ?_
    rintro e W4 ⟨l, rfl, hok, hF, hb4⟩
    have HOK := hid hok
    have HF := hid hF
    have HB4 : Hid (Below w.heap.size w W4) := hid (HB3.out.trans (hb4.mono HB3.out.size))
    have CP := hid (pairs_any W4 l hok)
    clear hok hF hb4 CF
    obtain ⟨cx, HCX⟩ : ∃ cx, Hid (ca l = cx) := ⟨_, rfl⟩
    rw [HCX.out] at CP ⊢
    go_wp2_with fail
    refine CP.out.mono ?_
    rintro e W5 ⟨vr, rfl, hown, hb5⟩
    have HOW := hid (own2_mono hown HB4.out.size)
    have HB5 : Hid (Below w.heap.size w W5) := hid (HB4.out.trans (hb5.mono HB4.out.size))
    obtain ⟨pr, cr, evr⟩ := own2_slc hown
    generalize (plK l 32).length = nr at evr
    subst evr
    clear hown hb5 CP
    go_wp2
    go_ret2
    exact ⟨⟨fun _ => ⟨_, _, rfl, HF.out, HOW.out⟩, (fun z => by rw [HM.out] at z; cases z)⟩, HB5.out⟩
end Go.Proofs.YtlhjpflljokinaaDoor.Hz
