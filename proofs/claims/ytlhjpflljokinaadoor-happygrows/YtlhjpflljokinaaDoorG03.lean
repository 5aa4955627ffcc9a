/- Of the road to happyGrowsCard_holds: HzV, HzW, HzGr, OpensHz, HzLaid. -/
import Derived.Test.YtlhjpflljokinaaDoorG02
import Derived.Test.YtlhjpflljokinaaDoorG00
import Derived.Deep.SlicePairs
import Derived.Test.YtlhjpflljokinaaDoorRows
import Derived.Test.YtlhjpflljokinaaDoorG01
import Derived.ProofKit
import Derived.OpenShut
import Derived.LaidLaws
import Derived.Lay
import Derived.MakeChecks
import Derived.Stop.LaidErr
import Derived.Lib.LaidTab
set_option linter.unusedVariables false
set_option linter.unusedSimpArgs false
namespace Go.Proofs.YtlhjpflljokinaaDoor.Hz
open Go Go.RowKit Go.Proofs.YtlhjpflljokinaaDoor Go.Maps
abbrev Q3 : List (Nat × Nat) := [(0, 0), (0, 1), (1, 0)]
theorem q3_len {m : List (Nat × Nat)} (h : Hy.MaxM Q3 m) : m.length = 2 := by
  have h1 := h.2 [(0, 1), (1, 0)] ⟨by decide, by decide⟩
  have h2 := h.1.le_servers (A := 2) (by decide)
  have e : Hy.places Prod.fst 2 Q3 = 2 := by decide
  rw [e] at h2
  simp only [List.length_cons, List.length_nil] at h1
  omega
theorem q3_fst : Hy.places Prod.fst 32 Q3 = 2 := by decide +kernel
theorem q3_snd : Hy.places Prod.snd 255 Q3 = 2 := by decide +kernel
def HALF : Nat := 4602678819172646912
theorem half_ok : azB [HALF, HALF] = true := by decide +kernel
theorem half_odds : Fl.tot 1 (Fl.tab 2 [(1, HALF), (1, HALF)]) = 4604930618986332160 := by decide +kernel
abbrev p3 : List Pr := [(0, 0), (0, 1), (1, 0)]
theorem p3_may : mayL p3 = true := by decide +kernel
set_option maxRecDepth 100000 in
set_option maxHeartbeats 4000000 in
theorem lives_any (w : World) (hT : TabAt 0 Lib.deBruijn32tab w) :
    Calls Tryd.prog 8 #[] w fun e w' => e = .returned (.bool true) ∧ Below w.heap.size w w' := by
  obtain ⟨W1, HW1⟩ : ∃ W1, Hid (w.alloc (.cells #[.int .i64 0, .int .i64 0, .int .i64 0, .int .i64 1, .int .i64 1, .int .i64 0] 51) = W1) := ⟨_, rfl⟩
  have HB1 : Hid (Below w.heap.size w W1) := by rw [← HW1.out]; exact (Below.refl _ w).alloc (Nat.le_refl _) _
  have HC1 : Hid (W1.heap[w.heap.size]? = some (.cells #[.int .i64 0, .int .i64 0, .int .i64 0, .int .i64 1, .int .i64 1, .int .i64 0] 51 (0, 0))) := by rw [← HW1.out]; exact heap_alloc_new w _
  have hP : HP W1 (.slice (some ⟨w.heap.size, 0, none⟩) 3 3) p3 := by
    refine ⟨⟨_, 3, rfl, by decide, by decide, (fun e => by cases e), fun _ => ⟨w.heap.size, 0, rfl, fun j hj => ?_⟩⟩, by decide⟩
    have : j = 0 ∨ j = 1 ∨ j = 2 := by simp only [List.length_cons, List.length_nil] at hj; omega
    rcases this with rfl | rfl | rfl <;> exact ⟨(cell_of_row _ _ _ _ _ _ HC1.out).trans rfl, (cell_of_row _ _ _ _ _ _ HC1.out).trans rfl⟩
  have CL := hid (look_any W1 _ p3 hP (tab_below hT HB1.out))
  clear hP hT
  go_enter Tryd.func8, Tryd.ntmps8
  go_wp2_with fail
  rw [HW1.out]
  refine CL.out.mono ?_
  rintro e W2 ⟨hLo, hb2⟩
  obtain ⟨m, hm, rfl⟩ := hLo.1 p3_may
  have hm' : Hy.MaxM Q3 m := hm
  have HB2 : Hid (Below w.heap.size w W2) := hid (HB1.out.trans (hb2.mono HB1.out.size))
  rw [q3_len hm', show p3.map natP = Q3 from rfl, q3_fst, q3_snd]
  clear hLo hm hm' hb2 CL HC1 HB1 HW1
  obtain ⟨W3, HW3⟩ : ∃ W3, Hid (W2.alloc (.cells #[.int .i64 2, .int .i64 2, .int .i64 2] 32) = W3) := ⟨_, rfl⟩
  have HS3 : Hid (W3.heap.size = W2.heap.size + 1) := by rw [← HW3.out]; refine hid ?_; simp
  have HC3 : Hid (W3.heap[W2.heap.size]? = some (.cells #[.int .i64 2, .int .i64 2, .int .i64 2] 32 (0, 0))) := by rw [← HW3.out]; exact heap_alloc_new W2 _
  have HB3 : Hid (Below w.heap.size w W3) := by rw [← HW3.out]; exact hid (HB2.out.alloc HB2.out.size _)
  obtain ⟨W4, HW4⟩ : ∃ W4, Hid (W3.alloc (.cells #[.float .f64 4602678819172646912, .float .f64 4602678819172646912] 40) = W4) := ⟨_, rfl⟩
  have HC4 : Hid (W4.heap[W3.heap.size]? = some (.cells #[.float .f64 4602678819172646912, .float .f64 4602678819172646912] 40 (0, 0))) := by rw [← HW4.out]; exact heap_alloc_new W3 _
  have HB4 : Hid (Below W3.heap.size W3 W4) := by rw [← HW4.out]; exact hid ((Below.refl _ W3).alloc (Nat.le_refl _) _)
  have hF : HF W4 (.slice (some ⟨W3.heap.size, 0, none⟩) 2 2) [HALF, HALF] := by
    refine ⟨⟨_, 2, rfl, by decide, by decide, (fun e => by cases e), fun _ => ⟨W3.heap.size, 0, rfl, fun j hj => ?_⟩⟩, by decide⟩
    have : j = 0 ∨ j = 1 := by simp only [List.length_cons, List.length_nil] at hj; omega
    rcases this with rfl | rfl <;> exact (cell_of_row _ _ _ _ _ _ HC4.out).trans rfl
  have CO := odds_any W4 _ [HALF, HALF] 1 hF (by decide)
  rw [if_pos half_ok, if_pos half_ok] at CO
  change Calls _ _ _ _ (fun e w' => e = .returned (.tuple #[.float .f64 (Fl.tot 1 (Fl.tab 2 [(1, HALF), (1, HALF)])), .int .i64 0]) ∧ Below W4.heap.size W4 w') at CO
  rw [half_odds] at CO
  have CX := hid CO
  rw [HS3.out] at CX HC4
  clear CO hF
  have hq0 : W3.cell? ⟨W2.heap.size, 0, none⟩ = some (.int .i64 2) := (cell_of_row _ _ _ _ _ _ HC3.out).trans rfl
  go_wp2_with fail
  rw [HW3.out, HW4.out]
  refine CX.out.mono ?_
  rintro e W5 ⟨rfl, hb5⟩
  have HB5 : Hid (Below W3.heap.size W3 W5) := hid (HB4.out.trans (hb5.mono HB4.out.size))
  have HC5 : Hid (W5.heap[W2.heap.size]? = some (.cells #[.int .i64 2, .int .i64 2, .int .i64 2] 32 (0, 0))) := hid ((HB5.out.block _ (by rw [HS3.out]; omega)).trans HC3.out)
  have HBW : Hid (Below w.heap.size w W5) := hid (HB3.out.trans (HB5.out.mono HB3.out.size))
  clear hb5 hq0 CX
  have hq0 : W5.cell? ⟨W2.heap.size, 0, none⟩ = some (.int .i64 2) := (cell_of_row _ _ _ _ _ _ HC5.out).trans rfl
  have hq1 : W5.cell? ⟨W2.heap.size, 1, none⟩ = some (.int .i64 2) := (cell_of_row _ _ _ _ _ _ HC5.out).trans rfl
  have hq2 : W5.cell? ⟨W2.heap.size, 2, none⟩ = some (.int .i64 2) := (cell_of_row _ _ _ _ _ _ HC5.out).trans rfl
  have hfe : FloatKind.f64.format.order 4604930618986332160 4604930618986332160 = some .eq := by decide +kernel
  go_wp2
  go_ret
  exact ⟨rfl, HBW.out⟩
def prl : List Pr → List Value
  | [] => []
  | p :: ps => .int .i64 p.1 :: .int .i64 p.2 :: prl ps
theorem prl_length : ∀ (ps : List Pr), (prl ps).length = ps.length * 2
  | [] => rfl
  | p :: ps => by simp [prl, prl_length ps]; omega
theorem prl_append : ∀ (a b : List Pr), prl (a ++ b) = prl a ++ prl b
  | [], b => rfl
  | p :: a, b => by simp [prl, prl_append a b]
theorem prl_fst : ∀ (ps : List Pr) (i : Nat), i < ps.length → (prl ps)[i * 2]? = some (.int .i64 (ps.getD i (0, 0)).1)
  | p :: ps, 0, _ => rfl
  | p :: ps, i + 1, h => by
    rw [show (i + 1) * 2 = i * 2 + 1 + 1 by omega]
    simp only [prl, List.getElem?_cons_succ]
    rw [prl_fst ps i (by simpa using h)]
    rfl
theorem prl_snd : ∀ (ps : List Pr) (i : Nat), i < ps.length → (prl ps)[i * 2 + 1]? = some (.int .i64 (ps.getD i (0, 0)).2)
  | p :: ps, 0, _ => rfl
  | p :: ps, i + 1, h => by
    rw [show (i + 1) * 2 + 1 = i * 2 + 1 + 1 + 1 by omega]
    simp only [prl, List.getElem?_cons_succ]
    rw [prl_snd ps i (by simpa using h)]
    rfl
theorem prl_one : ∀ (ps : List Pr), ∀ u ∈ prl ps, u.oneCell' = true
  | [], u, h => by cases h
  | p :: ps, u, h => by
    simp only [prl, List.mem_cons] at h
    rcases h with rfl | rfl | h
    · rfl
    · rfl
    · exact prl_one ps u h
theorem prl_cell {w : World} {b off : Nat} {ps : List Pr} (h : ∀ j, j < ps.length → w.cell? ⟨b, off + j * 2, none⟩ = some (.int .i64 (ps.getD j (0, 0)).1) ∧ w.cell? ⟨b, off + j * 2 + 1, none⟩ = some (.int .i64 (ps.getD j (0, 0)).2)) (j : Nat) (u : Value) (hj : (prl ps)[j]? = some u) :
    w.cell? ⟨b, off + j, none⟩ = some u := by
  have hlt : j < ps.length * 2 := by have := (List.getElem?_eq_some_iff.1 hj).1; rwa [prl_length] at this
  rcases Nat.mod_two_eq_zero_or_one j with e | e
  · have e2 : j = j / 2 * 2 := by omega
    rw [e2] at hj ⊢
    rw [prl_fst ps _ (by omega)] at hj
    rw [(h (j / 2) (by omega)).1, hj]
  · have e2 : j = j / 2 * 2 + 1 := by omega
    rw [e2] at hj ⊢
    rw [prl_snd ps _ (by omega)] at hj
    rw [← Nat.add_assoc, (h (j / 2) (by omega)).2, hj]
theorem info_pr : (Tryd.prog.info? 51).map (fun i => (i.zero, i.size, i.bytes)) = some (some (.agg #[.int .i64 0, .int .i64 0]), 2, 16) := by kernel_rfl
theorem wpList_append_prs {w : World} {ops : Array Oper} {rest : List Oper} {o : Oper} {a : Act} {Q : Exit → Act → World → Prop} (hgd : o.guard = none) (s x : Operand)
    (ho : o.op = .call { callee := .builtin .append, args := #[s, x], argTypes := #[25, 25] })
    (base : Nat) (v : Value) (k : Nat) (xs : List Value) (hs : a.eval s = v) (hown : w.ownsRow base 51 2 v k xs)
    (u : Value) (ps : List Pr) (hx : a.eval x = u) (hu : HP w u ps) (hbytes : (k + ps.length) * 16 ≤ 140737488355328) (hbase : base ≤ w.heap.size)
    (h : ∀ v' w', w'.ownsRow base 51 2 v' (k + ps.length) (xs ++ prl ps) → w.grownBy w' v.ownBlock → wpList Tryd.prog ops Q rest (a.put o.dst v') w') : wpList Tryd.prog ops Q (o :: rest) a w := by
  obtain ⟨i0, hi, hz0, hz1, hz2⟩ := info_parts info_pr
  obtain ⟨⟨p, c, rfl, hlc, hm, hn0, hcell⟩, _⟩ := hu
  cases p with
  | none =>
    have hc0 := hn0 rfl
    subst hc0
    have e : ps = [] := List.length_eq_zero_iff.1 (by omega)
    subst e
    refine wpList_append_own_none hgd s x 25 ho base 51 i0 2 Tryd.underlying25 hi v k xs hs hown hx ?_
    exact h v w (by simpa [prl] using hown) ⟨rfl, rfl, rfl, Nat.le_refl _, fun _ _ _ => rfl⟩
  | some ad =>
    refine wpList_append_own w hgd s x 25 ho base 51 i0 (.agg #[.int .i64 0, .int .i64 0]) 2 16 Tryd.underlying25 hi hz0 hz1 hz2 rfl (by decide) v k xs hs hown ad ps.length c (prl ps) hx (prl_length _) ?_ (prl_one ps) (by unfold maxLen; omega) hbytes hbase (fun v' w' h1 h2 _ => h v' w' h1 h2)
    intro j y hj
    have hne : ps ≠ [] := fun e => by subst e; cases hj
    obtain ⟨b, off, e, hh⟩ := hcell hne
    cases e
    rw [Go.WideShapes.add_plain]
    exact prl_cell hh j y hj
theorem HP.of_own {w : World} {B : Nat} {v : Value} {ps : List Pr} (h : w.ownsRow B 51 2 v ps.length (prl ps)) (hb : ∀ p ∈ ps, (-9223372036854775808 ≤ p.1 ∧ p.1 < 9223372036854775808) ∧ (-9223372036854775808 ≤ p.2 ∧ p.2 < 9223372036854775808)) : HP w v ps := by
  refine ⟨?_, hb⟩
  have hc := @World.ownsRow.cells w B 51 2 v ps.length (prl ps) h
  rcases h.2 with ⟨rfl, e0⟩ | ⟨g, cap, cur, rfl, hB, _, hn, hm, _, _⟩
  · have e : ps = [] := List.length_eq_zero_iff.1 e0
    subst e
    exact ⟨none, 0, rfl, Nat.le_refl _, Nat.zero_le _, fun _ => rfl, fun h => absurd rfl h⟩
  · refine ⟨_, cap, rfl, hn, hm, (fun e => by cases e), fun _ => ⟨g, 0, rfl, fun j hj => ?_⟩⟩
    have q1 := @hc g rfl (j * 2) _ (prl_fst ps j hj)
    have q2 := @hc g rfl (j * 2 + 1) _ (prl_snd ps j hj)
    rw [Go.WideShapes.add_plain] at q1 q2
    exact ⟨q1, by rw [Nat.add_assoc]; exact q2⟩
set_option maxRecDepth 100000 in
set_option maxHeartbeats 4000000 in
theorem may_any (w : World) (v : Value) (ps : List Pr) (hP : HP w v ps) :
    Calls Tryd.prog 12 #[v] w fun e w' => e = .returned (.bool (mayL ps)) ∧ Below w.heap.size w w' := by
  obtain ⟨n, HLn⟩ : ∃ n, Hid (ps.length = n) := ⟨_, rfl⟩
  have HPH := hid hP
  obtain ⟨p0, c, rfl, hc1, hc2⟩ := hP.open
  unfold maxLen at hc2
  rw [HLn.out] at hc1 HPH ⊢
  clear hP
  go_enter Tryd.func12, Tryd.ntmps12
  by_cases hbig : 8192 < n
  · have HM : Hid (mayL ps = false) := hid (by unfold mayL; rw [HLn.out, decide_eq_false (by omega)]; rfl)
    go_wp2
    go_ret
    exact ⟨by rw [HM.out]; rfl, Below.refl _ _⟩
  · go_wp2
    go_loopw [3] (fun x wr => ∃ k : Nat, k ≤ n ∧ x = .int .i64 k ∧ Hid ((ps.take k).all mayP = true) ∧ Hid (Below w.heap.size w wr)) (fun x _ => n - (intOf x).toNat)
    case atStart => exact ⟨0, Nat.zero_le _, rfl, hid rfl, hid (Below.refl _ _)⟩
    case round =>
      obtain ⟨k, hk, rfl, HA, HBr⟩ := hrel
      by_cases hkn : k < n
      · obtain ⟨b, off, c', ev, -, -, hbl, hcl⟩ := HPH.out.ne (by rw [HLn.out]; omega)
        simp only [Value.slice.injEq] at ev
        obtain ⟨rfl, -, rfl⟩ := ev
        have hcs := (hcl k (by rw [HLn.out]; exact hkn))
        have hc3 := (HBr.out.cell (World.block_lt_of_cell? w _ hcs.1)).trans hcs.1
        have hc4 := (HBr.out.cell (World.block_lt_of_cell? w _ hcs.2)).trans hcs.2
        obtain ⟨q, HQ⟩ : ∃ q, Hid (ps.getD k (0, 0) = q) := ⟨_, rfl⟩
        rw [HQ.out] at hc3 hc4
        obtain ⟨s, m⟩ := q
        simp only [] at hc3 hc4
        clear hcs hcl
        have HB3 : Hid (Below w.heap.size w (wr.alloc (.cells #[.int .i64 s, .int .i64 m] 51))) := hid (HBr.out.alloc HBr.out.size _)
        cases hm : mayP (s, m) with
        | true =>
          have hm' := mayP_iff.1 hm
          simp only [] at hm'
          obtain ⟨m1, m2, m3, m4⟩ := hm'
          have HA2 : Hid ((ps.take (k + 1)).all mayP = true) := hid (by
            rw [List.take_succ_eq_append_getElem (by rw [HLn.out]; exact hkn), List.all_append, HA.out]
            have e : ps[k]'(by rw [HLn.out]; exact hkn) = (s, m) := by
              rw [← HQ.out, List.getD_eq_getElem?_getD, List.getElem?_eq_getElem (by rw [HLn.out]; exact hkn)]
              rfl
            simp [e, hm])
          clear hm
          go_wp2
          exact ⟨⟨k + 1, by omega, by go_num, HA2, HB3⟩, by simp [intOf]; omega⟩
        | false =>
          have HM : Hid (mayL ps = false) := hid (by
            have : ps.all mayP = false := by
              rw [List.all_eq_false]
              refine ⟨ps.getD k (0, 0), ?_, by rw [HQ.out, hm]; decide⟩
              rw [List.getD_eq_getElem?_getD, List.getElem?_eq_getElem (by rw [HLn.out]; exact hkn)]
              exact List.getElem_mem _
            unfold mayL
            rw [this, Bool.and_false])
          have HNO : Hid (¬ (0 ≤ s ∧ s < 32 ∧ 0 ≤ m ∧ m < 255)) := hid (fun z => by rw [mayP_iff.2 z] at hm; cases hm)
          clear hm
          by_cases h1 : s < 0
          · go_wp2
            go_ret
            exact ⟨by rw [HM.out]; rfl, HB3.out⟩
          · by_cases h2 : 32 ≤ s
            · go_wp2
              go_ret
              exact ⟨by rw [HM.out]; rfl, HB3.out⟩
            · by_cases h3 : m < 0
              · go_wp2
                go_ret
                exact ⟨by rw [HM.out]; rfl, HB3.out⟩
              · have h4 : 255 ≤ m := by have := HNO.out; omega
                go_wp2
                go_ret
                exact ⟨by rw [HM.out]; rfl, HB3.out⟩
      · have HM : Hid (mayL ps = true) := hid (by
          have := HA.out
          rw [List.take_of_length_le (by rw [HLn.out]; omega)] at this
          unfold mayL
          rw [this, HLn.out, decide_eq_true (by omega)]
          rfl)
        go_wp2
        go_ret
        exact ⟨by rw [HM.out]; rfl, HBr.out⟩
set_option maxRecDepth 100000 in
theorem lmay_any (w : World) (v : Value) (ps : List Pr) (hP : HP w v ps) :
    Calls Tryd.prog 26 #[v] w fun e w' => e = .returned (.bool (mayL ps)) ∧ Below w.heap.size w w' := by
  have CM := hid (may_any w v ps hP)
  obtain ⟨p, c, ev, -, -⟩ := hP.open
  generalize ps.length = n at ev
  subst ev
  clear hP
  go_enter Tryd.func26, Tryd.ntmps26
  go_wp2_with fail
  refine CM.out.mono ?_
  rintro e w1 ⟨rfl, hb⟩
  have HB := hid hb
  clear hb CM
  obtain ⟨r, HR⟩ : ∃ r, Hid (mayL ps = r) := ⟨_, rfl⟩
  rw [HR.out]
  go_wp2
  go_ret
  exact ⟨by rw [HR.out]; rfl, HB.out⟩
end Go.Proofs.YtlhjpflljokinaaDoor.Hz
namespace Go.Proofs.YtlhjpflljokinaaDoor
open Go Go.RowKit Hz
def OkPr (q : Pr) : Prop := (-9223372036854775808 ≤ q.1 ∧ q.1 < 9223372036854775808) ∧ (-9223372036854775808 ≤ q.2 ∧ q.2 < 9223372036854775808)
def Spr (ps : List Pr) (a b c : Nat) : Prop := a = Hy.places Prod.fst 32 (ps.map natP) ∧ b = Hy.places Prod.snd 255 (ps.map natP) ∧ ∃ m, Hy.MaxM (ps.map natP) m ∧ c = m.length
theorem Spr.bound {ps : List Pr} {a b c : Nat} (h : Spr ps a b c) (hm : ps.all mayP = true) : c ≤ a ∧ c ≤ b := by
  obtain ⟨rfl, rfl, m, h1, rfl⟩ := h
  exact ⟨h1.1.le_servers (mayL_lt hm).1, h1.1.le_numbers (mayL_lt hm).2⟩
theorem Spr.small {ps : List Pr} {a b c : Nat} (h : Spr ps a b c) : a ≤ 32 ∧ b ≤ 255 := by
  obtain ⟨rfl, rfl, m, h1, rfl⟩ := h
  unfold Hy.places
  exact ⟨Nat.le_trans (List.countP_le_length ..) (by simp), Nat.le_trans (List.countP_le_length ..) (by simp)⟩
theorem Spr.more {ps : List Pr} {p : Pr} {a b c a' b' c' : Nat} (h : Spr ps a b c) (h' : Spr (ps ++ [p]) a' b' c') (hm : (ps ++ [p]).all mayP = true) : (a ≤ a' ∧ a' ≤ a + 1) ∧ (b ≤ b' ∧ b' ≤ b + 1) ∧ c ≤ c' ∧ c' ≤ c + 1 := by
  obtain ⟨rfl, rfl, m, h1, rfl⟩ := h
  obtain ⟨rfl, rfl, m', h1', rfl⟩ := h'
  have e : (ps ++ [p]).map natP = ps.map natP ++ [natP p] := by simp
  rw [e] at h1' ⊢
  have hp := mayL_lt hm
  rw [e] at hp
  have hpm : natP p ∈ ps.map natP ++ [natP p] := by simp
  exact ⟨Hy.places_more _ _ _ _ (hp.1 _ hpm), Hy.places_more _ _ _ _ (hp.2 _ hpm), Hy.max_more h1 h1'⟩
theorem LoQ.cases {ps : List Pr} {e : Ending} (h : LoQ ps e) : ∃ (a b c : Nat) (er : Int), e = .returned (.tuple #[.agg #[.int .i64 (a : Int), .int .i64 (b : Int), .int .i64 (c : Int)], .int .i64 er]) ∧ (mayL ps = true ∧ er = 0 ∧ Spr ps a b c ∨ mayL ps = false ∧ er = 230) := by
  cases hm : mayL ps with
  | true =>
    obtain ⟨m, h1, h2⟩ := h.1 hm
    exact ⟨_, _, _, 0, h2, .inl ⟨rfl, rfl, rfl, rfl, m, h1, rfl⟩⟩
  | false => exact ⟨0, 0, 0, 230, h.2 hm, .inr ⟨rfl, rfl⟩⟩
set_option maxRecDepth 100000 in
set_option maxHeartbeats 8000000 in
theorem hgrows_walk (w : World) (v : Value) (ps : List Pr) (q : Pr) (hP : HP w v ps) (hq : OkPr q) (hl : ps.length ≤ 8796093021952) (hT : TabAt 0 Lib.deBruijn32tab w) :
    Calls Tryd.prog 4 #[v, .agg #[.int .i64 q.1, .int .i64 q.2]] w fun e w' => e = .returned (.bool true) ∧ Below w.heap.size w w' := by
  obtain ⟨s, n⟩ := q
  obtain ⟨hs, hn⟩ := hq
  simp only [] at hs hn
  obtain ⟨W1, HW1⟩ : ∃ W1, Hid (w.alloc (.cells #[.int .i64 s, .int .i64 n] 51) = W1) := ⟨_, rfl⟩
  have HB1 : Hid (Below w.heap.size w W1) := by rw [← HW1.out]; exact (Below.refl _ w).alloc (Nat.le_refl _) _
  have HC1 : Hid (W1.heap[w.heap.size]? = some (.cells #[.int .i64 s, .int .i64 n] 51 (0, 0))) := by rw [← HW1.out]; exact heap_alloc_new w _
  have HPw := hid hP
  have HTw := hid hT
  have CL := hid (lives_any W1 (tab_below hT HB1.out))
  have HBN : Hid (∀ p ∈ ps ++ [(s, n)], (-9223372036854775808 ≤ p.1 ∧ p.1 < 9223372036854775808) ∧ (-9223372036854775808 ≤ p.2 ∧ p.2 < 9223372036854775808)) := hid (fun p hp => by
    rcases List.mem_append.1 hp with q | q
    · exact hP.2 p q
    · rw [List.mem_singleton.1 q]; exact ⟨hs, hn⟩)
  obtain ⟨p0, c0, ev, -, -⟩ := hP.open
  obtain ⟨n0, HN0⟩ : ∃ n0, Hid (ps.length = n0) := ⟨_, rfl⟩
  rw [HN0.out] at ev hl
  subst ev
  clear hP hT hs hn
  go_enter Tryd.func4, Tryd.ntmps4
  go_wp2_with fail
  rw [HW1.out]
  refine CL.out.mono ?_
  rintro e W2 ⟨rfl, hb2⟩
  have HB2 : Hid (Below w.heap.size w W2) := hid (HB1.out.trans (hb2.mono HB1.out.size))
  have HC2 : Hid (W2.heap[w.heap.size]? = some (.cells #[.int .i64 s, .int .i64 n] 51 (0, 0))) := hid ((hb2.block _ (Array.getElem?_eq_some_iff.1 HC1.out).1).trans HC1.out)
  clear hb2 CL HW1
  have CA := hid (look_any W2 _ ps (HPw.out.below HB2.out) (tab_below HTw.out HB2.out))
  go_wp2_with fail
  refine CA.out.mono ?_
  rintro e W3 ⟨hLo, hb3⟩
  obtain ⟨a1, a2, a3, er, rfl, hc⟩ := LoQ.cases hLo
  have HCA := hid hc
  have HB3 : Hid (Below w.heap.size w W3) := hid (HB2.out.trans (hb3.mono HB2.out.size))
  have HC3 : Hid (W3.heap[w.heap.size]? = some (.cells #[.int .i64 s, .int .i64 n] 51 (0, 0))) := hid ((hb3.block _ (Array.getElem?_eq_some_iff.1 HC2.out).1).trans HC2.out)
  clear hc hLo hb3 CA
  obtain ⟨W4, HW4⟩ : ∃ W4, Hid (W3.alloc (.cells #[.int .i64 (a1 : Int), .int .i64 (a2 : Int), .int .i64 (a3 : Int)] 32) = W4) := ⟨_, rfl⟩
  have HB4 : Hid (Below w.heap.size w W4) := by rw [← HW4.out]; exact hid (HB3.out.alloc HB3.out.size _)
  have HC4 : Hid (W4.heap[w.heap.size]? = some (.cells #[.int .i64 s, .int .i64 n] 51 (0, 0))) := by rw [← HW4.out]; exact hid ((Below.heap_alloc _ _ _ (Array.getElem?_eq_some_iff.1 HC3.out).1).trans HC3.out)
  have HD4 : Hid (W4.heap[W3.heap.size]? = some (.cells #[.int .i64 (a1 : Int), .int .i64 (a2 : Int), .int .i64 (a3 : Int)] 32 (0, 0))) := by rw [← HW4.out]; exact heap_alloc_new W3 _
  obtain ⟨ga, HGA⟩ : ∃ ga, Hid (W3.heap.size = ga) := ⟨_, rfl⟩
  rw [HGA.out] at HD4
  have HG0 : Hid (w.heap.size < ga) := hid (by have := (Array.getElem?_eq_some_iff.1 HC3.out).1; have := HGA.out; omega)
  have HE4 : Hid (W4.ownsRow W4.heap.size 51 2 (.slice none 0 0) 0 []) := hid (World.ownsRow_nil ..)
  have HP4 := hid (HPw.out.below HB4.out)
  go_wp2_with (first | (rw [HW4.out, HGA.out]; at_builtin; refine wpList_append_prs rfl _ _ rfl W4.heap.size _ 0 [] rfl HE4.out _ ps rfl HP4.out ?q1 (Nat.le_refl _) ?_) | fail)
  case q1 => rw [HN0.out]; omega
  intro v5 W5 hown5 hgr5
  have HO5 := hid hown5
  have HB45 : Hid (Below W4.heap.size W4 W5) := hid ⟨hgr5.os, hgr5.tape, hgr5.output, hgr5.size, fun k hk => hgr5.block k hk (by simp [Value.ownBlock])⟩
  have HB5 : Hid (Below w.heap.size w W5) := hid (HB4.out.trans (HB45.out.mono HB4.out.size))
  have HC5 : Hid (W5.heap[w.heap.size]? = some (.cells #[.int .i64 s, .int .i64 n] 51 (0, 0))) := hid ((HB45.out.block _ (Array.getElem?_eq_some_iff.1 HC4.out).1).trans HC4.out)
  have HD5 : Hid (W5.heap[ga]? = some (.cells #[.int .i64 (a1 : Int), .int .i64 (a2 : Int), .int .i64 (a3 : Int)] 32 (0, 0))) := hid ((HB45.out.block _ (Array.getElem?_eq_some_iff.1 HD4.out).1).trans HD4.out)
  clear hown5 hgr5 HP4
  have hq0 : W5.cell? ⟨w.heap.size, 0, none⟩ = some (.int .i64 s) := (cell_of_row _ _ _ _ _ _ HC5.out).trans rfl
  have hq1 : W5.cell? ⟨w.heap.size, 1, none⟩ = some (.int .i64 n) := (cell_of_row _ _ _ _ _ _ HC5.out).trans rfl
  obtain ⟨W6, HW6⟩ : ∃ W6, Hid (W5.alloc (.cells #[.int .i64 s, .int .i64 n] 51) = W6) := ⟨_, rfl⟩
  have HB56 : Hid (Below W5.heap.size W5 W6) := by rw [← HW6.out]; exact hid ((Below.refl _ W5).alloc (Nat.le_refl _) _)
  have HX6 : Hid (W6.heap[W5.heap.size]? = some (.cells #[.int .i64 s, .int .i64 n] 51 (0, 0))) := by rw [← HW6.out]; exact heap_alloc_new W5 _
  have HO6 : Hid (W6.ownsRow W4.heap.size 51 2 v5 ps.length (prl ps)) := hid (HO5.out.kept ⟨HB56.out.os, HB56.out.tape, HB56.out.output, HB56.out.size, fun k hk _ => HB56.out.block k hk⟩ (none_or _))
  have HP6 : Hid (HP W6 (.slice (some ⟨W5.heap.size, 0, none⟩) 1 1) [(s, n)]) := hid (by
    refine ⟨⟨_, 1, rfl, Nat.le_refl _, by decide, (fun e => by cases e), fun _ => ⟨W5.heap.size, 0, rfl, fun j hj => ?_⟩⟩, fun p hp => HBN.out p (List.mem_append_right _ hp)⟩
    obtain rfl : j = 0 := by simp only [List.length_cons, List.length_nil] at hj; omega
    exact ⟨(cell_of_row _ _ _ _ _ _ HX6.out).trans rfl, (cell_of_row _ _ _ _ _ _ HX6.out).trans rfl⟩)
  go_wp2_with (first | (rw [HW6.out]; at_builtin; refine wpList_append_prs rfl _ _ rfl W4.heap.size _ _ _ rfl HO6.out _ [(s, n)] rfl HP6.out ?q2 (Nat.le_trans HB45.out.size HB56.out.size) ?_) | fail)
  case q2 => rw [HN0.out]; simp only [List.length_cons, List.length_nil]; omega
  intro v7 W7 hown7 hgr7
  have HB47 : Hid (Below W4.heap.size W4 W7) := hid (by
    refine (HB45.out.trans (HB56.out.mono HB45.out.size)).trans ⟨hgr7.os, hgr7.tape, hgr7.output, hgr7.size, fun k hk => hgr7.block k ?_ ?_⟩
    · have := HB45.out.size; have := HB56.out.size; omega
    · intro e
      have := HO6.out.lt k e.symm
      omega)
  have HP7 : Hid (HP W7 v7 (ps ++ [(s, n)])) := hid (HP.of_own (B := W4.heap.size) (by rw [List.length_append, prl_append]; exact hown7) HBN.out)
  have HB7 : Hid (Below w.heap.size w W7) := hid (HB4.out.trans (HB47.out.mono HB4.out.size))
  have HD7 : Hid (W7.heap[ga]? = some (.cells #[.int .i64 (a1 : Int), .int .i64 (a2 : Int), .int .i64 (a3 : Int)] 32 (0, 0))) := hid ((HB47.out.block _ (Array.getElem?_eq_some_iff.1 HD4.out).1).trans HD4.out)
  clear hown7 hgr7 HO6 HP6 HX6 HB56 HW6 HO5 HB45 HC5 HD5 hq0 hq1 HE4
  obtain ⟨p7, c7, ev, -, -⟩ := HP7.out.open
  obtain ⟨n7, HN7⟩ : ∃ n7, Hid ((ps ++ [(s, n)]).length = n7) := ⟨_, rfl⟩
  rw [HN7.out] at ev
  subst ev
  have CB := hid (look_any W7 _ _ HP7.out (tab_below HTw.out HB7.out))
  go_wp2_with fail
  refine CB.out.mono ?_
  rintro e W8 ⟨hLo, hb8⟩
  obtain ⟨b1, b2, b3, fr, rfl, hc⟩ := LoQ.cases hLo
  have HCB := hid hc
  have HB78 := hid hb8
  have HB8 : Hid (Below w.heap.size w W8) := hid (HB7.out.trans (hb8.mono HB7.out.size))
  clear hc hLo hb8 CB
  obtain ⟨W9, HW9⟩ : ∃ W9, Hid (W8.alloc (.cells #[.int .i64 (b1 : Int), .int .i64 (b2 : Int), .int .i64 (b3 : Int)] 32) = W9) := ⟨_, rfl⟩
  have HB89 : Hid (Below W8.heap.size W8 W9) := by rw [← HW9.out]; exact hid ((Below.refl _ W8).alloc (Nat.le_refl _) _)
  have HB79 : Hid (Below W7.heap.size W7 W9) := hid (HB78.out.trans (HB89.out.mono HB78.out.size))
  have HB9 : Hid (Below w.heap.size w W9) := hid (HB8.out.trans (HB89.out.mono HB8.out.size))
  have HD9 : Hid (W9.heap[ga]? = some (.cells #[.int .i64 (a1 : Int), .int .i64 (a2 : Int), .int .i64 (a3 : Int)] 32 (0, 0))) := hid ((HB79.out.block _ (Array.getElem?_eq_some_iff.1 HD7.out).1).trans HD7.out)
  have HF9 : Hid (W9.heap[W8.heap.size]? = some (.cells #[.int .i64 (b1 : Int), .int .i64 (b2 : Int), .int .i64 (b3 : Int)] 32 (0, 0))) := by rw [← HW9.out]; exact heap_alloc_new W8 _
  obtain ⟨gb, HGB⟩ : ∃ gb, Hid (W8.heap.size = gb) := ⟨_, rfl⟩
  rw [HGB.out] at HF9
  have HP9 := hid (HP7.out.below HB79.out)
  have HPa := hid (HPw.out.below HB9.out)
  have CM := hid (lmay_any W9 _ ps HPa.out)
  go_wp2_with (first | (rw [HW9.out, HGB.out]; fail) | fail)
  rw [HW9.out, HGB.out]
  refine CM.out.mono ?_
  rintro e Wa ⟨rfl, hba⟩
  have HBa9 := hid hba
  have HBa : Hid (Below w.heap.size w Wa) := hid (HB9.out.trans (hba.mono HB9.out.size))
  have HDa : Hid (Wa.heap[ga]? = some (.cells #[.int .i64 (a1 : Int), .int .i64 (a2 : Int), .int .i64 (a3 : Int)] 32 (0, 0))) := hid ((hba.block _ (Array.getElem?_eq_some_iff.1 HD9.out).1).trans HD9.out)
  have HFa : Hid (Wa.heap[gb]? = some (.cells #[.int .i64 (b1 : Int), .int .i64 (b2 : Int), .int .i64 (b3 : Int)] 32 (0, 0))) := hid ((hba.block _ (Array.getElem?_eq_some_iff.1 HF9.out).1).trans HF9.out)
  clear hba CM
  rcases HCA.out with ⟨ma, rfl, SA⟩ | ⟨ma, rfl⟩
  · rw [ma]
    have HSA := hid SA
    have HMA := hid ma
    clear ma SA
    have CM2 := hid (lmay_any Wa _ _ (HP9.out.below HBa9.out))
    go_wp2_with fail
    refine CM2.out.mono ?_
    rintro e Wb ⟨rfl, hbb⟩
    have HBb : Hid (Below w.heap.size w Wb) := hid (HBa.out.trans (hbb.mono HBa.out.size))
    have HDb : Hid (Wb.heap[ga]? = some (.cells #[.int .i64 (a1 : Int), .int .i64 (a2 : Int), .int .i64 (a3 : Int)] 32 (0, 0))) := hid ((hbb.block _ (Array.getElem?_eq_some_iff.1 HDa.out).1).trans HDa.out)
    have HFb : Hid (Wb.heap[gb]? = some (.cells #[.int .i64 (b1 : Int), .int .i64 (b2 : Int), .int .i64 (b3 : Int)] 32 (0, 0))) := hid ((hbb.block _ (Array.getElem?_eq_some_iff.1 HFa.out).1).trans HFa.out)
    have HPb := hid ((HP9.out.below HBa9.out).below hbb)
    have HPc := hid (HPw.out.below HBb.out)
    clear hbb CM2
    rcases HCB.out with ⟨mb, rfl, SB⟩ | ⟨mb, rfl⟩
    · rw [mb]
      obtain ⟨q1, q2⟩ := HSA.out.bound (mayL_all HMA.out)
      obtain ⟨q3, q4⟩ := SB.bound (mayL_all mb)
      obtain ⟨⟨q5, q6⟩, ⟨q7, q8⟩, q9, q10⟩ := HSA.out.more SB (mayL_all mb)
      obtain ⟨z1, z2⟩ := HSA.out.small
      clear mb SB HSA HMA
      have d0 : Wb.cell? ⟨ga, 0, none⟩ = some (.int .i64 (a1 : Int)) := (cell_of_row _ _ _ _ _ _ HDb.out).trans rfl
      have d1 : Wb.cell? ⟨ga, 1, none⟩ = some (.int .i64 (a2 : Int)) := (cell_of_row _ _ _ _ _ _ HDb.out).trans rfl
      have d2 : Wb.cell? ⟨ga, 2, none⟩ = some (.int .i64 (a3 : Int)) := (cell_of_row _ _ _ _ _ _ HDb.out).trans rfl
      have f0 : Wb.cell? ⟨gb, 0, none⟩ = some (.int .i64 (b1 : Int)) := (cell_of_row _ _ _ _ _ _ HFb.out).trans rfl
      have f1 : Wb.cell? ⟨gb, 1, none⟩ = some (.int .i64 (b2 : Int)) := (cell_of_row _ _ _ _ _ _ HFb.out).trans rfl
      have f2 : Wb.cell? ⟨gb, 2, none⟩ = some (.int .i64 (b3 : Int)) := (cell_of_row _ _ _ _ _ _ HFb.out).trans rfl
      go_wp2
      go_ret
      exact ⟨by
        show Ending.returned (Value.bool (decide ((b2 : Int) ≤ (a2 : Int) + 1))) = _
        rw [decide_eq_true (by omega)], HBb.out⟩
    · rw [mb]
      have HMB := hid mb
      clear mb
      have CM3 := hid (lmay_any Wb _ ps HPc.out)
      rw [HMA.out] at CM3
      go_wp2_with fail
      refine CM3.out.mono ?_
      rintro e Wc ⟨rfl, hbc⟩
      have HBc : Hid (Below w.heap.size w Wc) := hid (HBb.out.trans (hbc.mono HBb.out.size))
      have CM4 := hid (lmay_any Wc _ _ (HPb.out.below hbc))
      rw [HMB.out] at CM4
      clear hbc CM3
      go_wp2_with fail
      refine CM4.out.mono ?_
      rintro e Wd ⟨rfl, hbd⟩
      have HBd : Hid (Below w.heap.size w Wd) := hid (HBc.out.trans (hbd.mono HBc.out.size))
      clear hbd CM4
      go_wp2
      go_ret
      exact ⟨rfl, HBd.out⟩
  · rw [ma]
    have HMA := hid ma
    clear ma
    have CM3 := hid (lmay_any Wa _ ps (HPw.out.below HBa.out))
    rw [HMA.out] at CM3
    go_wp2_with fail
    refine CM3.out.mono ?_
    rintro e Wc ⟨rfl, hbc⟩
    have HBc : Hid (Below w.heap.size w Wc) := hid (HBa.out.trans (hbc.mono HBa.out.size))
    have CM4 := hid (lmay_any Wc _ _ ((HP9.out.below HBa9.out).below hbc))
    clear hbc CM3
    rcases HCB.out with ⟨mb, rfl, SB⟩ | ⟨mb, rfl⟩
    · rw [mb] at CM4
      clear mb SB
      go_wp2_with fail
      refine CM4.out.mono ?_
      rintro e Wd ⟨rfl, hbd⟩
      have HBd : Hid (Below w.heap.size w Wd) := hid (HBc.out.trans (hbd.mono HBc.out.size))
      clear hbd CM4
      go_wp2
      go_ret
      exact ⟨rfl, HBd.out⟩
    · rw [mb] at CM4
      clear mb
      go_wp2_with fail
      refine CM4.out.mono ?_
      rintro e Wd ⟨rfl, hbd⟩
      have HBd : Hid (Below w.heap.size w Wd) := hid (HBc.out.trans (hbd.mono HBc.out.size))
      clear hbd CM4
      go_wp2
      go_ret
      exact ⟨rfl, HBd.out⟩
end Go.Proofs.YtlhjpflljokinaaDoor
namespace Go.Proofs.YtlhjpflljokinaaDoor
open Go.ChangeShapes Go.WideShapes Go.ChangeAt Go.RowKit Hz
variable {H : Type} {enc : TypeId × Value → H} {W : World}
theorem Opn.cells_pr : Tryd.prog.cellsOf 51 = 2 := by kernel_rfl
theorem Opn.cells_intz : Tryd.prog.cellsOf 3 = 1 := by kernel_rfl
theorem Opn.bytes_pr : Tryd.prog.bytesOf 51 = 16 := by kernel_rfl
theorem open_HP {base : Nat} {v : Value} {d : DataW H} {p : List MemPlace} (h : DataW.Trod enc Tryd.prog W base (fun _ => true) true 25 v d p) (hv : ∃ a n c, v = .slice a n c) :
    ∃ ps, HP W v ps ∧ ∀ ts ds (j : Nat), (DataW.weightsEach Tryd.prog ts ds).all (· ≤ reachBytes) = true → ts[j]? = some 25 → ds[j]? = some d → ps.length ≤ 8796093021952 := by
  obtain ⟨a, n, c, rfl⟩ := hv
  obtain ⟨fuel, hf⟩ := h
  rcases Go.Deep.open_slice_pairs Tryd.underlying25 Tryd.underlying51 Opn.cells_pr rfl rfl Opn.cells_intz Opn.cells_intz hf with ⟨hcs, hx⟩ | ⟨a, len, cap, m, n, V0, V1, D0, D1, P0, P1, hcs, hb, hl, hm, hmm, hx, hel⟩
  · simp only [Value.cells, List.cons.injEq, and_true] at hcs
    rw [hcs]
    exact ⟨[], ⟨⟨none, 0, rfl, Nat.le_refl _, Nat.zero_le _, fun _ => rfl, fun h => absurd rfl h⟩, fun p hp => by cases hp⟩, fun _ _ _ _ _ _ => Nat.zero_le _⟩
  · simp only [Value.cells, List.cons.injEq, and_true] at hcs
    rw [hcs]
    simp only [if_true] at hmm
    subst hmm
    simp only [Prod.mk.injEq] at hx
    obtain ⟨rfl, _⟩ := hx
    have each : ∀ i, i < len → ∃ q : Pr, OkPr q ∧ V0 i = .int .i64 q.1 ∧ V1 i = .int .i64 q.2 := by
      intro i hi
      obtain ⟨_, _, h3, h4⟩ := hel i (by omega)
      obtain ⟨x, e1, _, w1⟩ := DataW.trod_int Tryd.underlying3 h3
      obtain ⟨y, e2, _, w2⟩ := DataW.trod_int Tryd.underlying3 h4
      have b1 := bounds_i64 w1
      have b2 := bounds_i64 w2
      simp only [List.cons.injEq, and_true] at e1 e2
      exact ⟨(x, y), ⟨⟨b1.1, by omega⟩, ⟨b2.1, by omega⟩⟩, e1, e2⟩
    have hch : ∃ T : Nat → Pr, ∀ i, i < len → OkPr (T i) ∧ V0 i = .int .i64 (T i).1 ∧ V1 i = .int .i64 (T i).2 := by
      refine ⟨fun i => if hi : i < len then Classical.choose (each i hi) else (0, 0), fun i hi => ?_⟩
      simp only [hi, dif_pos]
      exact Classical.choose_spec (each i hi)
    obtain ⟨T, hT⟩ := hch
    have hlen : ((List.range len).map T).length = len := by simp
    have hat : ∀ j, j < len → ((List.range len).map T).getD j (0, 0) = T j := fun j hj => by
      rw [List.getD_eq_getElem?_getD, List.getElem?_map, List.getElem?_range hj]
      rfl
    refine ⟨(List.range len).map T, ⟨⟨some a, _, by rw [hlen], by rw [hlen]; omega, hm, (fun e => by cases e), fun hne => ?_⟩, fun p hp => ?_⟩, fun ts ds j hs ht hd => ?_⟩
    · have h0 : 0 < len := by rw [← hlen]; exact List.length_pos_iff.2 hne
      obtain ⟨b, off, sp⟩ := a
      obtain ⟨hu, _⟩ := hel 0 (by omega)
      have hsp : sp = none := by simpa [Addr.add] using World.cell?_spot hu
      subst hsp
      refine ⟨b, off, rfl, fun i hi => ?_⟩
      rw [hlen] at hi
      obtain ⟨h1, h2, _, _⟩ := hel i (by omega)
      rw [Go.WideShapes.add_plain] at h1 h2
      rw [hat i hi, ← (hT i hi).2.1, ← (hT i hi).2.2]
      exact ⟨h1, by rw [Nat.add_assoc]; exact h2⟩
    · obtain ⟨i, hi, rfl⟩ := List.mem_map.1 hp
      exact (hT i (List.mem_range.1 hi)).1
    · have := sized_slice hs ht hd Tryd.underlying25
      rw [Opn.bytes_pr] at this
      simp only [List.length_map, List.length_range, reachBytes] at this
      rw [hlen]
      omega
set_option maxRecDepth 100000 in
theorem open_prV {base : Nat} {v : Value} (h : Value.okWide Tryd.prog W .any base 51 v) : ∃ q : Pr, OkPr q ∧ v = .agg #[.int .i64 q.1, .int .i64 q.2] := by
  have ht : Tryd.prog.cellTypes Tryd.prog.depth 51 = some [3, 3] := by kernel_rfl
  simp only [Value.okWide, Tryd.underlying51] at h
  obtain ⟨cs, rfl, h1, ts, h2, _, h3⟩ := h
  rw [ht] at h2
  cases h2
  rw [Opn.cells_pr] at h1
  have key : ∀ (i : Nat) (v : Value), cs[i]? = some v → ∃ k : Int, (-9223372036854775808 ≤ k ∧ k < 9223372036854775808) ∧ v = .int .i64 k := fun i v hv => by
    obtain ⟨u, h4, h5⟩ := h3 i v hv
    have hu8 : u = 3 := by
      have := List.mem_of_getElem? h4
      simpa using this
    subst hu8
    simp only [Cell.okWide, Tryd.underlying3] at h5
    cases v <;> simp only [Cell.ok, Tryd.underlying3] at h5
    obtain ⟨rfl, h6⟩ := h5
    have h7 := bounds_i64 (by simpa [Lit.wf, IntKind.has] using h6)
    exact ⟨_, ⟨h7.1, by omega⟩, rfl⟩
  obtain ⟨x, hx, e1⟩ := key 0 cs[0] (Array.getElem?_eq_getElem (by omega))
  obtain ⟨y, hy, e2⟩ := key 1 cs[1] (Array.getElem?_eq_getElem (by omega))
  refine ⟨(x, y), ⟨hx, hy⟩, ?_⟩
  congr 1
  apply Array.ext
  · simp [h1]
  · intro i hi1 hi2
    have : i = 0 ∨ i = 1 := by omega
    rcases this with rfl | rfl
    · exact e1
    · exact e2
end Go.Proofs.YtlhjpflljokinaaDoor
namespace Go.Proofs.YtlhjpflljokinaaDoor
open Go Go.RowKit Go.ChangeShapes Go.WideShapes Go.ChangeAt
def happyLaid : List (String × DataW Unit) := [("math/bits.deBruijn32tab", Rows.laid_math_bits_deBruijn32tab)]
theorem gT32 : Tryd.prog.globalNamed "math/bits.deBruijn32tab" = some 0 := by kernel_rfl
theorem tT32 : (Tryd.prog.globals[0]?).map (·.type) = some 101 := by kernel_rfl
theorem kt_of_laid {W : World} (h : laidMetH Tryd.prog happyLaid W) : TabAt 0 Lib.deBruijn32tab W := by
  rw [MakeChecks.laidMetH_plain _ _ _ (by kernel_rfl)] at h
  have h3 : laidMet Tryd.prog (("math/bits.deBruijn32tab", Lib.tabData .u8 (Lib.deBruijn32tab.map fun k : Nat => (k : Int))) :: []) W := h
  have h4 := Lib.tabIs_of_head gT32 tT32 Tryd.underlying101 Tryd.underlying5 (by kernel_rfl) (by kernel_rfl) h3
  intro j hj
  have h5 := h4.cell gT32 j (by rw [List.length_map]; exact hj)
  rw [h5]
  congr 2
  simp [List.getD, List.getElem?_eq_getElem hj]
end Go.Proofs.YtlhjpflljokinaaDoor
