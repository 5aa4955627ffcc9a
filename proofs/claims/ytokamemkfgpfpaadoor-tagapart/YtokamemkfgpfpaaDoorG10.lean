/- Of the road to tagApartCard_holds: SameBytes, Lists, Frames, FramesB, TgBytes, TagPadEv. -/
import Derived.Test.YtokamemkfgpfpaaDoorG00
import Derived.Test.YtokamemkfgpfpaaDoorChecked
import Derived.Test.YtokamemkfgpfpaaDoorG05
import Derived.Test.YtokamemkfgpfpaaDoorG09
import Derived.Test.YtokamemkfgpfpaaDoorG04
import Derived.Test.YtokamemkfgpfpaaDoorG08
set_option linter.unusedVariables false
set_option linter.unusedSimpArgs false
namespace Go.Proofs.YtokamemkfgpfpaaDoor
open Go.RowKit
theorem take_eq_step (la lb : List Int) (k : Nat) (ha : k < la.length) (hb : k < lb.length) (h : la.take k = lb.take k) (e : la.getD k 0 = lb.getD k 0) : la.take (k + 1) = lb.take (k + 1) := by
  rw [List.take_succ_eq_append_getElem ha, List.take_succ_eq_append_getElem hb, h]
  have e1 : la.getD k 0 = la[k] := by simp [List.getD, List.getElem?_eq_getElem ha]
  have e2 : lb.getD k 0 = lb[k] := by simp [List.getD, List.getElem?_eq_getElem hb]
  rw [e1, e2] at e
  rw [e]
theorem take_ne (la lb : List Int) (k : Nat) (e : la.getD k 0 ≠ lb.getD k 0) : la ≠ lb := fun h => e (by rw [h])
set_option maxHeartbeats 400000 in
theorem sameBytes_any (w : World) (va vb : Value) (la lb : List Int) (ha : HB w va la) (hb : HB w vb lb) :
    Calls Tryd.prog 13 #[va, vb] w fun e w' => e = .returned (.bool (decide (la = lb))) ∧ Dr w w' := by
  by_cases hlen : la.length = lb.length
  · by_cases h0 : 0 < la.length
    · obtain ⟨b1, o1, c1, rfl, hc1, hm1, hk1⟩ := ha.ne h0
      obtain ⟨b2, o2, c2, rfl, hc2, hm2, hk2⟩ := hb.ne (by omega)
      unfold maxLen at hm1 hm2
      have hm : la.length ≤ 9223372036854775807 := by omega
      have HL : Hid (la.length = lb.length) := hlen
      rw [← hlen]
      have hcd : ∀ j, j < la.length → w.cell? ⟨b2, o2 + j, none⟩ = some (.int .u8 (lb.getD j 0)) := fun j hj => hk2 j (by omega)
      clear hlen hk2
      go_enter Tryd.func13, Tryd.ntmps13
      go_wp2
      go_loopw [5] (fun i wr => ∃ k : Nat, k ≤ la.length ∧ i = .int .i64 k ∧ la.take k = lb.take k ∧ Dr w wr) (fun i _ => la.length - (intOf i).toNat)
      case atStart => exact ⟨0, Nat.zero_le _, rfl, rfl, Dr.refl _⟩
      case round =>
        obtain ⟨k, hk, rfl, ht, q, rfl⟩ := hrel
        by_cases hlt : k < la.length
        · have g1 := hk1 k hlt
          have g2 := hcd k hlt
          obtain ⟨x, hx⟩ : ∃ x, la.getD k 0 = x := ⟨_, rfl⟩
          obtain ⟨y, hy⟩ : ∃ y, lb.getD k 0 = y := ⟨_, rfl⟩
          rw [hx] at g1
          rw [hy] at g2
          have HX := hid hx
          have HY := hid hy
          clear hx hy hk1 hcd
          by_cases he : x = y
          · have hne : (x != y) = false := by simpa using he
            have HE := hid he
            clear he
            go_wp2
            go_quiet (fail)
            go_wp2
            exact ⟨⟨k + 1, by omega, by go_num, take_eq_step la lb k hlt (by have := HL.out; omega) ht (by rw [HX.out, HY.out, HE.out]), Dr.one _ _⟩, by simp [intOf]; omega⟩
          · have hne : (x != y) = true := by simpa using he
            go_wp2
            go_quiet (fail)
            go_wp2
            go_ret
            exact ⟨by simp [take_ne la lb k (by rw [HX.out, HY.out]; exact he)], (Dr.one _ _).drewN _⟩
        · go_wp2
          go_ret
          have e : la = lb := by
            have h1 := List.take_of_length_le (show la.length ≤ k by omega)
            have h2 := List.take_of_length_le (show lb.length ≤ k by have := HL.out; omega)
            rw [← h1, ← h2, ht]
          exact ⟨by simp [e], Dr.one _ _⟩
    · obtain ⟨p1, c1, rfl, _, _⟩ := ha.open
      obtain ⟨p2, c2, rfl, _, _⟩ := hb.open
      have e1 : la = [] := List.length_eq_zero_iff.1 (by omega)
      have e2 : lb = [] := List.length_eq_zero_iff.1 (by omega)
      subst e1 e2
      go_enter Tryd.func13, Tryd.ntmps13
      go_wp2
      go_loop [5] (fun i => i = .int .i64 0) (fun _ => 0)
      case atStart => rfl
      case round =>
        subst hrel
        go_wp2
        go_ret
        exact ⟨rfl, Dr.refl _⟩
  · obtain ⟨p1, c1, rfl, _, _⟩ := ha.open
    obtain ⟨p2, c2, rfl, _, _⟩ := hb.open
    have hne : ((la.length : Int) != (lb.length : Int)) = true := by rw [bne_iff_ne]; omega
    go_enter Tryd.func13, Tryd.ntmps13
    go_wp2
    go_ret
    exact ⟨by simp [show la ≠ lb from fun e => hlen (by rw [e])], Dr.refl _⟩
theorem info_bytes : (Tryd.prog.info? 30).map (fun i => (i.zero, i.size, i.bytes)) = some (some (.slice none 0 0), 1, 24) := by kernel_rfl
def BytI (l : List Int) : Prop := ∀ x ∈ l, 0 ≤ x ∧ x < 256
def EL (w0 w : World) (u : Value) (l : List Int) : Prop :=
  (w.ownsRow w0.heap.size 5 1 u l.length (l.map (Value.int .u8)) ∧ BytI l) ∨ HB w0 u l
def OWL (w0 w : World) (v : Value) (ls : List (List Int)) : Prop :=
  ∃ xs, w.ownsRow w0.heap.size 30 1 v ls.length xs ∧ ∀ j, j < ls.length → EL w0 w (xs.getD j undef) (ls.getD j [])
theorem EL.hb {w0 w : World} {u : Value} {l : List Int} (h : EL w0 w u l) (hb : Below w0.heap.size w0 w) : HB w u l := by
  rcases h with ⟨h, hx⟩ | h
  · exact HB.of_own h hx
  · exact h.below hb
theorem own_block_ne {w : World} {B e n : Nat} {v : Value} {xs : List Value} (h : w.ownsRow B e 1 v n xs) {g : Nat} {cur : Array Value} {e' : TypeId} {fz : Nat × Nat} (hg : w.heap[g]? = some (.cells cur e' fz)) (hne : e ≠ e') : v.ownBlock ≠ some g := by
  intro hv
  rcases h.2 with ⟨rfl, _⟩ | ⟨g', cap, cur', rfl, _, hh, _⟩
  · simp [Value.ownBlock] at hv
  · simp only [Value.ownBlock, Option.some.injEq] at hv
    subst hv
    rw [hh] at hg
    simp only [Option.some.injEq, Obj.cells.injEq] at hg
    exact hne hg.2.1
theorem EL.grown {w0 w w' : World} {u : Value} {l : List Int} {row : Option Nat} (h : EL w0 w u l) (hg : w.grownBy w' row) (hr : ∀ g, row = some g → ∃ cur e fz, w.heap[g]? = some (.cells cur e fz) ∧ 5 ≠ e) : EL w0 w' u l := by
  rcases h with ⟨h, hx⟩ | h
  · refine .inl ⟨h.kept hg ?_, hx⟩
    cases hrow : row with
    | none =>
      cases hv : u.ownBlock with
      | none => exact .inl rfl
      | some k => exact .inr (by simp)
    | some g =>
      obtain ⟨cur, e, fz, hh, hne⟩ := hr g hrow
      exact .inr (own_block_ne h hh hne)
  · exact .inr h
theorem OWL.grown {w0 w w' : World} {v : Value} {ls : List (List Int)} {row : Option Nat} (h : OWL w0 w v ls) (hg : w.grownBy w' row) (hr : ∀ g, row = some g → ∃ cur e fz, w.heap[g]? = some (.cells cur e fz) ∧ 5 ≠ e ∧ 30 ≠ e) : OWL w0 w' v ls := by
  obtain ⟨xs, h1, h2⟩ := h
  refine ⟨xs, h1.kept hg ?_, fun j hj => (h2 j hj).grown hg fun g e => ?_⟩
  · cases hrow : row with
    | none =>
      cases hv : v.ownBlock with
      | none => exact .inl rfl
      | some k => exact .inr (by simp)
    | some g =>
      obtain ⟨cur, e, fz, hh, _, hne⟩ := hr g hrow
      exact .inr (own_block_ne h1 hh hne)
  · obtain ⟨cur, e', fz, hh, hne, _⟩ := hr g e
    exact ⟨cur, e', fz, hh, hne⟩
theorem OWL.below {w0 w w' : World} {v : Value} {ls : List (List Int)} (h : OWL w0 w v ls) (hb : Below w.heap.size w w') : OWL w0 w' v ls :=
  h.grown (row := none) ⟨hb.os, hb.tape, hb.output, hb.size, fun k hk _ => hb.block k hk⟩ (fun g e => by cases e)
theorem OWL.hl {w0 w : World} {v : Value} {ls : List (List Int)} (h : OWL w0 w v ls) (hb : Below w0.heap.size w0 w) : HL w v ls := by
  obtain ⟨xs, h1, h2⟩ := h
  by_cases h0 : 0 < ls.length
  · obtain ⟨g, cap, rfl, _, hn, hm, hc⟩ := ownsRow_cells h1 h0
    refine ⟨_, cap, rfl, hn, hm, (fun e => by cases e), fun _ => ⟨g, 0, rfl, fun j hj => ⟨xs.getD j undef, ?_, (h2 j hj).hb hb⟩⟩⟩
    have hx : xs.length = ls.length := by have := h1.1; omega
    exact hc j _ (by simp [List.getD, List.getElem?_eq_getElem (show j < xs.length by omega)])
  · have e : ls = [] := List.length_eq_zero_iff.1 (by omega)
    subst e
    rcases h1.2 with ⟨rfl, _⟩ | ⟨g, cap, cur, rfl, _, _, hn, hm, _⟩
    · exact HL.nil _
    · exact ⟨_, cap, rfl, hn, hm, (fun e => by cases e), fun h => absurd rfl h⟩
theorem OWL.nil (w0 w : World) : OWL w0 w (.slice none 0 0) [] := ⟨[], World.ownsRow_nil _ _ _ _, fun j hj => by simp at hj⟩
theorem getD_app {α : Type} (l m : List α) (d : α) (j : Nat) : (l ++ m).getD j d = if j < l.length then l.getD j d else m.getD (j - l.length) d := by
  simp only [List.getD, List.getElem?_append]
  split <;> rfl
theorem wpList_append_OWL {w0 w : World} {ops : Array Oper} {rest : List Oper} {o : Oper} {a : Act} {Q : Exit → Act → World → Prop} (hgd : o.guard = none) (s x : Operand)
    (ho : o.op = .call { callee := .builtin .append, args := #[s, x], argTypes := #[24, 24] })
    (v : Value) (ls : List (List Int)) (hs : a.eval s = v) (hown : OWL w0 w v ls)
    (ad : Addr) (m c : Nat) (us : List Value) (ns : List (List Int)) (hx : a.eval x = .slice (some ad) m c) (hl : us.length = m) (hn : ns.length = m) (hcell : ∀ j u, us[j]? = some u → w.cell? (ad.add j) = some u)
    (hu : ∀ j, j < m → EL w0 w (us.getD j undef) (ns.getD j [])) (h1 : ∀ u ∈ us, u.oneCell' = true)
    (hbytes : (ls.length + m) * 24 ≤ 140737488355328) (hbase : w0.heap.size ≤ w.heap.size)
    (h : ∀ v' w', OWL w0 w' v' (ls ++ ns) → w.grownBy w' v.ownBlock → (∀ g, v.ownBlock = some g → w0.heap.size ≤ g ∧ BT w g 30) → wpList Tryd.prog ops Q rest (a.put o.dst v') w') : wpList Tryd.prog ops Q (o :: rest) a w := by
  obtain ⟨i0, hi, hz0, hz1, hz2⟩ := info_parts info_bytes
  obtain ⟨xs, hrow, hel⟩ := hown
  have hblk : ∀ g, v.ownBlock = some g → w0.heap.size ≤ g ∧ BT w g 30 := by
    intro g hg
    refine ⟨(hrow.lt g hg).1, ?_⟩
    rcases hrow.2 with ⟨rfl, _⟩ | ⟨g', cap, cur, rfl, _, hh, _⟩
    · simp [Value.ownBlock] at hg
    · simp only [Value.ownBlock, Option.some.injEq] at hg
      subst hg
      exact ⟨cur, _, hh⟩
  refine wpList_append_own w hgd s x 24 ho w0.heap.size 30 i0 (.slice none 0 0) 1 24 Tryd.underlying24 hi hz0 hz1 hz2 rfl (by decide) v ls.length xs hs hrow ad m c us hx (by omega) hcell h1 (by unfold maxLen; omega) hbytes hbase (fun v' w' h2 h3 _ => h v' w' ?_ h3 hblk)
  refine ⟨xs ++ us, by rw [List.length_append, hn]; exact h2, fun j hj => ?_⟩
  have key : ∀ u l, EL w0 w u l → EL w0 w' u l := fun u l he => he.grown h3 fun g hg => by
    obtain ⟨_, cur, fz, hh⟩ := hblk g hg
    exact ⟨cur, _, fz, hh, by decide⟩
  have hxl : xs.length = ls.length := by have := hrow.1; omega
  rw [getD_app, getD_app, hxl]
  rw [List.length_append] at hj
  split
  · exact key _ _ (hel j ‹_›)
  · exact key _ _ (hu _ (by omega))
theorem takel_eq_step (la lb : List (List Int)) (k : Nat) (ha : k < la.length) (hb : k < lb.length) (h : la.take k = lb.take k) (e : la.getD k [] = lb.getD k []) : la.take (k + 1) = lb.take (k + 1) := by
  rw [List.take_succ_eq_append_getElem ha, List.take_succ_eq_append_getElem hb, h]
  have e1 : la.getD k [] = la[k] := by simp [List.getD, List.getElem?_eq_getElem ha]
  have e2 : lb.getD k [] = lb[k] := by simp [List.getD, List.getElem?_eq_getElem hb]
  rw [e1, e2] at e
  rw [e]
set_option maxHeartbeats 400000 in
theorem sameLists_any (w : World) (va vb : Value) (la lb : List (List Int)) (ha : HL w va la) (hb : HL w vb lb) :
    Calls Tryd.prog 8 #[va, vb] w fun e w' => e = .returned (.bool (decide (la = lb))) ∧ Dr w w' := by
  by_cases hlen : la.length = lb.length
  · by_cases h0 : 0 < la.length
    · obtain ⟨b1, o1, c1, rfl, hc1, hm1, hk1⟩ := ha.ne h0
      obtain ⟨b2, o2, c2, rfl, hc2, hm2, hk2⟩ := hb.ne (by omega)
      unfold maxLen at hm1 hm2
      have hm : la.length ≤ 9223372036854775807 := by omega
      have HL : Hid (la.length = lb.length) := hlen
      rw [← hlen]
      have hcd : ∀ j, j < la.length → ∃ u, w.cell? ⟨b2, o2 + j, none⟩ = some u ∧ HB w u (lb.getD j []) := fun j hj => hk2 j (by omega)
      clear hlen hk2
      go_enter Tryd.func8, Tryd.ntmps8
      go_wp2
      go_loopw [5] (fun i wr => ∃ k : Nat, k ≤ la.length ∧ i = .int .i64 k ∧ la.take k = lb.take k ∧ Dr w wr) (fun i _ => la.length - (intOf i).toNat)
      case atStart => exact ⟨0, Nat.zero_le _, rfl, rfl, Dr.refl _⟩
      case round =>
        obtain ⟨k, hk, rfl, ht, hD⟩ := hrel
        have HD := hid hD
        clear hD
        by_cases hlt : k < la.length
        · obtain ⟨u1, g1, e1⟩ := hk1 k hlt
          obtain ⟨u2, g2, e2⟩ := hcd k hlt
          replace g1 := (HD.out.cell _).trans g1
          replace g2 := (HD.out.cell _).trans g2
          replace e1 := e1.dr HD.out
          replace e2 := e2.dr HD.out
          obtain ⟨x, HX⟩ : ∃ x, Hid (la.getD k [] = x) := ⟨_, rfl⟩
          obtain ⟨y, HY⟩ : ∃ y, Hid (lb.getD k [] = y) := ⟨_, rfl⟩
          rw [HX.out] at e1
          rw [HY.out] at e2
          obtain ⟨p1, c1', r1, _, _⟩ := e1.open
          obtain ⟨p2, c2', r2, _, _⟩ := e2.open
          subst r1 r2
          have E1 := hid e1
          have E2 := hid e2
          clear hk1 hcd e1 e2
          by_cases he : x = y
          · have hne : decide (x = y) = true := by simpa using he
            have HE := hid he
            clear he
            go_wp2
            go_quiet ((go_at_call 13; exact Calls.quiet_of (sameBytes_any _ _ _ x y (E1.out.later fun _ _ hx => hx) (E2.out.later fun _ _ hx => hx))))
            go_wp2
            exact ⟨⟨k + 1, by omega, by go_num, takel_eq_step la lb k hlt (by have := HL.out; omega) ht (by rw [HX.out, HY.out, HE.out]), HD.out.drewN _⟩, by simp [intOf]; omega⟩
          · have hne : decide (x = y) = false := by simpa using he
            go_wp2
            go_quiet ((go_at_call 13; exact Calls.quiet_of (sameBytes_any _ _ _ x y (E1.out.later fun _ _ hx => hx) (E2.out.later fun _ _ hx => hx))))
            go_wp2
            go_ret
            exact ⟨by rw [decide_eq_false (fun h => he ((HX.out.symm.trans (congrArg (fun z => List.getD z k []) h)).trans HY.out))]; rfl, HD.out.drewN _⟩
        · go_wp2
          go_ret
          have e : la = lb := by
            have h1 := List.take_of_length_le (show la.length ≤ k by omega)
            have h2 := List.take_of_length_le (show lb.length ≤ k by have := HL.out; omega)
            rw [← h1, ← h2, ht]
          exact ⟨by simp [e], HD.out⟩
    · obtain ⟨p1, c1, rfl, _, _⟩ := ha.open
      obtain ⟨p2, c2, rfl, _, _⟩ := hb.open
      have e1 : la = [] := List.length_eq_zero_iff.1 (by omega)
      have e2 : lb = [] := List.length_eq_zero_iff.1 (by omega)
      subst e1 e2
      go_enter Tryd.func8, Tryd.ntmps8
      go_wp2
      go_loop [5] (fun i => i = .int .i64 0) (fun _ => 0)
      case atStart => rfl
      case round =>
        subst hrel
        go_wp2
        go_ret
        exact ⟨rfl, Dr.refl _⟩
  · obtain ⟨p1, c1, rfl, _, _⟩ := ha.open
    obtain ⟨p2, c2, rfl, _, _⟩ := hb.open
    have hne : ((la.length : Int) != (lb.length : Int)) = true := by rw [bne_iff_ne]; omega
    go_enter Tryd.func8, Tryd.ntmps8
    go_wp2
    go_ret
    exact ⟨by simp [show la ≠ lb from fun e => hlen (by rw [e])], Dr.refl _⟩
theorem EL.below {w0 w w' : World} {u : Value} {l : List Int} (h : EL w0 w u l) (hb : Below w.heap.size w w') : EL w0 w' u l :=
  h.grown (row := none) ⟨hb.os, hb.tape, hb.output, hb.size, fun k hk _ => hb.block k hk⟩ (fun g e => by cases e)
set_option maxHeartbeats 1000000 in
theorem framed_any (w : World) (v : Value) (ls : List (List Int)) (h : HL w v ls) (hbig : ls.flatten.length + ls.length ≤ 1100000) :
    Calls Tryd.prog 31 #[v] w fun e w' => ∃ v', e = .returned v' ∧ w'.ownsRow w.heap.size 5 1 v' (framed ls).length ((framed ls).map (Value.int .u8)) ∧ HB w' v' (framed ls) ∧ Below w.heap.size w w' := by
  obtain ⟨i0, hi, hz0, hz1, hz2⟩ := info_parts info_bytes
  obtain ⟨p, c, e, hlc, hm⟩ := h.open
  unfold maxLen at hm
  have A : Hid (0 < ls.length → ∃ b off, p = some ⟨b, off, none⟩ ∧ ∀ j, j < ls.length → ∃ u, w.cell? ⟨b, off + j, none⟩ = some u ∧ HB w u (ls.getD j [])) := by
    intro h0
    obtain ⟨b, off, c', e', _, _, hh⟩ := h.ne h0
    rw [e] at e'
    simp only [Value.slice.injEq, true_and] at e'
    exact ⟨b, off, e'.1, hh⟩
  clear h
  subst e
  obtain ⟨w1, hmk, hown, hgr⟩ := run_make_own (P := Tryd.prog) w w.heap.size 24 30 i0 (.slice none 0 0) 1 Tryd.underlying24 hi hz0 hz1 .i64 .i64 (2 * ls.length) (by rw [hz2]; omega) (by unfold maxLen; omega) (Nat.le_refl _)
  rw [show ((2 * ls.length : Nat) : Int) = 2 * (ls.length : Int) by omega] at hmk
  have HB1 := hid ((Below.refl _ w).grown hgr (Nat.le_refl _) (fun k e => by cases e))
  have HO1 : Hid (OWL w w1 _ []) := ⟨[], hown, fun j hj => by simp at hj⟩
  clear hown hgr
  go_enter Tryd.func31, Tryd.ntmps31
  go_wp2
  go_loopw [3, 12] (fun o i wr => ∃ k : Nat, k ≤ ls.length ∧ i = .int .i64 k ∧ Hid (OWL w wr o (pcsTo ls k)) ∧ Hid (Below w.heap.size w wr)) (fun _ i _ => ls.length - (intOf i).toNat)
  case atStart => exact ⟨0, Nat.zero_le _, rfl, HO1, HB1⟩
  case round =>
    clear HO1 HB1 hmk
    obtain ⟨k, hk, rfl, HO, HBw⟩ := hrel
    by_cases hlt : k < ls.length
    · obtain ⟨b, off, rfl, hh⟩ := A.out (by omega)
      obtain ⟨u, hu0, hb⟩ := hh k hlt
      have hu : wr.cell? ⟨b, off + k, none⟩ = some u := (HBw.out.cell (World.block_lt_of_cell? w _ hu0)).trans hu0
      have HS := hid (pcs_snoc ls k hlt)
      have hlen : (ls.getD k []).length ≤ 1100000 := by
        have h1 := flat_snoc ls k hlt
        have h2 := flat_take_le ls (k + 1)
        rw [h1, List.length_append] at h2
        omega
      obtain ⟨l, HLk⟩ : ∃ l, Hid (l = ls.getD k []) := ⟨_, rfl⟩
      rw [← HLk.out] at hb HS hlen
      have HU := hid hb
      obtain ⟨p2, c2, hu2, _, _⟩ := hb.open
      subst hu2
      clear hh hu0 hb
      go_wp2_with fail
      refine (big_uint64 l.length (by omega) wr).mono ?_
      rintro e w2 ⟨v2, rfl, hown2, hB2⟩
      have hO2 := HO.out.below hB2
      have hel : EL w w2 v2 (bigL 8 l.length) := .inl ⟨by rw [bigL_length]; exact own_mono hown2 HBw.out.size, bigL_byt _ _⟩
      have hBw2 : Below w.heap.size w w2 := HBw.out.trans (hB2.mono HBw.out.size)
      obtain ⟨p3, c3, e3, _, _⟩ := (hel.hb hBw2).open
      rw [bigL_length] at e3
      obtain ⟨W3, hW3⟩ : ∃ W3, W3 = w2.alloc (.cells #[v2, .slice p2 l.length c2] 30) := ⟨_, rfl⟩
      have hal : Below w2.heap.size w2 W3 := by rw [hW3]; exact (Below.refl _ _).alloc (Nat.le_refl _) _
      have HO3 := hid (hO2.below hal)
      have HE3 := hid (hel.below hal)
      have HB3 := hid (hBw2.trans (hal.mono hBw2.size))
      rw [hW3] at HO3 HE3 HB3
      clear hO2 hel hBw2 hown2 hal hW3 W3 hB2
      subst e3
      go_wp2_with (at_builtin; refine wpList_append_OWL (w0 := w) rfl _ _ rfl _ _ rfl HO3.out ⟨w2.heap.size, 0, none⟩ 2 2 [_, _] [bigL 8 l.length, l] rfl rfl rfl (cell_two_new _ _ _ _) ?q1 ?q2 ?q3 ?q4 ?_)
      case q1 =>
        intro j hj
        match j, hj with
        | 0, _ => exact HE3.out
        | 1, _ => exact .inr HU.out
      case q2 =>
        intro u hu
        simp only [List.mem_cons, List.not_mem_nil, or_false] at hu
        rcases hu with rfl | rfl <;> rfl
      case q3 => have := pcsTo_length ls k; omega
      case q4 => exact HB3.out.size
      intro v' w4 hO4 hg4 hbk
      have HO4 : Hid (OWL w w4 v' (pcsTo ls (k + 1))) := by rw [HS.out]; exact hO4
      have HB4 := hid (HB3.out.grown hg4 HB3.out.size (fun k e => (hbk k e).1))
      clear hO4 hg4 hbk
      go_wp2
      exact ⟨⟨k + 1, by omega, by go_num, HO4, HB4⟩, by simp [intOf]; omega⟩
    · have HP : Hid (pcsTo ls k = pcs ls) := by
        show _ = _
        unfold pcsTo
        rw [List.take_of_length_le (by omega)]
      have HO2 : Hid (OWL w wr u3 (pcs ls)) := by rw [← HP.out]; exact HO
      have HFl := hid (framed_length ls)
      obtain ⟨fl, HF⟩ : ∃ fl, Hid (framed ls = fl) := ⟨_, rfl⟩
      rw [HF.out] at HFl
      go_wp2_with fail
      have hHL := HO2.out.hl HBw.out
      refine (join_any wr _ (pcs ls) hHL (by have := HFl.out; rw [← HF.out] at this; unfold framed at this; omega)).mono ?_
      rintro e w2 ⟨v2, rfl, hown2, hB2⟩
      have hbt := hHL.byt
      rw [show (pcs ls).flatten = fl from HF.out] at hown2 hbt
      have H2 := hid hown2
      have Hb := hid hbt
      have HB3 := hid (HBw.out.trans (hB2.mono HBw.out.size))
      have hsz := HBw.out.size
      clear hHL hown2 hB2 hbt
      go_wp2
      go_ret
      refine ⟨_, rfl, ?_, ?_, HB3.out⟩
      · rw [HF.out]; exact own_mono H2.out hsz
      · rw [HF.out]; exact HB.of_own H2.out Hb.out
set_option maxHeartbeats 1000000 in
theorem framed_big (w : World) (v : Value) (ls : List (List Int)) (h : HL w v ls) (hbig : ls.flatten.length + 8 * ls.length ≤ 140737488355328) (hcnt : ls.length ≤ 1100000) :
    Calls Tryd.prog 31 #[v] w fun e w' => ∃ v', e = .returned v' ∧ w'.ownsRow w.heap.size 5 1 v' (framed ls).length ((framed ls).map (Value.int .u8)) ∧ HB w' v' (framed ls) ∧ Below w.heap.size w w' := by
  obtain ⟨i0, hi, hz0, hz1, hz2⟩ := info_parts info_bytes
  obtain ⟨p, c, e, hlc, hm⟩ := h.open
  unfold maxLen at hm
  have A : Hid (0 < ls.length → ∃ b off, p = some ⟨b, off, none⟩ ∧ ∀ j, j < ls.length → ∃ u, w.cell? ⟨b, off + j, none⟩ = some u ∧ HB w u (ls.getD j [])) := by
    intro h0
    obtain ⟨b, off, c', e', _, _, hh⟩ := h.ne h0
    rw [e] at e'
    simp only [Value.slice.injEq, true_and] at e'
    exact ⟨b, off, e'.1, hh⟩
  clear h
  subst e
  obtain ⟨w1, hmk, hown, hgr⟩ := run_make_own (P := Tryd.prog) w w.heap.size 24 30 i0 (.slice none 0 0) 1 Tryd.underlying24 hi hz0 hz1 .i64 .i64 (2 * ls.length) (by rw [hz2]; omega) (by unfold maxLen; omega) (Nat.le_refl _)
  rw [show ((2 * ls.length : Nat) : Int) = 2 * (ls.length : Int) by omega] at hmk
  have HB1 := hid ((Below.refl _ w).grown hgr (Nat.le_refl _) (fun k e => by cases e))
  have HO1 : Hid (OWL w w1 _ []) := ⟨[], hown, fun j hj => by simp at hj⟩
  clear hown hgr
  go_enter Tryd.func31, Tryd.ntmps31
  go_wp2
  go_loopw [3, 12] (fun o i wr => ∃ k : Nat, k ≤ ls.length ∧ i = .int .i64 k ∧ Hid (OWL w wr o (pcsTo ls k)) ∧ Hid (Below w.heap.size w wr)) (fun _ i _ => ls.length - (intOf i).toNat)
  case atStart => exact ⟨0, Nat.zero_le _, rfl, HO1, HB1⟩
  case round =>
    clear HO1 HB1 hmk
    obtain ⟨k, hk, rfl, HO, HBw⟩ := hrel
    by_cases hlt : k < ls.length
    · obtain ⟨b, off, rfl, hh⟩ := A.out (by omega)
      obtain ⟨u, hu0, hb⟩ := hh k hlt
      have hu : wr.cell? ⟨b, off + k, none⟩ = some u := (HBw.out.cell (World.block_lt_of_cell? w _ hu0)).trans hu0
      have HS := hid (pcs_snoc ls k hlt)
      have hlen : (ls.getD k []).length ≤ 140737488355328 := by
        have h1 := flat_snoc ls k hlt
        have h2 := flat_take_le ls (k + 1)
        rw [h1, List.length_append] at h2
        omega
      obtain ⟨l, HLk⟩ : ∃ l, Hid (l = ls.getD k []) := ⟨_, rfl⟩
      rw [← HLk.out] at hb HS hlen
      have HU := hid hb
      obtain ⟨p2, c2, hu2, _, _⟩ := hb.open
      subst hu2
      clear hh hu0 hb
      go_wp2_with fail
      refine (big_uint64 l.length (by omega) wr).mono ?_
      rintro e w2 ⟨v2, rfl, hown2, hB2⟩
      have hO2 := HO.out.below hB2
      have hel : EL w w2 v2 (bigL 8 l.length) := .inl ⟨by rw [bigL_length]; exact own_mono hown2 HBw.out.size, bigL_byt _ _⟩
      have hBw2 : Below w.heap.size w w2 := HBw.out.trans (hB2.mono HBw.out.size)
      obtain ⟨p3, c3, e3, _, _⟩ := (hel.hb hBw2).open
      rw [bigL_length] at e3
      obtain ⟨W3, hW3⟩ : ∃ W3, W3 = w2.alloc (.cells #[v2, .slice p2 l.length c2] 30) := ⟨_, rfl⟩
      have hal : Below w2.heap.size w2 W3 := by rw [hW3]; exact (Below.refl _ _).alloc (Nat.le_refl _) _
      have HO3 := hid (hO2.below hal)
      have HE3 := hid (hel.below hal)
      have HB3 := hid (hBw2.trans (hal.mono hBw2.size))
      rw [hW3] at HO3 HE3 HB3
      clear hO2 hel hBw2 hown2 hal hW3 W3 hB2
      subst e3
      go_wp2_with (at_builtin; refine wpList_append_OWL (w0 := w) rfl _ _ rfl _ _ rfl HO3.out ⟨w2.heap.size, 0, none⟩ 2 2 [_, _] [bigL 8 l.length, l] rfl rfl rfl (cell_two_new _ _ _ _) ?q1 ?q2 ?q3 ?q4 ?_)
      case q1 =>
        intro j hj
        match j, hj with
        | 0, _ => exact HE3.out
        | 1, _ => exact .inr HU.out
      case q2 =>
        intro u hu
        simp only [List.mem_cons, List.not_mem_nil, or_false] at hu
        rcases hu with rfl | rfl <;> rfl
      case q3 => have := pcsTo_length ls k; omega
      case q4 => exact HB3.out.size
      intro v' w4 hO4 hg4 hbk
      have HO4 : Hid (OWL w w4 v' (pcsTo ls (k + 1))) := by rw [HS.out]; exact hO4
      have HB4 := hid (HB3.out.grown hg4 HB3.out.size (fun k e => (hbk k e).1))
      clear hO4 hg4 hbk
      go_wp2
      exact ⟨⟨k + 1, by omega, by go_num, HO4, HB4⟩, by simp [intOf]; omega⟩
    · have HP : Hid (pcsTo ls k = pcs ls) := by
        show _ = _
        unfold pcsTo
        rw [List.take_of_length_le (by omega)]
      have HO2 : Hid (OWL w wr u3 (pcs ls)) := by rw [← HP.out]; exact HO
      have HFl := hid (framed_length ls)
      obtain ⟨fl, HF⟩ : ∃ fl, Hid (framed ls = fl) := ⟨_, rfl⟩
      rw [HF.out] at HFl
      go_wp2_with fail
      have hHL := HO2.out.hl HBw.out
      refine (join_any wr _ (pcs ls) hHL (by have := HFl.out; rw [← HF.out] at this; unfold framed at this; omega)).mono ?_
      rintro e w2 ⟨v2, rfl, hown2, hB2⟩
      have hbt := hHL.byt
      rw [show (pcs ls).flatten = fl from HF.out] at hown2 hbt
      have H2 := hid hown2
      have Hb := hid hbt
      have HB3 := hid (HBw.out.trans (hB2.mono HBw.out.size))
      have hsz := HBw.out.size
      clear hHL hown2 hB2 hbt
      go_wp2
      go_ret
      refine ⟨_, rfl, ?_, ?_, HB3.out⟩
      · rw [HF.out]; exact own_mono H2.out hsz
      · rw [HF.out]; exact HB.of_own H2.out Hb.out
end Go.Proofs.YtokamemkfgpfpaaDoor
namespace Go.Proofs.YtokamemkfgpfpaaDoor
open Go Go.RowKit
def TagOk (t : Nat) (ls : List (List Int)) : Prop := (1 ≤ t ∧ t ≤ 9) ∧ FitQ t ls
def tagB (t : Nat) (ls : List (List Int)) : List Int := framed (strI (wS t) :: ls)
theorem wS_size (t : Nat) : (wS t).size ≤ 18 := by
  rcases tag_cases t with rfl | rfl | rfl | rfl | rfl | rfl | rfl | rfl | rfl | h
  all_goals first | (rw [(none_of h).2]; decide) | decide
theorem wS_ne {t : Nat} (h : 1 ≤ t ∧ t ≤ 9) : (wS t).toList.isEmpty = false := by
  rcases tag_cases t with rfl | rfl | rfl | rfl | rfl | rfl | rfl | rfl | rfl | h
  all_goals first | omega | decide +kernel
theorem strI_len (s : ByteArray) : (strI s).length = s.size := by unfold strI; rw [List.length_map, Array.length_toList]; rfl
theorem tagB_len (t : Nat) (ls : List (List Int)) : (tagB t ls).length ≤ ls.flatten.length + 8 * ls.length + 26 := by
  unfold tagB
  rw [framed_length, List.flatten_cons, List.length_append, List.length_cons, strI_len]
  have := wS_size t
  omega
theorem fit_ne {t : Nat} {ls : List (List Int)} (h : TagOk t ls) : 0 < ls.length ∧ ls.length ≤ 3 := by
  have h1 := h.2.1
  have h2 := bds_len t
  refine ⟨?_, by omega⟩
  have h3 : 0 < (bdsOf t).length := by
    rcases tag_cases t with rfl | rfl | rfl | rfl | rfl | rfl | rfl | rfl | rfl | q
    all_goals first | (have := h.1; omega) | decide
  omega
theorem len1 {α : Type} {l : List α} (h : l.length = 1) : ∃ a, l = [a] := by
  match l, h with
  | [a], _ => exact ⟨a, rfl⟩
theorem len2 {α : Type} {l : List α} (h : l.length = 2) : ∃ a b, l = [a, b] := by
  match l, h with
  | [a, b], _ => exact ⟨a, b, rfl⟩
theorem len3 {α : Type} {l : List α} (h : l.length = 3) : ∃ a b c, l = [a, b, c] := by
  match l, h with
  | [a, b, c], _ => exact ⟨a, b, c, rfl⟩
theorem fit_flat {t : Nat} {ls : List (List Int)} (h : TagOk t ls) (hn : ∀ l ∈ ls, l.length ≤ 140737488351232) : ls.flatten.length ≤ 140737488351232 := by
  obtain ⟨h0, h1, h2⟩ := h
  have one : ls.length = 1 → ls.flatten.length ≤ 140737488351232 := fun h => by
    obtain ⟨a, rfl⟩ := len1 h
    simpa using hn a (by simp)
  rcases tag_cases t with rfl | rfl | rfl | rfl | rfl | rfl | rfl | rfl | rfl | q
  · obtain ⟨a, b, c, rfl⟩ := len3 (show ls.length = 3 from h1)
    have e0 := h2 0 (by simp)
    have e1 := h2 1 (by simp)
    have e2 := h2 2 (by simp)
    simp [bdsOf, Bd.ok] at e0 e1 e2
    simp
    omega
  · exact one h1
  · exact one h1
  · exact one h1
  · exact one h1
  · obtain ⟨a, b, rfl⟩ := len2 (show ls.length = 2 from h1)
    have e0 := h2 0 (by simp)
    have e1 := h2 1 (by simp)
    simp [bdsOf, Bd.ok] at e0 e1
    simp
    omega
  · exact one h1
  · exact one h1
  · obtain ⟨a, b, rfl⟩ := len2 (show ls.length = 2 from h1)
    have e0 := h2 0 (by simp)
    have e1 := h2 1 (by simp)
    simp [bdsOf, Bd.ok] at e0 e1
    simp
    omega
  · omega
theorem HL.vals {w : World} {v : Value} {ls : List (List Int)} (h : HL w v ls) (h0 : 0 < ls.length) : ∃ (b off c : Nat) (us : List Value), v = .slice (some ⟨b, off, none⟩) ls.length c ∧ us.length = ls.length ∧ (∀ j u, us[j]? = some u → w.cell? ⟨b, off + j, none⟩ = some u) ∧ ∀ j, j < ls.length → HB w (us.getD j undef) (ls.getD j []) := by
  obtain ⟨p, c, rfl, _, _⟩ := h.open
  obtain ⟨b, off, rfl, hq⟩ := h.at5 h0
  let f : Nat → Value := fun j => if hj : j < ls.length then Classical.choose (hq j hj) else undef
  have hf : ∀ j, j < ls.length → w.cell? ⟨b, off + j, none⟩ = some (f j) ∧ HB w (f j) (ls.getD j []) := fun j hj => by
    simp only [f, hj, dif_pos]
    exact Classical.choose_spec (hq j hj)
  refine ⟨b, off, c, (List.range ls.length).map f, rfl, by simp, fun j u hu => ?_, fun j hj => ?_⟩
  · rw [List.getElem?_map, Option.map_eq_some_iff] at hu
    obtain ⟨k, hk, rfl⟩ := hu
    rw [List.getElem?_eq_some_iff] at hk
    obtain ⟨hk1, hk2⟩ := hk
    simp at hk1 hk2
    subst hk2
    exact (hf j hk1).1
  · have e : ((List.range ls.length).map f).getD j undef = f j := by simp [List.getD, hj]
    rw [e]
    exact (hf j hj).2
theorem HB.one {w : World} {v : Value} {l : List Int} (h : HB w v l) : v.oneCell' = true := by
  obtain ⟨p, c, rfl, _, _⟩ := h.open
  rfl
def TyQ (t : Nat) (ls : List (List Int)) (w : World) (v : Value) (E : Int) : Prop := (E = 0 ∧ TagOk t ls ∧ HB w v (tagB t ls)) ∨ (E ≠ 0 ∧ ¬ TagOk t ls ∧ v = .slice none 0 0)
set_option maxRecDepth 100000 in
set_option maxHeartbeats 4000000 in
theorem tbytes_any (w : World) (t : Nat) (v : Value) (ls : List (List Int)) (h : HL w v ls) (hn : ∀ l ∈ ls, l.length ≤ 140737488351232) : Calls Tryd.prog 11 #[.int .u8 (t : Int), v] w fun e w' => ∃ v' E, e = .returned (.tuple #[v', .int .i64 E]) ∧ TyQ t ls w' v' E ∧ Below w.heap.size w w' := by
  have C1 := hid fun w => word_tag w t
  have HH := hid h
  have C2 := hid (fit_any w t v ls h)
  have HN := hid hn
  have hs1 : (wS t).size ≤ 1000 := by have := wS_size t; omega
  have TB : Hid (tagB t ls = framed (strI (wS t) :: ls)) := hid rfl
  have LB : Hid ((strI (wS t)).length ≤ 18) := hid (by rw [strI_len]; exact wS_size t)
  by_cases ht : 1 ≤ t ∧ t ≤ 9
  case neg =>
    have he := (none_of (t := t) (by omega)).2
    have hno : Hid (¬ TagOk t ls) := hid fun q => ht q.1
    rw [he] at C1
    clear h hs1 TB LB he
    obtain ⟨p, c, rfl, _, _⟩ := HH.out.open
    go_enter Tryd.func11, Tryd.ntmps11
    go_wp2_with fail
    refine (C1.out w).mono ?_
    rintro e w1 ⟨rfl, rfl⟩
    go_wp2
    go_ret2
    exact ⟨_, _, rfl, .inr ⟨by decide, hno.out, rfl⟩, Below.refl _ _⟩
  case pos =>
    have hse := wS_ne ht
    obtain ⟨sb, HSB⟩ : ∃ x, Hid (wS t = x) := ⟨_, rfl⟩
    rw [HSB.out] at C1 hs1 hse TB LB
    have TO : Hid (TagOk t ls ↔ FitQ t ls) := hid ⟨fun q => q.2, fun q => ⟨ht, q⟩⟩
    have FNE : Hid (TagOk t ls → 0 < ls.length ∧ ls.length ≤ 3) := hid fit_ne
    by_cases hf : FitQ t ls
    case neg =>
      rw [decide_eq_false hf] at C2
      have hno : Hid (¬ TagOk t ls) := hid fun q => hf q.2
      clear hf h hn
      obtain ⟨p, c, rfl, _, _⟩ := HH.out.open
      go_enter Tryd.func11, Tryd.ntmps11
      go_wp2_with fail
      refine (C1.out w).mono ?_
      rintro e w1 ⟨rfl, rfl⟩
      clear C1
      go_wp2_with fail
      refine C2.out.mono ?_
      rintro e w2 ⟨rfl, hb2⟩
      have B2 := hid hb2
      clear hb2 C2
      go_wp2
      go_ret2
      exact ⟨_, _, rfl, .inr ⟨by decide, hno.out, rfl⟩, B2.out⟩
    case pos =>
      rw [decide_eq_true hf] at C2
      have YES := hid (TO.out.2 hf)
      obtain ⟨h0, h3⟩ := FNE.out YES.out
      obtain ⟨b, off, c, us, rfl, hul, huc, hub⟩ := h.vals h0
      have HUC := hid huc
      have HUB := hid hub
      have HUL := hid hul
      have H03 := hid (And.intro h0 h3)
      clear hf h hn hul huc hub h0 h3 TO FNE ht
      obtain ⟨n, Hn⟩ : ∃ x, Hid (ls.length = x) := ⟨_, rfl⟩
      rw [Hn.out] at C2 HUL
      rw [Hn.out]
      go_enter Tryd.func11, Tryd.ntmps11
      go_wp2_with fail
      refine (C1.out w).mono ?_
      rintro e w1 ⟨rfl, rfl⟩
      clear C1
      go_wp2_with fail
      refine C2.out.mono ?_
      rintro e w2 ⟨rfl, hb2⟩
      have B2 := hid hb2
      clear hb2 C2
      go_wp2_with (first | (refine wpList_bytes_str rfl _ rfl sb rfl hs1 (fun v3 w3 hv3 hb3 => Hid.out ?_)) | fail)
      obtain ⟨wl, HWL⟩ : ∃ x, Hid (strI sb = x) := ⟨_, rfl⟩
      rw [HWL.out] at hv3 TB LB
      have B3 := hid (B2.out.trans (hb3.mono B2.out.size))
      have V3 := hid hv3
      obtain ⟨p3, c3, rfl, _, _⟩ := hv3.open
      obtain ⟨zl, Hzl⟩ : ∃ x, Hid (wl.length = x) := ⟨_, rfl⟩
      rw [Hzl.out] at V3 LB
      rw [Hzl.out]
      have HA := hid (heap_alloc_new w3 (.cells #[.slice p3 zl c3] 30))
      have HAB := hid ((Below.refl w3.heap.size w3).alloc (Nat.le_refl _) (.cells #[.slice p3 zl c3] 30))
      have HO : Hid (OWL w3 (w3.alloc (.cells #[.slice p3 zl c3] 30)) (.slice (some ⟨w3.heap.size, 0, none⟩) 1 1) [wl]) := by
        refine hid ⟨[.slice p3 zl c3], ⟨rfl, .inr ⟨w3.heap.size, 1, _, rfl, Nat.le_refl _, HA.out, Nat.le_refl _, by unfold maxLen; omega, rfl, rfl⟩⟩, fun j hj => ?_⟩
        match j, hj with
        | 0, _ => exact .inr V3.out
      have B4 := hid (B3.out.alloc B3.out.size (.cells #[.slice p3 zl c3] 30))
      have S4 : Hid ((w3.alloc (.cells #[.slice p3 zl c3] 30)).heap.size = w3.heap.size + 1) := by refine hid ?_; simp
      have Q0 : Hid (∀ j u, us[j]? = some u → (w3.alloc (.cells #[.slice p3 zl c3] 30)).cell? ((⟨b, off, none⟩ : Addr).add j) = some u) := hid fun j u hu => by
        have := HUC.out j u hu
        rw [Go.WideShapes.add_plain]
        exact (B4.out.cell (World.block_lt_of_cell? _ _ this)).trans this
      have Q1 : Hid (∀ j, j < n → EL w3 (w3.alloc (.cells #[.slice p3 zl c3] 30)) (us.getD j undef) (ls.getD j [])) := hid fun j hj => .inr ((HUB.out j (by rw [Hn.out]; exact hj)).below B3.out)
      have Q2 : Hid (∀ u ∈ us, u.oneCell' = true) := hid fun u hu => by
        obtain ⟨j, hj, rfl⟩ := List.getElem_of_mem hu
        have hj2 : j < ls.length := by rw [Hn.out, ← HUL.out]; exact hj
        have := (HUB.out j hj2).one
        simpa [List.getD, List.getElem?_eq_getElem hj] using this
      clear hb3 hv3
      have hn3 : n ≤ 3 := by rw [← Hn.out]; exact H03.out.2
      refine hid ?_
      go_wp2_with (at_builtin; refine wpList_append_OWL (w0 := w3) rfl _ _ rfl _ _ rfl HO.out ⟨b, off, none⟩ n c us ls rfl HUL.out Hn.out Q0.out Q1.out Q2.out (by simp; omega) (by rw [S4.out]; omega) ?_)
      intro v5 w5 ho5 hg5 hbk5
      have B5 := hid (B4.out.grown hg5 B4.out.size (fun q e => by have := (hbk5 q e).1; have := B3.out.size; omega))
      have b35 : Below w3.heap.size w3 w5 := HAB.out.grown hg5 (by rw [S4.out]; omega) (fun q e => (hbk5 q e).1)
      have H5 := hid (ho5.hl b35)
      have CF := framed_big w5 v5 _ H5.out (by have := fit_flat YES.out HN.out; have := LB.out; have := Hzl.out; have := Hn.out; rw [List.flatten_cons, List.length_append, List.length_cons]; omega) (by have := Hn.out; rw [List.length_cons]; omega)
      rw [← TB.out] at CF
      have CF := hid CF
      clear ho5 hg5 hbk5 b35
      go_wp2_with fail
      refine CF.out.mono ?_
      rintro e w6 ⟨v6, rfl, _, hb6, hB6⟩
      have H6 := hid hb6
      have B6 := hid (B5.out.trans (hB6.mono B5.out.size))
      clear hb6 hB6 CF
      go_wp2
      go_ret2
      exact ⟨_, _, rfl, .inl ⟨rfl, YES.out, H6.out⟩, B6.out⟩
end Go.Proofs.YtokamemkfgpfpaaDoor
namespace Go.Proofs.YtokamemkfgpfpaaDoor
open Go Go.RowKit Ev
def padBlock : List Nat := [0, 0, 0, 0, 0, 0, 0, 14, 115, 116, 114, 111, 110, 103, 114, 111, 111, 109, 32, 112, 97, 100, 0, 0, 0, 0, 0, 0, 0, 4, 0, 0, 0, 7, 128, 0, 0, 0, 0, 0, 0, 0, 0, 0, 0, 0, 0, 0, 0, 0, 0, 0, 0, 0, 0, 0, 0, 0, 0, 0, 0, 0, 1, 16]
def padWords : List Nat := [0, 14, 1937011311, 1852273263, 1869422704, 1633943552, 0, 262144, 491520, 0, 0, 0, 0, 0, 0, 272, 469991425, 3434986114, 856169216, 2109270187, 2336771756, 3401826129, 782340079, 2759388120, 3267827049, 2613474185, 3856814505, 2195414451, 765228586, 4092630992, 2056790104, 4256031260, 1051854507, 14267866, 1557758059, 4085289097, 3296877623, 1480048775, 825061891, 167205286, 2006689177, 463709173, 536318916, 960675205, 1541371835, 3863650278, 949322803, 1635889268, 2790493887, 3426122357, 1987272896, 565975141, 2093606632, 2093668760, 4255755765, 3181709773, 688636137, 657923963, 2085829656, 3263850006, 1228338704, 1683799827, 620829454, 3676928581]
def padMixed : List Nat := [1687037637, 3791585302, 729886610, 2454548114, 3674386445, 2553926959, 2079459574, 3602981539]
def ivW : List Nat := [1779033703, 3144134277, 1013904242, 2773480762, 1359893119, 2600822924, 528734635, 1541459225]
theorem words_ev : evCallF Tryd.prog noLore noCon 100 68 [.tv (.agg (litB padBlock))] H0 = some (.tv (.agg (litW padWords)), H0) := by kernel_rfl
def conWords : ConF := con1 68 [.tv (.agg (litB padBlock))] (.tv (.agg (litW padWords)))
theorem conWords_ok (ρ : Env) : ConOk Tryd.prog ρ conWords := con1_ok (noCon_ok _ _) mixedOrders words_ev (by kernel_rfl) (by kernel_rfl)
theorem refMix_ev : evCallF Tryd.prog noLore conWords 100 38 [.tv (.agg (litW ivW)), .tv (.agg (litB padBlock))] H0 = some (.tv (.agg (litW padMixed)), H0) := by kernel_rfl
def conRefMix : ConF := con1 38 [.tv (.agg (litW ivW)), .tv (.agg (litB padBlock))] (.tv (.agg (litW padMixed)))
theorem conRefMix_ok (ρ : Env) : ConOk Tryd.prog ρ conRefMix := con1_ok (conWords_ok ρ) mixedOrders refMix_ev (by kernel_rfl) (by kernel_rfl)
def conTag : ConF := conOr conMix conRefMix
theorem conTag_ok (ρ : Env) : ConOk Tryd.prog ρ conTag := conOr_ok (conMix_ok ρ) (conRefMix_ok ρ)
end Go.Proofs.YtokamemkfgpfpaaDoor
