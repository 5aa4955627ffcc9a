/- The function that ctr.Blocks answers: its rounds. -/
import Derived.Test.YtbafegpiipkmbaaCtrBlk
import Derived.Test.YtbafegpiipkmbaaEvKeep
import Derived.Test.YtbafegpiipkmbaaRange
set_option linter.unusedVariables false
set_option linter.unusedSimpArgs false
namespace Go.Proofs.Ytbafegpiipkmbaa
open Go Go.RowKit Go.Shelf Ev
attribute [local go_sem] Oper.semAt_some

/-- The operations of a region. -/
def regOf (id : Nat) : Code → Option (Array Oper)
  | .region i ops _ => if i = id then some ops else none
  | .seq a b => match regOf id a with | some o => some o | none => regOf id b
  | .cond _ x y => match regOf id x with | some o => some o | none => regOf id y
  | .block _ c => regOf id c
  | .loop c => regOf id c
  | .rangeFunc _ _ a b => match regOf id a with | some o => some o | none => regOf id b
  | _ => none
noncomputable def itOps : Array Oper := ((Try.f30.body).bind (regOf 2)).getD #[]
def tabI : List (Nat × List AV × AV) := [(32, [.tv (.sc (.int .u64 (.var 500)))], V 176 16), (41, [V 0 176, V 176 16, N64 10], V 192 16)]
def tmI : Tm := tmL 26 [(2, .tv (.sc (.ptr 0 0))), (4, .tv (.sc (.int .u64 (.var 500))))]
def hI : List Blk := [⟨true, false, 0, [.ptr 1 0]⟩, ciBlk]
noncomputable def it2 : Tm × List Blk := (evPlan (evCall Try.prog ciLore (tabCon tabI) 100) Try.prog ciLore itOps tmI hI).getD (tmI, [])
theorem it2_H : it2.2 = hI ++ [newBlk (vars 192 16)] := by kernel_rfl
theorem it2_5 : it2.1.get 5 = some (.tv (.sc (.ptr 2 0))) := by kernel_rfl
theorem it2_ld : evLoad Try.prog it2.1 it2.2 29 (.tmp 5) = some (V 192 16) := by kernel_rfl
theorem it2_ev : evPlan (evCall Try.prog ciLore (tabCon tabI) 100) Try.prog ciLore itOps tmI hI = some (it2.1, it2.2) := by kernel_rfl
theorem it2_keep : ([0, 1, 2, 3, 4, 7, 8, 9, 17, 18, 19, 20, 21, 22, 23, 24, 25].all (keepsJ itOps)) = true := by kernel_rfl

def fI (k : List Nat) (n : Nat) : Nat → Nat := fun i => if i < 176 then at8 (schedL k) i else if i < 192 then at8 (ctrL n) (i - 176) else at8 (ksL k n) (i - 192)
theorem fI_0 {k : List Nat} (hk : Byt k) (hl : k.length = 16) (n : Nat) : named (fI k n) 0 176 = schedL k := at8_vars (schedL_ok hl hk).1 fun i hi => by unfold fI; rw [if_pos (by omega), Nat.zero_add]
theorem fI_1 (k : List Nat) (n : Nat) : named (fI k n) 176 16 = ctrL n := at8_vars (ctrL_length n) fun i hi => by unfold fI; rw [if_neg (by omega), if_pos (by omega), Nat.add_sub_cancel_left]
theorem fI_2 {k : List Nat} (hk : Byt k) (hl : k.length = 16) (n : Nat) : named (fI k n) 192 16 = ksL k n := at8_vars (ksL_ok hl hk n).1 fun i hi => by unfold fI; rw [if_neg (by omega), if_neg (by omega), Nat.add_sub_cancel_left]
theorem it_con {k : List Nat} (hk : Byt k) (hl : k.length = 16) (n : Nat) : ConOk Try.prog (envC (fI k n) (n : Int)) (tabCon tabI) := by
  obtain ⟨s1, s2, _⟩ := schedL_ok hl hk
  refine tabCon_ok ?_
  intro e he
  simp only [tabI, List.mem_cons, List.not_mem_nil, or_false] at he
  rcases he with rfl | rfl
  · intro ms W args ha
    have ea : args = #[.int .u64 (n : Int)] := by
      obtain ⟨l⟩ := args
      have hl1 : l.length = 1 := by have := congrArg List.length ha; simpa using this.symm
      match l, hl1, ha with
      | [u], _, ha =>
        have e1 : (AV.tv (.sc (.int .u64 (.var 500)))).inst (envC (fI k n) (n : Int)) ms = some (.int .u64 (n : Int)) := rfl
        simp only [List.map_cons, List.map_nil, List.cons.injEq, and_true, e1, Option.some.injEq] at ha
        subst ha
        rfl
    subst ea
    exact (counter_any W n).mono fun e w' ⟨q1, q2⟩ => ⟨_, q1, by rw [VC _ _ 176 16 (by decide), fI_1], q2⟩
  · intro ms W args ha
    have ea : args = #[.agg (cells8 (schedL k)), .agg (cells8 (ctrL n)), .int .i64 10] := by
      obtain ⟨l⟩ := args
      have hl1 : l.length = 3 := by have := congrArg List.length ha; simpa using this.symm
      match l, hl1, ha with
      | [u, u', u''], _, ha =>
        have e1 : (N64 10).inst (envC (fI k n) (n : Int)) ms = some (.int .i64 10) := rfl
        simp only [List.map_cons, List.map_nil, List.cons.injEq, and_true, VC _ _ 0 176 (by decide), VC _ _ 176 16 (by decide), fI_0 hk hl, fI_1, e1, Option.some.injEq] at ha
        obtain ⟨rfl, rfl, rfl⟩ := ha
        rfl
    subst ea
    exact (enc_call W (schedL k) (ctrL n) s2 s1 (ctrL_byt n) (ctrL_length n)).mono fun e w' ⟨q1, q2⟩ => ⟨_, q1, by rw [VC _ _ 192 16 (by decide), fI_2 hk hl]; rfl, q2⟩
theorem it_lore {k : List Nat} (hk : Byt k) (hl : k.length = 16) (n : Nat) : LoreOk (envC (fI k n) (n : Int)) ciLore := by
  refine tabFact_ok (ρ := envC (fI k n) (n : Int)) ?_
  intro e he
  simp only [ciFact, List.mem_cons, List.not_mem_nil, or_false] at he
  subst he
  refine ⟨schedL k, zeros8 176, by rw [(schedL_ok hl hk).1, zeros8_length], fun ms => ?_, fun ms => lits_map _ _ ms, (decide_eq_false (sched_ne hl hk)).symm⟩
  have := varsC (fI k n) (n : Int) 0 176 (by decide) ms
  rw [fI_0 hk hl] at this
  exact this
theorem it_holds {w : World} {b1 b4 g n m : Nat} {k : List Nat} (h : ItAt w b1 b4 g k m) : Holds (envC (fI k n) (n : Int)) [b4, g] hI w.heap.size w := by
  have h4 : b4 < w.heap.size := World.block_lt_of_cell? w _ h.bc
  have hne : b4 ≠ g := fun e => by
    have h1 := h.bc
    rw [e, h.ci.2 0 (by decide)] at h1
    cases h1
  have two : ∀ {α : Type} {x y z : α} {i : Nat}, [x, y][i]? = some z → (i = 0 ∧ z = x) ∨ (i = 1 ∧ z = y) := fun {α x y z i} h => by
    match i, h with
    | 0, h => simp at h; exact .inl ⟨rfl, h.symm⟩
    | 1, h => simp at h; exact .inr ⟨rfl, h.symm⟩
    | i + 2, h => simp at h
  refine ⟨rfl, fun g hg => absurd hg (Nat.not_lt_zero _), ?_, ?_, ?_, Nat.le_refl _, ?_, ?_, ?_⟩
  · intro i j b kk k' hi hj _ _ _ _
    rcases two hi with ⟨rfl, rfl⟩ | ⟨rfl, rfl⟩ <;> rcases two hj with ⟨rfl, e⟩ | ⟨rfl, e⟩
    · rfl
    · exact absurd e hne
    · exact absurd e.symm hne
    · rfl
  · intro i b kk hi hk hr
    rcases two hk with ⟨rfl, rfl⟩ | ⟨rfl, rfl⟩
    · cases hr
    · cases hr
  · intro i b kk hi hk _
    rcases two hi with ⟨rfl, rfl⟩ | ⟨rfl, rfl⟩
    · exact h4
    · exact h.ci.1
  · intro i kk hk hp
    rcases two hk with ⟨rfl, rfl⟩ | ⟨rfl, rfl⟩
    · cases hp
    · exact vars_plain
  · intro i b kk hi hk j s hs
    rcases two hi with ⟨rfl, rfl⟩ | ⟨rfl, rfl⟩
    · rcases two hk with ⟨_, rfl⟩ | ⟨h0, _⟩
      · match j, hs with
        | 0, hs =>
          simp only [List.getElem?_cons_zero, Option.some.injEq] at hs
          subst hs
          exact ⟨_, rfl, h.bc, fun hr => by cases hr⟩
        | j + 1, hs => simp at hs
      · cases h0
    · rcases two hk with ⟨h0, _⟩ | ⟨_, rfl⟩
      · cases h0
      · have hj : j < 176 := by
          have := (List.getElem?_eq_some_iff.1 hs).1
          simpa [ciBlk, vars] using this
        have : s = .int .u8 (.var j) := by
          rw [show ciBlk.cells = vars 0 176 from rfl, vars_get 176 j hj] at hs
          exact (Option.some.inj hs).symm
        subst this
        refine ⟨_, rfl, ?_, fun hr => by cases hr⟩
        rw [h.ci.2 j hj]
        simp only [Ex.den, envC]
        rw [if_neg (by omega)]
        unfold fI
        rw [if_pos hj]
  · intro i b c k0 kk hi hc hk0 _ _ hk hcap
    rcases two hk with ⟨_, rfl⟩ | ⟨_, rfl⟩ <;> simp [hI, ciBlk] at hcap
theorem arr26 {a : Array Value} (h : a.size = 26) : ∃ x0 x1 x2 x3 x4 x5 x6 x7 x8 x9 x10 x11 x12 x13 x14 x15 x16 x17 x18 x19 x20 x21 x22 x23 x24 x25, a = #[x0, x1, x2, x3, x4, x5, x6, x7, x8, x9, x10, x11, x12, x13, x14, x15, x16, x17, x18, x19, x20, x21, x22, x23, x24, x25] := by
  obtain ⟨l⟩ := a
  match l, h with
  | [x0, x1, x2, x3, x4, x5, x6, x7, x8, x9, x10, x11, x12, x13, x14, x15, x16, x17, x18, x19, x20, x21, x22, x23, x24, x25], _ => exact ⟨_, _, _, _, _, _, _, _, _, _, _, _, _, _, _, _, _, _, _, _, _, _, _, _, _, _, rfl⟩
theorem grown_of {A C : World} (h : Below A.heap.size A C) : A.grownBy C none := ⟨h.os, h.tape, h.output, h.size, fun i hi _ => h.block i hi⟩
theorem ItAt.kept {A C : World} {b1 b4 g n : Nat} {k : List Nat} (h : ItAt A b1 b4 g k n) (hk : KD (itD b1 b4 g) A C) : ItAt C b1 b4 g k n := by
  have e : ∀ i o, itD b1 b4 g i → C.cell? ⟨i, o, none⟩ = A.cell? ⟨i, o, none⟩ := fun i o hi => by simp [World.cell?, hk.2 i hi]
  exact ⟨(e _ _ (.inl rfl)).trans h.bf, (e _ _ (.inr (.inl rfl))).trans h.bc, Nat.lt_of_lt_of_le h.ci.1 hk.1, fun j hj => (e _ _ (.inr (.inr rfl))).trans (h.ci.2 j hj)⟩

set_option maxRecDepth 100000 in
set_option maxHeartbeats 4000000 in
theorem blocks_iter (n : Nat) (w0 : World) (b1 b4 g fr : Nat) (k : List Nat) (hk : Byt k) (hl : k.length = 16) (hfr : fr < 18446744073709551616) (hat : ItAt w0 b1 b4 g k fr) (hD : ∀ i, itD b1 b4 g i → i < w0.heap.size) :
    IterF Fence.wide n Try.prog 30 #[.pointer (some ⟨b1, 0, none⟩), .pointer (some ⟨b4, 0, none⟩)] (fun j v => #[.int .u64 ((fr + j : Nat) : Int), v])
      (fun j v _ => v = .agg (cells8 (ksL k (fr + j)))) (itD b1 b4 g) (18446744073709551616 - fr) w0 := fun l J Jx W hK hJ hY h0 => by
  have HAt := hid (hat.kept hK)
  have HK := hid hK
  have HJ := hid hJ
  have HY := hid hY
  have H0 := hid h0
  have HD := hid hD
  have c1 := HAt.out.bf
  clear hat hK hJ hY h0 hD
  refine callsIn_of_wp Try.func30 rfl trivial ?_ rfl
  simp only [Try.ntmps30, List.size_toArray, List.length_cons, List.length_nil, Nat.reduceAdd, Nat.reduceSub, Array.replicate_succ, Array.replicate_zero, List.push_toArray, List.append_toArray, List.nil_append, List.cons_append]
  gi_wp2
  gi_loopw [4] (fun i wr => ∃ j : Nat, Hid (fr + j < 18446744073709551616) ∧ i = .int .u64 ((fr + j : Nat) : Int) ∧ Hid (J j wr) ∧ Hid (KD (itD b1 b4 g) W wr)) (fun i _ => 18446744073709551616 - (intOf i).toNat)
  case atStart => exact ⟨0, hfr, rfl, H0, KD.refl _ _⟩
  case round =>
    obtain ⟨j, hj, rfl, HJj, HKj⟩ := hrel
    obtain ⟨N, HN⟩ : ∃ N, Hid (fr + j = N) := ⟨_, rfl⟩
    rw [HN.out]
    rw [HN.out] at hj
    have hNlt := hj.out
    have hAt := hid (HAt.out.kept HKj.out)
    gi_wp2
    rename_i K1 hK1 K2 hK2
    refine wpIn_wide.2 (plan_keep (ρ := envC (fI k N) (N : Int)) (call := evCall Try.prog ciLore (tabCon tabI) 100) (ms := [b4, g]) (t := tmI) (H := hI) (t' := it2.1) (H' := it2.2) (it_lore hk hl N) (evCall_ok (it_lore hk hl N) (it_con hk hl N) mixedOrders 100) mixedOrders _ ?rel (it_holds hAt.out) (by kernel_rfl) ?_)
    case rel =>
      refine RelT.ofL (n := 26) rfl (by decide) (fun g hg => absurd hg (Nat.not_lt_zero _)) _ fun p hp => ?_
      simp only [List.mem_cons, List.not_mem_nil, or_false] at hp
      rcases hp with rfl | rfl
      · exact ⟨_, rfl, rfl⟩
      · exact ⟨_, rfl, rfl⟩
    intro ms' a' w1 q1 q2 q3 q4 q5 q6
    refine hK2 _ _ ?_
    clear hK2 K2
    have hsz : a'.tmps.size = 26 := by rw [← q2.sz]; kernel_rfl
    have hlen : ms'.length = 3 := by rw [q4.len, it2_H]; rfl
    obtain ⟨b5, rfl⟩ : ∃ b5, ms' = [b4, g, b5] := by
      obtain ⟨r, rfl⟩ := q1
      match r, hlen with
      | [b5], _ => exact ⟨b5, rfl⟩
    obtain ⟨v5, hv5, hv5'⟩ := q2.get it2_5
    obtain ⟨u, e1, hld⟩ := evLoad_ok q2 (fun n _ _ => (q4.sees n).at _ _) it2_ld
    rw [VC _ _ 192 16 (by decide), fI_2 hk hl] at e1
    obtain ⟨tm, dfs⟩ := a'
    simp only at hsz hv5 hld q3 q6
    obtain ⟨x0, x1, x2, x3, x4, x5, x6, x7, x8, x9, x10, x11, x12, x13, x14, x15, x16, x17, x18, x19, x20, x21, x22, x23, x24, x25, rfl⟩ := arr26 hsz
    subst q3
    have k0 := q6 0 (by kernel_rfl)
    have k1 := q6 1 (by kernel_rfl)
    have k2 := q6 2 (by kernel_rfl)
    have k3 := q6 3 (by kernel_rfl)
    have k4 := q6 4 (by kernel_rfl)
    have k7 := q6 7 (by kernel_rfl)
    simp only [List.getElem?_toArray, List.getElem?_cons_zero, List.getElem?_cons_succ, Option.some.injEq] at k0 k1 k2 k3 k4 k7 hv5
    subst k0 k1 k2 k3 k4 k7
    simp only [AV.inst, TV.inst, SV.inst, addr, List.getElem?_cons_zero, List.getElem?_cons_succ, Option.map_some, Option.some.injEq] at hv5' e1
    subst hv5 hv5' e1
    obtain ⟨z0, z1, z2, z3, z4, z5, z6, z7, z8, z9, z10, z11, z12, z13, z14, z15, hz⟩ := list16 (ksL_ok hl hk N).1
    have hcl : ∀ i, i < 16 → w1.cell? ⟨b5, i, none⟩ = some (.int .u8 ((at8 (ksL k N) i : Nat) : Int)) := fun i hi => by
      obtain ⟨v, r1, r2, _⟩ := q4.cell 2 b5 (newBlk (vars 192 16)) rfl (by rw [it2_H]; rfl) i (.int .u8 (.var (192 + i))) (by simp [newBlk, vars, hi])
      rw [r2, ← r1]
      simp only [SV.inst, Ex.den, envC]
      rw [if_neg (by omega)]
      unfold fI
      rw [if_neg (by omega), if_neg (by omega), Nat.add_sub_cancel_left]
    rw [hz] at hcl
    have hc0 : w1.cell? ⟨b5, 0, none⟩ = some (.int .u8 (z0 : Int)) := hcl 0 (by decide)
    have hc1 : w1.cell? ⟨b5, 1, none⟩ = some (.int .u8 (z1 : Int)) := hcl 1 (by decide)
    have hc2 : w1.cell? ⟨b5, 2, none⟩ = some (.int .u8 (z2 : Int)) := hcl 2 (by decide)
    have hc3 : w1.cell? ⟨b5, 3, none⟩ = some (.int .u8 (z3 : Int)) := hcl 3 (by decide)
    have hc4 : w1.cell? ⟨b5, 4, none⟩ = some (.int .u8 (z4 : Int)) := hcl 4 (by decide)
    have hc5 : w1.cell? ⟨b5, 5, none⟩ = some (.int .u8 (z5 : Int)) := hcl 5 (by decide)
    have hc6 : w1.cell? ⟨b5, 6, none⟩ = some (.int .u8 (z6 : Int)) := hcl 6 (by decide)
    have hc7 : w1.cell? ⟨b5, 7, none⟩ = some (.int .u8 (z7 : Int)) := hcl 7 (by decide)
    have hc8 : w1.cell? ⟨b5, 8, none⟩ = some (.int .u8 (z8 : Int)) := hcl 8 (by decide)
    have hc9 : w1.cell? ⟨b5, 9, none⟩ = some (.int .u8 (z9 : Int)) := hcl 9 (by decide)
    have hc10 : w1.cell? ⟨b5, 10, none⟩ = some (.int .u8 (z10 : Int)) := hcl 10 (by decide)
    have hc11 : w1.cell? ⟨b5, 11, none⟩ = some (.int .u8 (z11 : Int)) := hcl 11 (by decide)
    have hc12 : w1.cell? ⟨b5, 12, none⟩ = some (.int .u8 (z12 : Int)) := hcl 12 (by decide)
    have hc13 : w1.cell? ⟨b5, 13, none⟩ = some (.int .u8 (z13 : Int)) := hcl 13 (by decide)
    have hc14 : w1.cell? ⟨b5, 14, none⟩ = some (.int .u8 (z14 : Int)) := hcl 14 (by decide)
    have hc15 : w1.cell? ⟨b5, 15, none⟩ = some (.int .u8 (z15 : Int)) := hcl 15 (by decide)
    clear hld q6 q2 q4 hsz hlen hcl
    have hB := hid q5.toBelow
    have hjN : j < 18446744073709551616 - fr := by have := HN.out; omega
    obtain ⟨fn, tmps, assign, body, hy, hR⟩ := HY.out j (.agg (cells8 (ksL k (fr + j)))) w1 (HJ.out j wr w1 HJj.out (grown_of hB.out)) rfl hjN
    have HRR := hid hR
    have HKD : Hid (KD (itD b1 b4 g) wr w1) := ⟨hB.out.size, fun i hi => hB.out.block i (Nat.lt_of_lt_of_le (HD.out i hi) (Nat.le_trans HK.out.1 HKj.out.1))⟩
    rw [HN.out, hz] at hy
    simp only [cells8, List.map_cons, List.map_nil] at hy
    clear hz
    clear hR q1 q5
    gi_wp2
    refine ⟨fun h => absurd h (by simp [Fence.wide]), HRR.out.mono ?_⟩
    clear HRR hy hc0 hc1 hc2 hc3 hc4 hc5 hc6 hc7 hc8 hc9 hc10 hc11 hc12 hc13 hc14 hc15
    rintro e W3 (⟨rfl, hJ3, hk3⟩ | ⟨rfl, hJx3⟩)
    · have HF3 := hid (And.intro hk3 hJ3)
      clear hk3 hJ3
      by_cases hmx : N = 18446744073709551615
      · have HE : Hid (j + 1 = 18446744073709551616 - fr) := by
          show _ = _
          have := HN.out
          omega
        have hmi : (N : Int) = 18446744073709551615 := by omega
        gi_wp2
        refine bodyPost_ret (results_none rfl _ _ _) rfl ?_
        exact ⟨⟨_, rfl⟩, .inl (HE.out ▸ HF3.out.2)⟩
      · have hmi : ¬ (N : Int) = 18446744073709551615 := by omega
        have hwr : IntKind.u64.wrap ((N : Int) + 1) = ((N + 1 : Nat) : Int) := by simp [IntKind.wrap, IntKind.bits, IntKind.signed]; omega
        gi_wp2
        go_roundw
        case rel => exact ⟨j + 1, by have := HN.out; show _ < _; omega, by rw [← Nat.add_assoc, HN.out]; go_num, HF3.out.2, HKj.out.trans (HKD.out.trans HF3.out.1)⟩
        case measure => simp [intOf]; omega
    · have HF3 := hid hJx3
      clear hJx3
      gi_wp2
      refine bodyPost_ret (results_none rfl _ _ _) rfl ?_
      exact ⟨⟨_, rfl⟩, .inr HF3.out⟩
end Go.Proofs.Ytbafegpiipkmbaa
