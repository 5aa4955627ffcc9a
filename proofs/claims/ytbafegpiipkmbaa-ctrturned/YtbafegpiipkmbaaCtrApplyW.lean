/- ctr.Stream where the place is none; ctr.Apply. -/
import Derived.Test.YtbafegpiipkmbaaCtrStream
import Derived.Test.YtbafegpiipkmbaaXor
set_option linter.unusedVariables false
set_option linter.unusedSimpArgs false
namespace Go.Proofs.Ytbafegpiipkmbaa
open Go Go.RowKit Ev

/-- The key in the block b. -/
def KeyIn (w : World) (b : Nat) (k : List Nat) : Prop := w.heap[b]? = some (.cells (cells8 k) 23)
theorem KeyIn.below {w w' : World} {b : Nat} {k : List Nat} (h : KeyIn w b k) (hb : Below w.heap.size w w') : KeyIn w' b k := (hb.block b (Array.getElem?_eq_some_iff.1 h).1).trans h
def keyBlk : Blk := ⟨true, true, 0, vars 0 16⟩
theorem keyBlk_plain : keyBlk.cells.all SV.plain = true := by decide +kernel
theorem holds_key {w : World} {b : Nat} {k : List Nat} (h : KeyIn w b k) (hl : k.length = 16) : Holds (envC (at8 k) 0) [b] [keyBlk] w.heap.size w := by
  have hlt := (Array.getElem?_eq_some_iff.1 h).1
  refine ⟨rfl, fun g hg => absurd hg (Nat.not_lt_zero _), ?_, ?_, ?_, Nat.le_refl _, ?_, ?_, ?_⟩
  · intro i j b' kk k' hi hj _ _ _ _
    rw [(one_get hi).1, (one_get hj).1]
  · intro i b' kk hi hk hr
    rw [(one_get hk).2] at hr; cases hr
  · intro i b' kk hi hk _
    rw [(one_get hi).2]; exact hlt
  · intro i kk hk _
    rw [(one_get hk).2]; exact keyBlk_plain
  · intro i b' kk hi hk j s hs
    rw [(one_get hi).2]
    rw [(one_get hk).2] at hs ⊢
    have hj : j < 16 := by
      have := (List.getElem?_eq_some_iff.1 hs).1
      simpa [keyBlk, vars] using this
    have : s = .int .u8 (.var j) := by
      rw [show keyBlk.cells = vars 0 16 from rfl, vars_get 16 j hj] at hs
      exact (Option.some.inj hs).symm
    subst this
    refine ⟨_, rfl, ?_, fun hr => by cases hr⟩
    simp only [Ex.den, envC]
    rw [if_neg (by omega)]
    unfold KeyIn at h
    simp [World.cell?, h, cells8, at8, List.getD, hl, hj]
  · intro i b' c k0 kk hi hc
    obtain ⟨rfl, rfl⟩ := one_get hi
    simp at hc
theorem ldk_ev : evLoad Try.prog (tmL 1 [(0, .tv (.sc (.ptr 0 0)))]) [keyBlk] 23 (.tmp 0) = some (V 0 16) := by kernel_rfl
theorem run_ldk {w : World} {b : Nat} {k : List Nat} (h : KeyIn w b k) (hl : k.length = 16) : (Instr.loadAt 23 (.pointer (some ⟨b, 0, none⟩))).run Try.prog w = .ok (.agg (cells8 k)) w := by
  have hT : RelT (envC (at8 k) 0) [b] (tmL 1 [(0, .tv (.sc (.ptr 0 0)))]) (({ tmps := #[.pointer (some ⟨b, 0, none⟩)], defers := [] } : Act)).tmps := RelT.ofL (n := 1) rfl (by decide) (fun g hg => absurd hg (Nat.not_lt_zero _)) _ fun p hp => by
    simp only [List.mem_cons, List.not_mem_nil, or_false] at hp
    subst hp
    exact ⟨_, rfl, rfl⟩
  obtain ⟨u, e1, e2⟩ := evLoad_ok hT (fun n _ _ => ((holds_key h hl).sees n).at _ _) ldk_ev
  rw [VC _ _ 0 16 (by decide), at8_vars hl (fun i hi => by rw [Nat.zero_add])] at e1
  rw [← Option.some.inj e1] at e2
  exact e2
theorem wpList_ldk {ops : Array Oper} {rest : List Oper} {o : Oper} {a : Act} {w : World} {Q : Exit → Act → World → Prop} {x : Operand} {b : Nat} {k : List Nat} (h : Hid (KeyIn w b k)) (hl : k.length = 16) (hg : o.guard = none) (ho : o.op = .load 23 x)
    (hx : a.eval x = .pointer (some ⟨b, 0, none⟩)) (hK : wpList Try.prog ops Q rest (a.put o.dst (.agg (cells8 k))) w) : wpList Try.prog ops Q (o :: rest) a w := by
  refine wpList_plain hg fun K hk => ?_
  have hr := run_ldk h.out hl
  have e : (execOp a.eval o).run Try.prog w = .ok (.value (.agg (cells8 k))) w := by
    simp only [execOp, ho, hx, Sem.run_bind, hr, Result.andThen_ok, Sem.run_pure]
  unfold Oper.wp
  rw [e]
  exact hk _ _ hK

/-- A place from which n bytes are spoken of. -/
def okPl (p : Int) (n : Nat) : Prop := 0 ≤ p ∧ p + n ≤ 4611686018427387904
set_option maxHeartbeats 1000000 in
theorem within_bad (w : World) (p : Int) (n : Nat) (hp : -9223372036854775808 ≤ p ∧ p ≤ 9223372036854775807) (hn : n ≤ 140737488351232) (hb : ¬ okPl p n) : Calls Try.prog 36 #[.int .i64 p, .int .i64 (n : Int)] w fun e w' => e = .returned (.bool false) ∧ w' = w := by
  unfold okPl at hb
  by_cases h1 : 0 ≤ p
  · have h2 : ¬ (p ≤ 4611686018427387904 - (n : Int)) := by omega
    go_enter Try.func36, Try.ntmps36
    go_wp2
    go_ret
    exact ⟨rfl, rfl⟩
  · go_enter Try.func36, Try.ntmps36
    go_wp2
    go_ret
    exact ⟨rfl, rfl⟩
set_option maxRecDepth 100000 in
set_option maxHeartbeats 2000000 in
theorem stream_bad (w : World) (k : List Nat) (p : Int) (n : Nat) (hp : -9223372036854775808 ≤ p ∧ p ≤ 9223372036854775807) (hn : n ≤ 140737488351232) (hb : ¬ okPl p n) :
    Calls Try.prog 13 #[.agg (cells8 k), .int .i64 p, .int .i64 (n : Int)] w fun e w' => e = .returned (.tuple #[.slice none 0 0, .int .i64 40]) ∧ Below w.heap.size w w' := by
  have hn0 : ¬ ((n : Int) < 0) := by omega
  obtain ⟨m, hm⟩ : ∃ m, Value.agg (cells8 k) = m := ⟨_, rfl⟩
  rw [hm]
  unfold okPl at hb
  by_cases h1 : 0 ≤ p
  · have h2 : ¬ (p ≤ 4611686018427387904 - (n : Int)) := by omega
    go_enter Try.func13, Try.ntmps13
    go_wp2
    all_goals go_ret2
    all_goals exact ⟨rfl, ((Below.refl _ w).alloc (Nat.le_refl _) _).alloc (by simp) _⟩
  · go_enter Try.func13, Try.ntmps13
    go_wp2
    all_goals go_ret2
    all_goals exact ⟨rfl, ((Below.refl _ w).alloc (Nat.le_refl _) _).alloc (by simp) _⟩
theorem ksB_lt {k : List Nat} (hl : k.length = 16) (hk : Byt k) (p : Nat) : 0 ≤ ksB k p ∧ ksB k p < 256 := by
  unfold ksB
  have := byt_at (ksL_ok hl hk (p / 16)).2 (p % 16)
  omega
theorem strL_byt {k : List Nat} (hl : k.length = 16) (hk : Byt k) (at' n : Nat) : ∀ x ∈ strL k at' n, 0 ≤ x ∧ x < 256 := by
  intro x hx
  simp only [strL, List.mem_map] at hx
  obtain ⟨i, _, rfl⟩ := hx
  exact ksB_lt hl hk _
set_option maxRecDepth 100000 in
set_option maxHeartbeats 2000000 in
theorem apply_ok (w : World) (k : List Nat) (at' : Nat) (v : Value) (l : List Int) (hk : Byt k) (hl : k.length = 16) (hv : HB w v l) (hpl : at' + l.length ≤ 4611686018427387904) (hn : l.length ≤ 140737488351232) :
    Calls Try.prog 14 #[.agg (cells8 k), .int .i64 (at' : Int), v] w fun e w' => ∃ v', e = .returned (.tuple #[v', .int .i64 0]) ∧ w'.ownsRow w.heap.size 5 1 v' l.length ((xorL l (strL k at' l.length)).map (Value.int .u8)) ∧ Below w.heap.size w w' := by
  obtain ⟨z0, z1, z2, z3, z4, z5, z6, z7, z8, z9, z10, z11, z12, z13, z14, z15, hz⟩ := list16 hl
  have hcz : cells8 k = #[.int .u8 (z0 : Int), .int .u8 (z1 : Int), .int .u8 (z2 : Int), .int .u8 (z3 : Int), .int .u8 (z4 : Int), .int .u8 (z5 : Int), .int .u8 (z6 : Int), .int .u8 (z7 : Int), .int .u8 (z8 : Int), .int .u8 (z9 : Int), .int .u8 (z10 : Int), .int .u8 (z11 : Int), .int .u8 (z12 : Int), .int .u8 (z13 : Int), .int .u8 (z14 : Int), .int .u8 (z15 : Int)] := by rw [hz]; rfl
  have HCZ := hid hcz
  rw [hcz]
  clear hz hcz
  have HV := hid hv
  obtain ⟨pa, ca, rfl, hca, hcm⟩ := hv.open
  clear hv
  refine Calls.mono (calls_of_wp Try.func14 rfl (R := fun e w' => ∃ v', e = .returned (.tuple #[v', .int .i64 0]) ∧ w'.ownsRow w.heap.size 5 1 v' l.length ((xorL l (strL k at' l.length)).map (Value.int .u8)) ∧ Below w.heap.size w w') ?_) (fun e w' h => h)
  simp only [Try.ntmps14, List.size_toArray, List.length_cons, List.length_nil, Nat.reduceAdd, Nat.reduceSub, Array.replicate_succ, Array.replicate_zero, List.push_toArray, List.append_toArray, List.nil_append, List.cons_append]
  refine wp_seq_k fun K1 h1 => ?_
  have H1 := hid h1
  clear h1
  go_wp2
  refine H1.out _ _ ?_
  clear H1 K1
  rw [← HCZ.out]
  clear HCZ
  obtain ⟨w0, hw0⟩ : ∃ w0, Hid (w.alloc (.cells (cells8 k) 23) = w0) := ⟨_, rfl⟩
  rw [hw0.out]
  have B0 : Hid (Below w.heap.size w w0) := by rw [← hw0.out]; exact (Below.refl _ w).alloc (Nat.le_refl _) _
  have K0 : Hid (KeyIn w0 w.heap.size k) := by rw [← hw0.out]; exact World.alloc_heap_new w _
  have CS := hid (stream_any w0 k at' l.length hk hl hpl hn)
  go_wp2_with (refine wpList_ldk K0 hl rfl rfl rfl ?_)
  refine CS.out.mono ?_
  rintro e w1 ⟨v1, rfl, ho1, hB1⟩
  have O1 := hid ho1
  have B1 := hid (B0.out.trans (hB1.mono B0.out.size))
  clear ho1 hB1 CS
  have V1 := hid (HV.out.below B1.out)
  have S1 : Hid (HB w1 v1 (strL k at' l.length)) := HB.of_own (l := strL k at' l.length) (by rw [strL_length]; exact O1.out) (strL_byt hl hk at' l.length)
  have CX := hid (xor_same w1 _ v1 l (strL k at' l.length) V1.out S1.out (by rw [strL_length]) hn)
  go_wp2_with fail
  refine CX.out.mono ?_
  rintro e w2 ⟨v2, rfl, ho2, hB2⟩
  have O2 := hid ho2
  have B2 := hid (B1.out.trans (hB2.mono B1.out.size))
  clear ho2 hB2 CX
  go_wp2
  go_ret2
  exact ⟨_, rfl, own_mono O2.out B1.out.size, B2.out⟩
set_option maxRecDepth 100000 in
set_option maxHeartbeats 2000000 in
theorem apply_bad (w : World) (k : List Nat) (p : Int) (v : Value) (l : List Int) (hl : k.length = 16) (hv : HB w v l) (hp : -9223372036854775808 ≤ p ∧ p ≤ 9223372036854775807) (hn : l.length ≤ 140737488351232) (hb : ¬ okPl p l.length) :
    Calls Try.prog 14 #[.agg (cells8 k), .int .i64 p, v] w fun e w' => e = .returned (.tuple #[.slice none 0 0, .int .i64 40]) ∧ Below w.heap.size w w' := by
  obtain ⟨z0, z1, z2, z3, z4, z5, z6, z7, z8, z9, z10, z11, z12, z13, z14, z15, hz⟩ := list16 hl
  have hcz : cells8 k = #[.int .u8 (z0 : Int), .int .u8 (z1 : Int), .int .u8 (z2 : Int), .int .u8 (z3 : Int), .int .u8 (z4 : Int), .int .u8 (z5 : Int), .int .u8 (z6 : Int), .int .u8 (z7 : Int), .int .u8 (z8 : Int), .int .u8 (z9 : Int), .int .u8 (z10 : Int), .int .u8 (z11 : Int), .int .u8 (z12 : Int), .int .u8 (z13 : Int), .int .u8 (z14 : Int), .int .u8 (z15 : Int)] := by rw [hz]; rfl
  have HCZ := hid hcz
  rw [hcz]
  clear hz hcz
  obtain ⟨pa, ca, rfl, hca, hcm⟩ := hv.open
  clear hv
  refine Calls.mono (calls_of_wp Try.func14 rfl (R := fun e w' => e = .returned (.tuple #[.slice none 0 0, .int .i64 40]) ∧ Below w.heap.size w w') ?_) (fun e w' h => h)
  simp only [Try.ntmps14, List.size_toArray, List.length_cons, List.length_nil, Nat.reduceAdd, Nat.reduceSub, Array.replicate_succ, Array.replicate_zero, List.push_toArray, List.append_toArray, List.nil_append, List.cons_append]
  refine wp_seq_k fun K1 h1 => ?_
  have H1 := hid h1
  clear h1
  go_wp2
  refine H1.out _ _ ?_
  clear H1 K1
  rw [← HCZ.out]
  clear HCZ
  obtain ⟨w0, hw0⟩ : ∃ w0, Hid (w.alloc (.cells (cells8 k) 23) = w0) := ⟨_, rfl⟩
  rw [hw0.out]
  have B0 : Hid (Below w.heap.size w w0) := by rw [← hw0.out]; exact (Below.refl _ w).alloc (Nat.le_refl _) _
  have K0 : Hid (KeyIn w0 w.heap.size k) := by rw [← hw0.out]; exact World.alloc_heap_new w _
  have CS := hid (stream_bad w0 k p l.length hp hn hb)
  clear hp hb
  go_wp2_with (refine wpList_ldk K0 hl rfl rfl rfl ?_)
  refine CS.out.mono ?_
  rintro e w1 ⟨rfl, hB1⟩
  have B1 := hid (B0.out.trans (hB1.mono B0.out.size))
  clear hB1 CS
  go_wp2
  go_ret2
  exact ⟨rfl, B1.out⟩
end Go.Proofs.Ytbafegpiipkmbaa
