/- CtrBlocks: what the evaluator was told is so. -/
import Derived.Test.YtbafegpiipkmbaaCtrBlocksEv
set_option linter.unusedVariables false
set_option linter.unusedSimpArgs false
namespace Go.Proofs.Ytbafegpiipkmbaa
open Go Go.RowKit Ev

/-- What the kit's Pick answers. -/
def pickI (x : Int) (n : Nat) : Int := if Int.tmod x n < 0 then Int.tmod x n + n else Int.tmod x n
theorem pickI_lt (x : Int) (n : Nat) (h : 1 ≤ n) : 0 ≤ pickI x n ∧ pickI x n < n := by
  have b1 : -(n : Int) < Int.tmod x n := Int.lt_tmod_of_pos x (by omega)
  have b2 : Int.tmod x n < (n : Int) := Int.tmod_lt_of_pos x (by omega)
  unfold pickI
  split <;> omega
set_option maxHeartbeats 1000000 in
theorem pickI_any (w : World) (x : Int) : Calls Try.prog 9 #[.int .i64 x, .int .i64 20] w fun e w' => e = .returned (.int .i64 (pickI x 20)) ∧ w' = w := by
  have b1 : -(20 : Int) < Int.tmod x 20 := Int.lt_tmod_of_pos x (by omega)
  have b2 : Int.tmod x 20 < (20 : Int) := Int.tmod_lt_of_pos x (by omega)
  have hp : pickI x 20 = if Int.tmod x 20 < 0 then Int.tmod x 20 + 20 else Int.tmod x 20 := rfl
  rw [hp]
  clear hp
  obtain ⟨y, hy⟩ : ∃ y, Int.tmod x 20 = y := ⟨_, rfl⟩
  rw [hy] at b1 b2 ⊢
  by_cases hneg : y < 0
  · rw [if_pos hneg]
    go_enter Try.func9, Try.ntmps9
    go_wp2
    go_ret
    exact ⟨rfl, rfl⟩
  · rw [if_neg hneg]
    go_enter Try.func9, Try.ntmps9
    go_wp2
    go_ret
    exact ⟨rfl, rfl⟩

def nJ (fr j : Nat) : Nat := (fr + j) % 18446744073709551616
def fJ (k : List Nat) (fr : Nat) : Nat → Nat := fun i => if i < 16 then at8 k i else if i < 192 then at8 (schedL k) (i - 16) else if (i - 200) % 32 < 16 then at8 (ctrL (nJ fr ((i - 200) / 32))) ((i - 200) % 32) else at8 (ksL k (nJ fr ((i - 200) / 32))) ((i - 200) % 32 - 16)
def envD (f : Nat → Nat) (fr S st : Int) : Env := ⟨fun i => if i = 900 then fr else if i = 901 then S else if i = 902 then st else (f i : Int), fun _ => .tuple #[], fun _ _ _ => 0⟩
theorem varsD (f : Nat → Nat) (fr S st : Int) (o m : Nat) (h : o + m ≤ 900) (ms : List Nat) : (vars o m).map (SV.inst (envD f fr S st) ms) = ((named f o m).map fun x : Nat => Value.int .u8 (x : Int)).map some := by
  simp only [vars, named, List.map_map]
  refine List.map_congr_left fun i hi => ?_
  have := List.mem_range.1 hi
  have h1 : ¬ (o + i = 900) := by omega
  have h2 : ¬ (o + i = 901) := by omega
  have h3 : ¬ (o + i = 902) := by omega
  simp [SV.inst, Ex.den, envD, h1, h2, h3]
theorem VD (f : Nat → Nat) (fr S st : Int) (o m : Nat) (h : o + m ≤ 900) (ms : List Nat) : (V o m).inst (envD f fr S st) ms = some (.agg (cells8 (named f o m))) := by
  unfold V
  simp only [AV.inst, TV.inst, (seqO_iff _ _).2 (varsD f fr S st o m h ms), Option.map_some]
  rfl
theorem eN_den (f : Nat → Nat) (fr : Nat) (S st : Int) (hfr : fr < 18446744073709551616) : ∀ j, (eN j).den (envD f (fr : Int) S st) = ((nJ fr j : Nat) : Int)
  | 0 => by
    show (fr : Int) = _
    unfold nJ
    rw [Nat.add_zero, Nat.mod_eq_of_lt hfr]
  | j + 1 => by
    have ih := eN_den f fr S st hfr j
    show IntKind.u64.wrap ((eN j).den _ + 1) = _
    rw [ih]
    have : ∀ x : Int, IntKind.u64.wrap x = x % 18446744073709551616 := fun x => by simp [IntKind.wrap, IntKind.bits, IntKind.signed]
    rw [this]
    unfold nJ
    omega
theorem eIx_ok : ∀ (a : Ex) (j : Nat), eIx a = some j → a = eN j
  | .var i, j, h => by
    simp only [eIx] at h
    split at h <;> cases h
    rename_i e
    subst e
    rfl
  | .ari op k e r, j, h => by
    simp only [eIx] at h
    split at h
    · rename_i hc
      obtain ⟨rfl, rfl, rfl⟩ := hc
      rw [Option.map_eq_some_iff] at h
      obtain ⟨i, h1, rfl⟩ := h
      rw [eIx_ok e i h1]
      rfl
    · cases h
  | .lit _, _, h => by simp [eIx] at h
  | .bit _ _ _ _, _, h => by simp [eIx] at h
  | .shl _ _ _, _, h => by simp [eIx] at h
  | .shr _ _, _, h => by simp [eIx] at h
  | .con _ _, _, h => by simp [eIx] at h
  | .app _ _ _, _, h => by simp [eIx] at h
theorem fJ_0 {k : List Nat} (hl : k.length = 16) (fr : Nat) : named (fJ k fr) 0 16 = k := at8_vars hl fun i hi => by unfold fJ; rw [if_pos (by omega), Nat.zero_add]
theorem fJ_1 {k : List Nat} (hk : Byt k) (hl : k.length = 16) (fr : Nat) : named (fJ k fr) 16 176 = schedL k := at8_vars (schedL_ok hl hk).1 fun i hi => by unfold fJ; rw [if_neg (by omega), if_pos (by omega), Nat.add_sub_cancel_left]
theorem fJ_2 {k : List Nat} (fr : Nat) (j : Nat) : named (fJ k fr) (200 + 32 * j) 16 = ctrL (nJ fr j) := at8_vars (ctrL_length _) fun i hi => by
  unfold fJ
  rw [if_neg (by omega), if_neg (by omega), show 200 + 32 * j + i - 200 = 32 * j + i by omega, show (32 * j + i) % 32 = i by omega, show (32 * j + i) / 32 = j by omega, if_pos hi]
theorem fJ_3 {k : List Nat} (hk : Byt k) (hl : k.length = 16) (fr : Nat) (j : Nat) : named (fJ k fr) (216 + 32 * j) 16 = ksL k (nJ fr j) := at8_vars (ksL_ok hl hk _).1 fun i hi => by
  unfold fJ
  rw [if_neg (by omega), if_neg (by omega), show 216 + 32 * j + i - 200 = 32 * j + (16 + i) by omega, show (32 * j + (16 + i)) % 32 = 16 + i by omega, show (32 * j + (16 + i)) / 32 = j by omega, if_neg (by omega), Nat.add_sub_cancel_left]
theorem args_one {ρ : Env} {ms : List Nat} {a : AV} {v : Value} (ha : a.inst ρ ms = some v) {args : Array Value} (h : [a].map (AV.inst ρ ms) = args.toList.map some) : args = #[v] := by
  obtain ⟨l⟩ := args
  have hl1 : l.length = 1 := by have := congrArg List.length h; simpa using this.symm
  match l, hl1, h with
  | [u], _, h =>
    simp only [List.map_cons, List.map_nil, List.cons.injEq, and_true, ha, Option.some.injEq] at h
    subst h
    rfl
theorem args_two {ρ : Env} {ms : List Nat} {a b : AV} {v u : Value} (ha : a.inst ρ ms = some v) (hb : b.inst ρ ms = some u) {args : Array Value} (h : [a, b].map (AV.inst ρ ms) = args.toList.map some) : args = #[v, u] := by
  obtain ⟨l⟩ := args
  have hl1 : l.length = 2 := by have := congrArg List.length h; simpa using this.symm
  match l, hl1, h with
  | [x, y], _, h =>
    simp only [List.map_cons, List.map_nil, List.cons.injEq, and_true, ha, hb, Option.some.injEq] at h
    obtain ⟨rfl, rfl⟩ := h
    rfl
theorem args_three {ρ : Env} {ms : List Nat} {a b c : AV} {v u x : Value} (ha : a.inst ρ ms = some v) (hb : b.inst ρ ms = some u) (hc : c.inst ρ ms = some x) {args : Array Value} (h : [a, b, c].map (AV.inst ρ ms) = args.toList.map some) : args = #[v, u, x] := by
  obtain ⟨l⟩ := args
  have hl1 : l.length = 3 := by have := congrArg List.length h; simpa using this.symm
  match l, hl1, h with
  | [y, z, t], _, h =>
    simp only [List.map_cons, List.map_nil, List.cons.injEq, and_true, ha, hb, hc, Option.some.injEq] at h
    obtain ⟨rfl, rfl, rfl⟩ := h
    rfl
theorem cb_con {k : List Nat} (hk : Byt k) (hl : k.length = 16) (fr : Nat) (hfr : fr < 18446744073709551616) (st : Int) : ConOk Try.prog (envD (fJ k fr) (fr : Int) (pickI st 20) st) (tabCon tabC) := by
  obtain ⟨s1, s2, _⟩ := schedL_ok hl hk
  have eN1 : ∀ j ms, (AV.tv (.sc (.int .u64 (eN j)))).inst (envD (fJ k fr) (fr : Int) (pickI st 20) st) ms = some (.int .u64 ((nJ fr j : Nat) : Int)) := fun j ms => by
    simp only [AV.inst, TV.inst, SV.inst, eN_den _ _ _ _ hfr]
  refine tabCon_ok ?_
  intro e he
  simp only [tabC, List.mem_append, List.mem_cons, List.not_mem_nil, or_false, List.mem_flatMap, List.mem_range] at he
  rcases he with (rfl | rfl) | ⟨j, hj, rfl | rfl | rfl⟩
  · intro ms W args ha
    obtain rfl := args_two (v := .int .i64 st) (u := .int .i64 20) rfl rfl ha
    exact (pickI_any W st).mono fun e w' ⟨q1, q2⟩ => ⟨_, q1, rfl, by rw [q2]; exact Below.refl _ _⟩
  · intro ms W args ha
    obtain rfl := args_one (by rw [VD _ _ _ _ 0 16 (by decide), fJ_0 hl]) ha
    exact (sched_any W k hk hl).mono fun e w' ⟨q1, q2⟩ => ⟨_, q1, by rw [VD _ _ _ _ 16 176 (by decide), fJ_1 hk hl], q2⟩
  · intro ms W args ha
    obtain rfl := args_one (eN1 j ms) ha
    exact (counter_any W (nJ fr j)).mono fun e w' ⟨q1, q2⟩ => ⟨_, q1, by rw [VD _ _ _ _ _ 16 (by omega), fJ_2], q2⟩
  · intro ms W args ha
    obtain rfl := args_three (x := .int .i64 10) (by rw [VD _ _ _ _ 16 176 (by decide), fJ_1 hk hl]) (by rw [VD _ _ _ _ _ 16 (by omega), fJ_2]) rfl ha
    exact (enc_call W (schedL k) (ctrL (nJ fr j)) s2 s1 (ctrL_byt _) (ctrL_length _)).mono fun e w' ⟨q1, q2⟩ => ⟨_, q1, by rw [VD _ _ _ _ _ 16 (by omega), fJ_3 hk hl]; rfl, q2⟩
  · intro ms W args ha
    obtain rfl := args_two (by rw [VD _ _ _ _ 0 16 (by decide), fJ_0 hl]) (eN1 j ms) ha
    exact (rblock_any W k (nJ fr j) hk hl).mono fun e w' ⟨q1, q2⟩ => ⟨_, q1, by rw [VD _ _ _ _ _ 16 (by omega), fJ_3 hk hl], q2⟩
theorem cb_lore {k : List Nat} (hk : Byt k) (hl : k.length = 16) (fr : Nat) (hfr : fr < 18446744073709551616) (st : Int) (S m : Nat) (mx brk : Bool) (hS : pickI st 20 = (S : Int)) (H1 : ∀ j, j < m → (nJ fr j = 18446744073709551615 ↔ (j + 1 = m ∧ mx = true))) (H2 : ∀ i, i ≤ m → (S < i ↔ (i = m ∧ brk = true))) :
    LoreOk (envD (fJ k fr) (fr : Int) (pickI st 20) st) (loreC m mx brk) := by
  have hA : LoreOk (envD (fJ k fr) (fr : Int) (pickI st 20) st) ⟨fun _ _ _ => none, id, tabFact cbFact⟩ := by
    refine tabFact_ok ?_
    intro e he
    simp only [cbFact, List.mem_cons, List.not_mem_nil, or_false] at he
    subst he
    refine ⟨schedL k, zeros8 176, by rw [(schedL_ok hl hk).1, zeros8_length], fun ms => ?_, fun ms => lits_map _ _ ms, (decide_eq_false (sched_ne hl hk)).symm⟩
    have := varsD (fJ k fr) (fr : Int) (pickI st 20) st 16 176 (by decide) ms
    rw [fJ_1 hk hl] at this
    exact this
  refine ⟨fun op a b r h => ?_, fun _ => rfl, hA.factA⟩
  have hv : (Ex.var 901).den (envD (fJ k fr) (fr : Int) (pickI st 20) st) = (S : Int) := hS
  simp only [loreC, factC] at h
  split at h
  · split at h
    · rename_i hb
      subst hb
      rw [Option.bind_eq_some_iff] at h
      obtain ⟨j, hj, h⟩ := h
      split at h
      · rename_i hjm
        cases h
        rw [eIx_ok a j hj, eN_den _ _ _ _ hfr]
        show some (((nJ fr j : Nat) : Int) == 18446744073709551615) = _
        have := H1 j hjm
        congr 1
        rw [Bool.eq_iff_iff]
        simp only [beq_iff_eq, Bool.and_eq_true, decide_eq_true_eq]
        rw [← this]
        omega
      · cases h
    · cases h
  · split at h
    · rename_i hb
      subst hb
      split at h
      · rename_i i
        split at h
        · rename_i him
          cases h
          rw [hv]
          show some (decide ((i : Int) > (S : Int))) = _
          have := H2 i him
          congr 1
          rw [Bool.eq_iff_iff]
          simp only [Bool.and_eq_true, decide_eq_true_eq]
          rw [← this]
          omega
        · cases h
      · cases h
    · cases h
  · split at h
    · rename_i hb
      subst hb
      split at h
      · rename_i i
        split at h
        · rename_i him
          cases h
          subst him
          rw [hv]
          show some (decide ((i : Int) ≤ (S : Int))) = _
          have := H2 i (Nat.le_refl _)
          congr 1
          rw [Bool.eq_iff_iff]
          simp only [decide_eq_true_eq, Bool.not_eq_true']
          simp only [true_and] at this
          cases brk <;> simp at this ⊢ <;> omega
        · cases h
      · cases h
    · cases h
  · cases h
theorem cb_calls (w : World) (k : List Nat) (fr : Nat) (st : Int) (S m : Nat) (mx brk : Bool) (hk : Byt k) (hl : k.length = 16) (hfr : fr < 18446744073709551616) (hS : pickI st 20 = (S : Int)) (hev : (evCb m mx brk).map (·.1) = some (.tv (.sc (.bool true))))
    (H1 : ∀ j, j < m → (nJ fr j = 18446744073709551615 ↔ (j + 1 = m ∧ mx = true))) (H2 : ∀ i, i ≤ m → (S < i ↔ (i = m ∧ brk = true))) :
    Calls Try.prog 3 #[.agg (cells8 k), .int .u64 (fr : Int), .int .i64 st] w fun e w' => e = .returned (.bool true) ∧ Below w.heap.size w w' := by
  obtain ⟨H', h1⟩ := some_fst hev
  have hL := cb_lore hk hl fr hfr st S m mx brk hS H1 H2
  refine (evCallR_ok hL mixedOrders (fun self hs => callStep_ok (cb_con hk hl fr hfr st) hs) 1000 1000 _ _ [] _ H' h1 [] w.heap.size w #[.agg (cells8 k), .int .u64 (fr : Int), .int .i64 st] ?_ (holds_nil _ w)).mono ?_
  · have e1 : (AV.tv (.sc (.int .u64 (.var 900)))).inst (envD (fJ k fr) (fr : Int) (pickI st 20) st) [] = some (.int .u64 (fr : Int)) := rfl
    have e2 : (AV.tv (.sc (.int .i64 (.var 902)))).inst (envD (fJ k fr) (fr : Int) (pickI st 20) st) [] = some (.int .i64 st) := rfl
    simp only [List.map_cons, List.map_nil, VD _ _ _ _ 0 16 (by decide), fJ_0 hl, e1, e2]
  · rintro e w' ⟨ms', u, rfl, _, h2, _, h4⟩
    simp only [AV.inst, TV.inst, SV.inst, Option.some.injEq] at h2
    exact ⟨by rw [← h2], h4.toBelow⟩
end Go.Proofs.Ytbafegpiipkmbaa
