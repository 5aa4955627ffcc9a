/- tree.node and Chain: the numbers beside the way up, by the evaluator, one way a width. -/
import Derived.Test.YtfaojnnpekpomaaDoorTrWid
import Derived.Test.YtfaojnnpekpomaaDoorEvMarks
set_option linter.unusedVariables false
set_option linter.unusedSimpArgs false
namespace Go.Proofs.YtfaojnnpekpomaaDoor
open Go Go.RowKit Ev

set_option maxRecDepth 100000 in
set_option maxHeartbeats 1000000 in
theorem node_ok (w : World) (n i : Nat) (h1 : 1 ≤ n) (h2 : n ≤ 512) (hi : i < n) : Calls Tryd.prog 38 #[.int .i64 (n : Int), .int .i64 (i : Int)] w fun e w' => e = .returned (.tuple #[.int .i64 ((wdN n + i : Nat) : Int), .int .i64 0]) ∧ Below w.heap.size w w' := by
  have CW := hid (width_ok w n h1 h2)
  have hW := wdN_le n
  generalize wdN n = W at CW hW ⊢
  go_enter Tryd.func38, Tryd.ntmps38
  go_wp2_with fail
  refine CW.out.mono ?_
  rintro e w1 ⟨rfl, hB⟩
  have BL := hid hB
  clear hB CW
  go_wp2
  go_ret2
  exact ⟨by show Ending.returned (.tuple #[.int .i64 ((W : Int) + (i : Int)), .int .i64 0]) = _; rw [show ((W + i : Nat) : Int) = (W : Int) + (i : Int) by omega], BL.out⟩
/-- What is wrong with a leaf's number. -/
def nodeE (n i : Int) : Int := if 1 ≤ n ∧ n ≤ 512 then 111 else 110
set_option maxRecDepth 100000 in
set_option maxHeartbeats 1000000 in
theorem node_bad (w : World) (n i : Int) (h : ¬ (1 ≤ n ∧ n ≤ 512 ∧ 0 ≤ i ∧ i < n)) : Calls Tryd.prog 38 #[.int .i64 n, .int .i64 i] w fun e w' => e = .returned (.tuple #[.int .i64 0, .int .i64 (nodeE n i)]) ∧ Below w.heap.size w w' := by
  by_cases hn : 1 ≤ n ∧ n ≤ 512
  · obtain ⟨m, rfl⟩ := Int.eq_ofNat_of_zero_le (show 0 ≤ n by omega)
    have CW := hid (width_ok w m (by omega) (by omega))
    have HE : Hid (nodeE (m : Int) i = 111) := by refine hid ?_; unfold nodeE; rw [if_pos hn]
    have h3 : i < 0 ∨ (0 ≤ i ∧ (m : Int) ≤ i) := by omega
    go_enter Tryd.func38, Tryd.ntmps38
    go_wp2_with fail
    refine CW.out.mono ?_
    rintro e w1 ⟨rfl, hB⟩
    have BL := hid hB
    clear hB CW h hn
    rcases h3 with h3 | ⟨h3, h4⟩
    · go_wp2
      go_ret2
      exact ⟨by rw [HE.out]; rfl, BL.out⟩
    · go_wp2
      go_ret2
      exact ⟨by rw [HE.out]; rfl, BL.out⟩
  · have CW := hid (width_bad w n hn)
    have HE : Hid (nodeE n i = 110) := by refine hid ?_; unfold nodeE; rw [if_neg hn]
    clear h hn
    go_enter Tryd.func38, Tryd.ntmps38
    go_wp2_with fail
    refine CW.out.mono ?_
    rintro e w1 ⟨rfl, rfl⟩
    go_wp2
    go_ret2
    exact ⟨by rw [HE.out]; rfl, Below.refl _ _⟩

/-- How often a symbol was halved. -/
def lev : Ex → Option Nat
  | .var 0 => some 0
  | .ari .quo .i64 a (.lit 2) => (lev a).map (· + 1)
  | _ => none
def loreC (k : Nat) : Lore := ⟨fun op a b => if b = .lit 1 then (match lev a with | some j => (match op with | .geq => some (decide (j ≤ k)) | .gtr => some (decide (j < k)) | _ => none) | none => none) else none, id, fun _ _ => none⟩
def envC (x : Nat) (n i : Int) : Env := ⟨fun j => if j = 0 then (x : Int) else if j = 1 then n else i, fun _ => .tuple #[], fun _ _ _ => 0⟩
theorem lev_den (x : Nat) (n i : Int) (hx : x < 1024) : ∀ (a : Ex) (j : Nat), lev a = some j → a.den (envC x n i) = ((x / 2 ^ j : Nat) : Int)
  | .var 0, j, h => by
    simp only [lev, Option.some.injEq] at h
    subst h
    simp [Ex.den, envC]
  | .ari .quo .i64 a (.lit 2), j, h => by
    simp only [lev, Option.map_eq_some_iff] at h
    obtain ⟨j', h1, rfl⟩ := h
    have h2 := lev_den x n i hx a j' h1
    simp only [Ex.den, h2, ariOf]
    have h3 : Int.tdiv ((x / 2 ^ j' : Nat) : Int) 2 = ((x / 2 ^ (j' + 1) : Nat) : Int) := by
      rw [Nat.pow_succ, ← Nat.div_div_eq_div_mul]
      generalize x / 2 ^ j' = y
      rw [Int.tdiv_eq_ediv_of_nonneg (by omega)]
      omega
    rw [h3, IntKind.wrap_i64]
    have := Nat.div_le_self x (2 ^ (j' + 1))
    generalize x / 2 ^ (j' + 1) = y at this ⊢
    omega
theorem loreC_ok (k x : Nat) (n i : Int) (h1 : 2 ^ k ≤ x) (h2 : x < 2 ^ (k + 1)) (hx : x < 1024) : LoreOk (envC x n i) (loreC k) := by
  refine ⟨fun op a b r h => ?_, fun _ => rfl, fun _ _ _ h => by simp [loreC] at h⟩
  simp only [loreC] at h
  split at h
  case isFalse => cases h
  rename_i hb
  subst hb
  split at h
  case h_2 => cases h
  rename_i j hj
  rw [lev_den x n i hx a j hj]
  have g1 : (1 ≤ x / 2 ^ j) ↔ j ≤ k := by
    rw [Nat.le_div_iff_mul_le (Nat.pow_pos (by decide)), Nat.one_mul]
    constructor
    · intro h
      apply Classical.byContradiction
      intro hc
      have := Nat.pow_le_pow_right (show 0 < 2 by decide) (show k + 1 ≤ j by omega)
      omega
    · intro h
      have := Nat.pow_le_pow_right (show 0 < 2 by decide) h
      omega
  have g2 : (2 ≤ x / 2 ^ j) ↔ j < k := by
    rw [Nat.le_div_iff_mul_le (Nat.pow_pos (by decide)), Nat.mul_comm, ← Nat.pow_succ]
    constructor
    · intro h
      apply Classical.byContradiction
      intro hc
      have := Nat.pow_le_pow_right (show 0 < 2 by decide) (show k + 1 ≤ j + 1 by omega)
      omega
    · intro h
      have := Nat.pow_le_pow_right (show 0 < 2 by decide) (show j + 1 ≤ k by omega)
      omega
  generalize x / 2 ^ j = y at g1 g2 ⊢
  split at h
  · cases h
    show some (decide (((y : Nat) : Int) ≥ 1)) = some (decide (j ≤ k))
    congr 1
    exact decide_eq_decide.2 (by omega)
  · cases h
    show some (decide (((y : Nat) : Int) > 1)) = some (decide (j < k))
    congr 1
    exact decide_eq_decide.2 (by omega)
  · cases h
def conNode : ConF := fun g xs _ => if g = 38 then (if xs = [.tv (.sc (.int .i64 (.var 1))), .tv (.sc (.int .i64 (.var 2)))] then some (.tup [.sc (.int .i64 (.var 0)), .sc (.int .i64 (.lit 0))]) else none) else none
theorem conNode_ok (n i : Nat) (h1 : 1 ≤ n) (h2 : n ≤ 512) (hi : i < n) : ConOk Tryd.prog (envC (wdN n + i) n i) conNode := by
  intro g xs H v h ms B w args ha hH
  unfold conNode at h
  split at h
  case isFalse => cases h
  rename_i hg
  subst hg
  split at h <;> cases h
  rename_i hx
  subst hx
  have ea : args = #[.int .i64 (n : Int), .int .i64 (i : Int)] := by
    obtain ⟨al⟩ := args
    simp only [List.map_cons, List.map_nil, AV.inst, TV.inst, SV.inst, Ex.den, envC] at ha
    match al, ha with
    | [a, b], ha =>
      simp at ha
      rw [← ha.1, ← ha.2]
  subst ea
  refine (node_ok w n i h1 h2 hi).mono fun e w' ⟨q1, q2⟩ => ⟨_, q1, ?_, q2⟩
  simp only [AV.inst]
  rw [(seqO_iff _ [.int .i64 ((wdN n + i : Nat) : Int), .int .i64 0]).2 (by simp [TV.inst, SV.inst, Ex.den, envC])]
  rfl
noncomputable def evCh (k : Nat) : Option (AV × List Blk) := evCallR Tryd.prog (loreC k) (callStep Tryd.prog conNode) 100 1000 29 [.tv (.sc (.int .i64 (.var 1))), .tv (.sc (.int .i64 (.var 2)))] H0
def tellC (r : AV × List Blk) : Option (List SV) :=
  match r.1 with
  | .tup [.sc s, .sc (.int .i64 (.lit 0))] =>
    match slOf (.tv (.sc s)) with
    | some x => if (r.2[x.1]?).map (·.ro) = some false then span r.2 x.1 x.2.1 x.2.2 else none
    | none => if s = .nils 0 0 then some [] else none
  | _ => none
def halv : Nat → Ex
  | 0 => .var 0
  | j + 1 => .ari .quo .i64 (halv j) (.lit 2)
def expC (k : Nat) : List SV := (List.range k).map fun j => .int .i64 (.bit .xor .i64 (halv j) (.lit 1))
theorem ch_ev0 : (evCh 0).bind tellC = some (expC 0) := by kernel_rfl
theorem ch_ev1 : (evCh 1).bind tellC = some (expC 1) := by kernel_rfl
theorem ch_ev2 : (evCh 2).bind tellC = some (expC 2) := by kernel_rfl
theorem ch_ev3 : (evCh 3).bind tellC = some (expC 3) := by kernel_rfl
theorem ch_ev4 : (evCh 4).bind tellC = some (expC 4) := by kernel_rfl
theorem ch_ev5 : (evCh 5).bind tellC = some (expC 5) := by kernel_rfl
theorem ch_ev6 : (evCh 6).bind tellC = some (expC 6) := by kernel_rfl
theorem ch_ev7 : (evCh 7).bind tellC = some (expC 7) := by kernel_rfl
theorem ch_ev8 : (evCh 8).bind tellC = some (expC 8) := by kernel_rfl
theorem ch_ev9 : (evCh 9).bind tellC = some (expC 9) := by kernel_rfl
theorem ch_ev (k : Nat) (h : k < 10) : (evCh k).bind tellC = some (expC k) := by
  match k, h with
  | 0, _ => exact ch_ev0
  | 1, _ => exact ch_ev1
  | 2, _ => exact ch_ev2
  | 3, _ => exact ch_ev3
  | 4, _ => exact ch_ev4
  | 5, _ => exact ch_ev5
  | 6, _ => exact ch_ev6
  | 7, _ => exact ch_ev7
  | 8, _ => exact ch_ev8
  | 9, _ => exact ch_ev9
/-- v is a slice of the numbers l. -/
def HNs (w : World) (v : Value) (l : List Nat) : Prop := ∃ (p : Option Addr) (c : Nat), v = .slice p l.length c ∧ (0 < l.length → ∃ b off, p = some ⟨b, off, none⟩ ∧ ∀ j, j < l.length → w.cell? ⟨b, off + j, none⟩ = some (.int .i64 ((l.getD j 0 : Nat) : Int)))
theorem HNs.below {w w' : World} {v : Value} {l : List Nat} (h : HNs w v l) (hB : Below w.heap.size w w') : HNs w' v l := by
  obtain ⟨p, c, h1, h2⟩ := h
  refine ⟨p, c, h1, fun h0 => ?_⟩
  obtain ⟨b, off, e, hh⟩ := h2 h0
  exact ⟨b, off, e, fun j hj => (hB.cell (World.block_lt_of_cell? w _ (hh j hj))).trans (hh j hj)⟩
/-- The numbers beside the way up from x, k steps. -/
def chL (k x : Nat) : List Nat := (List.range k).map fun j => (x / 2 ^ j) ^^^ 1
theorem chL_length (k x : Nat) : (chL k x).length = k := by simp [chL]
theorem halv_lev : ∀ j, lev (halv j) = some j
  | 0 => rfl
  | j + 1 => by simp only [halv, lev, halv_lev j, Option.map_some]
theorem xor_one (y : Nat) (h : y < 1024) : bitsOf .xor .i64 (y : Int) 1 = ((y ^^^ 1 : Nat) : Int) := by
  have e : ∀ y, y < 1024 → bitsOf .xor .i64 ((y : Nat) : Int) 1 = ((y ^^^ 1 : Nat) : Int) := by decide +kernel
  exact e y h
theorem expC_inst (k x : Nat) (n i : Int) (hx : x < 1024) (ms : List Nat) : (expC k).map (SV.inst (envC x n i) ms) = ((chL k x).map fun y : Nat => Value.int .i64 (y : Int)).map some := by
  unfold expC chL
  rw [List.map_map, List.map_map, List.map_map]
  refine List.map_congr_left fun j _ => ?_
  simp only [Function.comp, SV.inst, Ex.den, lev_den x n i hx (halv j) j (halv_lev j)]
  rw [xor_one _ (Nat.lt_of_le_of_lt (Nat.div_le_self _ _) hx)]
theorem chain_ok (w : World) (n i k : Nat) (h1 : 1 ≤ n) (h2 : n ≤ 512) (hi : i < n) (hk : wdN n = 2 ^ k) (hk9 : k < 10) : Calls Tryd.prog 29 #[.int .i64 (n : Int), .int .i64 (i : Int)] w fun e w' => ∃ v, e = .returned (.tuple #[v, .int .i64 0]) ∧ HNs w' v (chL k (wdN n + i)) ∧ (∀ b, v.ownBlock = some b → w.heap.size ≤ b) ∧ Below w.heap.size w w' := by
  have hW := wdN_le n
  have hWg := wdN_ge n h2
  obtain ⟨⟨v, H'⟩, h3, h4⟩ := Option.bind_eq_some_iff.1 (ch_ev k hk9)
  have hL := loreC_ok k (wdN n + i) n i (by rw [← hk]; omega) (by rw [Nat.pow_succ, ← hk]; omega) (by omega)
  have hok := evCallR_ok hL mixedOrders (base := callStep Tryd.prog conNode) (fun self hs => callStep_ok (conNode_ok n i h1 h2 hi) hs) 100 1000
  refine (hok _ _ _ _ _ h3 ms0 w.heap.size w #[.int .i64 (n : Int), .int .i64 (i : Int)] (by simp [AV.inst, TV.inst, SV.inst, Ex.den, envC]) (holds_nil _ w)).mono ?_
  rintro e w' ⟨ms', u, rfl, _, h5, h6, h7⟩
  unfold tellC at h4
  split at h4
  case h_2 => cases h4
  rename_i s hs
  dsimp only at hs
  subst hs
  simp only [AV.inst] at h5
  rw [Option.map_eq_some_iff] at h5
  obtain ⟨us, h8, rfl⟩ := h5
  rw [seqO_iff] at h8
  obtain ⟨u1, u2, rfl, hu1, hu2⟩ : ∃ u1 u2, us = [u1, u2] ∧ (TV.sc s).inst (envC (wdN n + i) n i) ms' = some u1 ∧ u2 = .int .i64 0 := by
    have hl : us.length = 2 := by have := congrArg List.length h8; simpa using this.symm
    match us, hl, h8 with
    | [u1, u2], _, h8 =>
      simp only [List.map_cons, List.map_nil, List.cons.injEq, and_true] at h8
      refine ⟨u1, u2, rfl, h8.1, ?_⟩
      have := h8.2
      simp only [TV.inst, SV.inst, Ex.den, Option.some.injEq] at this
      exact this.symm
  subst hu2
  refine ⟨u1, rfl, ?_⟩
  have hlen := chL_length k (wdN n + i)
  split at h4
  · rename_i x hx
    obtain ⟨nn, o, ln⟩ := x
    obtain ⟨b, c, hb, rfl⟩ := slOf_ok hx hu1
    split at h4
    case isFalse => cases h4
    rename_i hro
    rw [Option.map_eq_some_iff] at hro
    obtain ⟨kk, hkk, hro⟩ := hro
    have hnew := h6.low nn b kk hb hkk hro
    obtain ⟨vs, r1, r2, r3⟩ := span_ok ((h6.sees nn).at _ _) hb h4
    have e : vs = (chL k (wdN n + i)).map fun y : Nat => Value.int .i64 (y : Int) := by
      have := expC_inst k (wdN n + i) n i (by omega) ms'
      rw [r1] at this
      exact List.map_inj_right (fun _ _ h => Option.some.inj h) |>.1 this
    subst e
    dsimp only at r2 r3
    rw [List.length_map] at r2
    refine ⟨⟨_, c, by rw [r2], fun h0 => ⟨b, o, rfl, fun j hj => r3 j _ ?_⟩⟩, fun b' e => by simp only [Value.ownBlock, Option.some.injEq] at e; omega, h7.toBelow⟩
    simp [List.getD, List.getElem?_eq_getElem hj]
  · split at h4
    case isFalse => cases h4
    rename_i hs0
    subst hs0
    have hk0 : k = 0 := by
      have := congrArg List.length (Option.some.inj h4)
      simpa [expC] using this.symm
    simp only [TV.inst, SV.inst, Option.some.injEq] at hu1
    rw [← hu1]
    refine ⟨⟨none, 0, by rw [hlen, hk0], fun h0 => absurd h0 (by omega)⟩, fun b' e => by simp [Value.ownBlock] at e, h7.toBelow⟩
end Go.Proofs.YtfaojnnpekpomaaDoor
