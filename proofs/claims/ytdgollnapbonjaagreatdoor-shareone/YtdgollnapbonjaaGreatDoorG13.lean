/- Of the road to shareOneCard_holds: TrChain, TrOwn, TrClimb, TrInj, TrOneM, TrBox, TrM, TrBuild, TrAlike, TrDiff, TrDfM, UbEq, ShOneM, CutEnv, CutNamesLaw. -/
import Derived.Test.YtdgollnapbonjaaGreatDoorG12
import Derived.Test.YtdgollnapbonjaaGreatDoorG10
import Derived.Laws.MakeOwn
import Derived.Test.YtdgollnapbonjaaGreatDoorG09
import Derived.Test.YtdgollnapbonjaaGreatDoorG11
import Derived.Test.YtdgollnapbonjaaGreatDoorG01
import Derived.Laws.StructEq
import Derived.Test.YtdgollnapbonjaaGreatDoorG00
import Derived.Test.YtdgollnapbonjaaGreatDoorG08
set_option linter.unusedVariables false
set_option linter.unusedSimpArgs false
set_option maxRecDepth 100000
set_option maxHeartbeats 16000000
namespace Go.Proofs.YtdgollnapbonjaaGreatDoor
open Go Go.RowKit Ev
theorem node_ok (w : World) (n i : Nat) (h1 : 1 <= n) (h2 : n <= 512) (hi : i < n) : Calls Tryz.prog 74 #[.int .i64 (n : Int), .int .i64 (i : Int)] w fun e w' => e = .returned (.tuple #[.int .i64 ((wdN n + i : Nat) : Int), .int .i64 0]) /\ Below w.heap.size w w' := by
 have CW := hid (width_ok w n h1 h2)
 have hW := wdN_le n
 generalize wdN n = W at CW hW ⊢
 go_enter Tryz.func74, Tryz.ntmps74
 go_wp2_with fail
 refine CW.out.mono ?_
 rintro e w1 ⟨rfl, hB⟩
 have BL := hid hB
 clear hB CW
 go_wp2
 go_ret2
 exact ⟨by show Ending.returned (.tuple #[.int .i64 ((W : Int) + (i : Int)), .int .i64 0]) = _; rw [show ((W + i : Nat) : Int) = (W : Int) + (i : Int) by omega], BL.out⟩
def lev : Ex -> Option Nat
 | .var 0 => some 0
 | .ari .quo .i64 a (.lit 2) => (lev a).map (· + 1)
 | _ => none
def loreC (k : Nat) : Lore := ⟨fun op a b => if b = .lit 1 then (match lev a with | some j => (match op with | .geq => some (decide (j <= k)) | .gtr => some (decide (j < k)) | _ => none) | none => none) else none, id, fun _ _ => none⟩
def envC (x : Nat) (n i : Int) : Env := ⟨fun j => if j = 0 then (x : Int) else if j = 1 then n else i, fun _ => .tuple #[], fun _ _ _ => 0⟩
theorem lev_den (x : Nat) (n i : Int) (hx : x < 1024) : ∀ (a : Ex) (j : Nat), lev a = some j -> a.den (envC x n i) = ((x / 2 ^ j : Nat) : Int)
 | .var 0, j, h => by
  simp only [lev, Option.some.injEq] at h
  subst h
  simp [Ex.den, envC]
 | .ari .quo .i64 a (.lit 2), j, h => by
  simp only [lev, Option.map_eq_some_iff] at h
  obtain ⟨j', h1, rfl⟩ := h
  have h2 := lev_den x n i hx a j' h1
  simp only [Ex.den, h2, ariOf]
  have h3 : Int.tdiv ((x / 2 ^ j' : Nat) : Int) 2 = ((x / 2 ^ (j' + 1) : Nat) : Int) := by
   rw [Nat.pow_succ, <- Nat.div_div_eq_div_mul]
   generalize x / 2 ^ j' = y
   rw [Int.tdiv_eq_ediv_of_nonneg (by omega)]
   omega
  rw [h3, IntKind.wrap_i64]
  have := Nat.div_le_self x (2 ^ (j' + 1))
  generalize x / 2 ^ (j' + 1) = y at this ⊢
  omega
theorem loreC_ok (k x : Nat) (n i : Int) (h1 : 2 ^ k <= x) (h2 : x < 2 ^ (k + 1)) (hx : x < 1024) : LoreOk (envC x n i) (loreC k) := by
 refine ⟨fun op a b r h => ?_, fun _ => rfl, fun _ _ _ h => by simp [loreC] at h⟩
 simp only [loreC] at h
 split at h
 case isFalse => cases h
 rename_i hb
 subst hb
 split at h
 case h_2 => cases h
 rename_i j hj
 rw [lev_den x n i hx a j hj]
 have g1 : (1 <= x / 2 ^ j) ↔ j <= k := by
  rw [Nat.le_div_iff_mul_le (Nat.pow_pos (by decide)), Nat.one_mul]
  constructor
  ·intro h
   apply Classical.byContradiction
   intro hc
   have := Nat.pow_le_pow_right (show 0 < 2 by decide) (show k + 1 <= j by omega)
   omega
  ·intro h
   have := Nat.pow_le_pow_right (show 0 < 2 by decide) h
   omega
 have g2 : (2 <= x / 2 ^ j) ↔ j < k := by
  rw [Nat.le_div_iff_mul_le (Nat.pow_pos (by decide)), Nat.mul_comm, <- Nat.pow_succ]
  constructor
  ·intro h
   apply Classical.byContradiction
   intro hc
   have := Nat.pow_le_pow_right (show 0 < 2 by decide) (show k + 1 <= j + 1 by omega)
   omega
  ·intro h
   have := Nat.pow_le_pow_right (show 0 < 2 by decide) (show j + 1 <= k by omega)
   omega
 generalize x / 2 ^ j = y at g1 g2 ⊢
 split at h
 ·cases h
  show some (decide (((y : Nat) : Int) ≥ 1)) = some (decide (j <= k))
  congr 1
  exact decide_eq_decide.2 (by omega)
 ·cases h
  show some (decide (((y : Nat) : Int) > 1)) = some (decide (j < k))
  congr 1
  exact decide_eq_decide.2 (by omega)
 ·cases h
def conNode : ConF := fun g xs _ => if g = 74 then (if xs = [.tv (.sc (.int .i64 (.var 1))), .tv (.sc (.int .i64 (.var 2)))] then some (.tup [.sc (.int .i64 (.var 0)), .sc (.int .i64 (.lit 0))]) else none) else none
theorem conNode_ok (n i : Nat) (h1 : 1 <= n) (h2 : n <= 512) (hi : i < n) : ConOk Tryz.prog (envC (wdN n + i) n i) conNode := by
 intro g xs H v h ms B w args ha hH
 unfold conNode at h
 split at h
 case isFalse => cases h
 rename_i hg
 subst hg
 split at h <;> cases h
 rename_i hx
 subst hx
 have ea : args = #[.int .i64 (n : Int), .int .i64 (i : Int)] := by
  obtain ⟨al⟩ := args
  simp only [List.map_cons, List.map_nil, AV.inst, TV.inst, SV.inst, Ex.den, envC] at ha
  match al, ha with
  | [a, b], ha =>
   simp at ha
   rw [<- ha.1, <- ha.2]
 subst ea
 refine (node_ok w n i h1 h2 hi).mono fun e w' ⟨q1, q2⟩ => ⟨_, q1, ?_, q2⟩
 simp only [AV.inst]
 rw [(seqO_iff _ [.int .i64 ((wdN n + i : Nat) : Int), .int .i64 0]).2 (by simp [TV.inst, SV.inst, Ex.den, envC])]
 rfl
noncomputable def evCh (k : Nat) : Option (AV × List Blk) := evCallR Tryz.prog (loreC k) (callStep Tryz.prog conNode) 100 1000 57 [.tv (.sc (.int .i64 (.var 1))), .tv (.sc (.int .i64 (.var 2)))] H0
def tellC (r : AV × List Blk) : Option (List SV) :=
 match r.1 with
 | .tup [.sc s, .sc (.int .i64 (.lit 0))] =>
  match slOf (.tv (.sc s)) with
  | some x => if (r.2[x.1]?).map (·.ro) = some false then span r.2 x.1 x.2.1 x.2.2 else none
  | none => if s = .nils 0 0 then some [] else none
 | _ => none
def halv : Nat -> Ex
 | 0 => .var 0
 | j + 1 => .ari .quo .i64 (halv j) (.lit 2)
def expC (k : Nat) : List SV := (List.range k).map fun j => .int .i64 (.bit .xor .i64 (halv j) (.lit 1))
theorem ch_ev0 : (evCh 0).bind tellC = some (expC 0) := by kernel_rfl
theorem ch_ev1 : (evCh 1).bind tellC = some (expC 1) := by kernel_rfl
theorem ch_ev2 : (evCh 2).bind tellC = some (expC 2) := by kernel_rfl
theorem ch_ev3 : (evCh 3).bind tellC = some (expC 3) := by kernel_rfl
theorem ch_ev4 : (evCh 4).bind tellC = some (expC 4) := by kernel_rfl
theorem ch_ev5 : (evCh 5).bind tellC = some (expC 5) := by kernel_rfl
theorem ch_ev6 : (evCh 6).bind tellC = some (expC 6) := by kernel_rfl
theorem ch_ev7 : (evCh 7).bind tellC = some (expC 7) := by kernel_rfl
theorem ch_ev8 : (evCh 8).bind tellC = some (expC 8) := by kernel_rfl
theorem ch_ev9 : (evCh 9).bind tellC = some (expC 9) := by kernel_rfl
theorem ch_ev (k : Nat) (h : k < 10) : (evCh k).bind tellC = some (expC k) := by
 match k, h with
 | 0, _ => exact ch_ev0
 | 1, _ => exact ch_ev1
 | 2, _ => exact ch_ev2
 | 3, _ => exact ch_ev3
 | 4, _ => exact ch_ev4
 | 5, _ => exact ch_ev5
 | 6, _ => exact ch_ev6
 | 7, _ => exact ch_ev7
 | 8, _ => exact ch_ev8
 | 9, _ => exact ch_ev9
def HNs (w : World) (v : Value) (l : List Nat) : Prop := ∃ (p : Option Addr) (c : Nat), v = .slice p l.length c /\ (0 < l.length -> ∃ b off, p = some ⟨b, off, none⟩ /\ ∀ j, j < l.length -> w.cell? ⟨b, off + j, none⟩ = some (.int .i64 ((l.getD j 0 : Nat) : Int)))
theorem HNs.below {w w' : World} {v : Value} {l : List Nat} (h : HNs w v l) (hB : Below w.heap.size w w') : HNs w' v l := by
 obtain ⟨p, c, h1, h2⟩ := h
 refine ⟨p, c, h1, fun h0 => ?_⟩
 obtain ⟨b, off, e, hh⟩ := h2 h0
 exact ⟨b, off, e, fun j hj => (hB.cell (World.block_lt_of_cell? w _ (hh j hj))).trans (hh j hj)⟩
def chL (k x : Nat) : List Nat := (List.range k).map fun j => (x / 2 ^ j) ^^^ 1
theorem chL_length (k x : Nat) : (chL k x).length = k := by simp [chL]
theorem halv_lev : ∀ j, lev (halv j) = some j
 | 0 => rfl
 | j + 1 => by simp only [halv, lev, halv_lev j, Option.map_some]
theorem xor_one (y : Nat) (h : y < 1024) : bitsOf .xor .i64 (y : Int) 1 = ((y ^^^ 1 : Nat) : Int) := by
 have e : ∀ y, y < 1024 -> bitsOf .xor .i64 ((y : Nat) : Int) 1 = ((y ^^^ 1 : Nat) : Int) := by decide +kernel
 exact e y h
theorem expC_inst (k x : Nat) (n i : Int) (hx : x < 1024) (ms : List Nat) : (expC k).map (SV.inst (envC x n i) ms) = ((chL k x).map fun y : Nat => Value.int .i64 (y : Int)).map some := by
 unfold expC chL
 rw [List.map_map, List.map_map, List.map_map]
 refine List.map_congr_left fun j _ => ?_
 simp only [Function.comp, SV.inst, Ex.den, lev_den x n i hx (halv j) j (halv_lev j)]
 rw [xor_one _ (Nat.lt_of_le_of_lt (Nat.div_le_self _ _) hx)]
theorem chain_ok (w : World) (n i k : Nat) (h1 : 1 <= n) (h2 : n <= 512) (hi : i < n) (hk : wdN n = 2 ^ k) (hk9 : k < 10) : Calls Tryz.prog 57 #[.int .i64 (n : Int), .int .i64 (i : Int)] w fun e w' => ∃ v, e = .returned (.tuple #[v, .int .i64 0]) /\ HNs w' v (chL k (wdN n + i)) /\ (∀ b, v.ownBlock = some b -> w.heap.size <= b) /\ Below w.heap.size w w' := by
 have hW := wdN_le n
 have hWg := wdN_ge n h2
 obtain ⟨⟨v, H'⟩, h3, h4⟩ := Option.bind_eq_some_iff.1 (ch_ev k hk9)
 have hL := loreC_ok k (wdN n + i) n i (by rw [<- hk]; omega) (by rw [Nat.pow_succ, <- hk]; omega) (by omega)
 have hok := evCallR_ok hL mixedOrders (base := callStep Tryz.prog conNode) (fun self hs => callStep_ok (conNode_ok n i h1 h2 hi) hs) 100 1000
 refine (hok _ _ _ _ _ h3 ms0 w.heap.size w #[.int .i64 (n : Int), .int .i64 (i : Int)] (by simp [AV.inst, TV.inst, SV.inst, Ex.den, envC]) (holds_nil _ w)).mono ?_
 rintro e w' ⟨ms', u, rfl, _, h5, h6, h7⟩
 unfold tellC at h4
 split at h4
 case h_2 => cases h4
 rename_i s hs
 dsimp only at hs
 subst hs
 simp only [AV.inst] at h5
 rw [Option.map_eq_some_iff] at h5
 obtain ⟨us, h8, rfl⟩ := h5
 rw [seqO_iff] at h8
 obtain ⟨u1, u2, rfl, hu1, hu2⟩ : ∃ u1 u2, us = [u1, u2] /\ (TV.sc s).inst (envC (wdN n + i) n i) ms' = some u1 /\ u2 = .int .i64 0 := by
  have hl : us.length = 2 := by have := congrArg List.length h8; simpa using this.symm
  match us, hl, h8 with
  | [u1, u2], _, h8 =>
   simp only [List.map_cons, List.map_nil, List.cons.injEq, and_true] at h8
   refine ⟨u1, u2, rfl, h8.1, ?_⟩
   have := h8.2
   simp only [TV.inst, SV.inst, Ex.den, Option.some.injEq] at this
   exact this.symm
 subst hu2
 refine ⟨u1, rfl, ?_⟩
 have hlen := chL_length k (wdN n + i)
 split at h4
 ·rename_i x hx
  obtain ⟨nn, o, ln⟩ := x
  obtain ⟨b, c, hb, rfl⟩ := slOf_ok hx hu1
  split at h4
  case isFalse => cases h4
  rename_i hro
  rw [Option.map_eq_some_iff] at hro
  obtain ⟨kk, hkk, hro⟩ := hro
  have hnew := h6.low nn b kk hb hkk hro
  obtain ⟨vs, r1, r2, r3⟩ := span_ok ((h6.sees nn).at _ _) hb h4
  have e : vs = (chL k (wdN n + i)).map fun y : Nat => Value.int .i64 (y : Int) := by
   have := expC_inst k (wdN n + i) n i (by omega) ms'
   rw [r1] at this
   exact List.map_inj_right (fun _ _ h => Option.some.inj h) |>.1 this
  subst e
  dsimp only at r2 r3
  rw [List.length_map] at r2
  refine ⟨⟨_, c, by rw [r2], fun h0 => ⟨b, o, rfl, fun j hj => r3 j _ ?_⟩⟩, fun b' e => by simp only [Value.ownBlock, Option.some.injEq] at e; omega, h7.toBelow⟩
  simp [List.getD, List.getElem?_eq_getElem hj]
 ·split at h4
  case isFalse => cases h4
  rename_i hs0
  subst hs0
  have hk0 : k = 0 := by
   have := congrArg List.length (Option.some.inj h4)
   simpa [expC] using this.symm
  simp only [TV.inst, SV.inst, Option.some.injEq] at hu1
  rw [<- hu1]
  refine ⟨⟨none, 0, by rw [hlen, hk0], fun h0 => absurd h0 (by omega)⟩, fun b' e => by simp [Value.ownBlock] at e, h7.toBelow⟩
end Go.Proofs.YtdgollnapbonjaaGreatDoor
namespace Go.Proofs.YtdgollnapbonjaaGreatDoor
open Go.RowKit
def clV : List (List Int) -> Nat -> List Int -> List Int
 | [], _, d => d
 | c :: r, x, d => clV r (x / 2) (if x % 2 = 1 then ndL c d else ndL d c)
def clTo (cs : List (List Int)) (x : Nat) (d : List Int) (j : Nat) : List Int := clV (cs.take j) x d
theorem clTo_step : ∀ (j : Nat) (cs : List (List Int)) (x : Nat) (d : List Int), j < cs.length -> clTo cs x d (j + 1) = if (x / 2 ^ j) % 2 = 1 then ndL (cs.getD j []) (clTo cs x d j) else ndL (clTo cs x d j) (cs.getD j [])
 | 0, c :: r, x, d, _ => by simp [clTo, clV]
 | j + 1, c :: r, x, d, h => by
  have := clTo_step j r (x / 2) (if x % 2 = 1 then ndL c d else ndL d c) (by simpa using h)
  unfold clTo at this ⊢
  simp only [List.take_succ_cons, clV, List.getD_cons_succ]
  rw [this, Nat.div_div_eq_div_mul, <- Nat.pow_succ']
theorem clTo_D (cs : List (List Int)) (hc : ∀ c ∈ cs, D32 c) (x : Nat) (d : List Int) (hd : D32 d) : ∀ j, j <= cs.length -> D32 (clTo cs x d j)
 | 0, _ => hd
 | j + 1, h => by
  rw [clTo_step j cs x d (by omega)]
  split
  ·exact ndL_D _ _
  ·exact ndL_D _ _
theorem cell_of_setRow_other (w : World) (g : Nat) (cs : Array Value) (a : Addr) (h : a.block ≠ g) : (w.setRow g cs).cell? a = w.cell? a := by
 have := setRow_other w g a.block cs h
 unfold World.cell?
 rw [this]
theorem xor1_even (y : Nat) : ((y ^^^ 1) % 2 = 0) ↔ y % 2 = 1 := by
 have h : (y ^^^ 1) % 2 = (y % 2) ^^^ 1 := by
  have := Nat.xor_mod_two_pow (a := y) (b := 1) (n := 1)
  simpa using this
 rw [h]
 rcases Nat.mod_two_eq_zero_or_one y with e | e <;> rw [e] <;> decide
theorem climb_ok (w : World) (n i k : Nat) (d : List Int) (v : Value) (cs : List (List Int)) (hd : D32 d) (hv : HDs w v cs) (h1 : 1 <= n) (h2 : n <= 512) (hi : i < n) (hk : wdN n = 2 ^ k) (hk9 : k < 10) (hl : cs.length = k) (hkc : KC w) :
  Calls Tryz.prog 35 #[.int .i64 (n : Int), .int .i64 (i : Int), .agg (cellsB d), v] w fun e w' => e = .returned (.tuple #[.agg (cellsB (clV cs (wdN n + i) d)), .int .i64 0]) /\ Below w.heap.size w w' := by
 obtain ⟨zd, HZD⟩ : ∃ zd, Hid (cellsB zeros32 = zd) := ⟨_, rfl⟩
 obtain ⟨cd, HCD⟩ : ∃ cd, Hid (cellsB d = cd) := ⟨_, rfl⟩
 rw [HCD.out]
 obtain ⟨W0, hW0⟩ : ∃ W0, Hid ((w.alloc (.cells cd 23)).alloc (.cells zd 23) = W0) := ⟨_, rfl⟩
 have e1 : (w.alloc (.cells cd 23)).heap.size = w.heap.size + 1 := by simp
 have HB0 : Hid (Below w.heap.size w W0) := by rw [<- hW0.out]; exact ((Below.refl _ w).alloc (Nat.le_refl _) _).alloc (by simp) _
 have H1 : Hid (W0.heap[w.heap.size]? = some (.cells cd 23 (0, 0))) := by rw [<- hW0.out]; exact heap_alloc2_old _ _ _
 have H2 : Hid (W0.heap[w.heap.size + 1]? = some (.cells zd 23 (0, 0))) := by rw [<- hW0.out]; exact heap_alloc2_new _ _ _
 have hS0 : w.heap.size + 1 < W0.heap.size := (Array.getElem?_eq_some_iff.1 H2.out).1
 have SZ : Hid ((Tryz.prog.info? 23).map (·.size) = some zd.size) := by rw [<- HZD.out]; exact size_digest
 have OZ : Hid (zd.all (·.oneCell') = true) := by rw [<- HZD.out]; exact cellsB_one _
 have CC := hid (chain_ok W0 n i k h1 h2 hi hk hk9)
 have HK := hid hkc
 have hx9 : wdN n + i < 1024 := by have := wdN_le n; have := wdN_ge n h2; omega
 generalize wdN n + i = x at CC hx9 ⊢
 obtain ⟨pv, cv, ev, hcv, hmv⟩ := hv.open
 unfold maxLen at hmv
 have HV := hid hv
 rw [hl] at ev hcv
 subst ev
 clear hv hkc
 go_enter Tryz.func35, Tryz.ntmps35
 go_wp2_with (refine wpList_alloc_digest rfl rfl ?_; rw [HZD.out, e1, hW0.out])
 refine CC.out.mono ?_
 rintro e w1 ⟨vb, rfl, hnb, hnew, hB1⟩
 have HNB := hid hnb
 have HNew := hid hnew
 clear hnew
 obtain ⟨pb, cb, evb, _⟩ := hnb
 rw [chL_length] at evb
 subst evb
 have K1 : Hid (w1.heap[w.heap.size]? = some (.cells (cellsB (clTo cs x d 0)) 23 (0, 0))) := by
  refine hid ?_
  rw [hB1.block _ (by omega), H1.out, <- HCD.out]
  rfl
 have K2 : Hid (w1.heap[w.heap.size + 1]? = some (.cells zd 23 (0, 0))) := (hB1.block _ hS0).trans H2.out
 have BL1 := hid (HB0.out.trans (hB1.mono HB0.out.size))
 have hw1 : w.heap.size + 1 < w1.heap.size := (Array.getElem?_eq_some_iff.1 K2.out).1
 have HCs := hid HV.out.2
 clear hB1 CC
 go_wp2
 go_loopw [32] (fun j wr => ∃ q : Nat, q <= k /\ j = .int .i64 q /\ Hid (wr.heap[w.heap.size]? = some (.cells (cellsB (clTo cs x d q)) 23 (0, 0))) /\ Hid (wr.heap[w.heap.size + 1]? = some (.cells zd 23 (0, 0))) /\ Hid (Below w.heap.size w wr) /\ Hid (HNs wr (.slice pb k cb) (chL k x))) (fun j _ => k - (intOf j).toNat)
 case atStart => exact ⟨0, Nat.zero_le _, rfl, K1, K2, BL1, HNB⟩
 case round =>
  obtain ⟨q, hq, rfl, G1, G2, HBel, HNr⟩ := hrel
  have hgs : w.heap.size + 1 < wr.heap.size := (Array.getElem?_eq_some_iff.1 G2.out).1
  by_cases hlt : q < k
  case neg =>
   have hqk : q = k := by omega
   have hfin : clTo cs x d q = clV cs x d := by unfold clTo; rw [List.take_of_length_le (by omega)]
   rw [hfin] at G1
   obtain ⟨dm, HD⟩ : ∃ dm, Hid (cellsB (clV cs x d) = dm) := ⟨_, rfl⟩
   have hdD : D32 (clV cs x d) := by rw [<- hfin]; exact clTo_D cs HCs.out x d hd q (by omega)
   have hds : dm.size = 32 := by rw [<- HD.out, cellsB_size, hdD.1]
   have SD : Hid ((Tryz.prog.info? 23).map (·.size) = some dm.size) := by rw [hds]; exact size_digest
   have OD : Hid (dm.all (·.oneCell') = true) := by rw [<- HD.out]; exact cellsB_one _
   have ZD : Hid (zd.size = dm.size) := by rw [hds, <- HZD.out]; rfl
   rw [HD.out] at G1
   have HBF := hid (below_setRow HBel.out (g := w.heap.size + 1) (Nat.le_succ _) dm)
   clear hds
   go_wp2_with (first
    | (refine wpList_load_row rfl 23 _ rfl w.heap.size rfl 23 dm (0, 0) _ G1.out Tryz.underlying23 rfl SD.out ?_)
    | (refine wpList_store_row rfl 23 _ _ rfl (w.heap.size + 1) dm rfl rfl 23 _ G2.out SD.out ZD.out OD.out ?_))
   refine bodyPost_ret (v := .tuple #[.agg dm, .int .i64 0]) (results_cellt (p := 8) (u := 9) (ty := 23) rfl _ _ (w.heap.size + 1) 23 dm (0, 0) _ rfl (setRow_heap _ _ _ _ _ _ G2.out) Tryz.underlying23 rfl SD.out _ rfl) rfl ?_
   exact ⟨by rw [HD.out], HBF.out⟩
  case pos =>
   obtain ⟨bc, oc, cc', ec, _, _, hbc, hrc⟩ := HV.out.ne (by rw [hl]; omega)
   simp only [Value.slice.injEq] at ec
   obtain ⟨rfl, -, -⟩ := ec
   have RC := hid (hrc q (by rw [hl]; exact hlt))
   have hdc := getD_D HCs.out q (by rw [hl]; exact hlt)
   have hdj := clTo_D cs HCs.out x d hd q (by omega)
   have HST := hid (clTo_step q cs x d (by rw [hl]; exact hlt))
   generalize cs.getD q [] = c1 at hdc RC HST
   generalize clTo cs x d q = dj at hdj HST G1
   obtain ⟨pn, cn, en, hnn⟩ := HNr.out
   rw [chL_length] at hnn
   simp only [Value.slice.injEq] at en
   obtain ⟨rfl, -, -⟩ := en
   obtain ⟨bn, on, rfl, hnc⟩ := hnn (by omega)
   have hbn0 := HNew.out bn rfl
   have hcell := hnc q hlt
   have hge : (chL k x).getD q 0 = (x / 2 ^ q) ^^^ 1 := by simp [chL, List.getD, hlt]
   rw [hge] at hcell
   have hyl : x / 2 ^ q < 1024 := Nat.lt_of_le_of_lt (Nat.div_le_self _ _) hx9
   have hpar := xor1_even (x / 2 ^ q)
   generalize x / 2 ^ q = y at hcell hpar HST hyl
   have hzb : (y ^^^ 1) < 1024 := Nat.xor_lt_two_pow (n := 10) hyl (by decide)
   generalize y ^^^ 1 = z at hcell hpar hzb
   have htm : Int.tmod (z : Int) 2 = ((z % 2 : Nat) : Int) := by rw [Int.tmod_eq_emod_of_nonneg (by omega)]; omega
   have CN : Hid (∀ W', KC W' -> _) := fun W' h => node_any W' c1 dj hdc hdj h
   have CN' : Hid (∀ W', KC W' -> _) := fun W' h => node_any W' dj c1 hdj hdc h
   have G1r : Hid (wr.rangeAt w.heap.size 0 (dc dj)) := fun j u hj => by
    rw [cell_of_row wr _ _ _ _ _ G1.out]
    rw [Nat.zero_add, <- dc_arr, List.getElem?_toArray]
    exact hj
   have hsj : (cellsB dj).size = 32 := by rw [cellsB_size, hdj.1]
   clear hnc hnn hrc
   by_cases hod : y % 2 = 1
   ·have hz0 : z % 2 = 0 := by omega
    rw [hz0] at htm
    clear hpar
    go_wp2
    refine wp_region_any (by kernel_rfl) ?_
    change wpAny _ _ _ _ _ _ _ (World.drew _)
    refine wpAny_take (i := 0) (v := ?_) rfl (by kernel_rfl) (by kernel_rfl) (by kernel_rfl) (fun _ _ _ h => h) (Or.inl ⟨by rfl, ?q0⟩) ?_
    case q0 => intro w; go_simp; rfl
    simp only [Act.put, lay6]
    refine wpAny_take (i := 1) (v := ?_) rfl (by kernel_rfl) (by kernel_rfl) (by kernel_rfl) (fun _ _ _ h => h) (Or.inl ⟨by rfl, ?q1⟩) ?_
    case q1 => intro w; go_simp; rfl
    simp only [Act.put, lay6]
    refine wpAny_take (i := 2) (v := .pointer (some ⟨bc, oc + q * 32, none⟩)) rfl (by kernel_rfl) (by kernel_rfl) (by kernel_rfl) (fun _ _ _ h => h) (Or.inl ⟨by rfl, ?q2⟩) ?_
    case q2 => intro w; go_simp
    simp only [Act.put, lay6]
    refine wpAny_ready (rs := [3, 4]) (by kernel_rfl) (by simp) ?_
    refine AllReady.cons rfl (fun K hK => ?_) (AllReady.cons rfl (fun K hK => ?_) AllReady.nil)
    ·skip
     rw [if_pos (by rfl)]
     refine wp_load_mid 23 _ rfl bc (oc + q * 32) rfl (dc c1) _ (range_below RC.out HBel.out.drew hbc) Tryz.underlying23 rfl (size_dig hdc) ?_
     refine hK _ _ ?_
     clear hK K
     simp only [Act.put, lay6]
     refine wpAny_ready (rs := [4]) (by kernel_rfl) (by simp) ?_
     refine AllReady.cons rfl (fun K hK => ?_) AllReady.nil
     rw [if_pos (by rfl)]
     refine wp_load_mid 23 _ rfl w.heap.size 0 rfl (dc dj) _ G1r.out Tryz.underlying23 rfl (size_dig hdj) ?_
     refine hK _ _ ?_
     clear hK K
     simp only [Act.put, lay6]
     rw [dc_arr, dc_arr]
     refine wpAny_ready (rs := [5]) (by kernel_rfl) (by simp) ?_
     refine AllReady.cons rfl (fun K hK => ?_) AllReady.nil
     go_simp
     refine (CN.out _ (HK.out.below HBel.out.drew)).mono ?_
     rintro e w5 ⟨rfl, hB5⟩
     have HS5 : Hid (Below wr.heap.size wr w5) := (Below.refl _ wr).drew.trans hB5
     have hsz5 := hB5.size
     obtain ⟨dn, HDN⟩ : ∃ dn, Hid (ndL c1 dj = dn) := ⟨_, rfl⟩
     have hdnD : D32 dn := by rw [<- HDN.out]; exact ndL_D _ _
     rw [HDN.out]
     have HST2 : Hid (clTo cs x d (q + 1) = dn) := by refine hid ?_; rw [HST.out, if_pos hod, HDN.out]
     obtain ⟨cn, HCN⟩ : ∃ cn, Hid (cellsB dn = cn) := ⟨_, rfl⟩
     have hsn : cn.size = 32 := by rw [<- HCN.out, cellsB_size, hdnD.1]
     have SN : Hid ((Tryz.prog.info? 23).map (·.size) = some cn.size) := by rw [hsn]; exact size_digest
     have ON : Hid (cn.all (·.oneCell') = true) := by rw [<- HCN.out]; exact cellsB_one _
     have ZN : Hid ((cellsB dj).size = cn.size) := by rw [hsn]; exact hsj
     rw [HCN.out]
     refine hK _ _ ?_
     clear hK K hB5
     refine wpAny_ready (rs := [6]) (by kernel_rfl) (by simp) ?_
     refine AllReady.cons rfl (fun K hK => ?_) AllReady.nil
     rw [if_pos (by rfl)]
     have G15 : Hid (w5.heap[w.heap.size]? = some (.cells (cellsB dj) 23 (0, 0))) := (HS5.out.block _ (by omega)).trans G1.out
     have G25 : Hid (w5.heap[w.heap.size + 1]? = some (.cells zd 23 (0, 0))) := (HS5.out.block _ hgs).trans G2.out
     have HN5 := hid (HNr.out.below HS5.out)
     refine wp_store_row 23 _ _ rfl w.heap.size cn rfl rfl 23 _ G15.out SN.out ZN.out ON.out ?_
     have B6 := hid (below_setRow (HBel.out.trans (HS5.out.mono HBel.out.size)) (g := w.heap.size) (Nat.le_refl _) cn)
     have G16 : Hid ((w5.setRow w.heap.size cn).heap[w.heap.size]? = some (.cells (cellsB (clTo cs x d (q + 1))) 23 (0, 0))) := by rw [HST2.out, HCN.out]; exact setRow_heap _ _ _ _ _ _ G15.out
     have G26 : Hid ((w5.setRow w.heap.size cn).heap[w.heap.size + 1]? = some (.cells zd 23 (0, 0))) := (setRow_other _ _ _ _ (by omega)).trans G25.out
     have HN6 : Hid (HNs (w5.setRow w.heap.size cn) (.slice (some ⟨bn, on, none⟩) k cb) (chL k x)) := by
      obtain ⟨p', c', e', h'⟩ := HN5.out
      refine ⟨p', c', e', fun h0 => ?_⟩
      obtain ⟨b', o', e2, hh⟩ := h' h0
      refine ⟨b', o', e2, fun j hj => ?_⟩
      have hbn : b' = bn := by
       have := e'
       rw [e2] at this
       simp only [Value.slice.injEq, Option.some.injEq, Addr.mk.injEq] at this
       exact this.1.1.symm
      rw [cell_of_setRow_other _ _ _ _ (show b' ≠ w.heap.size by rw [hbn]; omega)]
      exact hh j hj
     refine hK _ _ ?_
     clear hK K
     refine wpAny_done (by kernel_rfl) ?_ _
     go_wp2
     exact ⟨⟨q + 1, by omega, by go_num, G16, G26, B6, HN6⟩, by simp [intOf]; omega⟩
    ·skip
     rw [if_pos (by rfl)]
     refine wp_load_mid 23 _ rfl w.heap.size 0 rfl (dc dj) _ G1r.out Tryz.underlying23 rfl (size_dig hdj) ?_
     refine hK _ _ ?_
     clear hK K
     simp only [Act.put, lay6]
     refine wpAny_ready (rs := [3]) (by kernel_rfl) (by simp) ?_
     refine AllReady.cons rfl (fun K hK => ?_) AllReady.nil
     rw [if_pos (by rfl)]
     refine wp_load_mid 23 _ rfl bc (oc + q * 32) rfl (dc c1) _ (range_below RC.out HBel.out.drew hbc) Tryz.underlying23 rfl (size_dig hdc) ?_
     refine hK _ _ ?_
     clear hK K
     simp only [Act.put, lay6]
     rw [dc_arr, dc_arr]
     refine wpAny_ready (rs := [5]) (by kernel_rfl) (by simp) ?_
     refine AllReady.cons rfl (fun K hK => ?_) AllReady.nil
     go_simp
     refine (CN.out _ (HK.out.below HBel.out.drew)).mono ?_
     rintro e w5 ⟨rfl, hB5⟩
     have HS5 : Hid (Below wr.heap.size wr w5) := (Below.refl _ wr).drew.trans hB5
     have hsz5 := hB5.size
     obtain ⟨dn, HDN⟩ : ∃ dn, Hid (ndL c1 dj = dn) := ⟨_, rfl⟩
     have hdnD : D32 dn := by rw [<- HDN.out]; exact ndL_D _ _
     rw [HDN.out]
     have HST2 : Hid (clTo cs x d (q + 1) = dn) := by refine hid ?_; rw [HST.out, if_pos hod, HDN.out]
     obtain ⟨cn, HCN⟩ : ∃ cn, Hid (cellsB dn = cn) := ⟨_, rfl⟩
     have hsn : cn.size = 32 := by rw [<- HCN.out, cellsB_size, hdnD.1]
     have SN : Hid ((Tryz.prog.info? 23).map (·.size) = some cn.size) := by rw [hsn]; exact size_digest
     have ON : Hid (cn.all (·.oneCell') = true) := by rw [<- HCN.out]; exact cellsB_one _
     have ZN : Hid ((cellsB dj).size = cn.size) := by rw [hsn]; exact hsj
     rw [HCN.out]
     refine hK _ _ ?_
     clear hK K hB5
     refine wpAny_ready (rs := [6]) (by kernel_rfl) (by simp) ?_
     refine AllReady.cons rfl (fun K hK => ?_) AllReady.nil
     rw [if_pos (by rfl)]
     have G15 : Hid (w5.heap[w.heap.size]? = some (.cells (cellsB dj) 23 (0, 0))) := (HS5.out.block _ (by omega)).trans G1.out
     have G25 : Hid (w5.heap[w.heap.size + 1]? = some (.cells zd 23 (0, 0))) := (HS5.out.block _ hgs).trans G2.out
     have HN5 := hid (HNr.out.below HS5.out)
     refine wp_store_row 23 _ _ rfl w.heap.size cn rfl rfl 23 _ G15.out SN.out ZN.out ON.out ?_
     have B6 := hid (below_setRow (HBel.out.trans (HS5.out.mono HBel.out.size)) (g := w.heap.size) (Nat.le_refl _) cn)
     have G16 : Hid ((w5.setRow w.heap.size cn).heap[w.heap.size]? = some (.cells (cellsB (clTo cs x d (q + 1))) 23 (0, 0))) := by rw [HST2.out, HCN.out]; exact setRow_heap _ _ _ _ _ _ G15.out
     have G26 : Hid ((w5.setRow w.heap.size cn).heap[w.heap.size + 1]? = some (.cells zd 23 (0, 0))) := (setRow_other _ _ _ _ (by omega)).trans G25.out
     have HN6 : Hid (HNs (w5.setRow w.heap.size cn) (.slice (some ⟨bn, on, none⟩) k cb) (chL k x)) := by
      obtain ⟨p', c', e', h'⟩ := HN5.out
      refine ⟨p', c', e', fun h0 => ?_⟩
      obtain ⟨b', o', e2, hh⟩ := h' h0
      refine ⟨b', o', e2, fun j hj => ?_⟩
      have hbn : b' = bn := by
       have := e'
       rw [e2] at this
       simp only [Value.slice.injEq, Option.some.injEq, Addr.mk.injEq] at this
       exact this.1.1.symm
      rw [cell_of_setRow_other _ _ _ _ (show b' ≠ w.heap.size by rw [hbn]; omega)]
      exact hh j hj
     refine hK _ _ ?_
     clear hK K
     refine wpAny_done (by kernel_rfl) ?_ _
     go_wp2
     exact ⟨⟨q + 1, by omega, by go_num, G16, G26, B6, HN6⟩, by simp [intOf]; omega⟩
   ·have hz0 : z % 2 = 1 := by omega
    rw [hz0] at htm
    clear hpar
    go_wp2
    refine wp_region_any (by kernel_rfl) ?_
    change wpAny _ _ _ _ _ _ _ (World.drew _)
    refine wpAny_take (i := 1) (v := ?_) rfl (by kernel_rfl) (by kernel_rfl) (by kernel_rfl) (fun _ _ _ h => h) (Or.inl ⟨by rfl, ?q1⟩) ?_
    case q1 => intro w; go_simp; rfl
    simp only [Act.put, lay6]
    refine wpAny_take (i := 2) (v := ?_) rfl (by kernel_rfl) (by kernel_rfl) (by kernel_rfl) (fun _ _ _ h => h) (Or.inl ⟨by rfl, ?q2⟩) ?_
    case q2 => intro w; go_simp; rfl
    simp only [Act.put, lay6]
    refine wpAny_take (i := 3) (v := .pointer (some ⟨bc, oc + q * 32, none⟩)) rfl (by kernel_rfl) (by kernel_rfl) (by kernel_rfl) (fun _ _ _ h => h) (Or.inl ⟨by rfl, ?q3⟩) ?_
    case q3 => intro w; go_simp
    simp only [Act.put, lay6]
    refine wpAny_ready (rs := [0, 4]) (by kernel_rfl) (by simp) ?_
    refine AllReady.cons rfl (fun K hK => ?_) (AllReady.cons rfl (fun K hK => ?_) AllReady.nil)
    ·skip
     rw [if_pos (by rfl)]
     refine wp_load_mid 23 _ rfl w.heap.size 0 rfl (dc dj) _ G1r.out Tryz.underlying23 rfl (size_dig hdj) ?_
     refine hK _ _ ?_
     clear hK K
     simp only [Act.put, lay6]
     refine wpAny_ready (rs := [4]) (by kernel_rfl) (by simp) ?_
     refine AllReady.cons rfl (fun K hK => ?_) AllReady.nil
     rw [if_pos (by rfl)]
     refine wp_load_mid 23 _ rfl bc (oc + q * 32) rfl (dc c1) _ (range_below RC.out HBel.out.drew hbc) Tryz.underlying23 rfl (size_dig hdc) ?_
     refine hK _ _ ?_
     clear hK K
     simp only [Act.put, lay6]
     rw [dc_arr, dc_arr]
     refine wpAny_ready (rs := [5]) (by kernel_rfl) (by simp) ?_
     refine AllReady.cons rfl (fun K hK => ?_) AllReady.nil
     go_simp
     refine (CN'.out _ (HK.out.below HBel.out.drew)).mono ?_
     rintro e w5 ⟨rfl, hB5⟩
     have HS5 : Hid (Below wr.heap.size wr w5) := (Below.refl _ wr).drew.trans hB5
     have hsz5 := hB5.size
     obtain ⟨dn, HDN⟩ : ∃ dn, Hid (ndL dj c1 = dn) := ⟨_, rfl⟩
     have hdnD : D32 dn := by rw [<- HDN.out]; exact ndL_D _ _
     rw [HDN.out]
     have HST2 : Hid (clTo cs x d (q + 1) = dn) := by refine hid ?_; rw [HST.out, if_neg hod, HDN.out]
     obtain ⟨cn, HCN⟩ : ∃ cn, Hid (cellsB dn = cn) := ⟨_, rfl⟩
     have hsn : cn.size = 32 := by rw [<- HCN.out, cellsB_size, hdnD.1]
     have SN : Hid ((Tryz.prog.info? 23).map (·.size) = some cn.size) := by rw [hsn]; exact size_digest
     have ON : Hid (cn.all (·.oneCell') = true) := by rw [<- HCN.out]; exact cellsB_one _
     have ZN : Hid ((cellsB dj).size = cn.size) := by rw [hsn]; exact hsj
     rw [HCN.out]
     refine hK _ _ ?_
     clear hK K hB5
     refine wpAny_ready (rs := [6]) (by kernel_rfl) (by simp) ?_
     refine AllReady.cons rfl (fun K hK => ?_) AllReady.nil
     rw [if_pos (by rfl)]
     have G15 : Hid (w5.heap[w.heap.size]? = some (.cells (cellsB dj) 23 (0, 0))) := (HS5.out.block _ (by omega)).trans G1.out
     have G25 : Hid (w5.heap[w.heap.size + 1]? = some (.cells zd 23 (0, 0))) := (HS5.out.block _ hgs).trans G2.out
     have HN5 := hid (HNr.out.below HS5.out)
     refine wp_store_row 23 _ _ rfl w.heap.size cn rfl rfl 23 _ G15.out SN.out ZN.out ON.out ?_
     have B6 := hid (below_setRow (HBel.out.trans (HS5.out.mono HBel.out.size)) (g := w.heap.size) (Nat.le_refl _) cn)
     have G16 : Hid ((w5.setRow w.heap.size cn).heap[w.heap.size]? = some (.cells (cellsB (clTo cs x d (q + 1))) 23 (0, 0))) := by rw [HST2.out, HCN.out]; exact setRow_heap _ _ _ _ _ _ G15.out
     have G26 : Hid ((w5.setRow w.heap.size cn).heap[w.heap.size + 1]? = some (.cells zd 23 (0, 0))) := (setRow_other _ _ _ _ (by omega)).trans G25.out
     have HN6 : Hid (HNs (w5.setRow w.heap.size cn) (.slice (some ⟨bn, on, none⟩) k cb) (chL k x)) := by
      obtain ⟨p', c', e', h'⟩ := HN5.out
      refine ⟨p', c', e', fun h0 => ?_⟩
      obtain ⟨b', o', e2, hh⟩ := h' h0
      refine ⟨b', o', e2, fun j hj => ?_⟩
      have hbn : b' = bn := by
       have := e'
       rw [e2] at this
       simp only [Value.slice.injEq, Option.some.injEq, Addr.mk.injEq] at this
       exact this.1.1.symm
      rw [cell_of_setRow_other _ _ _ _ (show b' ≠ w.heap.size by rw [hbn]; omega)]
      exact hh j hj
     refine hK _ _ ?_
     clear hK K
     refine wpAny_done (by kernel_rfl) ?_ _
     go_wp2
     exact ⟨⟨q + 1, by omega, by go_num, G16, G26, B6, HN6⟩, by simp [intOf]; omega⟩
    ·skip
     rw [if_pos (by rfl)]
     refine wp_load_mid 23 _ rfl bc (oc + q * 32) rfl (dc c1) _ (range_below RC.out HBel.out.drew hbc) Tryz.underlying23 rfl (size_dig hdc) ?_
     refine hK _ _ ?_
     clear hK K
     simp only [Act.put, lay6]
     refine wpAny_ready (rs := [0]) (by kernel_rfl) (by simp) ?_
     refine AllReady.cons rfl (fun K hK => ?_) AllReady.nil
     rw [if_pos (by rfl)]
     refine wp_load_mid 23 _ rfl w.heap.size 0 rfl (dc dj) _ G1r.out Tryz.underlying23 rfl (size_dig hdj) ?_
     refine hK _ _ ?_
     clear hK K
     simp only [Act.put, lay6]
     rw [dc_arr, dc_arr]
     refine wpAny_ready (rs := [5]) (by kernel_rfl) (by simp) ?_
     refine AllReady.cons rfl (fun K hK => ?_) AllReady.nil
     go_simp
     refine (CN'.out _ (HK.out.below HBel.out.drew)).mono ?_
     rintro e w5 ⟨rfl, hB5⟩
     have HS5 : Hid (Below wr.heap.size wr w5) := (Below.refl _ wr).drew.trans hB5
     have hsz5 := hB5.size
     obtain ⟨dn, HDN⟩ : ∃ dn, Hid (ndL dj c1 = dn) := ⟨_, rfl⟩
     have hdnD : D32 dn := by rw [<- HDN.out]; exact ndL_D _ _
     rw [HDN.out]
     have HST2 : Hid (clTo cs x d (q + 1) = dn) := by refine hid ?_; rw [HST.out, if_neg hod, HDN.out]
     obtain ⟨cn, HCN⟩ : ∃ cn, Hid (cellsB dn = cn) := ⟨_, rfl⟩
     have hsn : cn.size = 32 := by rw [<- HCN.out, cellsB_size, hdnD.1]
     have SN : Hid ((Tryz.prog.info? 23).map (·.size) = some cn.size) := by rw [hsn]; exact size_digest
     have ON : Hid (cn.all (·.oneCell') = true) := by rw [<- HCN.out]; exact cellsB_one _
     have ZN : Hid ((cellsB dj).size = cn.size) := by rw [hsn]; exact hsj
     rw [HCN.out]
     refine hK _ _ ?_
     clear hK K hB5
     refine wpAny_ready (rs := [6]) (by kernel_rfl) (by simp) ?_
     refine AllReady.cons rfl (fun K hK => ?_) AllReady.nil
     rw [if_pos (by rfl)]
     have G15 : Hid (w5.heap[w.heap.size]? = some (.cells (cellsB dj) 23 (0, 0))) := (HS5.out.block _ (by omega)).trans G1.out
     have G25 : Hid (w5.heap[w.heap.size + 1]? = some (.cells zd 23 (0, 0))) := (HS5.out.block _ hgs).trans G2.out
     have HN5 := hid (HNr.out.below HS5.out)
     refine wp_store_row 23 _ _ rfl w.heap.size cn rfl rfl 23 _ G15.out SN.out ZN.out ON.out ?_
     have B6 := hid (below_setRow (HBel.out.trans (HS5.out.mono HBel.out.size)) (g := w.heap.size) (Nat.le_refl _) cn)
     have G16 : Hid ((w5.setRow w.heap.size cn).heap[w.heap.size]? = some (.cells (cellsB (clTo cs x d (q + 1))) 23 (0, 0))) := by rw [HST2.out, HCN.out]; exact setRow_heap _ _ _ _ _ _ G15.out
     have G26 : Hid ((w5.setRow w.heap.size cn).heap[w.heap.size + 1]? = some (.cells zd 23 (0, 0))) := (setRow_other _ _ _ _ (by omega)).trans G25.out
     have HN6 : Hid (HNs (w5.setRow w.heap.size cn) (.slice (some ⟨bn, on, none⟩) k cb) (chL k x)) := by
      obtain ⟨p', c', e', h'⟩ := HN5.out
      refine ⟨p', c', e', fun h0 => ?_⟩
      obtain ⟨b', o', e2, hh⟩ := h' h0
      refine ⟨b', o', e2, fun j hj => ?_⟩
      have hbn : b' = bn := by
       have := e'
       rw [e2] at this
       simp only [Value.slice.injEq, Option.some.injEq, Addr.mk.injEq] at this
       exact this.1.1.symm
      rw [cell_of_setRow_other _ _ _ _ (show b' ≠ w.heap.size by rw [hbn]; omega)]
      exact hh j hj
     refine hK _ _ ?_
     clear hK K
     refine wpAny_done (by kernel_rfl) ?_ _
     go_wp2
     exact ⟨⟨q + 1, by omega, by go_num, G16, G26, B6, HN6⟩, by simp [intOf]; omega⟩
end Go.Proofs.YtdgollnapbonjaaGreatDoor
namespace Go.Proofs.YtdgollnapbonjaaGreatDoor
theorem ndB_inj {a b c d : List Int} (ha : a.length = 32) (hb : b.length = 32) (hc : c.length = 32) (hd : d.length = 32) (h : ndB a b = ndB c d) : a = c /\ b = d := by
 unfold ndB at h
 have h1 := List.append_cancel_left (List.append_cancel_left (List.append_cancel_left h))
 have h2 := List.append_inj h1 (by rw [ha, hc])
 exact ⟨h2.1, List.append_cancel_left h2.2⟩
end Go.Proofs.YtdgollnapbonjaaGreatDoor
namespace Go.Proofs.YtdgollnapbonjaaGreatDoor
open Go.RowKit
def wayB (cs : List (List Int)) (x : Nat) (d : List Int) (q : Nat) : List Int := if (x / 2 ^ q) % 2 = 1 then ndB (cs.getD q []) (clTo cs x d q) else ndB (clTo cs x d q) (cs.getD q [])
theorem wayB_step (cs : List (List Int)) (x : Nat) (d : List Int) (q : Nat) (h : q < cs.length) : clTo cs x d (q + 1) = digL (wayB cs x d q) := by
 rw [clTo_step q cs x d h]
 unfold wayB
 split <;> rfl
theorem way_one {cs es : List (List Int)} {x : Nat} {a b : List Int} (hcs : ∀ c ∈ cs, D32 c) (hes : ∀ c ∈ es, D32 c) (ha : D32 a) (hb : D32 b) (hl : cs.length = es.length)
  (hno : ∀ q, q < cs.length -> ¬ (wayB cs x a q ≠ wayB es x b q /\ digL (wayB cs x a q) = digL (wayB es x b q))) (htop : clV cs x a = clV es x b) : a = b /\ cs = es := by
 have htop2 : clTo cs x a cs.length = clTo es x b cs.length := by
  unfold clTo
  rw [List.take_length, hl, List.take_length]
  exact htop
 have key : ∀ m q, cs.length - q = m -> q <= cs.length -> clTo cs x a q = clTo es x b q /\ ∀ p, q <= p -> p < cs.length -> cs.getD p [] = es.getD p [] := by
  intro m
  induction m with
  | zero =>
   intro q h1 h2
   have : q = cs.length := by omega
   subst this
   exact ⟨htop2, fun p h3 h4 => by omega⟩
  | succ m ih =>
   intro q h1 h2
   obtain ⟨i1, i2⟩ := ih (q + 1) (by omega) (by omega)
   have hq : q < cs.length := by omega
   have hq2 : q < es.length := by omega
   rw [wayB_step cs x a q hq, wayB_step es x b q hq2] at i1
   have e : wayB cs x a q = wayB es x b q := by
    apply Classical.byContradiction
    intro hne
    exact hno q hq ⟨hne, i1⟩
   have d1 := getD_D hcs q hq
   have d2 := getD_D hes q hq2
   have d3 := clTo_D cs hcs x a ha q (by omega)
   have d4 := clTo_D es hes x b hb q (by omega)
   have both : clTo cs x a q = clTo es x b q /\ cs.getD q [] = es.getD q [] := by
    unfold wayB at e
    by_cases hp : (x / 2 ^ q) % 2 = 1
    ·rw [if_pos hp, if_pos hp] at e
     have := ndB_inj d1.1 d3.1 d2.1 d4.1 e
     exact ⟨this.2, this.1⟩
    ·rw [if_neg hp, if_neg hp] at e
     exact ndB_inj d3.1 d1.1 d4.1 d2.1 e
   refine ⟨both.1, fun p h3 h4 => ?_⟩
   rcases Nat.lt_or_ge q p with h5 | h5
   ·exact i2 p h5 h4
   ·rw [show p = q by omega]; exact both.2
 obtain ⟨k1, k2⟩ := key cs.length 0 (by omega) (by omega)
 refine ⟨k1, List.ext_getElem hl fun i h1 h2 => ?_⟩
 have := k2 i (by omega) h1
 simpa [List.getD, List.getElem?_eq_getElem h1, List.getElem?_eq_getElem h2] using this
theorem par_leaf (k i q : Nat) (hq : q < k) : ((2 ^ k + i) / 2 ^ q) % 2 = (i / 2 ^ q) % 2 := by
 have e : 2 ^ k = 2 ^ q * (2 * 2 ^ (k - q - 1)) := by
  rw [<- Nat.pow_succ', <- Nat.pow_add]
  congr 1
  omega
 rw [e, Nat.mul_add_div (Nat.pow_pos (by decide))]
 omega
theorem wpList_load_row_on {P : Program} {ops : Array Oper} {rest : List Oper} {o : Oper} {a : Act} {w : World} {Q : Exit -> Act -> World -> Prop} (hw : Region.wanted o (yielded ops a.tmps) = true) (ty : TypeId) (x : Operand) (ho : o.op = .load ty x)
  (g : Nat) (hx : a.eval x = .pointer (some ⟨g, 0, none⟩)) (t : TypeId) (cs : Array Value) (fr : Nat × Nat) (d : TypeDesc) (hg : w.heap[g]? = some (.cells cs t fr))
  (hu : P.underlying ty = some d) (hd : (match d with | .struct _ | .array _ _ => true | _ => false) = true) (hi : (P.info? ty).map (·.size) = some cs.size)
  (h : wpList P ops Q rest (a.put o.dst (.agg cs)) w) : wpList P ops Q (o :: rest) a w := by
 refine wpList_step fun K hK => ?_
 simp only [hw, if_true]
 exact wp_load_row ty x ho g hx t cs fr d hg hu hd hi (hK _ _ h)
end Go.Proofs.YtdgollnapbonjaaGreatDoor
namespace Go.Proofs.YtdgollnapbonjaaGreatDoor
def lf (ls : List (List Int)) (i : Nat) : List Int := if i < ls.length then ls.getD i [] else pdL i
def InR (N : List (List Int)) (x : Nat) : Prop := N.getD (x - 1) [] = ndL (N.getD (2 * x - 1) []) (N.getD (2 * x) [])
structure IsT (ls : List (List Int)) (w : Nat) (N : List (List Int)) : Prop where
 len : N.length = 2 * w - 1
 leaf : ∀ i, i < w -> N.getD (w - 1 + i) [] = lf ls i
 inner : ∀ x, 1 <= x -> x < w -> InR N x
end Go.Proofs.YtdgollnapbonjaaGreatDoor
namespace Go.Proofs.YtdgollnapbonjaaGreatDoor
open Go.RowKit
theorem HDs.flat {w : World} {b off : Nat} {ds : List (List Int)} (hr : ∀ i, i < ds.length -> w.rangeAt b (off + i * 32) (dc (ds.getD i []))) (hd : ∀ d ∈ ds, D32 d) : w.rangeAt b off (ds.flatMap dc) := by
 induction ds generalizing off with
 | nil => intro j v hj; simp at hj
 | cons d r ih =>
  have h0 := hr 0 (by simp)
  have ih' := ih (off := off + 32) (fun i hi => by
   have := hr (i + 1) (by simp; omega)
   rw [show off + (i + 1) * 32 = off + 32 + i * 32 by omega] at this
   exact this) (fun x hx => hd x (by simp [hx]))
  intro j v hj
  rw [List.flatMap_cons] at hj
  have hl : (dc d).length = 32 := by rw [dc_length, (hd d (by simp)).1]
  rcases Nat.lt_or_ge j 32 with h1 | h1
  ·rw [List.getElem?_append_left (by omega)] at hj
   have := h0 j v hj
   rwa [Nat.zero_mul, Nat.add_zero] at this
  ·rw [List.getElem?_append_right (by omega), hl] at hj
   have := ih' (j - 32) v hj
   rwa [show off + 32 + (j - 32) = off + j by omega] at this
theorem flatMap_dc_length {ds : List (List Int)} (hd : ∀ d ∈ ds, D32 d) : (ds.flatMap dc).length = ds.length * 32 := by
 induction ds with
 | nil => rfl
 | cons d r ih =>
  rw [List.flatMap_cons, List.length_append, dc_length, (hd d (by simp)).1, ih (fun x hx => hd x (by simp [hx])), List.length_cons]
  omega
def DfAt (da db : List (List Int)) (x : Nat) : Prop := da.getD (x - 1) [] = db.getD (x - 1) [] /\ ¬ (da.getD (2 * x - 1) [] = db.getD (2 * x - 1) [] /\ da.getD (2 * x) [] = db.getD (2 * x) [])
end Go.Proofs.YtdgollnapbonjaaGreatDoor
namespace Go.Proofs.YtdgollnapbonjaaGreatDoor
theorem all_same {N M : List (List Int)} {W : Nat} (h0 : N.getD 0 [] = M.getD 0 []) (hno : ∀ y, 1 <= y -> y < W -> ¬ DfAt N M y) : ∀ x, 1 <= x -> x < 2 * W -> N.getD (x - 1) [] = M.getD (x - 1) [] := by
 intro x
 induction x using Nat.strongRecOn with
 | ind x ih =>
  intro h1 h2
  by_cases hx : x = 1
  ·subst hx; exact h0
  ·have hp := ih (x / 2) (by omega) (by omega) (by omega)
   have hn := hno (x / 2) (by omega) (by omega)
   have hc : N.getD (2 * (x / 2) - 1) [] = M.getD (2 * (x / 2) - 1) [] /\ N.getD (2 * (x / 2)) [] = M.getD (2 * (x / 2)) [] := by
    apply Classical.byContradiction
    intro hc
    exact hn ⟨hp, hc⟩
   rcases Nat.mod_two_eq_zero_or_one x with h3 | h3
   ·rw [show x - 1 = 2 * (x / 2) - 1 by omega]; exact hc.1
   ·rw [show x - 1 = 2 * (x / 2) by omega]; exact hc.2
theorem clash_of {N M : List (List Int)} {x : Nat} (h1 : InR N x) (h2 : InR M x) (hd : DfAt N M x) (ha : D32 (N.getD (2 * x - 1) [])) (hb : D32 (N.getD (2 * x) [])) (hc : D32 (M.getD (2 * x - 1) [])) (hd' : D32 (M.getD (2 * x) [])) :
  ndB (N.getD (2 * x - 1) []) (N.getD (2 * x) []) ≠ ndB (M.getD (2 * x - 1) []) (M.getD (2 * x) []) /\ digL (ndB (N.getD (2 * x - 1) []) (N.getD (2 * x) [])) = digL (ndB (M.getD (2 * x - 1) []) (M.getD (2 * x) [])) := by
 refine ⟨fun e => hd.2 (ndB_inj ha.1 hb.1 hc.1 hd'.1 e), ?_⟩
 have h3 := hd.1
 rw [h1, h2] at h3
 exact h3
end Go.Proofs.YtdgollnapbonjaaGreatDoor
namespace Go.Proofs.YtdgollnapbonjaaGreatDoor
open Go Go.RowKit
def ubE (u v : Ub) : Bool := u.k == v.k && (u.n == v.n && (u.g == v.g && (u.z == v.z && (decide (u.a = v.a) && decide (u.b = v.b)))))
theorem ubE_iff (u v : Ub) : ubE u v = true ↔ u = v := by
 unfold ubE
 cases u; cases v
 simp
theorem rows_inj {u v : Ub} (hu : RB u) (hv : RB v) (h : ubRows u = ubRows v) : u = v := by
 have q : ∀ x y : Int, 0 <= x -> 0 <= y -> dgL x.toNat = dgL y.toNat -> x = y := fun x y hx hy e => by have := dgL_inj e; omega
 unfold ubRows at h
 simp only [List.cons.injEq, Prod.mk.injEq, true_and, and_true] at h
 obtain ⟨e1, e2, e3, e4, e5, e6⟩ := h
 cases u; cases v
 obtain ⟨r1, r2, r3, r4⟩ := hu
 obtain ⟨s1, s2, s3, s4⟩ := hv
 simp only at e1 e2 e3 e4 e5 e6 r1 r2 r3 r4 s1 s2 s3 s4
 rw [q _ _ r1.1 s1.1 e1, q _ _ r2.1 s2.1 e2, q _ _ r3.1 s3.1 e3, e4, e5, q _ _ r4.1 s4.1 e6]
theorem part_ub0 (w : World) (u : Ub) : (part 3 (ubA u) 0).run Tryz.prog w = .ok (.int .i64 u.k) w := by
 have e : (ubA u)[0]? = some (.int .i64 u.k) := rfl
 simp [part, e]
theorem part_ub1 (w : World) (u : Ub) : (part 3 (ubA u) 1).run Tryz.prog w = .ok (.int .i64 u.n) w := by
 have e : (ubA u)[1]? = some (.int .i64 u.n) := rfl
 simp [part, e]
theorem part_ub2 (w : World) (u : Ub) : (part 3 (ubA u) 2).run Tryz.prog w = .ok (.int .i64 u.g) w := by
 have e : (ubA u)[2]? = some (.int .i64 u.g) := rfl
 simp [part, e]
theorem part_ub3 (w : World) (u : Ub) : (part 3 (ubA u) 3).run Tryz.prog w = .ok (.int .i64 u.z) w := by
 have e : (ubA u)[3]? = some (.int .i64 u.z) := rfl
 simp [part, e]
theorem cellsB_is (l : List Int) : cellsB l = (l.map (Value.int .u8)).toArray := rfl
theorem info_dig32 : (Tryz.prog.info? 23).map (fun i => i.size) = some 32 := by kernel_rfl
theorem part_uba (w : World) (u : Ub) (h : u.ok) : (part 23 (ubA u) 4).run Tryz.prog w = .ok (.agg (cellsB u.a)) w := by
 cases hi : Tryz.prog.info? 23 with
 | none => have := info_dig32; rw [hi] at this; cases this
 | some i0 =>
  have hz : i0.size = 32 := by have := info_dig32; rw [hi] at this; simpa using this
  have e3 : ((ubA u).extract 4 36) = cellsB u.a := by
   rw [cellsB_is]
   apply Array.ext'
   simp [ubA, ubL, h.1.1, List.take_append]
  simp [part, isAgg, run_underlying Tryz.underlying23, sizeOf, typeInfo, hi, hz, e3]
theorem part_ubb (w : World) (u : Ub) (h : u.ok) : (part 23 (ubA u) 36).run Tryz.prog w = .ok (.agg (cellsB u.b)) w := by
 cases hi : Tryz.prog.info? 23 with
 | none => have := info_dig32; rw [hi] at this; cases this
 | some i0 =>
  have hz : i0.size = 32 := by have := info_dig32; rw [hi] at this; simpa using this
  have e3 : ((ubA u).extract 36 68) = cellsB u.b := by
   rw [cellsB_is]
   apply Array.ext'
   simp [ubA, ubL, h.1.1, h.2.1, List.drop_append, List.take_of_length_le]
  simp [part, isAgg, run_underlying Tryz.underlying23, sizeOf, typeInfo, hi, hz, e3]
theorem run_eql_ueb (w : World) (u v : Ub) (hu : u.ok) (hv : v.ok) : (binOp .eql 25 (.agg (ubA u)) (.agg (ubA v))).run Tryz.prog w = .ok (.bool (ubE u v)) w := by
 rw [run_eql_struct, run_equalIn_struct w 9999 _ _ _ (by kernel_rfl) (by kernel_rfl)]
 have hf : ∃ f0 f1 f2 f3 f4 f5, (Tryz.prog.fieldsOf 25).toList = [f0, f1, f2, f3, f4, f5] /\ (f0.name ≠ "_" /\ f0.type = 3 /\ f0.offset = 0) /\ (f1.name ≠ "_" /\ f1.type = 3 /\ f1.offset = 1) /\ (f2.name ≠ "_" /\ f2.type = 3 /\ f2.offset = 2) /\ (f3.name ≠ "_" /\ f3.type = 3 /\ f3.offset = 3) /\ (f4.name ≠ "_" /\ f4.type = 23 /\ f4.offset = 4) /\ f5.name ≠ "_" /\ f5.type = 23 /\ f5.offset = 36 := ⟨_, _, _, _, _, _, rfl, ⟨by decide, rfl, rfl⟩, ⟨by decide, rfl, rfl⟩, ⟨by decide, rfl, rfl⟩, ⟨by decide, rfl, rfl⟩, ⟨by decide, rfl, rfl⟩, by decide, rfl, rfl⟩
 obtain ⟨f0, f1, f2, f3, f4, f5, e0, ⟨n0, t0, o0⟩, ⟨n1, t1, o1⟩, ⟨n2, t2, o2⟩, ⟨n3, t3, o3⟩, ⟨n4, t4, o4⟩, n5, t5, o5⟩ := hf
 rw [e0]
 have hqa := run_equalIn_bytes w 9997 32 23 Tryz.underlying23 u.a v.a hu.1.1 hv.1.1
 have hqb := run_equalIn_bytes w 9997 32 23 Tryz.underlying23 u.b v.b hu.2.1 hv.2.1
 have hi := fun x y => run_equalIn_int (P := Tryz.prog) w 9998 3 .i64 .i64 x y Tryz.underlying3
 simp only [Op.eqFields, n0, n1, n2, n3, n4, n5, t0, t1, t2, t3, t4, t5, o0, o1, o2, o3, o4, o5, if_true, ne_eq, not_false_eq_true, Sem.run_bind, part_ub0, part_ub1, part_ub2, part_ub3, part_uba _ u hu, part_uba _ v hv, part_ubb _ u hu, part_ubb _ v hv, Result.andThen_ok, hi]
 unfold ubE
 cases h1 : (u.k == v.k) with
 | false => simp
 | true =>
  cases h2 : (u.n == v.n) with
  | false => simp [part_ub1, hi, h2]
  | true =>
   cases h3 : (u.g == v.g) with
   | false => simp [part_ub1, part_ub2, hi, h2, h3]
   | true =>
    cases h4 : (u.z == v.z) with
    | false => simp [part_ub1, part_ub2, part_ub3, hi, h2, h3, h4]
    | true =>
     cases h5 : decide (u.a = v.a) with
     | false =>
      rw [h5] at hqa
      simp [part_ub1, part_ub2, part_ub3, part_uba _ u hu, part_uba _ v hv, hi, h2, h3, h4, hqa]
     | true =>
      rw [h5] at hqa
      cases h6 : decide (u.b = v.b) with
      | false =>
       rw [h6] at hqb
       simp [part_ub1, part_ub2, part_ub3, part_uba _ u hu, part_uba _ v hv, part_ubb _ u hu, part_ubb _ v hv, hi, h2, h3, h4, hqa, hqb]
      | true =>
       rw [h6] at hqb
       simp [part_ub1, part_ub2, part_ub3, part_uba _ u hu, part_uba _ v hv, part_ubb _ u hu, part_ubb _ v hv, hi, h2, h3, h4, hqa, hqb]
def t1B (wd l : List Int) : List Int := framed [wd, l]
theorem t1B_inj {wd a b : List Int} (h : t1B wd a = t1B wd b) : a = b := by
 unfold t1B at h
 rw [framed_cons, framed_cons, framed_cons, framed_cons] at h
 have h1 := List.append_cancel_left h
 have h2 := List.append_cancel_left h1
 have h3 := List.append_inj h2 (by rw [bigL_length, bigL_length])
 simpa [framed_nil] using h3.2
def wRoot : List Int := [115, 116, 114, 111, 110, 103, 114, 111, 111, 109, 32, 114, 111, 111, 116]
def wBlock : List Int := [115, 116, 114, 111, 110, 103, 114, 111, 111, 109, 32, 98, 108, 111, 99, 107]
def wUeb : List Int := [115, 116, 114, 111, 110, 103, 114, 111, 111, 109, 32, 117, 101, 98]
def rtL (d : List Int) : List Int := digL (t1B wRoot d)
def bkL1 (l : List Int) : List Int := digL (t1B wBlock l)
def ueL (l : List Int) : List Int := digL (t1B wUeb l)
def NoC (x y : List Int) : Prop := ¬ (x ≠ y /\ digL x = digL y)
theorem NoC.one {x y : List Int} (h : NoC x y) (e : digL x = digL y) : x = y := by
 apply Classical.byContradiction
 intro hn
 exact h ⟨hn, e⟩
structure Sr where
 num : Int
 u : Ub
 ch : List (List Int)
 bl : List (List Int)
 sg : List (List Int)
 dt : List (List Int)
def Sr.segs (s : Sr) : Nat := (upI s.u.z s.u.g).toNat
structure Sr.ok (s : Sr) : Prop where
 u : s.u.ok
 ch : ∀ d ∈ s.ch, D32 d
 bl : ∀ d ∈ s.bl, D32 d
 sg : ∀ d ∈ s.sg, D32 d
 dt : ∀ l ∈ s.dt, Byt8 l
structure FrQ (s : Sr) : Prop where
 ok : OkS s.u.k s.u.n s.u.g s.u.z
 n0 : 0 <= s.num
 n1 : s.num < s.u.n
 ch : s.ch.length = lgN s.u.n.toNat
 bl : (s.bl.length : Int) = ndN (upI s.u.z s.u.g)
 sg : (s.sg.length : Int) = ndN (upI s.u.z s.u.g)
def blN (u : Ub) (j : Nat) : Int := if (j : Int) = upI u.z u.g - 1 then upI (tlI u.z u.g) u.k else u.g / u.k
structure MayQ (s : Sr) : Prop where
 fr : FrQ s
 dt : (s.dt.length : Int) = upI s.u.z s.u.g
 sz : ∀ j, j < s.dt.length -> ((s.dt.getD j []).length : Int) = blN s.u j
structure SndQ (s : Sr) : Prop where
 may : MayQ s
 top : clV s.ch (wdN s.u.n.toNat + s.num.toNat) (rtL (s.bl.getD 0 [])) = s.u.a
 blT : IsT (s.dt.map bkL1) (wdN s.segs) s.bl
 sgT : ∃ ls, ls.length = s.segs /\ IsT ls (wdN s.segs) s.sg
 sg0 : s.sg.getD 0 [] = s.u.b
def NoN (N M : List (List Int)) : Prop := ∀ i, 1 <= i -> 2 * i < N.length -> 2 * i < M.length -> NoC (ndB (N.getD (2 * i - 1) []) (N.getD (2 * i) [])) (ndB (M.getD (2 * i - 1) []) (M.getD (2 * i) []))
theorem nodes_one {ls ms N M : List (List Int)} {W : Nat} (hW : 1 <= W) (hN : IsT ls W N) (hM : IsT ms W M) (dN : ∀ d ∈ N, D32 d) (dM : ∀ d ∈ M, D32 d) (h0 : N.getD 0 [] = M.getD 0 []) (hno : NoN N M) : N = M := by
 have hd : ∀ y, 1 <= y -> y < W -> ¬ DfAt N M y := by
  intro y h1 h2 hd
  have l1 := hN.len
  have l2 := hM.len
  exact hno y h1 (by omega) (by omega) (clash_of (hN.inner y h1 h2) (hM.inner y h1 h2) hd (getD_D dN _ (by omega)) (getD_D dN _ (by omega)) (getD_D dM _ (by omega)) (getD_D dM _ (by omega)))
 refine List.ext_getElem (by rw [hN.len, hM.len]) fun i h1 h2 => ?_
 have h3 := all_same h0 hd (i + 1) (by omega) (by rw [hN.len] at h1; omega)
 rw [show i + 1 - 1 = i by omega] at h3
 simpa [List.getD, List.getElem?_eq_getElem h1, List.getElem?_eq_getElem h2] using h3
theorem OkS.rb {u : Ub} (h : OkS u.k u.n u.g u.z) (hu : u.ok) : RB u := by
 obtain ⟨q1, q2, q3, q4⟩ := h.le
 exact ⟨q1, q2, q3, q4⟩
theorem wrL_inj {u v : Ub} (hu : u.ok) (hv : v.ok) (h1 : OkS u.k u.n u.g u.z) (h2 : OkS v.k v.n v.g v.z) (h : wrL u = wrL v) : u = v := by
 unfold wrL chE at h
 rw [if_pos h1, if_pos h2, if_pos rfl, if_pos rfl] at h
 exact rows_inj (h1.rb hu) (h2.rb hv) (pack_inj h)
theorem share_one {a b : Sr} (oa : a.ok) (ob : b.ok) (ha : SndQ a) (hb : SndQ b) (hn : a.num = b.num) (hu : ueL (wrL a.u) = ueL (wrL b.u))
  (c1 : NoC (t1B wUeb (wrL a.u)) (t1B wUeb (wrL b.u))) (c2 : NoC (t1B wRoot (a.bl.getD 0 [])) (t1B wRoot (b.bl.getD 0 [])))
  (c3 : ∀ q, q < a.ch.length -> q < b.ch.length -> NoC (wayB a.ch (wdN a.u.n.toNat + a.num.toNat) (rtL (a.bl.getD 0 [])) q) (wayB b.ch (wdN a.u.n.toNat + a.num.toNat) (rtL (b.bl.getD 0 [])) q))
  (c4 : NoN a.bl b.bl) (c5 : NoN a.sg b.sg)
  (c6 : ∀ j, j < a.dt.length -> j < b.dt.length -> NoC (t1B wBlock (a.dt.getD j [])) (t1B wBlock (b.dt.getD j []))) : a = b := by
 have eu : a.u = b.u := wrL_inj oa.u ob.u ha.may.fr.ok hb.may.fr.ok (t1B_inj (c1.one hu))
 obtain ⟨an, au, ac, ab, ag, ad⟩ := a
 obtain ⟨bn, bu, bc, bb, bg, bd⟩ := b
 dsimp only at eu hn
 subst eu
 subst hn
 have es : (Sr.mk an au bc bb bg bd).segs = (Sr.mk an au ac ab ag ad).segs := rfl
 have hlc : ac.length = bc.length := by rw [ha.may.fr.ch, hb.may.fr.ch]
 have ld : ∀ N : List (List Int), (N.length : Int) = ndN (upI au.z au.g) -> 0 < N.length := fun N h => by have := ndN_le (upI au.z au.g); omega
 have rD : ∀ d, D32 (rtL d) := fun d => ⟨digL_length _, digL_byt _⟩
 obtain ⟨e1, e2⟩ := way_one (x := wdN au.n.toNat + an.toNat) (a := rtL (ab.getD 0 [])) (b := rtL (bb.getD 0 [])) oa.ch ob.ch (rD _) (rD _) hlc (fun q hq => c3 q hq (by rw [<- hlc]; exact hq)) (by have := ha.top; have h2 := hb.top; dsimp only at this h2; rw [this, h2])
 have e0 : ab.getD 0 [] = bb.getD 0 [] := t1B_inj (c2.one e1)
 have hW := (wdN_le (Sr.mk an au ac ab ag ad).segs).2
 have e3 : ab = bb := nodes_one hW ha.blT (by have := hb.blT; rw [es] at this; exact this) oa.bl ob.bl e0 c4
 obtain ⟨ls, hl1, hl2⟩ := ha.sgT
 obtain ⟨ms, hm1, hm2⟩ := hb.sgT
 rw [es] at hm2
 have e4 : ag = bg := nodes_one hW hl2 hm2 oa.sg ob.sg (by have := ha.sg0; have h2 := hb.sg0; dsimp only at this h2; rw [this, h2]) c5
 have hd1 := ha.may.dt
 have hd2 := hb.may.dt
 dsimp only at hd1 hd2
 have e5 : ad = bd := by
  refine List.ext_getElem (by omega) fun i h1 h2 => ?_
  have t1 := ha.blT.leaf i
  have t2 := hb.blT.leaf i
  rw [es] at t2
  have hS : (Sr.mk an au ac ab ag ad).segs = ad.length := by unfold Sr.segs; dsimp only; omega
  have hle : ad.length <= wdN (Sr.mk an au ac ab ag ad).segs := by
   rw [hS]
   refine wdN_ge _ ?_
   have := ha.may.fr.ok.2.2.2.2.2.2.2.2
   dsimp only at this
   omega
  have t1 := t1 (by omega)
  have t2 := t2 (by omega)
  dsimp only at t1 t2
  have e3' : ab.getD (wdN (Sr.mk an au ac ab ag ad).segs - 1 + i) [] = bb.getD (wdN (Sr.mk an au ac ab ag ad).segs - 1 + i) [] := by rw [e3]
  rw [e3'] at t1
  rw [t2] at t1
  unfold lf at t1
  rw [if_pos (by simpa using h2), if_pos (by simpa using h1)] at t1
  have g1 : (ad.map bkL1).getD i [] = bkL1 ad[i] := by simp [List.getD, List.getElem?_map, List.getElem?_eq_getElem h1]
  have g2 : (bd.map bkL1).getD i [] = bkL1 bd[i] := by simp [List.getD, List.getElem?_map, List.getElem?_eq_getElem h2]
  rw [g1, g2] at t1
  have t1 := t1.symm
  have c := c6 i h1 h2
  dsimp only at c
  rw [show ad.getD i [] = ad[i] by simp [List.getD, List.getElem?_eq_getElem h1], show bd.getD i [] = bd[i] by simp [List.getD, List.getElem?_eq_getElem h2]] at c
  exact t1B_inj (c.one t1)
 have e2 : ac = bc := e2
 subst e2 e3 e4 e5
 rfl
end Go.Proofs.YtdgollnapbonjaaGreatDoor
namespace Go.Proofs.YtdgollnapbonjaaGreatDoor
open Go Go.RowKit Ev
def envI (f : List Int) (v : Value) : Env := ⟨fun i => f.getD i 0, fun _ => v, fun _ _ _ => 0⟩
def e64 (e : Ex) : TV := .sc (.int .i64 e)
def E64 (e : Ex) : AV := .tv (e64 e)
def B64 (i : Nat) : AV := E64 (.var i)
def rw64 (l : List Ex) : TV := .agg (l.map (SV.int .i64))
def vs64 (o n : Nat) : List Ex := (List.range' o n).map .var
def zs64 : List Ex := [.lit 0, .lit 0, .lit 0, .lit 0, .lit 0, .lit 0, .lit 0, .lit 0]
def ints (l : List Int) : Array Value := (l.map (Value.int .i64)).toArray
theorem e64_inst (ρ : Env) (ms : List Nat) (e : Ex) : (e64 e).inst ρ ms = some (.int .i64 (e.den ρ)) := rfl
theorem E64_inst (ρ : Env) (ms : List Nat) (e : Ex) : (E64 e).inst ρ ms = some (.int .i64 (e.den ρ)) := rfl
def tabCon (t : List (Nat × List AV × AV)) : ConF := fun g xs _ => (t.find? fun e => decide (e.1 = g) && decide (e.2.1 = xs)).map (·.2.2)
def EntOk (ρ : Env) (e : Nat × List AV × AV) : Prop :=
 ∀ (ms : List Nat) (w : World) (args : Array Value), e.2.1.map (AV.inst ρ ms) = args.toList.map some -> Calls Tryz.prog e.1 args w fun r w' => ∃ u, r = .returned u /\ e.2.2.inst ρ ms = some u /\ Below w.heap.size w w'
theorem tabCon_ok {ρ : Env} {t : List (Nat × List AV × AV)} (h : ∀ e ∈ t, EntOk ρ e) : ConOk Tryz.prog ρ (tabCon t) := by
 intro g xs H v hv ms B w args ha hH
 unfold tabCon at hv
 rw [Option.map_eq_some_iff] at hv
 obtain ⟨e, h1, rfl⟩ := hv
 have h2 := List.find?_some h1
 simp only [Bool.and_eq_true, decide_eq_true_eq] at h2
 obtain ⟨rfl, rfl⟩ := h2
 exact h e (List.mem_of_find?_eq_some h1) ms w args ha
theorem some_inj {α : Type} : ∀ {a b : List α}, a.map some = b.map some -> a = b
 | [], [], _ => rfl
 | [], _ :: _, h => by simp at h
 | _ :: _, [], h => by simp at h
 | x :: a, y :: b, h => by
  simp only [List.map_cons, List.cons.injEq, Option.some.injEq] at h
  rw [h.1, some_inj h.2]
theorem ent {ρ : Env} {g : Nat} {xs : List AV} {v : AV} (vs : List Value) (u : Value) (hx : ∀ ms, xs.map (AV.inst ρ ms) = vs.map some) (hv : ∀ ms, v.inst ρ ms = some u)
  (h : ∀ w, Calls Tryz.prog g vs.toArray w fun e w' => e = .returned u /\ Below w.heap.size w w') : EntOk ρ (g, xs, v) := by
 intro ms w args ha
 have e : args = vs.toArray := by
  have := some_inj ((hx ms).symm.trans ha)
  rw [this]
 subst e
 exact (h w).mono fun e w' ⟨q1, q2⟩ => ⟨u, q1, hv ms, q2⟩
theorem still {g : Nat} {args : Array Value} {u : Value} {w : World} (h : Calls Tryz.prog g args w fun e w' => e = .returned u /\ w' = w) : Calls Tryz.prog g args w fun e w' => e = .returned u /\ Below w.heap.size w w' :=
 h.mono fun e w' ⟨q1, q2⟩ => ⟨q1, q2 ▸ Below.refl _ _⟩
def tabCmp (t : List (BinOp × Ex × Ex × Bool)) (op : BinOp) (a b : Ex) : Option Bool := (t.find? fun e => decide (e.1 = op) && decide (e.2.1 = a) && decide (e.2.2.1 = b)).map (·.2.2.2)
def CmpOk (ρ : Env) (e : BinOp × Ex × Ex × Bool) : Prop := cmpOf e.1 (e.2.1.den ρ) (e.2.2.1.den ρ) = some e.2.2.2
def tabRow (t : List (List Ex × List Ex × Bool)) (l l' : List SV) : Option Bool := (t.find? fun e => decide (e.1.map (SV.int .i64) = l) && decide (e.2.1.map (SV.int .i64) = l')).map (·.2.2)
def RowOk (ρ : Env) (e : List Ex × List Ex × Bool) : Prop := e.1.length = e.2.1.length /\ decide (e.1.map (Ex.den ρ) = e.2.1.map (Ex.den ρ)) = e.2.2
def tabLore (c : List (BinOp × Ex × Ex × Bool)) (r : List (List Ex × List Ex × Bool)) : Lore := ⟨tabCmp c, id, tabRow r⟩
theorem row_inst (ρ : Env) (ms : List Nat) : ∀ (l : List Ex) (vs : List Value), (l.map (SV.int .i64)).map (SV.inst ρ ms) = vs.map some -> vs = (l.map (Ex.den ρ)).map (Value.int .i64)
 | [], [], _ => rfl
 | [], _ :: _, h => by simp at h
 | _ :: _, [], h => by simp at h
 | e :: l, v :: vs, h => by
  simp only [List.map_cons, List.cons.injEq] at h
  rw [row_inst ρ ms l vs h.2]
  have := h.1
  simp only [SV.inst, Option.some.injEq] at this
  rw [<- this]
  rfl
theorem ints_eqv : ∀ (a b : List Int), a.length = b.length -> all2 alike (a.map (Value.int .i64)) (b.map (Value.int .i64)) = true /\ all2 eqv (a.map (Value.int .i64)) (b.map (Value.int .i64)) = decide (a = b)
 | [], [], _ => ⟨rfl, rfl⟩
 | [], _ :: _, h => by simp at h
 | _ :: _, [], h => by simp at h
 | x :: a, y :: b, h => by
  obtain ⟨h1, h2⟩ := ints_eqv a b (by simpa using h)
  refine ⟨by simp only [List.map_cons, all2, h1, alike]; simp, ?_⟩
  simp only [List.map_cons, all2, h2, eqv]
  by_cases e : x = y
  ·subst e; simp
  ·simp [e]
theorem tabLore_ok {ρ : Env} {c : List (BinOp × Ex × Ex × Bool)} {r : List (List Ex × List Ex × Bool)} (hc : ∀ e ∈ c, CmpOk ρ e) (hr : ∀ e ∈ r, RowOk ρ e) : LoreOk ρ (tabLore c r) := by
 refine ⟨fun op a b r hr => ?_, fun _ => rfl, fun l l' b hb ms vs us hv hu => ?_⟩
 ·simp only [tabLore, tabCmp] at hr
  rw [Option.map_eq_some_iff] at hr
  obtain ⟨e, h1, rfl⟩ := hr
  have h2 := List.find?_some h1
  simp only [Bool.and_eq_true, decide_eq_true_eq] at h2
  obtain ⟨⟨rfl, rfl⟩, rfl⟩ := h2
  exact hc e (List.mem_of_find?_eq_some h1)
 ·simp only [tabLore, tabRow] at hb
  rw [Option.map_eq_some_iff] at hb
  obtain ⟨e, h1, rfl⟩ := hb
  have h2 := List.find?_some h1
  simp only [Bool.and_eq_true, decide_eq_true_eq] at h2
  obtain ⟨rfl, rfl⟩ := h2
  obtain ⟨q1, q2⟩ := hr e (List.mem_of_find?_eq_some h1)
  rw [row_inst ρ ms _ vs hv, row_inst ρ ms _ us hu, <- q2]
  exact ints_eqv _ _ (by simpa using q1)
theorem map_fst {α β : Type} {o : Option (α × β)} {a : α} (h : o.map (·.1) = some a) : ∃ b, o = some (a, b) := by
 cases o with
 | none => cases h
 | some p => simp only [Option.map_some, Option.some.injEq] at h; exact ⟨p.2, by rw [<- h]⟩
theorem ev_row {ρ : Env} {c : List (BinOp × Ex × Ex × Bool)} {r : List (List Ex × List Ex × Bool)} {t : List (Nat × List AV × AV)} {n g : Nat} {xs : List AV} {v : AV}
  (hc : ∀ e ∈ c, CmpOk ρ e) (hr : ∀ e ∈ r, RowOk ρ e) (ht : ∀ e ∈ t, EntOk ρ e) (h : (evCallF Tryz.prog (tabLore c r) (tabCon t) n g xs H0).map (·.1) = some v)
  (vs : List Value) (u : Value) (hx : xs.map (AV.inst ρ ms0) = vs.map some) (hv : ∀ ms, v.inst ρ ms = some u) (w : World) :
  Calls Tryz.prog g vs.toArray w fun e w' => e = .returned u /\ Below w.heap.size w w' := by
 obtain ⟨H', h1⟩ := map_fst h
 refine (calls_of_evF (tabLore_ok hc hr) (tabCon_ok ht) mixedOrders n h1 (args := vs.toArray) w (by rw [List.toList_toArray]; exact hx)).mono ?_
 rintro e w' ⟨ms, u', rfl, q1, _, q3⟩
 rw [hv ms] at q1
 cases q1
 exact ⟨rfl, q3⟩
end Go.Proofs.YtdgollnapbonjaaGreatDoor
