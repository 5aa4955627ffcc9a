/- CutStretch, by the evaluator. -/
import Derived.Test.YtdmdcnikhnoclabCutSameLaw
set_option linter.unusedVariables false
set_option linter.unusedSimpArgs false
namespace Go.Proofs.Ytdmdcnikhnoclab
open Go Go.RowKit Ev

theorem emod_tmod {x n : Int} (hn : 1 ≤ n) : (Int.tmod x n < 0 → x % n = Int.tmod x n + n) ∧ (¬ Int.tmod x n < 0 → x % n = Int.tmod x n) := by
  have b1 := Int.lt_tmod_of_pos x (show 0 < n by omega)
  have b2 := Int.tmod_lt_of_pos x (show 0 < n by omega)
  have e := Int.mul_tdiv_add_tmod x n
  have u : ∀ q r : Int, n * q + r = x → 0 ≤ r → r < n → x % n = r := fun q r h1 h2 h3 => by
    rw [← h1, Int.add_comm, Int.add_mul_emod_self_left, Int.emod_eq_of_lt h2 h3]
  constructor
  · intro h
    refine u (x.tdiv n - 1) _ ?_ (by omega) (by omega)
    rw [Int.mul_sub]
    omega
  · intro h
    exact u (x.tdiv n) _ e (by omega) b2
set_option maxHeartbeats 1000000 in
theorem pick_any (w : World) (x n : Int) (h1 : 1 ≤ n) (h2 : n ≤ 140737488355328) : Calls Try.prog 25 #[.int .i64 x, .int .i64 n] w fun e w' => e = .returned (.int .i64 (x % n)) ∧ w' = w := by
  have b1 : -n < Int.tmod x n := Int.lt_tmod_of_pos x (by omega)
  have b2 : Int.tmod x n < n := Int.tmod_lt_of_pos x (by omega)
  have hn1 : ¬ (n < 1) := by omega
  have hn0 : ¬ (n = 0) := by omega
  obtain ⟨E1, E2⟩ := emod_tmod (x := x) h1
  obtain ⟨y, hy⟩ : ∃ y, Int.tmod x n = y := ⟨_, rfl⟩
  rw [hy] at b1 b2 E1 E2
  have HE1 := hid E1
  have HE2 := hid E2
  clear E1 E2
  by_cases hneg : y < 0
  · go_enter Try.func25, Try.ntmps25
    go_wp2
    go_ret
    rw [HE1.out hneg]
    exact ⟨rfl, rfl⟩
  · go_enter Try.func25, Try.ntmps25
    go_wp2
    go_ret
    rw [HE2.out hneg]
    exact ⟨rfl, rfl⟩
def stS : List Ex := vs64 11 8
def stL : Ex := .ari .sub .i64 (.var 4) (.var 7)
def stN : Ex := .ari .add .i64 (.var 8) (.lit 1)
def stE : Ex := .ari .sub .i64 (.ari .add .i64 (.var 7) stN) (.lit 1)
def tSt : List (Nat × List AV × AV) := [(16, [prX, B64 4], .tup [rw64 stS, e64 (.lit 0)]), (25, [B64 5, B64 4], B64 7), (25, [B64 6, E64 stL], B64 8), (22, [.tv (rw64 stS), B64 7, E64 stN], .tup [e64 (.var 9), e64 (.var 10), e64 (.lit 0)]), (19, [.tv (rw64 stS), B64 10], .tup [e64 (.var 19), e64 (.lit 0)]), aw_t]
def lastX : Ex := .ari .mul .i64 (.var 10) (.var 13)
def cSt : List (BinOp × Ex × Ex × Bool) := [(.lss, .var 9, .lit 0, false), (.lss, .var 10, .var 9, false), (.geq, .var 10, .var 15, false), (.leq, .ari .mul .i64 (.var 9) (.var 13), .var 7, true), (.lss, .var 7, .ari .mul .i64 (.ari .add .i64 (.var 9) (.lit 1)) (.var 13), true), (.leq, lastX, stE, true), (.lss, stE, .ari .add .i64 lastX (.var 19), true)]
noncomputable def st_ev (c : List (BinOp × Ex × Ex × Bool)) (t : List (Nat × List AV × AV)) : Option AV := (evCallF Try.prog (tabLore c []) (tabCon t) 100 7 [prX, B64 4, B64 5, B64 6] []).map (·.1)
theorem st_bad : st_ev [(.neq, .var 19, .lit 0, true)] [(16, [prX, B64 4], .tup [rw64 stS, e64 (.var 19)]), aw_t] = some (bX true) := by kernel_rfl
theorem st_ok : st_ev cSt tSt = some (bX true) := by kernel_rfl
theorem div_lo {x y : Int} (hy : 1 ≤ y) : x / y * y ≤ x := by
  have h1 := Int.mul_ediv_add_emod x y
  have h2 := Int.emod_nonneg x (show y ≠ 0 by omega)
  rw [Int.mul_comm] at h1
  omega
theorem div_hi {x y : Int} (hy : 1 ≤ y) : x < (x / y + 1) * y := by
  have h1 := Int.mul_ediv_add_emod x y
  have h3 := Int.emod_lt_of_pos x (show 0 < y by omega)
  rw [Int.mul_comm] at h1
  rw [Int.add_mul]
  omega
theorem stretch_walk (w : World) (k n g h : Int) (p : Option Addr) (l c : Nat) (z x y : Int) : Calls Try.prog 7 #[prV k n g h (.slice p l c), .int .i64 z, .int .i64 x, .int .i64 y] w fun e w' => e = .returned (.bool true) ∧ Below w.heap.size w w' := by
  have hs : (Value.slice p l c).oneCell' = true := rfl
  obtain ⟨b0, b1, b2, b3, b4, b5, b6, b7, hT⟩ := shpT_len k n g l z
  by_cases he : shpE k n g l z = 0
  · have eT : shpT k n g l z = shR k n (k * upI g k) z := by rw [shpT, if_pos he]
    obtain ⟨⟨h1, h2, h3, h4, h5, h6⟩, hz1, hz2, h9⟩ := shpE_ok he
    have hok := shp_okS he
    have hgp : 1 ≤ k * upI g k := hok.2.2.2.1
    have hgq : k * upI g k ≤ 65790 := by have := up_lt (x := g) h1; omega
    obtain ⟨s, hs'⟩ : ∃ s, k * upI g k = s := ⟨_, rfl⟩
    rw [hs'] at hgp hgq h9 hok eT
    have a0 := Int.emod_nonneg x (show z ≠ 0 by omega)
    have a1 := Int.emod_lt_of_pos x (show 0 < z by omega)
    obtain ⟨a, ha⟩ : ∃ a, x % z = a := ⟨_, rfl⟩
    rw [ha] at a0 a1
    have c0 := Int.emod_nonneg y (show z - a ≠ 0 by omega)
    have c1 := Int.emod_lt_of_pos y (show 0 < z - a by omega)
    obtain ⟨q, hq⟩ : ∃ q, y % (z - a) = q := ⟨_, rfl⟩
    rw [hq] at c0 c1
    have hF : ftB k n s z (upI z s) (tlI z s) (s / k) (upI (tlI z s) k) = true := decide_eq_true ⟨hok, rfl⟩
    have hO : cvO true z a (q + 1) := ⟨rfl, by omega, by omega, by omega⟩
    have l0 := Int.ediv_nonneg (show 0 ≤ a by omega) (show 0 ≤ s by omega)
    have l1 : a / s ≤ (a + q) / s := Int.ediv_le_ediv (by omega) (by omega)
    have l2 : (a + q) / s ≤ (z - 1) / s := Int.ediv_le_ediv (by omega) (by omega)
    have l3 : (a + q) / s < upI z s := by unfold upI; omega
    have s2 := upI_le (show 1 ≤ z by omega) hgp
    have d1 := div_lo (x := a) hgp
    have d2 := div_hi (x := a) hgp
    have d3 := div_lo (x := a + q) hgp
    have d4 := div_hi (x := a + q) hgp
    have tp := tlI_pos (x := z) hgp
    have tl := tlI_le (x := z) hgp
    have us := up_split z s
    have m1 : 0 ≤ a / s * s := Int.mul_nonneg l0 (by omega)
    have m2 : 0 ≤ (a + q) / s * s := Int.mul_nonneg (by omega) (by omega)
    have m3 : 0 ≤ (a / s + 1) * s := Int.mul_nonneg (by omega) (by omega)
    have m4 : (a / s + 1) * s ≤ 33554432 := by rw [Int.add_mul]; omega
    let ρ := envI [k, n, g, h, z, x, y, a, q, a / s, (a + q) / s, k, n, s, z, upI z s, tlI z s, s / k, upI (tlI z s) k, szV true (upI z s) ((a + q) / s) s (tlI z s)] (.slice p l c)
    have hS : stS.map (Ex.den ρ) = shR k n s z := rfl
    have hL : Ex.den ρ stL = z - a := wrap64 (x := z - a) (by omega) (by omega)
    have hN : Ex.den ρ stN = q + 1 := wrap64 (x := q + 1) (by omega) (by omega)
    have hE : Ex.den ρ stE = a + q := by
      show IntKind.i64.wrap (IntKind.i64.wrap (a + Ex.den ρ stN) - 1) = a + q
      rw [hN, wrap64 (x := a + (q + 1)) (by omega) (by omega), wrap64 (by omega) (by omega)]; omega
    have hla : Ex.den ρ lastX = (a + q) / s * s := wrap64 (x := (a + q) / s * s) (by omega) (by omega)
    have hrow : ∀ ms, (AV.tv (rw64 stS)).inst ρ ms = some (shV (shR k n s z)) := fun ms => by simp only [AV.inst]; rw [row_den, hS]
    have hz0 : szV true (upI z s) ((a + q) / s) s (tlI z s) = if (a + q) / s = upI z s - 1 then tlI z s else s := by unfold szV; rw [if_pos rfl, if_pos ⟨by omega, l3⟩]
    have hzl : a + q < (a + q) / s * s + szV true (upI z s) ((a + q) / s) s (tlI z s) ∧ szV true (upI z s) ((a + q) / s) s (tlI z s) ≤ 65790 ∧ 1 ≤ szV true (upI z s) ((a + q) / s) s (tlI z s) := by
      rw [hz0]
      split
      · rename_i hl
        rw [hl]
        omega
      · rw [Int.add_mul] at d4
        omega
    refine ev_row (ρ := ρ) (allc ?_ (allc ?_ (allc ?_ (allc ?_ (allc ?_ (allc ?_ (all1 ?_))))))) alln (allc ?_ (allc ?_ (allc ?_ (allc ?_ (allc ?_ (all1 (aw_ok ρ))))))) st_ok [prV k n g h (.slice p l c), .int .i64 z, .int .i64 x, .int .i64 y] _ (by simp only [List.map_cons, List.map_nil]; rw [prX_inst hs]; rfl) (fun _ => rfl) w
    · show some (decide (a / s < 0)) = some false
      rw [decide_eq_false (by omega)]
    · show some (decide ((a + q) / s < a / s)) = some false
      rw [decide_eq_false (by omega)]
    · show some (decide ((a + q) / s ≥ upI z s)) = some false
      rw [decide_eq_false (by omega)]
    · show some (decide (IntKind.i64.wrap (a / s * s) ≤ a)) = some true
      rw [wrap64 (by omega) (by omega), decide_eq_true d1]
    · show some (decide (a < IntKind.i64.wrap (IntKind.i64.wrap (a / s + 1) * s))) = some true
      rw [wrap64 (x := a / s + 1) (by omega) (by omega), wrap64 (by omega) (by omega), decide_eq_true d2]
    · show some (decide (Ex.den ρ lastX ≤ Ex.den ρ stE)) = some true
      rw [hla, hE, decide_eq_true d3]
    · show some (decide (Ex.den ρ stE < IntKind.i64.wrap (Ex.den ρ lastX + szV true (upI z s) ((a + q) / s) s (tlI z s)))) = some true
      rw [hla, hE, wrap64 (by omega) (by omega), decide_eq_true hzl.1]
    · refine ent [prV k n g h (.slice p l c), .int .i64 z] (.tuple #[shV (shR k n s z), .int .i64 0]) (fun ms => by simp only [List.map_cons, List.map_nil]; rw [prX_inst hs]; rfl) (fun ms => by rw [tup2, hS]; rfl) fun w => ?_
      have := shape_any w k n g h z p l c
      rwa [he, eT] at this
    · exact ent [.int .i64 x, .int .i64 z] (.int .i64 a) (fun _ => rfl) (fun _ => rfl) fun w => by rw [← ha]; exact still (pick_any w x z (by omega) (by omega))
    · exact ent [.int .i64 y, .int .i64 (z - a)] (.int .i64 q) (fun _ => by simp only [List.map_cons, List.map_nil, E64_inst, hL]; rfl) (fun _ => rfl) fun w => by rw [← hq]; exact still (pick_any w y (z - a) (by omega) (by omega))
    · refine ent [shV (shR k n s z), .int .i64 a, .int .i64 (q + 1)] (.tuple #[.int .i64 (a / s), .int .i64 ((a + q) / s), .int .i64 0]) (fun ms => by simp only [List.map_cons, List.map_nil, E64_inst, hN, hrow]; rfl) (fun _ => rfl) fun w => ?_
      have := cover_any w k n s z (upI z s) (tlI z s) (s / k) (upI (tlI z s) k) a (q + 1) (by omega)
      rw [hF, cvA, cvZ, cvE, if_pos hO, if_pos hO, if_pos rfl, if_pos hO, show a + (q + 1) - 1 = a + q by omega] at this
      exact this
    · refine ent [shV (shR k n s z), .int .i64 ((a + q) / s)] (.tuple #[.int .i64 (szV true (upI z s) ((a + q) / s) s (tlI z s)), .int .i64 0]) (fun ms => by simp only [List.map_cons, List.map_nil, hrow]; rfl) (fun _ => rfl) fun w => ?_
      have := segsize_any w k n s z (upI z s) (tlI z s) (s / k) (upI (tlI z s) k) ((a + q) / s)
      rw [hF, show szE true (upI z s) ((a + q) / s) = 0 by unfold szE; rw [if_pos rfl, if_pos ⟨by omega, l3⟩]] at this
      exact this
  · let ρ := envI [k, n, g, h, z, x, y, 0, 0, 0, 0, b0, b1, b2, b3, b4, b5, b6, b7, shpE k n g l z] (.slice p l c)
    refine ev_row (ρ := ρ) (all1 ?_) alln (allc ?_ (all1 (aw_ok ρ))) st_bad [prV k n g h (.slice p l c), .int .i64 z, .int .i64 x, .int .i64 y] _ (by simp only [List.map_cons, List.map_nil]; rw [prX_inst hs]; rfl) (fun _ => rfl) w
    · show some (shpE k n g l z != 0) = some true
      rw [bne_iff_ne.2 he]
    · refine ent [prV k n g h (.slice p l c), .int .i64 z] (.tuple #[shV [b0, b1, b2, b3, b4, b5, b6, b7], .int .i64 (shpE k n g l z)]) (fun ms => by simp only [List.map_cons, List.map_nil]; rw [prX_inst hs]; rfl) (fun ms => by rw [tup2]; rfl) fun w => ?_
      rw [← hT]
      exact shape_any w k n g h z p l c
end Go.Proofs.Ytdmdcnikhnoclab
