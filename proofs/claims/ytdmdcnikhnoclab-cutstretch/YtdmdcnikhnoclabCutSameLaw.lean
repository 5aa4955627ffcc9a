/- CutSame, by the evaluator. -/
import Derived.Test.YtdmdcnikhnoclabCutSz
set_option linter.unusedVariables false
set_option linter.unusedSimpArgs false
namespace Go.Proofs.Ytdmdcnikhnoclab
open Go Go.RowKit Ev

def aw_t : Nat × List AV × AV := (15, [], bX true)
theorem aw_ok (ρ : Env) : EntOk ρ aw_t := ent [] (.bool true) (fun _ => rfl) (fun _ => rfl) fun w => awake_any w
def smS : List Ex := vs64 6 8
def qX : AV := .tv (.agg [.int .i64 (.var 0), .int .i64 (.var 1), .int .i64 (.var 8), .int .i64 (.var 3), .opq 0])
def moX : Ex := .ari .add .i64 (.var 4) (.var 5)
def smV : List Ex := [.var 6, .var 7, .var 8, moX, .var 14, .var 15, .var 12, .var 16]
def tSm : List (Nat × List AV × AV) := [(16, [prX, B64 4], .tup [rw64 smS, e64 (.lit 0)]), (18, [B64 6, B64 7, B64 8, B64 9], .tup [rw64 smS, e64 (.lit 0)]), (24, [shX 6], bX true), aw_t]
def tSq : Nat × List AV × AV := (16, [qX, B64 4], .tup [rw64 smS, e64 (.lit 0)])
def tSz (e : Int) : Nat × List AV × AV := (16, [prX, E64 moX], .tup [rw64 zs64, e64 (.lit e)])
def tSv : Nat × List AV × AV := (16, [prX, E64 moX], .tup [rw64 smV, e64 (.lit 0)])
def smSg (b : Bool) : BinOp × Ex × Ex × Bool := (.leq, .var 8, .lit 65536, b)
def smM0 (b : Bool) : BinOp × Ex × Ex × Bool := (.lss, .var 5, .lit 0, b)
def smM1 (b : Bool) : BinOp × Ex × Ex × Bool := (.gtr, .var 5, .lit 16777216, b)
def smGe : BinOp × Ex × Ex × Bool := (.geq, .var 14, .var 10, true)
noncomputable def sm_ev (c : List (BinOp × Ex × Ex × Bool)) (t : List (Nat × List AV × AV)) : Option AV := (evCallF Try.prog (tabLore c []) (tabCon t) 100 6 [prX, B64 4, B64 5] []).map (·.1)
theorem sm_bad : sm_ev [(.neq, .var 17, .lit 0, true)] [(16, [prX, B64 4], .tup [rw64 smS, e64 (.var 17)]), aw_t] = some (bX true) := by kernel_rfl
theorem sm_a0 : sm_ev [smSg false, smM0 true] tSm = some (bX true) := by kernel_rfl
theorem sm_a1 : sm_ev [smSg true, smM0 true] (tSq :: tSm) = some (bX true) := by kernel_rfl
theorem sm_b0 : sm_ev [smSg false, smM0 false, smM1 true] tSm = some (bX true) := by kernel_rfl
theorem sm_b1 : sm_ev [smSg true, smM0 false, smM1 true] (tSq :: tSm) = some (bX true) := by kernel_rfl
theorem sm_c0 : sm_ev [smSg false, smM0 false, smM1 false] (tSz 3 :: tSm) = some (bX true) := by kernel_rfl
theorem sm_c1 : sm_ev [smSg true, smM0 false, smM1 false] (tSz 3 :: tSq :: tSm) = some (bX true) := by kernel_rfl
theorem sm_d0 : sm_ev [smSg false, smM0 false, smM1 false] (tSz 4 :: tSm) = some (bX true) := by kernel_rfl
theorem sm_d1 : sm_ev [smSg true, smM0 false, smM1 false] (tSz 4 :: tSq :: tSm) = some (bX true) := by kernel_rfl
theorem sm_e0 : sm_ev [smSg false, smM0 false, smM1 false, smGe] (tSv :: tSm) = some (bX true) := by kernel_rfl
theorem sm_e1 : sm_ev [smSg true, smM0 false, smM1 false, smGe] (tSv :: tSq :: tSm) = some (bX true) := by kernel_rfl
theorem shpT_len (k n g l z : Int) : ∃ b0 b1 b2 b3 b4 b5 b6 b7, shpT k n g l z = [b0, b1, b2, b3, b4, b5, b6, b7] := by
  unfold shpT; split
  · exact ⟨_, _, _, _, _, _, _, _, rfl⟩
  · exact ⟨_, _, _, _, _, _, _, _, rfl⟩
theorem shpE_cases (k n g l z : Int) : shpE k n g l z = 0 ∨ shpE k n g l z = 3 ∨ shpE k n g l z = 4 := by
  unfold shpE
  split
  · split
    · split <;> simp
    · simp
  · simp
theorem same_walk (w : World) (k n g h : Int) (p : Option Addr) (l c : Nat) (z m : Int) : Calls Try.prog 6 #[prV k n g h (.slice p l c), .int .i64 z, .int .i64 m] w fun e w' => e = .returned (.bool true) ∧ Below w.heap.size w w' := by
  have hs : (Value.slice p l c).oneCell' = true := rfl
  obtain ⟨b0, b1, b2, b3, b4, b5, b6, b7, hT⟩ := shpT_len k n g l z
  by_cases he : shpE k n g l z = 0
  · have eT : shpT k n g l z = shR k n (k * upI g k) z := by rw [shpT, if_pos he]
    obtain ⟨⟨h1, h2, h3, h4, h5, h6⟩, hz1, hz2, h9⟩ := shpE_ok he
    have hok := shp_okS he
    have hgp : 1 ≤ k * upI g k := hok.2.2.2.1
    let ρ := envI [k, n, g, h, z, m, k, n, k * upI g k, z, upI z (k * upI g k), tlI z (k * upI g k), k * upI g k / k, upI (tlI z (k * upI g k)) k, upI (z + m) (k * upI g k), tlI (z + m) (k * upI g k), upI (tlI (z + m) (k * upI g k)) k] (.slice p l c)
    have hS : smS.map (Ex.den ρ) = shR k n (k * upI g k) z := rfl
    have E1 : EntOk ρ (16, [prX, B64 4], .tup [rw64 smS, e64 (.lit 0)]) := ent [prV k n g h (.slice p l c), .int .i64 z] (.tuple #[shV (shR k n (k * upI g k) z), .int .i64 0]) (fun ms => by simp only [List.map_cons, List.map_nil]; rw [prX_inst hs]; rfl) (fun ms => by rw [tup2, hS]; rfl) fun w => by
      have := shape_any w k n g h z p l c
      rwa [he, eT] at this
    have E2 : EntOk ρ (18, [B64 6, B64 7, B64 8, B64 9], .tup [rw64 smS, e64 (.lit 0)]) := ent [.int .i64 k, .int .i64 n, .int .i64 (k * upI g k), .int .i64 z] (.tuple #[shV (shR k n (k * upI g k) z), .int .i64 0]) (fun _ => rfl) (fun ms => by rw [tup2, hS]; rfl) fun w => by
      have := again_any w k n (k * upI g k) z
      rwa [agT, agE, if_pos hok, if_pos hok] at this
    have E3 : EntOk ρ (24, [shX 6], bX true) := ent [shV (shR k n (k * upI g k) z)] (.bool true) (fun ms => by simp only [List.map_cons, List.map_nil, shX, AV.inst]; rw [row_den]; rfl) (fun _ => rfl) fun w => by
      have := fits_any w k n (k * upI g k) z (upI z (k * upI g k)) (tlI z (k * upI g k)) (k * upI g k / k) (upI (tlI z (k * upI g k)) k)
      rwa [show ftB k n (k * upI g k) z (upI z (k * upI g k)) (tlI z (k * upI g k)) (k * upI g k / k) (upI (tlI z (k * upI g k)) k) = true from decide_eq_true ⟨hok, rfl⟩] at this
    have EM : ∀ x ∈ tSm, EntOk ρ x := allc E1 (allc E2 (allc E3 (all1 (aw_ok ρ))))
    have EQ : k * upI g k ≤ 65536 → EntOk ρ tSq := fun hq => ent [prV k n (k * upI g k) h (.slice p l c), .int .i64 z] (.tuple #[shV (shR k n (k * upI g k) z), .int .i64 0]) (fun ms => by simp [qX, AV.inst, TV.inst, SV.inst, seqO, Ex.den, ρ, envI, prV, B64, E64, e64, hs]) (fun ms => by rw [tup2, hS]; rfl) fun w => by
      have e2 : k * upI (k * upI g k) k = k * upI g k := up_mult h1 (Int.mul_emod_right _ _)
      have e0 : shpE k n (k * upI g k) l z = 0 := by rw [shpE, if_pos ⟨h1, h2, h3, hgp, hq, h6⟩, if_pos ⟨hz1, hz2⟩, e2, if_pos h9]
      have := shape_any w k n (k * upI g k) h z p l c
      rwa [shpT, if_pos e0, e0, e2] at this
    have hx : [prX, B64 4, B64 5].map (AV.inst ρ []) = [prV k n g h (.slice p l c), .int .i64 z, .int .i64 m].map some := by simp only [List.map_cons, List.map_nil]; rw [prX_inst hs]; rfl
    have fin : ∀ cc t, (∀ e ∈ cc, CmpOk ρ e) → (∀ e ∈ t, EntOk ρ e) → sm_ev cc t = some (bX true) → Calls Try.prog 6 #[prV k n g h (.slice p l c), .int .i64 z, .int .i64 m] w fun e w' => e = .returned (.bool true) ∧ Below w.heap.size w w' := fun cc t hc ht hv => ev_row (ρ := ρ) hc alln ht hv [prV k n g h (.slice p l c), .int .i64 z, .int .i64 m] _ hx (fun _ => rfl) w
    have both : ∀ cc t, (∀ e ∈ cc, CmpOk ρ e) → (∀ e ∈ t, EntOk ρ e) → sm_ev (smSg false :: cc) (t ++ tSm) = some (bX true) → sm_ev (smSg true :: cc) (t ++ tSq :: tSm) = some (bX true) → Calls Try.prog 6 #[prV k n g h (.slice p l c), .int .i64 z, .int .i64 m] w fun e w' => e = .returned (.bool true) ∧ Below w.heap.size w w' := by
      intro cc t hc ht v0 v1
      by_cases hq : k * upI g k ≤ 65536
      · refine fin (smSg true :: cc) (t ++ tSq :: tSm) (allc (show some (decide (k * upI g k ≤ 65536)) = some true by rw [decide_eq_true hq]) hc) (fun e he => ?_) v1
        rcases List.mem_append.1 he with h' | h'
        · exact ht e h'
        · exact allc (EQ hq) EM e h'
      · refine fin (smSg false :: cc) (t ++ tSm) (allc (show some (decide (k * upI g k ≤ 65536)) = some false by rw [decide_eq_false hq]) hc) (fun e he => ?_) v0
        rcases List.mem_append.1 he with h' | h'
        · exact ht e h'
        · exact EM e h'
    by_cases m0 : m < 0
    · exact both [smM0 true] [] (all1 (show some (decide (m < 0)) = some true by rw [decide_eq_true m0])) alln sm_a0 sm_a1
    have F0 : CmpOk ρ (smM0 false) := show some (decide (m < 0)) = some false by rw [decide_eq_false m0]
    by_cases m1 : m > 16777216
    · exact both [smM0 false, smM1 true] [] (allc F0 (all1 (show some (decide (m > 16777216)) = some true by rw [decide_eq_true m1]))) alln sm_b0 sm_b1
    have F1 : CmpOk ρ (smM1 false) := show some (decide (m > 16777216)) = some false by rw [decide_eq_false m1]
    have hmo : Ex.den ρ moX = z + m := wrap64 (x := z + m) (by omega) (by omega)
    have SH : ∀ w, Calls Try.prog 16 #[prV k n g h (.slice p l c), .int .i64 (z + m)] w fun e w' => e = .returned (.tuple #[shV (shpT k n g l (z + m)), .int .i64 (shpE k n g l (z + m))]) ∧ Below w.heap.size w w' := fun w => shape_any w k n g h (z + m) p l c
    have hxm : ∀ ms, [prX, E64 moX].map (AV.inst ρ ms) = [prV k n g h (.slice p l c), .int .i64 (z + m)].map some := fun ms => by simp only [List.map_cons, List.map_nil, E64_inst, hmo]; rw [prX_inst hs]
    have EZ : ∀ q, q ≠ 0 → shpE k n g l (z + m) = q → EntOk ρ (tSz q) := fun q hq0 hq => ent [prV k n g h (.slice p l c), .int .i64 (z + m)] (.tuple #[shV sh0, .int .i64 q]) hxm (fun ms => by rw [tup2, zs_den]; rfl) fun w => by
      have := SH w
      rwa [shpT, if_neg (by rw [hq]; exact hq0), hq] at this
    rcases shpE_cases k n g l (z + m) with hv | hv | hv
    · have EV : EntOk ρ tSv := ent [prV k n g h (.slice p l c), .int .i64 (z + m)] (.tuple #[shV (shR k n (k * upI g k) (z + m)), .int .i64 0]) hxm (fun ms => by rw [tup2]; simp only [smV, List.map_cons, List.map_nil, hmo]; rfl) fun w => by
        have := SH w
        rwa [shpT, if_pos hv, hv] at this
      refine both [smM0 false, smM1 false, smGe] [tSv] (allc F0 (allc F1 (all1 ?_))) (all1 EV) sm_e0 sm_e1
      show some (decide (upI (z + m) (k * upI g k) ≥ upI z (k * upI g k))) = some true
      rw [decide_eq_true (up_mono hgp (by omega))]
    · exact both [smM0 false, smM1 false] [tSz 3] (allc F0 (all1 F1)) (all1 (EZ 3 (by decide) hv)) sm_c0 sm_c1
    · exact both [smM0 false, smM1 false] [tSz 4] (allc F0 (all1 F1)) (all1 (EZ 4 (by decide) hv)) sm_d0 sm_d1
  · let ρ := envI [k, n, g, h, z, m, b0, b1, b2, b3, b4, b5, b6, b7, 0, 0, 0, shpE k n g l z] (.slice p l c)
    refine ev_row (ρ := ρ) (all1 ?_) alln (allc ?_ (all1 (aw_ok ρ))) sm_bad [prV k n g h (.slice p l c), .int .i64 z, .int .i64 m] _ (by simp only [List.map_cons, List.map_nil]; rw [prX_inst hs]; rfl) (fun _ => rfl) w
    · show some (shpE k n g l z != 0) = some true
      rw [bne_iff_ne.2 he]
    · refine ent [prV k n g h (.slice p l c), .int .i64 z] (.tuple #[shV [b0, b1, b2, b3, b4, b5, b6, b7], .int .i64 (shpE k n g l z)]) (fun ms => by simp only [List.map_cons, List.map_nil]; rw [prX_inst hs]; rfl) (fun ms => by rw [tup2]; rfl) fun w => ?_
      rw [← hT]
      exact shape_any w k n g h z p l c
end Go.Proofs.Ytdmdcnikhnoclab
