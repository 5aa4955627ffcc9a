/- cut.Again and cut.Fits. -/
import Derived.Test.YtfaojnnpekpomaaDoorCutRef
set_option linter.unusedVariables false
set_option linter.unusedSimpArgs false
namespace Go.Proofs.YtfaojnnpekpomaaDoor
open Go Go.RowKit Ev

def remX : Ex := .ari .rem .i64 (.var 2) (.var 0)
def agXs : List AV := [B64 0, B64 1, B64 2, B64 3]
def agRow : List Ex := [.var 0, .var 1, .var 2, .var 3, .var 5, .var 6, .var 7, .var 8]
def cn_t (b : Bool) : Nat × List AV × AV := (34, [B64 0, B64 1], bX b)
def mo_t : Nat × List AV × AV := (35, [B64 0], B64 4)
def sz_t (b : Bool) : Nat × List AV × AV := (36, [B64 3], bX b)
def sp_t : Nat × List AV × AV := (37, agXs, .tv (rw64 agRow))
def c_ls (b : Bool) : BinOp × Ex × Ex × Bool := (.lss, .var 2, .lit 1, b)
def c_gt (b : Bool) : BinOp × Ex × Ex × Bool := (.gtr, .var 2, .var 4, b)
def c_n0 : BinOp × Ex × Ex × Bool := (.neq, .var 0, .lit 0, true)
def c_rm (b : Bool) : BinOp × Ex × Ex × Bool := (.neq, remX, .lit 0, b)
def c_sg (b : Bool) : BinOp × Ex × Ex × Bool := (.gtr, .var 5, .lit 512, b)
noncomputable def evAg (c : List (BinOp × Ex × Ex × Bool)) (t : List (Nat × List AV × AV)) : Option AV := (evCallF Tryd.prog (tabLore c []) (tabCon t) 100 28 agXs H0).map (·.1)
def agBad : AV := .tup [rw64 zs64, e64 (.lit 92)]
theorem again_ev1 : evAg [] [cn_t false] = some agBad := by kernel_rfl
theorem again_ev2 : evAg [c_ls true] [cn_t true] = some agBad := by kernel_rfl
theorem again_ev3 : evAg [c_ls false, c_gt true] [cn_t true, mo_t] = some agBad := by kernel_rfl
theorem again_ev4 : evAg [c_ls false, c_gt false, c_n0, c_rm true] [cn_t true, mo_t] = some agBad := by kernel_rfl
theorem again_ev5 : evAg [c_ls false, c_gt false, c_n0, c_rm false] [cn_t true, mo_t, sz_t false] = some agBad := by kernel_rfl
theorem again_ev6 : evAg [c_ls false, c_gt false, c_n0, c_rm false, c_sg true] [cn_t true, mo_t, sz_t true, sp_t] = some agBad := by kernel_rfl
theorem again_ev7 : evAg [c_ls false, c_gt false, c_n0, c_rm false, c_sg false] [cn_t true, mo_t, sz_t true, sp_t] = some (.tup [rw64 agRow, e64 (.lit 0)]) := by kernel_rfl
theorem again_any (w : World) (k n g z : Int) : Calls Tryd.prog 28 #[.int .i64 k, .int .i64 n, .int .i64 g, .int .i64 z] w fun e w' => e = .returned (.tuple #[shV (agT k n g z), .int .i64 (agE k n g z)]) ∧ Below w.heap.size w w' := by
  let ρ := envI [k, n, g, z, k * upI 65536 k, upI z g, tlI z g, g / k, upI (tlI z g) k] (.tuple #[])
  have hbad : ∀ c t, (¬ OkS k n g z) → (∀ e ∈ c, CmpOk ρ e) → (∀ e ∈ t, EntOk ρ e) → evAg c t = some agBad → Calls Tryd.prog 28 #[.int .i64 k, .int .i64 n, .int .i64 g, .int .i64 z] w fun e w' => e = .returned (.tuple #[shV (agT k n g z), .int .i64 (agE k n g z)]) ∧ Below w.heap.size w w' := by
    intro c t hn hc ht he
    rw [agT, agE, if_neg hn, if_neg hn]
    exact ev_row (ρ := ρ) hc alln ht he [.int .i64 k, .int .i64 n, .int .i64 g, .int .i64 z] _ rfl (fun ms => by rw [agBad, tup2, zs_den]; rfl) w
  have Ecn : ∀ b, cntB k n = b → EntOk ρ (cn_t b) := fun b hb => ent [.int .i64 k, .int .i64 n] (.bool b) (fun _ => rfl) (fun _ => rfl) fun w => by rw [← hb]; exact still (counts_any w k n)
  by_cases hc : 1 ≤ k ∧ k ≤ n ∧ n ≤ 255
  · have E1 := Ecn true (decide_eq_true hc)
    obtain ⟨h1, h2, h3⟩ := hc
    by_cases h4 : g < 1
    · exact hbad [c_ls true] [cn_t true] (fun h => by have := h.2.2.2.1; omega) (all1 (show some (decide (g < 1)) = some true by rw [decide_eq_true h4])) (all1 E1) again_ev2
    have F1 : CmpOk ρ (c_ls false) := show some (decide (g < 1)) = some false by rw [decide_eq_false h4]
    have E2 : EntOk ρ mo_t := ent [.int .i64 k] (.int .i64 (k * upI 65536 k)) (fun _ => rfl) (fun _ => rfl) fun w => still (most_any w k h1 (by omega))
    by_cases h5 : g > k * upI 65536 k
    · exact hbad [c_ls false, c_gt true] [cn_t true, mo_t] (fun h => by have := h.2.2.2.2.1; omega) (allc F1 (all1 (show some (decide (g > k * upI 65536 k)) = some true by rw [decide_eq_true h5]))) (allc E1 (all1 E2)) again_ev3
    have F2 : CmpOk ρ (c_gt false) := show some (decide (g > k * upI 65536 k)) = some false by rw [decide_eq_false h5]
    have F3 : CmpOk ρ c_n0 := show some (k != 0) = some true by rw [bne_iff_ne.2 (show k ≠ 0 by omega)]
    have hrem : Ex.den ρ remX = g % k := show g.tmod k = g % k from Int.tmod_eq_emod_of_nonneg (by omega)
    by_cases h6 : g % k = 0
    · have F4 : CmpOk ρ (c_rm false) := by
        show some (Ex.den ρ remX != 0) = some false
        rw [hrem, h6]; rfl
      by_cases h7 : 33 ≤ z ∧ z ≤ 16777216
      · have E3 : EntOk ρ (sz_t true) := ent [.int .i64 z] (.bool true) (fun _ => rfl) (fun _ => rfl) fun w => by rw [← show szB z = true from decide_eq_true h7]; exact still (shared_any w z)
        have ml := most_lt h1 (show k ≤ 255 by omega)
        have E4 : EntOk ρ sp_t := ent [.int .i64 k, .int .i64 n, .int .i64 g, .int .i64 z] (shV (shR k n g z)) (fun _ => rfl) (fun ms => by simp only [AV.inst]; rw [row_den]; rfl) fun w => shaped_any w k n g z h1 (by omega) (by omega) (by omega) (by omega) h7.2
        by_cases h9 : upI z g ≤ 512
        · have hok : OkS k n g z := ⟨h1, h2, h3, by omega, by omega, h6, h7.1, h7.2, h9⟩
          rw [agT, agE, if_pos hok, if_pos hok]
          have F5 : CmpOk ρ (c_sg false) := show some (decide (upI z g > 512)) = some false by rw [decide_eq_false (by omega)]
          exact ev_row (ρ := ρ) (allc F1 (allc F2 (allc F3 (allc F4 (all1 F5))))) alln (allc E1 (allc E2 (allc E3 (all1 E4)))) again_ev7 [.int .i64 k, .int .i64 n, .int .i64 g, .int .i64 z] _ rfl (fun ms => by rw [tup2]; rfl) w
        · have F5 : CmpOk ρ (c_sg true) := show some (decide (upI z g > 512)) = some true by rw [decide_eq_true (by omega)]
          exact hbad _ _ (fun h => h9 h.2.2.2.2.2.2.2.2) (allc F1 (allc F2 (allc F3 (allc F4 (all1 F5))))) (allc E1 (allc E2 (allc E3 (all1 E4)))) again_ev6
      · have E3 : EntOk ρ (sz_t false) := ent [.int .i64 z] (.bool false) (fun _ => rfl) (fun _ => rfl) fun w => by rw [← show szB z = false from decide_eq_false h7]; exact still (shared_any w z)
        exact hbad _ _ (fun h => h7 ⟨h.2.2.2.2.2.2.1, h.2.2.2.2.2.2.2.1⟩) (allc F1 (allc F2 (allc F3 (all1 F4)))) (allc E1 (allc E2 (all1 E3))) again_ev5
    · have F4 : CmpOk ρ (c_rm true) := by
        show some (Ex.den ρ remX != 0) = some true
        rw [hrem, bne_iff_ne.2 h6]
      exact hbad _ _ (fun h => h6 h.2.2.2.2.2.1) (allc F1 (allc F2 (allc F3 (all1 F4)))) (allc E1 (all1 E2)) again_ev4
  · exact hbad _ _ (fun h => hc ⟨h.1, h.2.1, h.2.2.1⟩) alln (all1 (Ecn false (decide_eq_false hc))) again_ev1
/-- Whether a shape fits. -/
def Ft (a b c d e f g h : Int) : Prop := OkS a b c d ∧ [a, b, c, d, e, f, g, h] = shR a b c d
instance (a b c d e f g h : Int) : Decidable (Ft a b c d e f g h) := by unfold Ft; infer_instance
def ftB (a b c d e f g h : Int) : Bool := decide (Ft a b c d e f g h)
theorem agT_len (k n g z : Int) : ∃ b0 b1 b2 b3 b4 b5 b6 b7, agT k n g z = [b0, b1, b2, b3, b4, b5, b6, b7] := by
  unfold agT; split
  · exact ⟨_, _, _, _, _, _, _, _, rfl⟩
  · exact ⟨_, _, _, _, _, _, _, _, rfl⟩
def shX (o : Nat) : AV := .tv (rw64 (vs64 o 8))
def fits_t (e : Int) : List (Nat × List AV × AV) := [(28, [B64 0, B64 1, B64 2, B64 3], .tup [rw64 (vs64 8 8), e64 (.lit e)])]
noncomputable def fits_ev (e : Int) (r : List (List Ex × List Ex × Bool)) : Option AV := (evCallF Tryd.prog (tabLore [] r) (tabCon (fits_t e)) 100 21 [shX 0] H0).map (·.1)
theorem fits_ev1 : fits_ev 92 [] = some (bX false) := by kernel_rfl
theorem fits_ev2 : fits_ev 0 [(vs64 8 8, vs64 0 8, true)] = some (bX true) := by kernel_rfl
theorem fits_ev3 : fits_ev 0 [(vs64 8 8, vs64 0 8, false)] = some (bX false) := by kernel_rfl
def rfits_t (e : Int) : List (Nat × List AV × AV) := [(6, [B64 0, B64 1, B64 2, B64 3], .tup [rw64 (vs64 8 8), e64 (.lit e)])]
noncomputable def rfits_ev (e : Int) (r : List (List Ex × List Ex × Bool)) : Option AV := (evCallF Tryd.prog (tabLore [] r) (tabCon (rfits_t e)) 100 24 [shX 0] H0).map (·.1)
theorem rfits_ev1 : rfits_ev 92 [] = some (bX false) := by kernel_rfl
theorem rfits_ev2 : rfits_ev 0 [(vs64 0 8, vs64 8 8, true)] = some (bX true) := by kernel_rfl
theorem rfits_ev3 : rfits_ev 0 [(vs64 0 8, vs64 8 8, false)] = some (bX false) := by kernel_rfl
theorem fits_any (w : World) (a b c d e f g h : Int) : Calls Tryd.prog 21 #[shV [a, b, c, d, e, f, g, h]] w fun r w' => r = .returned (.bool (ftB a b c d e f g h)) ∧ Below w.heap.size w w' := by
  obtain ⟨b0, b1, b2, b3, b4, b5, b6, b7, hT⟩ := agT_len a b c d
  let ρ := envI [a, b, c, d, e, f, g, h, b0, b1, b2, b3, b4, b5, b6, b7] (.tuple #[])
  have hx : [shX 0].map (AV.inst ρ ms0) = [shV [a, b, c, d, e, f, g, h]].map some := by
    simp only [List.map_cons, List.map_nil, shX, AV.inst]; rw [row_den]; rfl
  have hent : ∀ q, agE a b c d = q → ∀ x ∈ fits_t q, EntOk ρ x := fun q hq => all1 (ent [.int .i64 a, .int .i64 b, .int .i64 c, .int .i64 d] (.tuple #[shV [b0, b1, b2, b3, b4, b5, b6, b7], .int .i64 q]) (fun _ => rfl) (fun ms => by rw [tup2]; rfl) fun w => by rw [← hT, ← hq]; exact again_any w a b c d)
  by_cases hok : OkS a b c d
  · have e1 : agE a b c d = 0 := if_pos hok
    have e2 : agT a b c d = shR a b c d := if_pos hok
    by_cases hr : [a, b, c, d, e, f, g, h] = shR a b c d
    · have hb : ftB a b c d e f g h = true := decide_eq_true ⟨hok, hr⟩
      rw [hb]
      refine ev_row (ρ := ρ) alln (all1 ⟨rfl, ?_⟩) (hent 0 e1) fits_ev2 [shV [a, b, c, d, e, f, g, h]] _ hx (fun _ => rfl) w
      have hq : [b0, b1, b2, b3, b4, b5, b6, b7] = [a, b, c, d, e, f, g, h] := by rw [← hT, e2, ← hr]
      first
      | exact decide_eq_true (show [b0, b1, b2, b3, b4, b5, b6, b7] = [a, b, c, d, e, f, g, h] from hq)
      | exact decide_eq_true (show [a, b, c, d, e, f, g, h] = [b0, b1, b2, b3, b4, b5, b6, b7] from hq.symm)
    · have hb : ftB a b c d e f g h = false := decide_eq_false fun q => hr q.2
      rw [hb]
      refine ev_row (ρ := ρ) alln (all1 ⟨rfl, ?_⟩) (hent 0 e1) fits_ev3 [shV [a, b, c, d, e, f, g, h]] _ hx (fun _ => rfl) w
      have hq : ¬ [b0, b1, b2, b3, b4, b5, b6, b7] = [a, b, c, d, e, f, g, h] := by rw [← hT, e2]; exact fun q => hr q.symm
      first
      | exact decide_eq_false (show ¬ [b0, b1, b2, b3, b4, b5, b6, b7] = [a, b, c, d, e, f, g, h] from hq)
      | exact decide_eq_false (show ¬ [a, b, c, d, e, f, g, h] = [b0, b1, b2, b3, b4, b5, b6, b7] from fun q => hq q.symm)
  · have e1 : agE a b c d = 92 := if_neg hok
    have hb : ftB a b c d e f g h = false := decide_eq_false fun q => hok q.1
    rw [hb]
    exact ev_row (ρ := ρ) alln alln (hent 92 e1) fits_ev1 [shV [a, b, c, d, e, f, g, h]] _ hx (fun _ => rfl) w
theorem rfits_any (w : World) (a b c d e f g h : Int) : Calls Tryd.prog 24 #[shV [a, b, c, d, e, f, g, h]] w fun r w' => r = .returned (.bool (ftB a b c d e f g h)) ∧ Below w.heap.size w w' := by
  obtain ⟨b0, b1, b2, b3, b4, b5, b6, b7, hT⟩ := agT_len a b c d
  let ρ := envI [a, b, c, d, e, f, g, h, b0, b1, b2, b3, b4, b5, b6, b7] (.tuple #[])
  have hx : [shX 0].map (AV.inst ρ ms0) = [shV [a, b, c, d, e, f, g, h]].map some := by
    simp only [List.map_cons, List.map_nil, shX, AV.inst]; rw [row_den]; rfl
  have hent : ∀ q, agE a b c d = q → ∀ x ∈ rfits_t q, EntOk ρ x := fun q hq => all1 (ent [.int .i64 a, .int .i64 b, .int .i64 c, .int .i64 d] (.tuple #[shV [b0, b1, b2, b3, b4, b5, b6, b7], .int .i64 q]) (fun _ => rfl) (fun ms => by rw [tup2]; rfl) fun w => by rw [← hT, ← hq]; exact ragain_any w a b c d)
  by_cases hok : OkS a b c d
  · have e1 : agE a b c d = 0 := if_pos hok
    have e2 : agT a b c d = shR a b c d := if_pos hok
    by_cases hr : [a, b, c, d, e, f, g, h] = shR a b c d
    · have hb : ftB a b c d e f g h = true := decide_eq_true ⟨hok, hr⟩
      rw [hb]
      refine ev_row (ρ := ρ) alln (all1 ⟨rfl, ?_⟩) (hent 0 e1) rfits_ev2 [shV [a, b, c, d, e, f, g, h]] _ hx (fun _ => rfl) w
      have hq : [b0, b1, b2, b3, b4, b5, b6, b7] = [a, b, c, d, e, f, g, h] := by rw [← hT, e2, ← hr]
      first
      | exact decide_eq_true (show [b0, b1, b2, b3, b4, b5, b6, b7] = [a, b, c, d, e, f, g, h] from hq)
      | exact decide_eq_true (show [a, b, c, d, e, f, g, h] = [b0, b1, b2, b3, b4, b5, b6, b7] from hq.symm)
    · have hb : ftB a b c d e f g h = false := decide_eq_false fun q => hr q.2
      rw [hb]
      refine ev_row (ρ := ρ) alln (all1 ⟨rfl, ?_⟩) (hent 0 e1) rfits_ev3 [shV [a, b, c, d, e, f, g, h]] _ hx (fun _ => rfl) w
      have hq : ¬ [b0, b1, b2, b3, b4, b5, b6, b7] = [a, b, c, d, e, f, g, h] := by rw [← hT, e2]; exact fun q => hr q.symm
      first
      | exact decide_eq_false (show ¬ [b0, b1, b2, b3, b4, b5, b6, b7] = [a, b, c, d, e, f, g, h] from hq)
      | exact decide_eq_false (show ¬ [a, b, c, d, e, f, g, h] = [b0, b1, b2, b3, b4, b5, b6, b7] from fun q => hq q.symm)
  · have e1 : agE a b c d = 92 := if_neg hok
    have hb : ftB a b c d e f g h = false := decide_eq_false fun q => hok q.1
    rw [hb]
    exact ev_row (ρ := ρ) alln alln (hent 92 e1) rfits_ev1 [shV [a, b, c, d, e, f, g, h]] _ hx (fun _ => rfl) w
end Go.Proofs.YtfaojnnpekpomaaDoor
