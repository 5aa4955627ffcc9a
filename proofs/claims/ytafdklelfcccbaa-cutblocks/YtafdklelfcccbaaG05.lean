/- Of the road to cutBlocks_holds: CutAg, CutSz, U8, Clone, Slices, Join, Owns, CutSeg, CutPc, SameBytes, Lists, PwKit. -/
import Derived.Test.YtafdklelfcccbaaG04
import Derived.Test.YtafdklelfcccbaaG00
import Derived.Test.YtafdklelfcccbaaChecked
import Derived.Laws.AppendOwnNone
set_option linter.unusedVariables false
set_option linter.unusedSimpArgs false
namespace Go.Proofs.Ytafdklelfcccbaa
open Go Go.RowKit Ev
def remX : Ex := .ari .rem .i64 (.var 2) (.var 0)
def agXs : List AV := [B64 0, B64 1, B64 2, B64 3]
def agRow : List Ex := [.var 0, .var 1, .var 2, .var 3, .var 5, .var 6, .var 7, .var 8]
def cn_t (b : Bool) : Nat × List AV × AV := (42, [B64 0, B64 1], bX b)
def mo_t : Nat × List AV × AV := (47, [B64 0], B64 4)
def sz_t (b : Bool) : Nat × List AV × AV := (39, [B64 3], bX b)
def sp_t : Nat × List AV × AV := (40, agXs, .tv (rw64 agRow))
def c_ls (b : Bool) : BinOp × Ex × Ex × Bool := (.lss, .var 2, .lit 1, b)
def c_gt (b : Bool) : BinOp × Ex × Ex × Bool := (.gtr, .var 2, .var 4, b)
def c_n0 : BinOp × Ex × Ex × Bool := (.neq, .var 0, .lit 0, true)
def c_rm (b : Bool) : BinOp × Ex × Ex × Bool := (.neq, remX, .lit 0, b)
def c_sg (b : Bool) : BinOp × Ex × Ex × Bool := (.gtr, .var 5, .lit 512, b)
noncomputable def evAg (c : List (BinOp × Ex × Ex × Bool)) (t : List (Nat × List AV × AV)) : Option AV := (evCallF Try.prog (tabLore c []) (tabCon t) 100 17 agXs H0).map (·.1)
def agBad : AV := .tup [rw64 zs64, e64 (.lit 92)]
theorem again_ev1 : evAg [] [cn_t false] = some agBad := by kernel_rfl
theorem again_ev2 : evAg [c_ls true] [cn_t true] = some agBad := by kernel_rfl
theorem again_ev3 : evAg [c_ls false, c_gt true] [cn_t true, mo_t] = some agBad := by kernel_rfl
theorem again_ev4 : evAg [c_ls false, c_gt false, c_n0, c_rm true] [cn_t true, mo_t] = some agBad := by kernel_rfl
theorem again_ev5 : evAg [c_ls false, c_gt false, c_n0, c_rm false] [cn_t true, mo_t, sz_t false] = some agBad := by kernel_rfl
theorem again_ev6 : evAg [c_ls false, c_gt false, c_n0, c_rm false, c_sg true] [cn_t true, mo_t, sz_t true, sp_t] = some agBad := by kernel_rfl
theorem again_ev7 : evAg [c_ls false, c_gt false, c_n0, c_rm false, c_sg false] [cn_t true, mo_t, sz_t true, sp_t] = some (.tup [rw64 agRow, e64 (.lit 0)]) := by kernel_rfl
theorem again_any (w : World) (k n g z : Int) : Calls Try.prog 17 #[.int .i64 k, .int .i64 n, .int .i64 g, .int .i64 z] w fun e w' => e = .returned (.tuple #[shV (agT k n g z), .int .i64 (agE k n g z)]) ∧ Below w.heap.size w w' := by
  let ρ := envI [k, n, g, z, k * upI 65536 k, upI z g, tlI z g, g / k, upI (tlI z g) k] (.tuple #[])
  have hbad : ∀ c t, (¬ OkS k n g z) → (∀ e ∈ c, CmpOk ρ e) → (∀ e ∈ t, EntOk ρ e) → evAg c t = some agBad → Calls Try.prog 17 #[.int .i64 k, .int .i64 n, .int .i64 g, .int .i64 z] w fun e w' => e = .returned (.tuple #[shV (agT k n g z), .int .i64 (agE k n g z)]) ∧ Below w.heap.size w w' := by
    intro c t hn hc ht he
    rw [agT, agE, if_neg hn, if_neg hn]
    exact ev_row (ρ := ρ) hc alln ht he [.int .i64 k, .int .i64 n, .int .i64 g, .int .i64 z] _ rfl (fun ms => by rw [agBad, tup2, zs_den]; rfl) w
  have Ecn : ∀ b, cntB k n = b → EntOk ρ (cn_t b) := fun b hb => ent [.int .i64 k, .int .i64 n] (.bool b) (fun _ => rfl) (fun _ => rfl) fun w => by rw [← hb]; exact still (counts_any w k n)
  by_cases hc : 1 ≤ k ∧ k ≤ n ∧ n ≤ 255
  · have E1 := Ecn true (decide_eq_true hc)
    obtain ⟨h1, h2, h3⟩ := hc
    by_cases h4 : g < 1
    · exact hbad [c_ls true] [cn_t true] (fun h => by have := h.2.2.2.1; omega) (all1 (show some (decide (g < 1)) = some true by rw [decide_eq_true h4])) (all1 E1) again_ev2
    have F1 : CmpOk ρ (c_ls false) := show some (decide (g < 1)) = some false by rw [decide_eq_false h4]
    have E2 : EntOk ρ mo_t := ent [.int .i64 k] (.int .i64 (k * upI 65536 k)) (fun _ => rfl) (fun _ => rfl) fun w => still (most_any w k h1 (by omega))
    by_cases h5 : g > k * upI 65536 k
    · exact hbad [c_ls false, c_gt true] [cn_t true, mo_t] (fun h => by have := h.2.2.2.2.1; omega) (allc F1 (all1 (show some (decide (g > k * upI 65536 k)) = some true by rw [decide_eq_true h5]))) (allc E1 (all1 E2)) again_ev3
    have F2 : CmpOk ρ (c_gt false) := show some (decide (g > k * upI 65536 k)) = some false by rw [decide_eq_false h5]
    have F3 : CmpOk ρ c_n0 := show some (k != 0) = some true by rw [bne_iff_ne.2 (show k ≠ 0 by omega)]
    have hrem : Ex.den ρ remX = g % k := show g.tmod k = g % k from Int.tmod_eq_emod_of_nonneg (by omega)
    by_cases h6 : g % k = 0
    · have F4 : CmpOk ρ (c_rm false) := by
        show some (Ex.den ρ remX != 0) = some false
        rw [hrem, h6]; rfl
      by_cases h7 : 33 ≤ z ∧ z ≤ 16777216
      · have E3 : EntOk ρ (sz_t true) := ent [.int .i64 z] (.bool true) (fun _ => rfl) (fun _ => rfl) fun w => by rw [← show szB z = true from decide_eq_true h7]; exact still (shared_any w z)
        have ml := most_lt h1 (show k ≤ 255 by omega)
        have E4 : EntOk ρ sp_t := ent [.int .i64 k, .int .i64 n, .int .i64 g, .int .i64 z] (shV (shR k n g z)) (fun _ => rfl) (fun ms => by simp only [AV.inst]; rw [row_den]; rfl) fun w => shaped_any w k n g z h1 (by omega) (by omega) (by omega) (by omega) h7.2
        by_cases h9 : upI z g ≤ 512
        · have hok : OkS k n g z := ⟨h1, h2, h3, by omega, by omega, h6, h7.1, h7.2, h9⟩
          rw [agT, agE, if_pos hok, if_pos hok]
          have F5 : CmpOk ρ (c_sg false) := show some (decide (upI z g > 512)) = some false by rw [decide_eq_false (by omega)]
          exact ev_row (ρ := ρ) (allc F1 (allc F2 (allc F3 (allc F4 (all1 F5))))) alln (allc E1 (allc E2 (allc E3 (all1 E4)))) again_ev7 [.int .i64 k, .int .i64 n, .int .i64 g, .int .i64 z] _ rfl (fun ms => by rw [tup2]; rfl) w
        · have F5 : CmpOk ρ (c_sg true) := show some (decide (upI z g > 512)) = some true by rw [decide_eq_true (by omega)]
          exact hbad _ _ (fun h => h9 h.2.2.2.2.2.2.2.2) (allc F1 (allc F2 (allc F3 (allc F4 (all1 F5))))) (allc E1 (allc E2 (allc E3 (all1 E4)))) again_ev6
      · have E3 : EntOk ρ (sz_t false) := ent [.int .i64 z] (.bool false) (fun _ => rfl) (fun _ => rfl) fun w => by rw [← show szB z = false from decide_eq_false h7]; exact still (shared_any w z)
        exact hbad _ _ (fun h => h7 ⟨h.2.2.2.2.2.2.1, h.2.2.2.2.2.2.2.1⟩) (allc F1 (allc F2 (allc F3 (all1 F4)))) (allc E1 (allc E2 (all1 E3))) again_ev5
    · have F4 : CmpOk ρ (c_rm true) := by
        show some (Ex.den ρ remX != 0) = some true
        rw [hrem, bne_iff_ne.2 h6]
      exact hbad _ _ (fun h => h6 h.2.2.2.2.2.1) (allc F1 (allc F2 (allc F3 (all1 F4)))) (allc E1 (all1 E2)) again_ev4
  · exact hbad _ _ (fun h => hc ⟨h.1, h.2.1, h.2.2.1⟩) alln (all1 (Ecn false (decide_eq_false hc))) again_ev1
def Ft (a b c d e f g h : Int) : Prop := OkS a b c d ∧ [a, b, c, d, e, f, g, h] = shR a b c d
instance (a b c d e f g h : Int) : Decidable (Ft a b c d e f g h) := by unfold Ft; infer_instance
def ftB (a b c d e f g h : Int) : Bool := decide (Ft a b c d e f g h)
theorem agT_len (k n g z : Int) : ∃ b0 b1 b2 b3 b4 b5 b6 b7, agT k n g z = [b0, b1, b2, b3, b4, b5, b6, b7] := by
  unfold agT; split
  · exact ⟨_, _, _, _, _, _, _, _, rfl⟩
  · exact ⟨_, _, _, _, _, _, _, _, rfl⟩
def shX (o : Nat) : AV := .tv (rw64 (vs64 o 8))
def fits_t (e : Int) : List (Nat × List AV × AV) := [(17, [B64 0, B64 1, B64 2, B64 3], .tup [rw64 (vs64 8 8), e64 (.lit e)])]
noncomputable def fits_ev (e : Int) (r : List (List Ex × List Ex × Bool)) : Option AV := (evCallF Try.prog (tabLore [] r) (tabCon (fits_t e)) 100 19 [shX 0] H0).map (·.1)
theorem fits_ev1 : fits_ev 92 [] = some (bX false) := by kernel_rfl
theorem fits_ev2 : fits_ev 0 [(vs64 8 8, vs64 0 8, true)] = some (bX true) := by kernel_rfl
theorem fits_ev3 : fits_ev 0 [(vs64 8 8, vs64 0 8, false)] = some (bX false) := by kernel_rfl
def rfits_t (e : Int) : List (Nat × List AV × AV) := [(18, [B64 0, B64 1, B64 2, B64 3], .tup [rw64 (vs64 8 8), e64 (.lit e)])]
noncomputable def rfits_ev (e : Int) (r : List (List Ex × List Ex × Bool)) : Option AV := (evCallF Try.prog (tabLore [] r) (tabCon (rfits_t e)) 100 20 [shX 0] H0).map (·.1)
theorem rfits_ev1 : rfits_ev 92 [] = some (bX false) := by kernel_rfl
theorem rfits_ev2 : rfits_ev 0 [(vs64 0 8, vs64 8 8, true)] = some (bX true) := by kernel_rfl
theorem rfits_ev3 : rfits_ev 0 [(vs64 0 8, vs64 8 8, false)] = some (bX false) := by kernel_rfl
theorem fits_any (w : World) (a b c d e f g h : Int) : Calls Try.prog 19 #[shV [a, b, c, d, e, f, g, h]] w fun r w' => r = .returned (.bool (ftB a b c d e f g h)) ∧ Below w.heap.size w w' := by
  obtain ⟨b0, b1, b2, b3, b4, b5, b6, b7, hT⟩ := agT_len a b c d
  let ρ := envI [a, b, c, d, e, f, g, h, b0, b1, b2, b3, b4, b5, b6, b7] (.tuple #[])
  have hx : [shX 0].map (AV.inst ρ ms0) = [shV [a, b, c, d, e, f, g, h]].map some := by
    simp only [List.map_cons, List.map_nil, shX, AV.inst]; rw [row_den]; rfl
  have hent : ∀ q, agE a b c d = q → ∀ x ∈ fits_t q, EntOk ρ x := fun q hq => all1 (ent [.int .i64 a, .int .i64 b, .int .i64 c, .int .i64 d] (.tuple #[shV [b0, b1, b2, b3, b4, b5, b6, b7], .int .i64 q]) (fun _ => rfl) (fun ms => by rw [tup2]; rfl) fun w => by rw [← hT, ← hq]; exact again_any w a b c d)
  by_cases hok : OkS a b c d
  · have e1 : agE a b c d = 0 := if_pos hok
    have e2 : agT a b c d = shR a b c d := if_pos hok
    by_cases hr : [a, b, c, d, e, f, g, h] = shR a b c d
    · have hb : ftB a b c d e f g h = true := decide_eq_true ⟨hok, hr⟩
      rw [hb]
      refine ev_row (ρ := ρ) alln (all1 ⟨rfl, ?_⟩) (hent 0 e1) fits_ev2 [shV [a, b, c, d, e, f, g, h]] _ hx (fun _ => rfl) w
      have hq : [b0, b1, b2, b3, b4, b5, b6, b7] = [a, b, c, d, e, f, g, h] := by rw [← hT, e2, ← hr]
      first
      | exact decide_eq_true (show [b0, b1, b2, b3, b4, b5, b6, b7] = [a, b, c, d, e, f, g, h] from hq)
      | exact decide_eq_true (show [a, b, c, d, e, f, g, h] = [b0, b1, b2, b3, b4, b5, b6, b7] from hq.symm)
    · have hb : ftB a b c d e f g h = false := decide_eq_false fun q => hr q.2
      rw [hb]
      refine ev_row (ρ := ρ) alln (all1 ⟨rfl, ?_⟩) (hent 0 e1) fits_ev3 [shV [a, b, c, d, e, f, g, h]] _ hx (fun _ => rfl) w
      have hq : ¬ [b0, b1, b2, b3, b4, b5, b6, b7] = [a, b, c, d, e, f, g, h] := by rw [← hT, e2]; exact fun q => hr q.symm
      first
      | exact decide_eq_false (show ¬ [b0, b1, b2, b3, b4, b5, b6, b7] = [a, b, c, d, e, f, g, h] from hq)
      | exact decide_eq_false (show ¬ [a, b, c, d, e, f, g, h] = [b0, b1, b2, b3, b4, b5, b6, b7] from fun q => hq q.symm)
  · have e1 : agE a b c d = 92 := if_neg hok
    have hb : ftB a b c d e f g h = false := decide_eq_false fun q => hok q.1
    rw [hb]
    exact ev_row (ρ := ρ) alln alln (hent 92 e1) fits_ev1 [shV [a, b, c, d, e, f, g, h]] _ hx (fun _ => rfl) w
theorem rfits_any (w : World) (a b c d e f g h : Int) : Calls Try.prog 20 #[shV [a, b, c, d, e, f, g, h]] w fun r w' => r = .returned (.bool (ftB a b c d e f g h)) ∧ Below w.heap.size w w' := by
  obtain ⟨b0, b1, b2, b3, b4, b5, b6, b7, hT⟩ := agT_len a b c d
  let ρ := envI [a, b, c, d, e, f, g, h, b0, b1, b2, b3, b4, b5, b6, b7] (.tuple #[])
  have hx : [shX 0].map (AV.inst ρ ms0) = [shV [a, b, c, d, e, f, g, h]].map some := by
    simp only [List.map_cons, List.map_nil, shX, AV.inst]; rw [row_den]; rfl
  have hent : ∀ q, agE a b c d = q → ∀ x ∈ rfits_t q, EntOk ρ x := fun q hq => all1 (ent [.int .i64 a, .int .i64 b, .int .i64 c, .int .i64 d] (.tuple #[shV [b0, b1, b2, b3, b4, b5, b6, b7], .int .i64 q]) (fun _ => rfl) (fun ms => by rw [tup2]; rfl) fun w => by rw [← hT, ← hq]; exact ragain_any w a b c d)
  by_cases hok : OkS a b c d
  · have e1 : agE a b c d = 0 := if_pos hok
    have e2 : agT a b c d = shR a b c d := if_pos hok
    by_cases hr : [a, b, c, d, e, f, g, h] = shR a b c d
    · have hb : ftB a b c d e f g h = true := decide_eq_true ⟨hok, hr⟩
      rw [hb]
      refine ev_row (ρ := ρ) alln (all1 ⟨rfl, ?_⟩) (hent 0 e1) rfits_ev2 [shV [a, b, c, d, e, f, g, h]] _ hx (fun _ => rfl) w
      have hq : [b0, b1, b2, b3, b4, b5, b6, b7] = [a, b, c, d, e, f, g, h] := by rw [← hT, e2, ← hr]
      first
      | exact decide_eq_true (show [b0, b1, b2, b3, b4, b5, b6, b7] = [a, b, c, d, e, f, g, h] from hq)
      | exact decide_eq_true (show [a, b, c, d, e, f, g, h] = [b0, b1, b2, b3, b4, b5, b6, b7] from hq.symm)
    · have hb : ftB a b c d e f g h = false := decide_eq_false fun q => hr q.2
      rw [hb]
      refine ev_row (ρ := ρ) alln (all1 ⟨rfl, ?_⟩) (hent 0 e1) rfits_ev3 [shV [a, b, c, d, e, f, g, h]] _ hx (fun _ => rfl) w
      have hq : ¬ [b0, b1, b2, b3, b4, b5, b6, b7] = [a, b, c, d, e, f, g, h] := by rw [← hT, e2]; exact fun q => hr q.symm
      first
      | exact decide_eq_false (show ¬ [b0, b1, b2, b3, b4, b5, b6, b7] = [a, b, c, d, e, f, g, h] from hq)
      | exact decide_eq_false (show ¬ [a, b, c, d, e, f, g, h] = [b0, b1, b2, b3, b4, b5, b6, b7] from fun q => hq q.symm)
  · have e1 : agE a b c d = 92 := if_neg hok
    have hb : ftB a b c d e f g h = false := decide_eq_false fun q => hok q.1
    rw [hb]
    exact ev_row (ρ := ρ) alln alln (hent 92 e1) rfits_ev1 [shV [a, b, c, d, e, f, g, h]] _ hx (fun _ => rfl) w
theorem Ft.segs {a b c d e f g h : Int} (q : Ft a b c d e f g h) : e = upI d c ∧ f = tlI d c ∧ g = c / a ∧ h = upI (tlI d c) a ∧ 1 ≤ e ∧ e ≤ 512 := by
  obtain ⟨q1, q2⟩ := q
  simp only [shR, List.cons.injEq, and_true, true_and] at q2
  obtain ⟨rfl, rfl, rfl, rfl⟩ := q2
  exact ⟨rfl, rfl, rfl, rfl, upI_pos (by have := q1.2.2.2.2.2.2.1; omega) q1.2.2.2.1, q1.2.2.2.2.2.2.2.2⟩
def szE (t : Bool) (segs j : Int) : Int := if t = true then (if 0 ≤ j ∧ j < segs then 0 else 90) else 92
def szV (t : Bool) (segs j size last : Int) : Int := if t = true then (if 0 ≤ j ∧ j < segs then (if j = segs - 1 then last else size) else 0) else 0
def ft_t (F : Nat) (b : Bool) : Nat × List AV × AV := (F, [shX 0], bX b)
def c_j0 (b : Bool) : BinOp × Ex × Ex × Bool := (.lss, .var 8, .lit 0, b)
def c_js (b : Bool) : BinOp × Ex × Ex × Bool := (.geq, .var 8, .var 4, b)
def c_jl (b : Bool) : BinOp × Ex × Ex × Bool := (.eql, .var 8, .ari .sub .i64 (.var 4) (.lit 1), b)
theorem c_jl_ok {ρ : Env} {e j : Int} {b : Bool} (h4 : Ex.den ρ (.var 4) = e) (h8 : Ex.den ρ (.var 8) = j) (h1 : 1 ≤ e) (h2 : e ≤ 512) (hb : (j == e - 1) = b) : CmpOk ρ (c_jl b) := by
  show some (Ex.den ρ (.var 8) == IntKind.i64.wrap (Ex.den ρ (.var 4) - 1)) = some b
  rw [h4, h8, wrap64 (by omega) (by omega), hb]
theorem ft_ent {ρ : Env} {a b c d e f g h : Int} {r : Bool} (hx : (vs64 0 8).map (Ex.den ρ) = [a, b, c, d, e, f, g, h]) {F : Nat} (hF : ∀ w, Calls Try.prog F #[shV [a, b, c, d, e, f, g, h]] w fun r w' => r = .returned (.bool (ftB a b c d e f g h)) ∧ Below w.heap.size w w') (hb : ftB a b c d e f g h = r) : EntOk ρ (ft_t F r) :=
  ent [shV [a, b, c, d, e, f, g, h]] (.bool r) (fun ms => by simp only [List.map_cons, List.map_nil, shX, AV.inst]; rw [row_den, hx]) (fun _ => rfl) fun w => by rw [← hb]; exact hF w
theorem tupI2 (ρ : Env) (ms : List Nat) (e f : Ex) : (AV.tup [e64 e, e64 f]).inst ρ ms = some (.tuple #[.int .i64 (e.den ρ), .int .i64 (f.den ρ)]) := rfl
theorem tupI3 (ρ : Env) (ms : List Nat) (e f g : Ex) : (AV.tup [e64 e, e64 f, e64 g]).inst ρ ms = some (.tuple #[.int .i64 (e.den ρ), .int .i64 (f.den ρ), .int .i64 (g.den ρ)]) := rfl
noncomputable def segsize_ev (c : List (BinOp × Ex × Ex × Bool)) (b : Bool) : Option AV := (evCallF Try.prog (tabLore c []) (tabCon [ft_t 19 b]) 100 21 [shX 0, B64 8] H0).map (·.1)
theorem segsize_ev1 : segsize_ev [] false = some (.tup [e64 (.lit 0), e64 (.lit 92)]) := by kernel_rfl
theorem segsize_ev2 : segsize_ev [c_j0 true] true = some (.tup [e64 (.lit 0), e64 (.lit 90)]) := by kernel_rfl
theorem segsize_ev3 : segsize_ev [c_j0 false, c_js true] true = some (.tup [e64 (.lit 0), e64 (.lit 90)]) := by kernel_rfl
theorem segsize_ev4 : segsize_ev [c_j0 false, c_js false, c_jl true] true = some (.tup [e64 (.var 5), e64 (.lit 0)]) := by kernel_rfl
theorem segsize_ev5 : segsize_ev [c_j0 false, c_js false, c_jl false] true = some (.tup [e64 (.var 2), e64 (.lit 0)]) := by kernel_rfl
theorem segsize_any (w : World) (a b c d e f g h j : Int) : Calls Try.prog 21 #[shV [a, b, c, d, e, f, g, h], .int .i64 j] w fun r w' => r = .returned (.tuple #[.int .i64 (szV (ftB a b c d e f g h) e j c f), .int .i64 (szE (ftB a b c d e f g h) e j)]) ∧ Below w.heap.size w w' := by
  let ρ := envI [a, b, c, d, e, f, g, h, j] (.tuple #[])
  have hx : [shX 0, B64 8].map (AV.inst ρ ms0) = [shV [a, b, c, d, e, f, g, h], .int .i64 j].map some := by
    simp only [List.map_cons, List.map_nil, shX, AV.inst]; rw [row_den]; rfl
  have hent : ∀ r, ftB a b c d e f g h = r → ∀ x ∈ [ft_t 19 r], EntOk ρ x := fun r hr => all1 (ft_ent rfl (fun w => fits_any w a b c d e f g h) hr)
  by_cases hf : Ft a b c d e f g h
  · have hb : ftB a b c d e f g h = true := decide_eq_true hf
    obtain ⟨_, _, _, _, s1, s2⟩ := hf.segs
    by_cases h0 : j < 0
    · have hj : ¬ (0 ≤ j ∧ j < e) := by omega
      have z1 : szV true e j c f = 0 := by unfold szV; rw [if_pos rfl, if_neg hj]
      have z2 : szE true e j = 90 := by unfold szE; rw [if_pos rfl, if_neg hj]
      rw [hb, z1, z2]
      exact ev_row (ρ := ρ) (c := [c_j0 true]) (all1 (show some (decide (j < 0)) = some true by rw [decide_eq_true h0])) alln (hent true hb) segsize_ev2 [shV [a, b, c, d, e, f, g, h], .int .i64 j] _ hx (fun _ => rfl) w
    have F1 : CmpOk ρ (c_j0 false) := show some (decide (j < 0)) = some false by rw [decide_eq_false h0]
    by_cases h1 : j ≥ e
    · have hj : ¬ (0 ≤ j ∧ j < e) := by omega
      have z1 : szV true e j c f = 0 := by unfold szV; rw [if_pos rfl, if_neg hj]
      have z2 : szE true e j = 90 := by unfold szE; rw [if_pos rfl, if_neg hj]
      rw [hb, z1, z2]
      exact ev_row (ρ := ρ) (c := [c_j0 false, c_js true]) (allc F1 (all1 (show some (decide (j ≥ e)) = some true by rw [decide_eq_true h1]))) alln (hent true hb) segsize_ev3 [shV [a, b, c, d, e, f, g, h], .int .i64 j] _ hx (fun _ => rfl) w
    have F2 : CmpOk ρ (c_js false) := show some (decide (j ≥ e)) = some false by rw [decide_eq_false h1]
    by_cases h2 : j = e - 1
    · have hj : 0 ≤ j ∧ j < e := ⟨by omega, by omega⟩
      have z1 : szV true e j c f = f := by unfold szV; rw [if_pos rfl, if_pos hj, if_pos h2]
      have z2 : szE true e j = 0 := by unfold szE; rw [if_pos rfl, if_pos hj]
      rw [hb, z1, z2]
      exact ev_row (ρ := ρ) (allc F1 (allc F2 (all1 (c_jl_ok rfl rfl s1 s2 (beq_iff_eq.2 h2))))) alln (hent true hb) segsize_ev4 [shV [a, b, c, d, e, f, g, h], .int .i64 j] _ hx (fun _ => rfl) w
    · have hj : 0 ≤ j ∧ j < e := ⟨by omega, by omega⟩
      have z1 : szV true e j c f = c := by unfold szV; rw [if_pos rfl, if_pos hj, if_neg h2]
      have z2 : szE true e j = 0 := by unfold szE; rw [if_pos rfl, if_pos hj]
      rw [hb, z1, z2]
      exact ev_row (ρ := ρ) (allc F1 (allc F2 (all1 (c_jl_ok rfl rfl s1 s2 (beq_false_of_ne h2))))) alln (hent true hb) segsize_ev5 [shV [a, b, c, d, e, f, g, h], .int .i64 j] _ hx (fun _ => rfl) w
  · have hb : ftB a b c d e f g h = false := decide_eq_false hf
    rw [hb, szV, szE, if_neg (by decide), if_neg (by decide)]
    exact ev_row (ρ := ρ) alln alln (hent false hb) segsize_ev1 [shV [a, b, c, d, e, f, g, h], .int .i64 j] _ hx (fun _ => rfl) w
noncomputable def blocksize_ev (c : List (BinOp × Ex × Ex × Bool)) (b : Bool) : Option AV := (evCallF Try.prog (tabLore c []) (tabCon [ft_t 19 b]) 100 22 [shX 0, B64 8] H0).map (·.1)
theorem blocksize_ev1 : blocksize_ev [] false = some (.tup [e64 (.lit 0), e64 (.lit 92)]) := by kernel_rfl
theorem blocksize_ev2 : blocksize_ev [c_j0 true] true = some (.tup [e64 (.lit 0), e64 (.lit 90)]) := by kernel_rfl
theorem blocksize_ev3 : blocksize_ev [c_j0 false, c_js true] true = some (.tup [e64 (.lit 0), e64 (.lit 90)]) := by kernel_rfl
theorem blocksize_ev4 : blocksize_ev [c_j0 false, c_js false, c_jl true] true = some (.tup [e64 (.var 7), e64 (.lit 0)]) := by kernel_rfl
theorem blocksize_ev5 : blocksize_ev [c_j0 false, c_js false, c_jl false] true = some (.tup [e64 (.var 6), e64 (.lit 0)]) := by kernel_rfl
theorem blocksize_any (w : World) (a b c d e f g h j : Int) : Calls Try.prog 22 #[shV [a, b, c, d, e, f, g, h], .int .i64 j] w fun r w' => r = .returned (.tuple #[.int .i64 (szV (ftB a b c d e f g h) e j g h), .int .i64 (szE (ftB a b c d e f g h) e j)]) ∧ Below w.heap.size w w' := by
  let ρ := envI [a, b, c, d, e, f, g, h, j] (.tuple #[])
  have hx : [shX 0, B64 8].map (AV.inst ρ ms0) = [shV [a, b, c, d, e, f, g, h], .int .i64 j].map some := by
    simp only [List.map_cons, List.map_nil, shX, AV.inst]; rw [row_den]; rfl
  have hent : ∀ r, ftB a b c d e f g h = r → ∀ x ∈ [ft_t 19 r], EntOk ρ x := fun r hr => all1 (ft_ent rfl (fun w => fits_any w a b c d e f g h) hr)
  by_cases hf : Ft a b c d e f g h
  · have hb : ftB a b c d e f g h = true := decide_eq_true hf
    obtain ⟨_, _, _, _, s1, s2⟩ := hf.segs
    by_cases h0 : j < 0
    · have hj : ¬ (0 ≤ j ∧ j < e) := by omega
      have z1 : szV true e j g h = 0 := by unfold szV; rw [if_pos rfl, if_neg hj]
      have z2 : szE true e j = 90 := by unfold szE; rw [if_pos rfl, if_neg hj]
      rw [hb, z1, z2]
      exact ev_row (ρ := ρ) (c := [c_j0 true]) (all1 (show some (decide (j < 0)) = some true by rw [decide_eq_true h0])) alln (hent true hb) blocksize_ev2 [shV [a, b, c, d, e, f, g, h], .int .i64 j] _ hx (fun _ => rfl) w
    have F1 : CmpOk ρ (c_j0 false) := show some (decide (j < 0)) = some false by rw [decide_eq_false h0]
    by_cases h1 : j ≥ e
    · have hj : ¬ (0 ≤ j ∧ j < e) := by omega
      have z1 : szV true e j g h = 0 := by unfold szV; rw [if_pos rfl, if_neg hj]
      have z2 : szE true e j = 90 := by unfold szE; rw [if_pos rfl, if_neg hj]
      rw [hb, z1, z2]
      exact ev_row (ρ := ρ) (c := [c_j0 false, c_js true]) (allc F1 (all1 (show some (decide (j ≥ e)) = some true by rw [decide_eq_true h1]))) alln (hent true hb) blocksize_ev3 [shV [a, b, c, d, e, f, g, h], .int .i64 j] _ hx (fun _ => rfl) w
    have F2 : CmpOk ρ (c_js false) := show some (decide (j ≥ e)) = some false by rw [decide_eq_false h1]
    by_cases h2 : j = e - 1
    · have hj : 0 ≤ j ∧ j < e := ⟨by omega, by omega⟩
      have z1 : szV true e j g h = h := by unfold szV; rw [if_pos rfl, if_pos hj, if_pos h2]
      have z2 : szE true e j = 0 := by unfold szE; rw [if_pos rfl, if_pos hj]
      rw [hb, z1, z2]
      exact ev_row (ρ := ρ) (allc F1 (allc F2 (all1 (c_jl_ok rfl rfl s1 s2 (beq_iff_eq.2 h2))))) alln (hent true hb) blocksize_ev4 [shV [a, b, c, d, e, f, g, h], .int .i64 j] _ hx (fun _ => rfl) w
    · have hj : 0 ≤ j ∧ j < e := ⟨by omega, by omega⟩
      have z1 : szV true e j g h = g := by unfold szV; rw [if_pos rfl, if_pos hj, if_neg h2]
      have z2 : szE true e j = 0 := by unfold szE; rw [if_pos rfl, if_pos hj]
      rw [hb, z1, z2]
      exact ev_row (ρ := ρ) (allc F1 (allc F2 (all1 (c_jl_ok rfl rfl s1 s2 (beq_false_of_ne h2))))) alln (hent true hb) blocksize_ev5 [shV [a, b, c, d, e, f, g, h], .int .i64 j] _ hx (fun _ => rfl) w
  · have hb : ftB a b c d e f g h = false := decide_eq_false hf
    rw [hb, szV, szE, if_neg (by decide), if_neg (by decide)]
    exact ev_row (ρ := ρ) alln alln (hent false hb) blocksize_ev1 [shV [a, b, c, d, e, f, g, h], .int .i64 j] _ hx (fun _ => rfl) w
noncomputable def rsegsize_ev (c : List (BinOp × Ex × Ex × Bool)) (b : Bool) : Option AV := (evCallF Try.prog (tabLore c []) (tabCon [ft_t 20 b]) 100 24 [shX 0, B64 8] H0).map (·.1)
theorem rsegsize_ev1 : rsegsize_ev [] false = some (.tup [e64 (.lit 0), e64 (.lit 92)]) := by kernel_rfl
theorem rsegsize_ev2 : rsegsize_ev [c_j0 true] true = some (.tup [e64 (.lit 0), e64 (.lit 90)]) := by kernel_rfl
theorem rsegsize_ev3 : rsegsize_ev [c_j0 false, c_js true] true = some (.tup [e64 (.lit 0), e64 (.lit 90)]) := by kernel_rfl
theorem rsegsize_ev4 : rsegsize_ev [c_j0 false, c_js false, c_jl true] true = some (.tup [e64 (.var 5), e64 (.lit 0)]) := by kernel_rfl
theorem rsegsize_ev5 : rsegsize_ev [c_j0 false, c_js false, c_jl false] true = some (.tup [e64 (.var 2), e64 (.lit 0)]) := by kernel_rfl
theorem rsegsize_any (w : World) (a b c d e f g h j : Int) : Calls Try.prog 24 #[shV [a, b, c, d, e, f, g, h], .int .i64 j] w fun r w' => r = .returned (.tuple #[.int .i64 (szV (ftB a b c d e f g h) e j c f), .int .i64 (szE (ftB a b c d e f g h) e j)]) ∧ Below w.heap.size w w' := by
  let ρ := envI [a, b, c, d, e, f, g, h, j] (.tuple #[])
  have hx : [shX 0, B64 8].map (AV.inst ρ ms0) = [shV [a, b, c, d, e, f, g, h], .int .i64 j].map some := by
    simp only [List.map_cons, List.map_nil, shX, AV.inst]; rw [row_den]; rfl
  have hent : ∀ r, ftB a b c d e f g h = r → ∀ x ∈ [ft_t 20 r], EntOk ρ x := fun r hr => all1 (ft_ent rfl (fun w => rfits_any w a b c d e f g h) hr)
  by_cases hf : Ft a b c d e f g h
  · have hb : ftB a b c d e f g h = true := decide_eq_true hf
    obtain ⟨_, _, _, _, s1, s2⟩ := hf.segs
    by_cases h0 : j < 0
    · have hj : ¬ (0 ≤ j ∧ j < e) := by omega
      have z1 : szV true e j c f = 0 := by unfold szV; rw [if_pos rfl, if_neg hj]
      have z2 : szE true e j = 90 := by unfold szE; rw [if_pos rfl, if_neg hj]
      rw [hb, z1, z2]
      exact ev_row (ρ := ρ) (c := [c_j0 true]) (all1 (show some (decide (j < 0)) = some true by rw [decide_eq_true h0])) alln (hent true hb) rsegsize_ev2 [shV [a, b, c, d, e, f, g, h], .int .i64 j] _ hx (fun _ => rfl) w
    have F1 : CmpOk ρ (c_j0 false) := show some (decide (j < 0)) = some false by rw [decide_eq_false h0]
    by_cases h1 : j ≥ e
    · have hj : ¬ (0 ≤ j ∧ j < e) := by omega
      have z1 : szV true e j c f = 0 := by unfold szV; rw [if_pos rfl, if_neg hj]
      have z2 : szE true e j = 90 := by unfold szE; rw [if_pos rfl, if_neg hj]
      rw [hb, z1, z2]
      exact ev_row (ρ := ρ) (c := [c_j0 false, c_js true]) (allc F1 (all1 (show some (decide (j ≥ e)) = some true by rw [decide_eq_true h1]))) alln (hent true hb) rsegsize_ev3 [shV [a, b, c, d, e, f, g, h], .int .i64 j] _ hx (fun _ => rfl) w
    have F2 : CmpOk ρ (c_js false) := show some (decide (j ≥ e)) = some false by rw [decide_eq_false h1]
    by_cases h2 : j = e - 1
    · have hj : 0 ≤ j ∧ j < e := ⟨by omega, by omega⟩
      have z1 : szV true e j c f = f := by unfold szV; rw [if_pos rfl, if_pos hj, if_pos h2]
      have z2 : szE true e j = 0 := by unfold szE; rw [if_pos rfl, if_pos hj]
      rw [hb, z1, z2]
      exact ev_row (ρ := ρ) (allc F1 (allc F2 (all1 (c_jl_ok rfl rfl s1 s2 (beq_iff_eq.2 h2))))) alln (hent true hb) rsegsize_ev4 [shV [a, b, c, d, e, f, g, h], .int .i64 j] _ hx (fun _ => rfl) w
    · have hj : 0 ≤ j ∧ j < e := ⟨by omega, by omega⟩
      have z1 : szV true e j c f = c := by unfold szV; rw [if_pos rfl, if_pos hj, if_neg h2]
      have z2 : szE true e j = 0 := by unfold szE; rw [if_pos rfl, if_pos hj]
      rw [hb, z1, z2]
      exact ev_row (ρ := ρ) (allc F1 (allc F2 (all1 (c_jl_ok rfl rfl s1 s2 (beq_false_of_ne h2))))) alln (hent true hb) rsegsize_ev5 [shV [a, b, c, d, e, f, g, h], .int .i64 j] _ hx (fun _ => rfl) w
  · have hb : ftB a b c d e f g h = false := decide_eq_false hf
    rw [hb, szV, szE, if_neg (by decide), if_neg (by decide)]
    exact ev_row (ρ := ρ) alln alln (hent false hb) rsegsize_ev1 [shV [a, b, c, d, e, f, g, h], .int .i64 j] _ hx (fun _ => rfl) w
noncomputable def rblocksize_ev (c : List (BinOp × Ex × Ex × Bool)) (b : Bool) : Option AV := (evCallF Try.prog (tabLore c []) (tabCon [ft_t 20 b]) 100 25 [shX 0, B64 8] H0).map (·.1)
theorem rblocksize_ev1 : rblocksize_ev [] false = some (.tup [e64 (.lit 0), e64 (.lit 92)]) := by kernel_rfl
theorem rblocksize_ev2 : rblocksize_ev [c_j0 true] true = some (.tup [e64 (.lit 0), e64 (.lit 90)]) := by kernel_rfl
theorem rblocksize_ev3 : rblocksize_ev [c_j0 false, c_js true] true = some (.tup [e64 (.lit 0), e64 (.lit 90)]) := by kernel_rfl
theorem rblocksize_ev4 : rblocksize_ev [c_j0 false, c_js false, c_jl true] true = some (.tup [e64 (.var 7), e64 (.lit 0)]) := by kernel_rfl
theorem rblocksize_ev5 : rblocksize_ev [c_j0 false, c_js false, c_jl false] true = some (.tup [e64 (.var 6), e64 (.lit 0)]) := by kernel_rfl
theorem rblocksize_any (w : World) (a b c d e f g h j : Int) : Calls Try.prog 25 #[shV [a, b, c, d, e, f, g, h], .int .i64 j] w fun r w' => r = .returned (.tuple #[.int .i64 (szV (ftB a b c d e f g h) e j g h), .int .i64 (szE (ftB a b c d e f g h) e j)]) ∧ Below w.heap.size w w' := by
  let ρ := envI [a, b, c, d, e, f, g, h, j] (.tuple #[])
  have hx : [shX 0, B64 8].map (AV.inst ρ ms0) = [shV [a, b, c, d, e, f, g, h], .int .i64 j].map some := by
    simp only [List.map_cons, List.map_nil, shX, AV.inst]; rw [row_den]; rfl
  have hent : ∀ r, ftB a b c d e f g h = r → ∀ x ∈ [ft_t 20 r], EntOk ρ x := fun r hr => all1 (ft_ent rfl (fun w => rfits_any w a b c d e f g h) hr)
  by_cases hf : Ft a b c d e f g h
  · have hb : ftB a b c d e f g h = true := decide_eq_true hf
    obtain ⟨_, _, _, _, s1, s2⟩ := hf.segs
    by_cases h0 : j < 0
    · have hj : ¬ (0 ≤ j ∧ j < e) := by omega
      have z1 : szV true e j g h = 0 := by unfold szV; rw [if_pos rfl, if_neg hj]
      have z2 : szE true e j = 90 := by unfold szE; rw [if_pos rfl, if_neg hj]
      rw [hb, z1, z2]
      exact ev_row (ρ := ρ) (c := [c_j0 true]) (all1 (show some (decide (j < 0)) = some true by rw [decide_eq_true h0])) alln (hent true hb) rblocksize_ev2 [shV [a, b, c, d, e, f, g, h], .int .i64 j] _ hx (fun _ => rfl) w
    have F1 : CmpOk ρ (c_j0 false) := show some (decide (j < 0)) = some false by rw [decide_eq_false h0]
    by_cases h1 : j ≥ e
    · have hj : ¬ (0 ≤ j ∧ j < e) := by omega
      have z1 : szV true e j g h = 0 := by unfold szV; rw [if_pos rfl, if_neg hj]
      have z2 : szE true e j = 90 := by unfold szE; rw [if_pos rfl, if_neg hj]
      rw [hb, z1, z2]
      exact ev_row (ρ := ρ) (c := [c_j0 false, c_js true]) (allc F1 (all1 (show some (decide (j ≥ e)) = some true by rw [decide_eq_true h1]))) alln (hent true hb) rblocksize_ev3 [shV [a, b, c, d, e, f, g, h], .int .i64 j] _ hx (fun _ => rfl) w
    have F2 : CmpOk ρ (c_js false) := show some (decide (j ≥ e)) = some false by rw [decide_eq_false h1]
    by_cases h2 : j = e - 1
    · have hj : 0 ≤ j ∧ j < e := ⟨by omega, by omega⟩
      have z1 : szV true e j g h = h := by unfold szV; rw [if_pos rfl, if_pos hj, if_pos h2]
      have z2 : szE true e j = 0 := by unfold szE; rw [if_pos rfl, if_pos hj]
      rw [hb, z1, z2]
      exact ev_row (ρ := ρ) (allc F1 (allc F2 (all1 (c_jl_ok rfl rfl s1 s2 (beq_iff_eq.2 h2))))) alln (hent true hb) rblocksize_ev4 [shV [a, b, c, d, e, f, g, h], .int .i64 j] _ hx (fun _ => rfl) w
    · have hj : 0 ≤ j ∧ j < e := ⟨by omega, by omega⟩
      have z1 : szV true e j g h = g := by unfold szV; rw [if_pos rfl, if_pos hj, if_neg h2]
      have z2 : szE true e j = 0 := by unfold szE; rw [if_pos rfl, if_pos hj]
      rw [hb, z1, z2]
      exact ev_row (ρ := ρ) (allc F1 (allc F2 (all1 (c_jl_ok rfl rfl s1 s2 (beq_false_of_ne h2))))) alln (hent true hb) rblocksize_ev5 [shV [a, b, c, d, e, f, g, h], .int .i64 j] _ hx (fun _ => rfl) w
  · have hb : ftB a b c d e f g h = false := decide_eq_false hf
    rw [hb, szV, szE, if_neg (by decide), if_neg (by decide)]
    exact ev_row (ρ := ρ) alln alln (hent false hb) rblocksize_ev1 [shV [a, b, c, d, e, f, g, h], .int .i64 j] _ hx (fun _ => rfl) w
def cvO (t : Bool) (z p n : Int) : Prop := t = true ∧ 0 ≤ p ∧ 1 ≤ n ∧ n ≤ z - p
instance (t : Bool) (z p n : Int) : Decidable (cvO t z p n) := by unfold cvO; infer_instance
def cvE (t : Bool) (z p n : Int) : Int := if t = true then (if cvO t z p n then 0 else 90) else 92
def cvA (t : Bool) (s z p n : Int) : Int := if cvO t z p n then p / s else 0
def cvZ (t : Bool) (s z p n : Int) : Int := if cvO t z p n then (p + n - 1) / s else 0
def c_a0 (b : Bool) : BinOp × Ex × Ex × Bool := (.lss, .var 8, .lit 0, b)
def c_n1 (b : Bool) : BinOp × Ex × Ex × Bool := (.lss, .var 9, .lit 1, b)
def c_az (b : Bool) : BinOp × Ex × Ex × Bool := (.gtr, .var 8, .var 3, b)
def c_nz (b : Bool) : BinOp × Ex × Ex × Bool := (.gtr, .var 9, .ari .sub .i64 (.var 3) (.var 8), b)
def c_s0 : BinOp × Ex × Ex × Bool := (.neq, .var 2, .lit 0, true)
def cvX : AV := .tup [e64 (.ari .quo .i64 (.var 8) (.var 2)), e64 (.ari .quo .i64 (.ari .sub .i64 (.ari .add .i64 (.var 8) (.var 9)) (.lit 1)) (.var 2)), e64 (.lit 0)]
def cvBad (e : Int) : AV := .tup [e64 (.lit 0), e64 (.lit 0), e64 (.lit e)]
noncomputable def cover_ev (c : List (BinOp × Ex × Ex × Bool)) (b : Bool) : Option AV := (evCallF Try.prog (tabLore c []) (tabCon [ft_t 19 b]) 100 23 [shX 0, B64 8, B64 9] H0).map (·.1)
theorem cover_ev1 : cover_ev [] false = some (cvBad 92) := by kernel_rfl
theorem cover_ev2 : cover_ev [c_a0 true] true = some (cvBad 90) := by kernel_rfl
theorem cover_ev3 : cover_ev [c_a0 false, c_n1 true] true = some (cvBad 90) := by kernel_rfl
theorem cover_ev4 : cover_ev [c_a0 false, c_n1 false, c_az true, c_nz true] true = some (cvBad 90) := by kernel_rfl
theorem cover_ev5 : cover_ev [c_a0 false, c_n1 false, c_az false, c_nz true] true = some (cvBad 90) := by kernel_rfl
theorem cover_ev6 : cover_ev [c_a0 false, c_n1 false, c_az false, c_nz false, c_s0] true = some cvX := by kernel_rfl
theorem cover_any (w : World) (a b c d e f g h p n : Int) (hp : p ≤ 9223372036854775807) : Calls Try.prog 23 #[shV [a, b, c, d, e, f, g, h], .int .i64 p, .int .i64 n] w fun r w' => r = .returned (.tuple #[.int .i64 (cvA (ftB a b c d e f g h) c d p n), .int .i64 (cvZ (ftB a b c d e f g h) c d p n), .int .i64 (cvE (ftB a b c d e f g h) d p n)]) ∧ Below w.heap.size w w' := by
  let ρ := envI [a, b, c, d, e, f, g, h, p, n] (.tuple #[])
  have hx : [shX 0, B64 8, B64 9].map (AV.inst ρ ms0) = [shV [a, b, c, d, e, f, g, h], .int .i64 p, .int .i64 n].map some := by
    simp only [List.map_cons, List.map_nil, shX, AV.inst]; rw [row_den]; rfl
  have hent : ∀ r, ftB a b c d e f g h = r → ∀ x ∈ [ft_t 19 r], EntOk ρ x := fun r hr => all1 (ft_ent rfl (fun w => fits_any w a b c d e f g h) hr)
  by_cases hf : Ft a b c d e f g h
  · have hb : ftB a b c d e f g h = true := decide_eq_true hf
    have hbad : ∀ cc, ¬ cvO true d p n → (∀ x ∈ cc, CmpOk ρ x) → cover_ev cc true = some (cvBad 90) → Calls Try.prog 23 #[shV [a, b, c, d, e, f, g, h], .int .i64 p, .int .i64 n] w fun r w' => r = .returned (.tuple #[.int .i64 (cvA (ftB a b c d e f g h) c d p n), .int .i64 (cvZ (ftB a b c d e f g h) c d p n), .int .i64 (cvE (ftB a b c d e f g h) d p n)]) ∧ Below w.heap.size w w' := by
      intro cc hn hc he
      rw [hb, cvA, cvZ, cvE, if_neg hn, if_neg hn, if_pos rfl, if_neg hn]
      exact ev_row (ρ := ρ) hc alln (hent true hb) he [shV [a, b, c, d, e, f, g, h], .int .i64 p, .int .i64 n] _ hx (fun _ => rfl) w
    have d1 : 33 ≤ d := hf.1.2.2.2.2.2.2.1
    have d2 : d ≤ 16777216 := hf.1.2.2.2.2.2.2.2.1
    have g1 : 1 ≤ c := hf.1.2.2.2.1
    by_cases h0 : p < 0
    · exact hbad [c_a0 true] (fun q => by have := q.2.1; omega) (all1 (show some (decide (p < 0)) = some true by rw [decide_eq_true h0])) cover_ev2
    have F1 : CmpOk ρ (c_a0 false) := show some (decide (p < 0)) = some false by rw [decide_eq_false h0]
    by_cases h1 : n < 1
    · exact hbad [c_a0 false, c_n1 true] (fun q => by have := q.2.2.1; omega) (allc F1 (all1 (show some (decide (n < 1)) = some true by rw [decide_eq_true h1]))) cover_ev3
    have F2 : CmpOk ρ (c_n1 false) := show some (decide (n < 1)) = some false by rw [decide_eq_false h1]
    have hw : IntKind.i64.wrap (d - p) = d - p := wrap64 (by omega) (by omega)
    by_cases h2 : n > d - p
    · have F4 : CmpOk ρ (c_nz true) := by
        show some (decide (n > IntKind.i64.wrap (d - p))) = some true
        rw [hw, decide_eq_true h2]
      by_cases h3 : p > d
      · exact hbad [c_a0 false, c_n1 false, c_az true, c_nz true] (fun q => by have := q.2.2.2; omega) (allc F1 (allc F2 (allc (show some (decide (p > d)) = some true by rw [decide_eq_true h3]) (all1 F4)))) cover_ev4
      · exact hbad [c_a0 false, c_n1 false, c_az false, c_nz true] (fun q => by have := q.2.2.2; omega) (allc F1 (allc F2 (allc (show some (decide (p > d)) = some false by rw [decide_eq_false h3]) (all1 F4)))) cover_ev5
    · have hO : cvO true d p n := ⟨rfl, by omega, by omega, by omega⟩
      have F3 : CmpOk ρ (c_az false) := show some (decide (p > d)) = some false by rw [decide_eq_false (by omega)]
      have F4 : CmpOk ρ (c_nz false) := by
        show some (decide (n > IntKind.i64.wrap (d - p))) = some false
        rw [hw, decide_eq_false h2]
      have F5 : CmpOk ρ c_s0 := show some (c != 0) = some true by rw [bne_iff_ne.2 (show c ≠ 0 by omega)]
      rw [hb, cvA, cvZ, cvE, if_pos hO, if_pos hO, if_pos rfl, if_pos hO]
      refine ev_row (ρ := ρ) (allc F1 (allc F2 (allc F3 (allc F4 (all1 F5))))) alln (hent true hb) cover_ev6 [shV [a, b, c, d, e, f, g, h], .int .i64 p, .int .i64 n] _ hx (fun ms => ?_) w
      rw [cvX, tupI3]
      show some (Value.tuple #[.int .i64 (IntKind.i64.wrap (p.tdiv c)), .int .i64 (IntKind.i64.wrap ((IntKind.i64.wrap (IntKind.i64.wrap (p + n) - 1)).tdiv c)), .int .i64 0]) = _
      have q1 := Int.ediv_nonneg (show 0 ≤ p by omega) (show 0 ≤ c by omega)
      have q2 := Int.ediv_le_self c (show 0 ≤ p by omega)
      have q3 := Int.ediv_nonneg (show 0 ≤ p + n - 1 by omega) (show 0 ≤ c by omega)
      have q4 := Int.ediv_le_self c (show 0 ≤ p + n - 1 by omega)
      rw [wrap64 (x := p + n) (by omega) (by omega), wrap64 (x := p + n - 1) (by omega) (by omega), Int.tdiv_eq_ediv_of_nonneg (by omega), Int.tdiv_eq_ediv_of_nonneg (by omega), wrap64 (by omega) (by omega), wrap64 (by omega) (by omega)]
  · have hb : ftB a b c d e f g h = false := decide_eq_false hf
    have hn : ¬ cvO false d p n := fun q => by cases q.1
    rw [hb, cvA, cvZ, cvE, if_neg hn, if_neg hn, if_neg (by decide)]
    exact ev_row (ρ := ρ) alln alln (hent false hb) cover_ev1 [shV [a, b, c, d, e, f, g, h], .int .i64 p, .int .i64 n] _ hx (fun _ => rfl) w
noncomputable def rcover_ev (c : List (BinOp × Ex × Ex × Bool)) (b : Bool) : Option AV := (evCallF Try.prog (tabLore c []) (tabCon [ft_t 20 b]) 100 26 [shX 0, B64 8, B64 9] H0).map (·.1)
theorem rcover_ev1 : rcover_ev [] false = some (cvBad 92) := by kernel_rfl
theorem rcover_ev2 : rcover_ev [c_a0 true] true = some (cvBad 90) := by kernel_rfl
theorem rcover_ev3 : rcover_ev [c_a0 false, c_n1 true] true = some (cvBad 90) := by kernel_rfl
theorem rcover_ev4 : rcover_ev [c_a0 false, c_n1 false, c_az true, c_nz true] true = some (cvBad 90) := by kernel_rfl
theorem rcover_ev5 : rcover_ev [c_a0 false, c_n1 false, c_az false, c_nz true] true = some (cvBad 90) := by kernel_rfl
theorem rcover_ev6 : rcover_ev [c_a0 false, c_n1 false, c_az false, c_nz false, c_s0] true = some cvX := by kernel_rfl
theorem rcover_any (w : World) (a b c d e f g h p n : Int) (hp : p ≤ 9223372036854775807) : Calls Try.prog 26 #[shV [a, b, c, d, e, f, g, h], .int .i64 p, .int .i64 n] w fun r w' => r = .returned (.tuple #[.int .i64 (cvA (ftB a b c d e f g h) c d p n), .int .i64 (cvZ (ftB a b c d e f g h) c d p n), .int .i64 (cvE (ftB a b c d e f g h) d p n)]) ∧ Below w.heap.size w w' := by
  let ρ := envI [a, b, c, d, e, f, g, h, p, n] (.tuple #[])
  have hx : [shX 0, B64 8, B64 9].map (AV.inst ρ ms0) = [shV [a, b, c, d, e, f, g, h], .int .i64 p, .int .i64 n].map some := by
    simp only [List.map_cons, List.map_nil, shX, AV.inst]; rw [row_den]; rfl
  have hent : ∀ r, ftB a b c d e f g h = r → ∀ x ∈ [ft_t 20 r], EntOk ρ x := fun r hr => all1 (ft_ent rfl (fun w => rfits_any w a b c d e f g h) hr)
  by_cases hf : Ft a b c d e f g h
  · have hb : ftB a b c d e f g h = true := decide_eq_true hf
    have hbad : ∀ cc, ¬ cvO true d p n → (∀ x ∈ cc, CmpOk ρ x) → rcover_ev cc true = some (cvBad 90) → Calls Try.prog 26 #[shV [a, b, c, d, e, f, g, h], .int .i64 p, .int .i64 n] w fun r w' => r = .returned (.tuple #[.int .i64 (cvA (ftB a b c d e f g h) c d p n), .int .i64 (cvZ (ftB a b c d e f g h) c d p n), .int .i64 (cvE (ftB a b c d e f g h) d p n)]) ∧ Below w.heap.size w w' := by
      intro cc hn hc he
      rw [hb, cvA, cvZ, cvE, if_neg hn, if_neg hn, if_pos rfl, if_neg hn]
      exact ev_row (ρ := ρ) hc alln (hent true hb) he [shV [a, b, c, d, e, f, g, h], .int .i64 p, .int .i64 n] _ hx (fun _ => rfl) w
    have d1 : 33 ≤ d := hf.1.2.2.2.2.2.2.1
    have d2 : d ≤ 16777216 := hf.1.2.2.2.2.2.2.2.1
    have g1 : 1 ≤ c := hf.1.2.2.2.1
    by_cases h0 : p < 0
    · exact hbad [c_a0 true] (fun q => by have := q.2.1; omega) (all1 (show some (decide (p < 0)) = some true by rw [decide_eq_true h0])) rcover_ev2
    have F1 : CmpOk ρ (c_a0 false) := show some (decide (p < 0)) = some false by rw [decide_eq_false h0]
    by_cases h1 : n < 1
    · exact hbad [c_a0 false, c_n1 true] (fun q => by have := q.2.2.1; omega) (allc F1 (all1 (show some (decide (n < 1)) = some true by rw [decide_eq_true h1]))) rcover_ev3
    have F2 : CmpOk ρ (c_n1 false) := show some (decide (n < 1)) = some false by rw [decide_eq_false h1]
    have hw : IntKind.i64.wrap (d - p) = d - p := wrap64 (by omega) (by omega)
    by_cases h2 : n > d - p
    · have F4 : CmpOk ρ (c_nz true) := by
        show some (decide (n > IntKind.i64.wrap (d - p))) = some true
        rw [hw, decide_eq_true h2]
      by_cases h3 : p > d
      · exact hbad [c_a0 false, c_n1 false, c_az true, c_nz true] (fun q => by have := q.2.2.2; omega) (allc F1 (allc F2 (allc (show some (decide (p > d)) = some true by rw [decide_eq_true h3]) (all1 F4)))) rcover_ev4
      · exact hbad [c_a0 false, c_n1 false, c_az false, c_nz true] (fun q => by have := q.2.2.2; omega) (allc F1 (allc F2 (allc (show some (decide (p > d)) = some false by rw [decide_eq_false h3]) (all1 F4)))) rcover_ev5
    · have hO : cvO true d p n := ⟨rfl, by omega, by omega, by omega⟩
      have F3 : CmpOk ρ (c_az false) := show some (decide (p > d)) = some false by rw [decide_eq_false (by omega)]
      have F4 : CmpOk ρ (c_nz false) := by
        show some (decide (n > IntKind.i64.wrap (d - p))) = some false
        rw [hw, decide_eq_false h2]
      have F5 : CmpOk ρ c_s0 := show some (c != 0) = some true by rw [bne_iff_ne.2 (show c ≠ 0 by omega)]
      rw [hb, cvA, cvZ, cvE, if_pos hO, if_pos hO, if_pos rfl, if_pos hO]
      refine ev_row (ρ := ρ) (allc F1 (allc F2 (allc F3 (allc F4 (all1 F5))))) alln (hent true hb) rcover_ev6 [shV [a, b, c, d, e, f, g, h], .int .i64 p, .int .i64 n] _ hx (fun ms => ?_) w
      rw [cvX, tupI3]
      show some (Value.tuple #[.int .i64 (IntKind.i64.wrap (p.tdiv c)), .int .i64 (IntKind.i64.wrap ((IntKind.i64.wrap (IntKind.i64.wrap (p + n) - 1)).tdiv c)), .int .i64 0]) = _
      have q1 := Int.ediv_nonneg (show 0 ≤ p by omega) (show 0 ≤ c by omega)
      have q2 := Int.ediv_le_self c (show 0 ≤ p by omega)
      have q3 := Int.ediv_nonneg (show 0 ≤ p + n - 1 by omega) (show 0 ≤ c by omega)
      have q4 := Int.ediv_le_self c (show 0 ≤ p + n - 1 by omega)
      rw [wrap64 (x := p + n) (by omega) (by omega), wrap64 (x := p + n - 1) (by omega) (by omega), Int.tdiv_eq_ediv_of_nonneg (by omega), Int.tdiv_eq_ediv_of_nonneg (by omega), wrap64 (by omega) (by omega), wrap64 (by omega) (by omega)]
  · have hb : ftB a b c d e f g h = false := decide_eq_false hf
    have hn : ¬ cvO false d p n := fun q => by cases q.1
    rw [hb, cvA, cvZ, cvE, if_neg hn, if_neg hn, if_neg (by decide)]
    exact ev_row (ρ := ρ) alln alln (hent false hb) rcover_ev1 [shV [a, b, c, d, e, f, g, h], .int .i64 p, .int .i64 n] _ hx (fun _ => rfl) w
end Go.Proofs.Ytafdklelfcccbaa
namespace Go.Proofs.Ytafdklelfcccbaa
open Go.RowKit
theorem info_u8 : (Try.prog.info? 5).map (fun i => (i.zero, i.size, i.bytes)) = some (some (.int .u8 0), 1, 1) := by kernel_rfl
theorem size_u8 : ∀ w, Sem.run Try.prog (Go.sizeOf 5) w = .ok 1 w := fun w => by
  obtain ⟨i0, hi, hz0, hz1, hz2⟩ := info_parts info_u8
  simp [Go.sizeOf, typeInfo, hi, hz1]
theorem eql_nil_bytes : ∀ (w : World) (a : Option Addr) (n c n' c' : Nat), (binOp .eql 22 (.slice a n c) (.slice none n' c')).run Try.prog w = .ok (.bool a.isNone) w :=
  fun w a n c n' c' => Lib.run_eql_slice_nil w _ _ a n c n' c' Try.underlying22
set_option maxHeartbeats 1000000 in
theorem clone_any (w : World) (v : Value) (l : List Int) (h : HB w v l) (hbig : l.length ≤ 140737488355328) :
    Calls Try.prog 53 #[v] w fun e w' => ∃ v', e = .returned v' ∧ w'.ownsRow w.heap.size 5 1 v' l.length (l.map (Value.int .u8)) ∧ Below w.heap.size w w' := by
  obtain ⟨i0, hi, hz0, hz1, hz2⟩ := info_parts info_u8
  have q22 := eql_nil_bytes
  obtain ⟨⟨p, c, rfl, hlc, hm, _, hcell⟩, hby⟩ := h
  cases p with
  | none =>
    have e : l = [] := by
      apply Classical.byContradiction
      intro hne
      obtain ⟨b, off, e, _⟩ := hcell hne
      cases e
    subst e
    go_enter Try.func53, Try.ntmps53
    go_wp2
    go_ret
    exact ⟨_, rfl, World.ownsRow_nil _ _ _ _, Below.refl _ _⟩
  | some a =>
    have A : Hid (l ≠ [] → ∃ b off, some a = some ⟨b, off, none⟩ ∧ ∀ j, j < l.length → w.cell? ⟨b, off + j, none⟩ = some (.int .u8 (l.getD j 0))) := hcell
    clear hcell
    go_enter Try.func53, Try.ntmps53
    go_wp2_with (at_builtin; refine wpList_append_own _ rfl _ _ 22 rfl w.heap.size 5 i0 (.int .u8 0) 1 1 Try.underlying22 hi hz0 hz1 hz2 rfl (by decide) _ _ _ rfl (World.ownsRow_made w #[] 0 (Nat.le_refl _) (Nat.zero_le _) rfl) a l.length c (l.map (Value.int .u8)) rfl ?qc1 ?qc2 ?qc3 ?qc4 ?qc5 ?qc6 ?_)
    case qc1 => simp
    case qc2 =>
      intro j u hj
      have hjn : j < l.length := by
        have := (List.getElem?_eq_some_iff.1 hj).1
        simpa using this
      refine Lib.cell?_alloc_some _ ?_
      obtain ⟨b, off, e, hh⟩ := A.out (by intro e; subst e; simp at hjn)
      cases e
      rw [Go.WideShapes.add_plain, hh j hjn]
      have e : (l.map (Value.int .u8))[j]? = some (Value.int .u8 (l.getD j 0)) := by simp [List.getD, List.getElem?_eq_getElem hjn]
      rw [e] at hj
      exact hj
    case qc3 => intro u hu; obtain ⟨x, _, rfl⟩ := List.mem_map.1 hu; rfl
    case qc4 => unfold maxLen; omega
    case qc5 => omega
    case qc6 => simp
    intro v' w1 hown hgrow hnil
    go_wp2
    go_ret
    exact ⟨v', rfl, by simpa using hown, ((Below.refl _ w).alloc (Nat.le_refl _) _).grown hgrow (by simp) (by intro k hk; simp [Value.ownBlock] at hk; omega)⟩
theorem grown_set (w : World) (g o : Nat) (u : Value) : w.grownBy (w.setCell ⟨g, o, none⟩ u) (some g) :=
  ⟨rfl, rfl, rfl, by simp, fun k _ hk => heap_setCell_other w ⟨g, o, none⟩ k u (fun e => hk (by simp [e]))⟩
theorem grown_trans {a b c : World} {r : Option Nat} (h : a.grownBy b r) (k : b.grownBy c r) : a.grownBy c r :=
  ⟨k.os.trans h.os, k.tape.trans h.tape, k.output.trans h.output, Nat.le_trans h.size k.size, fun i hi hr => (k.block i (Nat.lt_of_lt_of_le hi h.size) hr).trans (h.block i hi hr)⟩
theorem grown_below {a b : World} {r : Option Nat} (h : Below a.heap.size a b) : a.grownBy b r :=
  ⟨h.os, h.tape, h.output, h.size, fun i hi _ => h.block i hi⟩
theorem HB.sliced {w : World} {p : Option Addr} {c : Nat} {l : List Int} (h : HB w (.slice p l.length c) l) (lo hi m : Nat) (h1 : lo ≤ hi) (h2 : hi ≤ l.length) (h3 : hi ≤ m) (h4 : m ≤ c) : HB w (.slice (if m = lo then p else p.map (·.add lo)) (hi - lo) (m - lo)) ((l.take hi).drop lo) := by
  obtain ⟨⟨p', c', e, hc, hm, hpc, hcell⟩, hby⟩ := h
  simp only [Value.slice.injEq, true_and] at e
  obtain ⟨rfl, rfl⟩ := e
  have hlen : ((l.take hi).drop lo).length = hi - lo := by simp; omega
  refine ⟨⟨_, m - lo, by rw [hlen], by omega, by omega, fun e => ?_, fun hne => ?_⟩, fun x hx => hby x (List.mem_of_mem_take (List.mem_of_mem_drop hx))⟩
  · have : p = none := by
      split at e
      · exact e
      · cases p <;> simp_all
    have := hpc this
    omega
  have hlt : lo < hi := by
    apply Classical.byContradiction
    intro hn
    exact hne (List.length_eq_zero_iff.1 (by omega))
  obtain ⟨b, off, rfl, hk⟩ := hcell (by intro e; subst e; simp at h2; omega)
  rw [if_neg (by omega)]
  refine ⟨b, off + lo, by simp [Go.WideShapes.add_plain], fun j hj => ?_⟩
  rw [hlen] at hj
  have := hk (lo + j) (by omega)
  rw [show off + lo + j = off + (lo + j) by omega, this]
  have e1 : ((l.take hi).drop lo).getD j 0 = l.getD (lo + j) 0 := by
    simp only [List.getD, List.getElem?_drop, List.getElem?_take]
    rw [if_pos (by omega)]
  rw [e1]
theorem HB.pre {w : World} {p : Option Addr} {c : Nat} {l : List Int} (h : HB w (.slice p l.length c) l) (n : Nat) (hn : n ≤ l.length) : HB w (.slice p n n) (l.take n) := by
  obtain ⟨p', c', e, hc, _⟩ := h.open
  simp only [Value.slice.injEq, true_and] at e
  obtain ⟨rfl, rfl⟩ := e
  have := h.sliced 0 n n (Nat.zero_le _) hn (Nat.le_refl _) (by omega)
  have e : (if n = 0 then p else p.map (·.add 0)) = p := by
    split
    · rfl
    · cases p <;> simp [Addr.add]
  simpa [e] using this
theorem HB.suf {w : World} {p : Option Addr} {c : Nat} {l : List Int} (h : HB w (.slice p l.length c) l) (n : Nat) (hn : n ≤ l.length) : HB w (.slice (if c = n then p else p.map (·.add n)) (l.length - n) (c - n)) (l.drop n) := by
  obtain ⟨p', c', e, hc, _⟩ := h.open
  simp only [Value.slice.injEq, true_and] at e
  obtain ⟨rfl, rfl⟩ := e
  have := h.sliced n l.length c hn (Nat.le_refl _) hc (Nat.le_refl _)
  rwa [List.take_of_length_le (Nat.le_refl _)] at this
theorem HB.slice_form {w : World} {v : Value} {l : List Int} (h : HB w v l) : ∃ p c, v = .slice p l.length c := by
  obtain ⟨p, c, e, _⟩ := h.open
  exact ⟨p, c, e⟩
theorem wpList_append_HB {w : World} {ops : Array Oper} {rest : List Oper} {o : Oper} {a : Act} {Q : Exit → Act → World → Prop} (hgd : o.guard = none) (s x : Operand)
    (ho : o.op = .call { callee := .builtin .append, args := #[s, x], argTypes := #[22, 22] })
    (base : Nat) (v : Value) (n : Nat) (xs : List Value) (hs : a.eval s = v) (hown : w.ownsRow base 5 1 v n xs)
    (u : Value) (l : List Int) (hx : a.eval x = u) (hu : HB w u l) (hbytes : n + l.length ≤ 140737488355328) (hbase : base ≤ w.heap.size)
    (h : ∀ v' w', w'.ownsRow base 5 1 v' (n + l.length) (xs ++ l.map (Value.int .u8)) → w.grownBy w' v.ownBlock → wpList Try.prog ops Q rest (a.put o.dst v') w') : wpList Try.prog ops Q (o :: rest) a w := by
  obtain ⟨i0, hi, hz0, hz1, hz2⟩ := info_parts info_u8
  obtain ⟨⟨p, c, rfl, hlc, hm, hpc, hcell⟩, hby⟩ := hu
  cases p with
  | none =>
    have e : l = [] := by
      apply Classical.byContradiction
      intro hne
      obtain ⟨b, off, e, _⟩ := hcell hne
      cases e
    subst e
    have := hpc rfl
    subst this
    refine wpList_append_own_none hgd s x 22 ho base 5 i0 1 Try.underlying22 hi v n xs hs hown hx ?_
    exact h v w (by simpa using hown) ⟨rfl, rfl, rfl, Nat.le_refl _, fun _ _ _ => rfl⟩
  | some ad =>
    refine wpList_append_own w hgd s x 22 ho base 5 i0 (.int .u8 0) 1 1 Try.underlying22 hi hz0 hz1 hz2 rfl (by decide) v n xs hs hown ad l.length c (l.map (Value.int .u8)) hx (by simp) ?_ ?_ (by unfold maxLen; omega) (by omega) hbase (fun v' w' h1 h2 _ => h v' w' h1 h2)
    · intro j y hj
      have hjn : j < l.length := by
        have := (List.getElem?_eq_some_iff.1 hj).1
        simpa using this
      obtain ⟨b, off, e, hh⟩ := hcell (by intro e; subst e; simp at hjn)
      cases e
      rw [Go.WideShapes.add_plain, hh j hjn]
      have e : (l.map (Value.int .u8))[j]? = some (Value.int .u8 (l.getD j 0)) := by simp [List.getD, List.getElem?_eq_getElem hjn]
      rw [e] at hj
      exact hj
    · intro u hu; obtain ⟨x, _, rfl⟩ := List.mem_map.1 hu; rfl
theorem flat_snoc (ls : List (List Int)) (k : Nat) (hk : k < ls.length) : (ls.take (k + 1)).flatten = (ls.take k).flatten ++ ls.getD k [] := by
  rw [List.take_succ_eq_append_getElem hk, List.flatten_append]
  simp [List.getD, List.getElem?_eq_getElem hk]
theorem flat_take_le (ls : List (List Int)) (k : Nat) : (ls.take k).flatten.length ≤ ls.flatten.length := by
  conv => rhs; rw [← List.take_append_drop k ls, List.flatten_append, List.length_append]
  omega
def lensTo (ls : List (List Int)) (k : Nat) : Nat := (ls.take k).flatten.length
def flatTo (ls : List (List Int)) (k : Nat) : List Int := (ls.take k).flatten
theorem own_mono {w : World} {B B' e n : Nat} {v : Value} {xs : List Value} (h : w.ownsRow B e 1 v n xs) (hb : B' ≤ B) : w.ownsRow B' e 1 v n xs := by
  refine ⟨h.1, ?_⟩
  rcases h.2 with h2 | ⟨g, cap, cur, h1, h2, h3⟩
  · exact .inl h2
  · exact .inr ⟨g, cap, cur, h1, Nat.le_trans hb h2, h3⟩
theorem own_slc {w : World} {B n : Nat} {e : TypeId} {v : Value} {xs : List Value} (h : w.ownsRow B e 1 v n xs) : ∃ p c, v = .slice p n c := by
  rcases h.2 with ⟨rfl, rfl⟩ | ⟨g, cap, cur, rfl, _⟩
  · exact ⟨none, 0, rfl⟩
  · exact ⟨_, _, rfl⟩
theorem none_or (z : Option Nat) : z = none ∨ z ≠ none := by cases z <;> simp
theorem own_below {w w' : World} {B n : Nat} {e : TypeId} {v : Value} {xs : List Value} (h : w.ownsRow B e 1 v n xs) (hb : Below w.heap.size w w') : w'.ownsRow B e 1 v n xs :=
  h.kept ⟨hb.os, hb.tape, hb.output, hb.size, fun k hk _ => hb.block k hk⟩ (none_or _)
theorem own_ne {w w' : World} {B B' n n' : Nat} {e e' : TypeId} {v v' : Value} {xs xs' : List Value} (h : w.ownsRow B e 1 v n xs) (h' : w'.ownsRow B' e' 1 v' n' xs') (hb : w.heap.size ≤ B') :
    (v.ownBlock = none ∨ v.ownBlock ≠ v'.ownBlock) ∧ (v'.ownBlock = none ∨ v'.ownBlock ≠ v.ownBlock) := by
  constructor
  · rcases none_or v.ownBlock with q | q
    · exact .inl q
    · refine .inr fun e => ?_
      obtain ⟨k, hk⟩ := Option.ne_none_iff_exists'.1 q
      have h1 := h.lt k hk
      have h2 := h'.lt k (e ▸ hk)
      omega
  · rcases none_or v'.ownBlock with q | q
    · exact .inl q
    · refine .inr fun e => ?_
      obtain ⟨k, hk⟩ := Option.ne_none_iff_exists'.1 q
      have h1 := h'.lt k hk
      have h2 := h.lt k (e ▸ hk)
      omega
end Go.Proofs.Ytafdklelfcccbaa
namespace Go.Proofs.Ytafdklelfcccbaa
open Go Go.RowKit
theorem take_drop_len {l : List Int} {i n : Nat} (h : i + n ≤ l.length) : ((l.take (i + n)).drop i).length = n := by simp; omega
set_option maxRecDepth 100000 in
set_option maxHeartbeats 2000000 in
theorem piece_any (w : World) (v : Value) (l : List Int) (i n : Nat) (h : HB w v l) (hn1 : 1 ≤ n) (hle : i + n ≤ l.length) (hbig : l.length ≤ 140737488355328) :
    Calls Try.prog 50 #[v, .int .i64 i, .int .i64 n] w fun e w' => ∃ v', e = .returned v' ∧ w'.ownsRow w.heap.size 5 1 v' n (((l.take (i + n)).drop i).map (Value.int .u8)) ∧ Below w.heap.size w w' := by
  obtain ⟨p, c, rfl, hlc, hcm⟩ := h.open
  unfold maxLen at hcm
  have hs := h.sliced i (i + n) (i + n) (by omega) hle (Nat.le_refl _) (by omega)
  have C := hid (clone_any w _ _ hs (by rw [take_drop_len hle]; omega))
  have L := hid (take_drop_len hle)
  have sz := size_u8
  clear h hs
  obtain ⟨N, HN⟩ : ∃ N, Hid (i + n = N) := ⟨_, rfl⟩
  have hN : (i : Int) + (n : Int) = (N : Int) := by have := HN.out; omega
  have hN2 : N ≤ c := by have := HN.out; omega
  have hN3 : i < N := by have := HN.out; omega
  have hNi : ¬ N = i := by omega
  have hN4 : N ≤ 140737488355328 := by have := HN.out; omega
  rw [HN.out, if_neg hNi] at C
  rw [HN.out] at L
  rw [HN.out]
  go_enter Try.func50, Try.ntmps50
  go_wp2_with fail
  refine C.out.mono ?_
  rintro e w' ⟨v', rfl, ho, hB⟩
  rw [L.out] at ho
  have HO := hid ho
  have HBl := hid hB
  clear ho hB C
  go_wp2
  go_ret
  exact ⟨_, rfl, HO.out, HBl.out⟩
def sgE (t : Bool) (n : Nat) (d e j : Int) : Int := if t = true then (if (n : Int) = d then szE t e j else 91) else 92
def sgL (t : Bool) (l : List Int) (c d e f j : Int) : List Int := if sgE t l.length d e j = 0 then (l.take ((j * c).toNat + (szV t e j c f).toNat)).drop (j * c).toNat else []
theorem sgL_byt {t : Bool} {l : List Int} {c d e f j : Int} (h : ∀ x ∈ l, 0 ≤ x ∧ x < 256) : ∀ x ∈ sgL t l c d e f j, 0 ≤ x ∧ x < 256 := by
  unfold sgL
  split
  · exact fun x hx => h x (List.mem_of_mem_take (List.mem_of_mem_drop hx))
  · simp
theorem sgL_le (t : Bool) (l : List Int) (c d e f j : Int) : (sgL t l c d e f j).length ≤ l.length := by
  unfold sgL
  split
  · simp; omega
  · simp
theorem seg_fit {a b c d e f g h j : Int} {n : Nat} (hf : Ft a b c d e f g h) (hn : (n : Int) = d) (hj : 0 ≤ j ∧ j < e) :
    ∃ i m : Nat, j * c = (i : Int) ∧ szV true e j c f = (m : Int) ∧ 1 ≤ m ∧ i + m ≤ n ∧ n ≤ 16777216 := by
  obtain ⟨he, hff, _, _, s1, s2⟩ := hf.segs
  obtain ⟨⟨h1, h2, h3, h4, h5, h6, h7, h8, h9⟩, _⟩ := hf
  have us := up_split d c
  have tp := tlI_pos (x := d) h4
  have tl := tlI_le (x := d) h4
  have j0 : 0 ≤ j * c := Int.mul_nonneg hj.1 (by omega)
  have z1 : szV true e j c f = if j = e - 1 then f else c := by unfold szV; rw [if_pos rfl, if_pos hj]
  rw [← he] at us
  by_cases hl : j = e - 1
  · rw [if_pos hl] at z1
    rw [← hff] at us tp tl
    rw [← hl] at us
    refine ⟨(j * c).toNat, f.toNat, by omega, by omega, by omega, by omega, by omega⟩
  · rw [if_neg hl] at z1
    have hm : (j + 1) * c ≤ (e - 1) * c := Int.mul_le_mul_of_nonneg_right (by omega) (by omega)
    rw [Int.add_mul] at hm
    refine ⟨(j * c).toNat, c.toNat, by omega, by omega, by omega, by omega, by omega⟩
theorem shV8 (a b c d e f g h : Int) : shV [a, b, c, d, e, f, g, h] = .agg #[.int .i64 a, .int .i64 b, .int .i64 c, .int .i64 d, .int .i64 e, .int .i64 f, .int .i64 g, .int .i64 h] := rfl
theorem below_in {w w1 w2 : World} {o : Obj} (h : Below (w.alloc o).heap.size (w.alloc o) w1) : Below w.heap.size w w1 := (below_alloc w o).trans (h.mono (by simp))
set_option maxRecDepth 100000 in
set_option maxHeartbeats 4000000 in
theorem segment_any (w : World) (a b c d e f g h j : Int) (v : Value) (l : List Int) (hv : HB w v l) :
    Calls Try.prog 27 #[shV [a, b, c, d, e, f, g, h], v, .int .i64 j] w fun r w' => ∃ v', r = .returned (.tuple #[v', .int .i64 (sgE (ftB a b c d e f g h) l.length d e j)]) ∧ w'.ownsRow w.heap.size 5 1 v' (sgL (ftB a b c d e f g h) l c d e f j).length ((sgL (ftB a b c d e f g h) l c d e f j).map (Value.int .u8)) ∧ Below w.heap.size w w' := by
  have HV := hid hv
  obtain ⟨p, cc, rfl, hlc, hcm⟩ := hv.open
  unfold maxLen at hcm
  clear hv
  have CF : ∀ w, Hid (Calls Try.prog 19 #[.agg #[.int .i64 a, .int .i64 b, .int .i64 c, .int .i64 d, .int .i64 e, .int .i64 f, .int .i64 g, .int .i64 h]] w fun r w' => r = .returned (.bool (ftB a b c d e f g h)) ∧ Below w.heap.size w w') := fun w => fits_any w a b c d e f g h
  have CS : ∀ w, Hid (Calls Try.prog 21 #[.agg #[.int .i64 a, .int .i64 b, .int .i64 c, .int .i64 d, .int .i64 e, .int .i64 f, .int .i64 g, .int .i64 h], .int .i64 j] w fun r w' => r = .returned (.tuple #[.int .i64 (szV (ftB a b c d e f g h) e j c f), .int .i64 (szE (ftB a b c d e f g h) e j)]) ∧ Below w.heap.size w w') := fun w => segsize_any w a b c d e f g h j
  rw [shV8]
  go_enter Try.func27, Try.ntmps27
  go_wp2_with fail
  obtain ⟨W0, HW0⟩ : ∃ W0, Hid (w.alloc (.cells #[.int .i64 a, .int .i64 b, .int .i64 c, .int .i64 d, .int .i64 e, .int .i64 f, .int .i64 g, .int .i64 h] 27) = W0) := ⟨_, rfl⟩
  rw [HW0.out]
  have hS0 : W0.heap.size = w.heap.size + 1 := by rw [← HW0.out]; simp
  have HS0 := hid hS0
  have B0 : Hid (Below w.heap.size w W0) := by rw [← HW0.out]; exact below_alloc _ _
  have K0 : Hid (∀ i v, #[Value.int .i64 a, .int .i64 b, .int .i64 c, .int .i64 d, .int .i64 e, .int .i64 f, .int .i64 g, .int .i64 h][i]? = some v → W0.cell? ⟨w.heap.size, i, none⟩ = some v) := fun i v hi => by rw [← HW0.out, cell_of_row _ _ _ _ _ _ (heap_alloc_new w _)]; exact hi
  clear hS0
  refine (CF W0).out.mono ?_
  rintro e1 w1 ⟨rfl, hB1⟩
  have B1 := hid hB1
  have hS1 := hid hB1.size
  clear hB1
  have K1 : Hid (∀ i v, #[Value.int .i64 a, .int .i64 b, .int .i64 c, .int .i64 d, .int .i64 e, .int .i64 f, .int .i64 g, .int .i64 h][i]? = some v → w1.cell? ⟨w.heap.size, i, none⟩ = some v) := fun i v hi => (B1.out.cell (by have := HS0.out; show w.heap.size < _; omega)).trans (K0.out i v hi)
  have B01 : Hid (Below w.heap.size w w1) := B0.out.trans (B1.out.mono (by have := HS0.out; omega))
  by_cases hf : Ft a b c d e f g h
  case neg =>
    have hb : ftB a b c d e f g h = false := decide_eq_false hf
    have E1 : Hid (sgE false l.length d e j = 92) := if_neg (by decide)
    have E2 : Hid (sgL false l c d e f j = []) := if_neg (by rw [E1.out]; decide)
    have HBB := hid hb
    rw [hb]
    clear hb hf
    go_wp2
    go_ret2
    rw [HBB.out, E1.out, E2.out]
    exact ⟨_, rfl, World.ownsRow_nil _ _ _ _, B01.out⟩
  case pos =>
    have HF := hid hf
    have hb : ftB a b c d e f g h = true := decide_eq_true hf
    have HBB := hid hb
    rw [hb] at CS
    rw [hb]
    clear hb hf
    have c3 := K1.out 3 _ rfl
    by_cases hd : (l.length : Int) = d
    case neg =>
      have E1 : Hid (sgE true l.length d e j = 91) := by show _ = _; unfold sgE; rw [if_pos rfl, if_neg hd]
      have E2 : Hid (sgL true l c d e f j = []) := if_neg (by rw [E1.out]; decide)
      go_wp2
      go_ret2
      rw [HBB.out, E1.out, E2.out]
      exact ⟨_, rfl, World.ownsRow_nil _ _ _ _, B01.out⟩
    case pos =>
      have HD := hid hd
      have c0 := K1.out 0 _ rfl
      have c1 := K1.out 1 _ rfl
      have c2 := K1.out 2 _ rfl
      have c4 := K1.out 4 _ rfl
      have c5 := K1.out 5 _ rfl
      have c6 := K1.out 6 _ rfl
      have c7 := K1.out 7 _ rfl
      go_wp2_with fail
      refine (CS w1).out.mono ?_
      rintro e2 w2 ⟨rfl, hB2⟩
      have B2 := hid hB2
      have K2 : Hid (w2.cell? ⟨w.heap.size, 2, none⟩ = some (.int .i64 c)) := (B2.out.cell (by have := HS0.out; have := hS1.out; show w.heap.size < _; omega)).trans (K1.out 2 _ rfl)
      have B02 : Hid (Below w.heap.size w w2) := B01.out.trans (B2.out.mono (by have := HS0.out; have := hS1.out; omega))
      clear hB2 c0 c1 c2 c3 c4 c5 c6 c7
      by_cases hj : 0 ≤ j ∧ j < e
      case neg =>
        have E0 : szE true e j = 90 := by unfold szE; rw [if_pos rfl, if_neg hj]
        have E1 : Hid (sgE true l.length d e j = 90) := by show _ = _; unfold sgE; rw [if_pos rfl, if_pos HD.out, E0]
        have E2 : Hid (sgL true l c d e f j = []) := if_neg (by rw [E1.out]; decide)
        rw [E0]
        clear E0 hj
        go_wp2
        go_ret2
        rw [HBB.out, E1.out, E2.out]
        exact ⟨_, rfl, World.ownsRow_nil _ _ _ _, B02.out⟩
      case pos =>
        have E0 : szE true e j = 0 := by unfold szE; rw [if_pos rfl, if_pos hj]
        have E1 : Hid (sgE true l.length d e j = 0) := by show _ = _; unfold sgE; rw [if_pos rfl, if_pos HD.out, E0]
        obtain ⟨i, m, q1, q2, q3, q4, q5⟩ := seg_fit HF.out HD.out hj
        have E2 : Hid (sgL true l c d e f j = (l.take (i + m)).drop i) := by
          show _ = _
          unfold sgL
          rw [if_pos E1.out, q1, q2, Int.toNat_natCast, Int.toNat_natCast]
        rw [E0, q2]
        have CP := hid (piece_any w2 (.slice p l.length cc) l i m (HV.out.below B02.out) q3 q4 (by omega))
        have L := hid (take_drop_len q4)
        have hw : IntKind.i64.wrap (i : Int) = (i : Int) := wrap64 (by omega) (by omega)
        have k2 := K2.out
        clear E0 hj
        go_wp2_with fail
        refine CP.out.mono ?_
        rintro e3 w3 ⟨v3, rfl, ho3, hB3⟩
        have O3 := hid ho3
        have B3 := hid hB3
        clear ho3 hB3
        go_wp2
        go_ret2
        rw [HBB.out]
        refine ⟨v3, by rw [E1.out]; rfl, ?_, B02.out.trans (B3.out.mono B02.out.size)⟩
        rw [E2.out, L.out]
        exact own_mono O3.out B02.out.size
set_option maxRecDepth 100000 in
set_option maxHeartbeats 4000000 in
theorem rsegment_any (w : World) (a b c d e f g h j : Int) (v : Value) (l : List Int) (hv : HB w v l) :
    Calls Try.prog 28 #[shV [a, b, c, d, e, f, g, h], v, .int .i64 j] w fun r w' => ∃ v', r = .returned (.tuple #[v', .int .i64 (sgE (ftB a b c d e f g h) l.length d e j)]) ∧ w'.ownsRow w.heap.size 5 1 v' (sgL (ftB a b c d e f g h) l c d e f j).length ((sgL (ftB a b c d e f g h) l c d e f j).map (Value.int .u8)) ∧ Below w.heap.size w w' := by
  have HV := hid hv
  obtain ⟨p, cc, rfl, hlc, hcm⟩ := hv.open
  unfold maxLen at hcm
  clear hv
  have CF : ∀ w, Hid (Calls Try.prog 20 #[.agg #[.int .i64 a, .int .i64 b, .int .i64 c, .int .i64 d, .int .i64 e, .int .i64 f, .int .i64 g, .int .i64 h]] w fun r w' => r = .returned (.bool (ftB a b c d e f g h)) ∧ Below w.heap.size w w') := fun w => rfits_any w a b c d e f g h
  have CS : ∀ w, Hid (Calls Try.prog 24 #[.agg #[.int .i64 a, .int .i64 b, .int .i64 c, .int .i64 d, .int .i64 e, .int .i64 f, .int .i64 g, .int .i64 h], .int .i64 j] w fun r w' => r = .returned (.tuple #[.int .i64 (szV (ftB a b c d e f g h) e j c f), .int .i64 (szE (ftB a b c d e f g h) e j)]) ∧ Below w.heap.size w w') := fun w => rsegsize_any w a b c d e f g h j
  rw [shV8]
  go_enter Try.func28, Try.ntmps28
  go_wp2_with fail
  obtain ⟨W0, HW0⟩ : ∃ W0, Hid (w.alloc (.cells #[.int .i64 a, .int .i64 b, .int .i64 c, .int .i64 d, .int .i64 e, .int .i64 f, .int .i64 g, .int .i64 h] 27) = W0) := ⟨_, rfl⟩
  rw [HW0.out]
  have hS0 : W0.heap.size = w.heap.size + 1 := by rw [← HW0.out]; simp
  have HS0 := hid hS0
  have B0 : Hid (Below w.heap.size w W0) := by rw [← HW0.out]; exact below_alloc _ _
  have K0 : Hid (∀ i v, #[Value.int .i64 a, .int .i64 b, .int .i64 c, .int .i64 d, .int .i64 e, .int .i64 f, .int .i64 g, .int .i64 h][i]? = some v → W0.cell? ⟨w.heap.size, i, none⟩ = some v) := fun i v hi => by rw [← HW0.out, cell_of_row _ _ _ _ _ _ (heap_alloc_new w _)]; exact hi
  clear hS0
  refine (CF W0).out.mono ?_
  rintro e1 w1 ⟨rfl, hB1⟩
  have B1 := hid hB1
  have hS1 := hid hB1.size
  clear hB1
  have K1 : Hid (∀ i v, #[Value.int .i64 a, .int .i64 b, .int .i64 c, .int .i64 d, .int .i64 e, .int .i64 f, .int .i64 g, .int .i64 h][i]? = some v → w1.cell? ⟨w.heap.size, i, none⟩ = some v) := fun i v hi => (B1.out.cell (by have := HS0.out; show w.heap.size < _; omega)).trans (K0.out i v hi)
  have B01 : Hid (Below w.heap.size w w1) := B0.out.trans (B1.out.mono (by have := HS0.out; omega))
  by_cases hf : Ft a b c d e f g h
  case neg =>
    have hb : ftB a b c d e f g h = false := decide_eq_false hf
    have E1 : Hid (sgE false l.length d e j = 92) := if_neg (by decide)
    have E2 : Hid (sgL false l c d e f j = []) := if_neg (by rw [E1.out]; decide)
    have HBB := hid hb
    rw [hb]
    clear hb hf
    go_wp2
    go_ret2
    rw [HBB.out, E1.out, E2.out]
    exact ⟨_, rfl, World.ownsRow_nil _ _ _ _, B01.out⟩
  case pos =>
    have HF := hid hf
    have hb : ftB a b c d e f g h = true := decide_eq_true hf
    have HBB := hid hb
    rw [hb] at CS
    rw [hb]
    clear hb hf
    have c3 := K1.out 3 _ rfl
    by_cases hd : (l.length : Int) = d
    case neg =>
      have E1 : Hid (sgE true l.length d e j = 91) := by show _ = _; unfold sgE; rw [if_pos rfl, if_neg hd]
      have E2 : Hid (sgL true l c d e f j = []) := if_neg (by rw [E1.out]; decide)
      go_wp2
      go_ret2
      rw [HBB.out, E1.out, E2.out]
      exact ⟨_, rfl, World.ownsRow_nil _ _ _ _, B01.out⟩
    case pos =>
      have HD := hid hd
      have c0 := K1.out 0 _ rfl
      have c1 := K1.out 1 _ rfl
      have c2 := K1.out 2 _ rfl
      have c4 := K1.out 4 _ rfl
      have c5 := K1.out 5 _ rfl
      have c6 := K1.out 6 _ rfl
      have c7 := K1.out 7 _ rfl
      go_wp2_with fail
      refine (CS w1).out.mono ?_
      rintro e2 w2 ⟨rfl, hB2⟩
      have B2 := hid hB2
      have K2 : Hid (w2.cell? ⟨w.heap.size, 2, none⟩ = some (.int .i64 c)) := (B2.out.cell (by have := HS0.out; have := hS1.out; show w.heap.size < _; omega)).trans (K1.out 2 _ rfl)
      have B02 : Hid (Below w.heap.size w w2) := B01.out.trans (B2.out.mono (by have := HS0.out; have := hS1.out; omega))
      clear hB2 c0 c1 c2 c3 c4 c5 c6 c7
      by_cases hj : 0 ≤ j ∧ j < e
      case neg =>
        have E0 : szE true e j = 90 := by unfold szE; rw [if_pos rfl, if_neg hj]
        have E1 : Hid (sgE true l.length d e j = 90) := by show _ = _; unfold sgE; rw [if_pos rfl, if_pos HD.out, E0]
        have E2 : Hid (sgL true l c d e f j = []) := if_neg (by rw [E1.out]; decide)
        rw [E0]
        clear E0 hj
        go_wp2
        go_ret2
        rw [HBB.out, E1.out, E2.out]
        exact ⟨_, rfl, World.ownsRow_nil _ _ _ _, B02.out⟩
      case pos =>
        have E0 : szE true e j = 0 := by unfold szE; rw [if_pos rfl, if_pos hj]
        have E1 : Hid (sgE true l.length d e j = 0) := by show _ = _; unfold sgE; rw [if_pos rfl, if_pos HD.out, E0]
        obtain ⟨i, m, q1, q2, q3, q4, q5⟩ := seg_fit HF.out HD.out hj
        have E2 : Hid (sgL true l c d e f j = (l.take (i + m)).drop i) := by
          show _ = _
          unfold sgL
          rw [if_pos E1.out, q1, q2, Int.toNat_natCast, Int.toNat_natCast]
        rw [E0, q2]
        have L := hid (take_drop_len q4)
        have hw : IntKind.i64.wrap (i : Int) = (i : Int) := wrap64 (by omega) (by omega)
        have k2 := K2.out
        have hs := (HV.out.below B02.out).sliced i (i + m) cc (by omega) q4 (by omega) (Nat.le_refl _)
        obtain ⟨N, HN⟩ : ∃ N, Hid (i + m = N) := ⟨_, rfl⟩
        have hN : (i : Int) + (m : Int) = (N : Int) := by have := HN.out; omega
        have hN2 : N ≤ cc := by have := HN.out; omega
        have hN3 : i < N := by have := HN.out; omega
        have hN4 : N ≤ 16777216 := by have := HN.out; omega
        have hNi : ¬ cc = i := by omega
        have hci : i ≤ cc := by omega
        rw [HN.out, if_neg hNi] at hs
        rw [HN.out] at L E2
        have HS := hid hs
        have sz := size_u8
        have HL4 := hid q4
        have HL5 := hid q5
        clear E0 hj hs q4 q5 q3
        go_wp2_with (at_builtin; refine wpList_append_HB rfl _ _ rfl w2.heap.size _ 0 [] rfl (World.ownsRow_nil _ _ _ _) _ _ rfl HS.out ?q1 ?q2 ?_)
        case q1 => rw [L.out]; have := HL4.out; have := HL5.out; omega
        case q2 => exact Nat.le_refl _
        intro v3 w3 hown hgr
        have O3 : Hid (w3.ownsRow w2.heap.size 5 1 v3 m (((l.take N).drop i).map (Value.int .u8))) := by
          show World.ownsRow _ _ _ _ _ _ _
          rw [show min N l.length - i = m by have := HL4.out; have := HN.out; omega] at hown
          simpa [List.map_drop, List.map_take] using hown
        have B3 := hid ((Below.refl _ w2).grown hgr (Nat.le_refl _) (fun k e => by cases e))
        clear hown hgr
        go_wp2
        go_ret2
        rw [HBB.out]
        refine ⟨v3, by rw [E1.out]; rfl, ?_, B02.out.trans (B3.out.mono B02.out.size)⟩
        rw [E2.out, L.out]
        exact own_mono O3.out B02.out.size
end Go.Proofs.Ytafdklelfcccbaa
namespace Go.Proofs.Ytafdklelfcccbaa
open Go Go.RowKit Go.Shelf
attribute [local go_sem] Oper.semAt_some
def pcN (len size : Nat) : Nat := (len - 1) / size + 1
def pcAt (size k : Nat) : Nat := k * size
def pcP (l : List Int) (size k : Nat) : List Int := (l.take (pcAt size k + min size (l.length - pcAt size k))).drop (pcAt size k)
theorem pcN_iff {len size k : Nat} (hs : 1 ≤ size) (hl : 1 ≤ len) : k < pcN len size ↔ pcAt size k < len := by
  unfold pcN pcAt
  rw [Nat.lt_succ_iff, Nat.le_div_iff_mul_le (by omega)]
  omega
theorem pcN_up {len size : Nat} (hl : 1 ≤ len) : upI (len : Int) (size : Int) = (pcN len size : Int) := by
  unfold upI pcN
  rw [show (len : Int) - 1 = ((len - 1 : Nat) : Int) by omega]
  simp
theorem pcP_length (l : List Int) (size k : Nat) : (pcP l size k).length = min size (l.length - pcAt size k) := by
  unfold pcP
  simp
  omega
structure PcBox (w : World) (hv : Value) (b5 b3 : Nat) (l : List Int) (size : Nat) : Prop where
  row : HB w hv l
  held : w.cell? ⟨b5, 0, none⟩ = some hv
  sz : w.cell? ⟨b3, 0, none⟩ = some (.int .i64 size)
def pcD (hv : Value) (b5 b3 : Nat) (i : Nat) : Prop := i = b5 ∨ i = b3 ∨ hv.ownBlock = some i
theorem cell_of_blk {A C : World} {a : Addr} (h : C.heap[a.block]? = A.heap[a.block]?) : C.cell? a = A.cell? a := by simp [World.cell?, h]
theorem PcBox.kept {A C : World} {hv : Value} {b5 b3 size : Nat} {l : List Int} (h : PcBox A hv b5 b3 l size) (k : KD (pcD hv b5 b3) A C) : PcBox C hv b5 b3 l size := by
  refine ⟨?_, (cell_of_blk (k.2 b5 (.inl rfl))).trans h.held, (cell_of_blk (k.2 b3 (.inr (.inl rfl)))).trans h.sz⟩
  obtain ⟨⟨p, c, rfl, h2, h3, h6, h4⟩, h5⟩ := h.row
  refine ⟨⟨p, c, rfl, h2, h3, h6, fun hl => ?_⟩, h5⟩
  obtain ⟨b, off, rfl, hh⟩ := h4 hl
  exact ⟨b, off, rfl, fun j hj => (cell_of_blk (a := ⟨b, off + j, none⟩) (k.2 b (.inr (.inr rfl)))).trans (hh j hj)⟩
set_option maxRecDepth 100000 in
set_option maxHeartbeats 1000000 in
theorem pieces_any (w : World) (v : Value) (l : List Int) (size : Nat) (h : HB w v l) :
    Calls Try.prog 52 #[v, .int .i64 size] w fun e w' => ∃ b5 b3, e = .returned (.func (.func 54) #[] #[.pointer (some ⟨b5, 0, none⟩), .pointer (some ⟨b3, 0, none⟩)]) ∧ PcBox w' v b5 b3 l size ∧ b5 = w.heap.size ∧ b3 = w.heap.size + 1 ∧ w'.heap.size = w.heap.size + 2 ∧ w'.heap[b5]? = some (.cells #[v] 22 (0, 0)) ∧ w'.heap[b3]? = some (.cells #[.int .i64 size] 3 (0, 0)) ∧ Below w.heap.size w w' := by
  have H := hid h
  obtain ⟨p, c, rfl, _, _⟩ := h.open
  clear h
  go_enter Try.func52, Try.ntmps52
  go_wp2
  go_ret
  obtain ⟨W1, HW1⟩ : ∃ W1, Hid (w.alloc (.cells #[.slice p l.length c] 22) = W1) := ⟨_, rfl⟩
  have hs1 : W1.heap.size = w.heap.size + 1 := by rw [← HW1.out]; simp
  have B1 : Below w.heap.size w W1 := by rw [← HW1.out]; exact below_alloc _ _
  have hb1 : W1.heap[w.heap.size]? = some (.cells #[.slice p l.length c] 22 (0, 0)) := by rw [← HW1.out]; exact heap_alloc_new w _
  have B2 : Below W1.heap.size W1 (W1.alloc (.cells #[.int .i64 size] 3)) := below_alloc _ _
  refine ⟨w.heap.size, w.heap.size + 1, rfl, ⟨?_, ?_, ?_⟩, rfl, rfl, ?_, ?_, ?_, ?_⟩
  · rw [HW1.out]; exact (H.out.below B1).below B2
  · rw [HW1.out, cell_of_row _ _ _ _ _ _ ((B2.block w.heap.size (by omega)).trans hb1)]; rfl
  · rw [HW1.out, ← hs1, cell_of_row _ _ _ _ _ _ (heap_alloc_new W1 _)]; rfl
  · rw [HW1.out]; simp [hs1]
  · rw [HW1.out]; exact (B2.block w.heap.size (by omega)).trans hb1
  · rw [HW1.out, ← hs1]; exact heap_alloc_new W1 _
  · rw [HW1.out]; exact B1.trans (B2.mono (by omega))
set_option maxRecDepth 100000 in
set_option maxHeartbeats 4000000 in
theorem pieces_iter (n : Nat) (w0 : World) (hv : Value) (b5 b3 : Nat) (l : List Int) (size : Nat) (hs : 1 ≤ size) (hs2 : size ≤ 1073741824) (hl1 : 1 ≤ l.length) (hbig : l.length ≤ 1073741824) (hbox : PcBox w0 hv b5 b3 l size) (hD : ∀ i, pcD hv b5 b3 i → i < w0.heap.size) :
    IterF Fence.wide n Try.prog 54 #[.pointer (some ⟨b5, 0, none⟩), .pointer (some ⟨b3, 0, none⟩)] (fun k v => #[.int .i64 (k : Nat), v])
      (fun k v W => W.ownsRow w0.heap.size 5 1 v (pcP l size k).length ((pcP l size k).map (Value.int .u8))) (pcD hv b5 b3) (pcN l.length size) w0 := fun l' J Jx W hK hJ hY h0 => by
  have HBx := hid (hbox.kept hK)
  have HK := hid hK
  have HJ := hid hJ
  have HY := hid hY
  have H0 := hid h0
  have HD := hid hD
  clear hbox hK hJ hY h0 hD
  refine callsIn_of_wp Try.func54 rfl trivial ?_ rfl
  simp only [Try.ntmps54, List.size_toArray, List.length_cons, List.length_nil, Nat.reduceAdd, Nat.reduceSub, Array.replicate_succ, Array.replicate_zero, List.push_toArray, List.append_toArray, List.nil_append, List.cons_append]
  obtain ⟨p, c, rfl, hlc, hcm⟩ := HBx.out.row.open
  unfold maxLen at hcm
  have c5 := HBx.out.held
  have c3 := HBx.out.sz
  have CU := hid (upward_any W (l.length : Int) (size : Int) (by omega) (by omega) (by omega))
  rw [pcN_up hl1] at CU
  have hNle : pcN l.length size ≤ l.length := by
    unfold pcN
    have := Nat.div_le_self (l.length - 1) size
    omega
  obtain ⟨N, HN⟩ : ∃ N, Hid (pcN l.length size = N) := ⟨_, rfl⟩
  rw [HN.out] at CU hNle
  have HI := hid (fun k => (HN.out ▸ pcN_iff hs hl1 : k < N ↔ pcAt size k < l.length))
  gi_wp2
  refine ⟨trivial, fun h => absurd h (by simp [Fence.wide]), callsIn_wide.2 (CU.out.mono ?_)⟩
  rintro e wz ⟨rfl, hwz⟩
  rw [hwz]
  clear hwz wz CU c5 c3
  gi_wp2
  gi_loopw [10] (fun i wr => ∃ k : Nat, Hid (k ≤ N) ∧ i = .int .i64 (k : Int) ∧ Hid (J k wr) ∧ Hid (KD (pcD (.slice p l.length c) b5 b3) W wr)) (fun i _ => N - (intOf i).toNat)
  case atStart => exact ⟨0, Nat.zero_le _, rfl, H0, KD.refl _ _⟩
  case round =>
    obtain ⟨k, hk, rfl, HJk, HKk⟩ := hrel
    have hbx := HBx.out.kept HKk.out
    have c5 := hbx.held
    have c3 := hbx.sz
    have HR := hid hbx.row
    clear hbx
    by_cases hlt : k < N
    · obtain ⟨A, HA⟩ : ∃ A, Hid (pcAt size k = A) := ⟨_, rfl⟩
      have hAl : A < l.length := by rw [← HA.out]; exact (HI.out k).1 hlt
      have hmul : (k : Int) * (size : Int) = (A : Int) := by rw [← HA.out]; unfold pcAt; simp
      have hwA : IntKind.i64.wrap (A : Int) = (A : Int) := wrap64 (by omega) (by omega)
      obtain ⟨m, HM⟩ : ∃ m, Hid (min size (l.length - A) = m) := ⟨_, rfl⟩
      have hm1 : 1 ≤ m := by rw [← HM.out]; omega
      have hm2 : A + m ≤ l.length := by rw [← HM.out]; omega
      have HP : Hid (pcP l size k = (l.take (A + m)).drop A) := by
        show _ = _
        unfold pcP
        rw [HA.out, HM.out]
      have HPl : Hid ((pcP l size k).length = m) := by
        show _ = _
        rw [pcP_length, HA.out, HM.out]
      have hsub : (l.length : Int) - (A : Int) = ((l.length - A : Nat) : Int) := by omega
      have CP := hid (piece_any wr (.slice p l.length c) l A m HR.out hm1 hm2 (by omega))
      have HKW : Hid (w0.heap.size ≤ wr.heap.size) := Nat.le_trans HK.out.1 HKk.out.1
      by_cases hms : size ≤ l.length - A
      · have hme : m = size := by rw [← HM.out]; omega
        have hmi : (size : Int) ≤ ((l.length - A : Nat) : Int) := by omega
        rw [hme] at CP
        clear hms
        gi_wp2
        refine ⟨trivial, fun h => absurd h (by simp [Fence.wide]), callsIn_wide.2 (CP.out.mono ?_)⟩
        rintro e w1 ⟨v1, rfl, hown, hB⟩
        have hJ1 := HJ.out k wr w1 HJk.out (grown_below hB)
        have hown' : w1.ownsRow w0.heap.size 5 1 v1 (pcP l size k).length ((pcP l size k).map (Value.int .u8)) := by
          rw [HPl.out, HP.out, hme]
          exact own_mono hown HKW.out
        obtain ⟨fn, tmps, assign, body, hy, hR⟩ := HY.out k v1 w1 hJ1 hown' (by rw [HN.out]; exact hlt)
        have HRR := hid hR
        have HKD : Hid (KD (pcD (.slice p l.length c) b5 b3) wr w1) := ⟨hB.size, fun i hi => hB.block i (Nat.lt_of_lt_of_le (HD.out i hi) (Nat.le_trans HK.out.1 HKk.out.1))⟩
        have hkN := hlt
        clear hown hown' hB hJ1 hR CP c5 c3
        gi_wp2
        refine ⟨fun h => absurd h (by simp [Fence.wide]), HRR.out.mono ?_⟩
        rintro e W3 (⟨rfl, hJ3, hk3⟩ | ⟨rfl, hJx3⟩)
        · clear HRR hy
          have HF3 := hid (And.intro hk3 hJ3)
          clear hk3 hJ3
          gi_wp2
          go_roundw
          case rel => exact ⟨k + 1, hkN, by go_num, HF3.out.2, HKk.out.trans (HKD.out.trans HF3.out.1)⟩
          case measure => simp [intOf]; omega
        · clear HRR hy
          have HF3 := hid hJx3
          clear hJx3
          gi_wp2
          refine bodyPost_ret (results_none rfl _ _ _) rfl ?_
          exact ⟨⟨_, rfl⟩, .inr HF3.out⟩
      · have hme : m = l.length - A := by rw [← HM.out]; omega
        have hmi : ((l.length - A : Nat) : Int) < (size : Int) := by omega
        rw [hme] at CP
        clear hms
        gi_wp2
        refine ⟨trivial, fun h => absurd h (by simp [Fence.wide]), callsIn_wide.2 (CP.out.mono ?_)⟩
        rintro e w1 ⟨v1, rfl, hown, hB⟩
        have hJ1 := HJ.out k wr w1 HJk.out (grown_below hB)
        have hown' : w1.ownsRow w0.heap.size 5 1 v1 (pcP l size k).length ((pcP l size k).map (Value.int .u8)) := by
          rw [HPl.out, HP.out, hme]
          exact own_mono hown HKW.out
        obtain ⟨fn, tmps, assign, body, hy, hR⟩ := HY.out k v1 w1 hJ1 hown' (by rw [HN.out]; exact hlt)
        have HRR := hid hR
        have HKD : Hid (KD (pcD (.slice p l.length c) b5 b3) wr w1) := ⟨hB.size, fun i hi => hB.block i (Nat.lt_of_lt_of_le (HD.out i hi) (Nat.le_trans HK.out.1 HKk.out.1))⟩
        have hkN := hlt
        clear hown hown' hB hJ1 hR CP c5 c3
        gi_wp2
        refine ⟨fun h => absurd h (by simp [Fence.wide]), HRR.out.mono ?_⟩
        rintro e W3 (⟨rfl, hJ3, hk3⟩ | ⟨rfl, hJx3⟩)
        · clear HRR hy
          have HF3 := hid (And.intro hk3 hJ3)
          clear hk3 hJ3
          gi_wp2
          go_roundw
          case rel => exact ⟨k + 1, hkN, by go_num, HF3.out.2, HKk.out.trans (HKD.out.trans HF3.out.1)⟩
          case measure => simp [intOf]; omega
        · clear HRR hy
          have HF3 := hid hJx3
          clear hJx3
          gi_wp2
          refine bodyPost_ret (results_none rfl _ _ _) rfl ?_
          exact ⟨⟨_, rfl⟩, .inr HF3.out⟩
    · have HKE : Hid (k = N) := by have := hk.out; show _ = _; omega
      gi_wp2
      go_end0
      rw [HN.out, ← HKE.out]
      exact ⟨⟨_, rfl⟩, .inl HJk.out⟩
end Go.Proofs.Ytafdklelfcccbaa
namespace Go.Proofs.Ytafdklelfcccbaa
open Go.RowKit
theorem take_eq_step (la lb : List Int) (k : Nat) (ha : k < la.length) (hb : k < lb.length) (h : la.take k = lb.take k) (e : la.getD k 0 = lb.getD k 0) : la.take (k + 1) = lb.take (k + 1) := by
  rw [List.take_succ_eq_append_getElem ha, List.take_succ_eq_append_getElem hb, h]
  have e1 : la.getD k 0 = la[k] := by simp [List.getD, List.getElem?_eq_getElem ha]
  have e2 : lb.getD k 0 = lb[k] := by simp [List.getD, List.getElem?_eq_getElem hb]
  rw [e1, e2] at e
  rw [e]
theorem take_ne (la lb : List Int) (k : Nat) (e : la.getD k 0 ≠ lb.getD k 0) : la ≠ lb := fun h => e (by rw [h])
set_option maxHeartbeats 400000 in
theorem sameBytes_any (w : World) (va vb : Value) (la lb : List Int) (ha : HB w va la) (hb : HB w vb lb) :
    Calls Try.prog 29 #[va, vb] w fun e w' => e = .returned (.bool (decide (la = lb))) ∧ Dr w w' := by
  by_cases hlen : la.length = lb.length
  · by_cases h0 : 0 < la.length
    · obtain ⟨b1, o1, c1, rfl, hc1, hm1, hk1⟩ := ha.ne h0
      obtain ⟨b2, o2, c2, rfl, hc2, hm2, hk2⟩ := hb.ne (by omega)
      unfold maxLen at hm1 hm2
      have hm : la.length ≤ 9223372036854775807 := by omega
      have HL : Hid (la.length = lb.length) := hlen
      rw [← hlen]
      have hcd : ∀ j, j < la.length → w.cell? ⟨b2, o2 + j, none⟩ = some (.int .u8 (lb.getD j 0)) := fun j hj => hk2 j (by omega)
      clear hlen hk2
      go_enter Try.func29, Try.ntmps29
      go_wp2
      go_loopw [5] (fun i wr => ∃ k : Nat, k ≤ la.length ∧ i = .int .i64 k ∧ la.take k = lb.take k ∧ Dr w wr) (fun i _ => la.length - (intOf i).toNat)
      case atStart => exact ⟨0, Nat.zero_le _, rfl, rfl, Dr.refl _⟩
      case round =>
        obtain ⟨k, hk, rfl, ht, q, rfl⟩ := hrel
        by_cases hlt : k < la.length
        · have g1 := hk1 k hlt
          have g2 := hcd k hlt
          obtain ⟨x, hx⟩ : ∃ x, la.getD k 0 = x := ⟨_, rfl⟩
          obtain ⟨y, hy⟩ : ∃ y, lb.getD k 0 = y := ⟨_, rfl⟩
          rw [hx] at g1
          rw [hy] at g2
          have HX := hid hx
          have HY := hid hy
          clear hx hy hk1 hcd
          by_cases he : x = y
          · have hne : (x != y) = false := by simpa using he
            have HE := hid he
            clear he
            go_wp2
            go_quiet (fail)
            go_wp2
            exact ⟨⟨k + 1, by omega, by go_num, take_eq_step la lb k hlt (by have := HL.out; omega) ht (by rw [HX.out, HY.out, HE.out]), Dr.one _ _⟩, by simp [intOf]; omega⟩
          · have hne : (x != y) = true := by simpa using he
            go_wp2
            go_quiet (fail)
            go_wp2
            go_ret
            exact ⟨by simp [take_ne la lb k (by rw [HX.out, HY.out]; exact he)], (Dr.one _ _).drewN _⟩
        · go_wp2
          go_ret
          have e : la = lb := by
            have h1 := List.take_of_length_le (show la.length ≤ k by omega)
            have h2 := List.take_of_length_le (show lb.length ≤ k by have := HL.out; omega)
            rw [← h1, ← h2, ht]
          exact ⟨by simp [e], Dr.one _ _⟩
    · obtain ⟨p1, c1, rfl, _, _⟩ := ha.open
      obtain ⟨p2, c2, rfl, _, _⟩ := hb.open
      have e1 : la = [] := List.length_eq_zero_iff.1 (by omega)
      have e2 : lb = [] := List.length_eq_zero_iff.1 (by omega)
      subst e1 e2
      go_enter Try.func29, Try.ntmps29
      go_wp2
      go_loop [5] (fun i => i = .int .i64 0) (fun _ => 0)
      case atStart => rfl
      case round =>
        subst hrel
        go_wp2
        go_ret
        exact ⟨rfl, Dr.refl _⟩
  · obtain ⟨p1, c1, rfl, _, _⟩ := ha.open
    obtain ⟨p2, c2, rfl, _, _⟩ := hb.open
    have hne : ((la.length : Int) != (lb.length : Int)) = true := by rw [bne_iff_ne]; omega
    go_enter Try.func29, Try.ntmps29
    go_wp2
    go_ret
    exact ⟨by simp [show la ≠ lb from fun e => hlen (by rw [e])], Dr.refl _⟩
theorem info_bytes : (Try.prog.info? 22).map (fun i => (i.zero, i.size, i.bytes)) = some (some (.slice none 0 0), 1, 24) := by kernel_rfl
def BytI (l : List Int) : Prop := ∀ x ∈ l, 0 ≤ x ∧ x < 256
def EL (w0 w : World) (u : Value) (l : List Int) : Prop :=
  (w.ownsRow w0.heap.size 5 1 u l.length (l.map (Value.int .u8)) ∧ BytI l) ∨ HB w0 u l
def OWL (w0 w : World) (v : Value) (ls : List (List Int)) : Prop :=
  ∃ xs, w.ownsRow w0.heap.size 22 1 v ls.length xs ∧ ∀ j, j < ls.length → EL w0 w (xs.getD j undef) (ls.getD j [])
theorem EL.hb {w0 w : World} {u : Value} {l : List Int} (h : EL w0 w u l) (hb : Below w0.heap.size w0 w) : HB w u l := by
  rcases h with ⟨h, hx⟩ | h
  · exact HB.of_own h hx
  · exact h.below hb
theorem own_block_ne {w : World} {B e n : Nat} {v : Value} {xs : List Value} (h : w.ownsRow B e 1 v n xs) {g : Nat} {cur : Array Value} {e' : TypeId} {fz : Nat × Nat} (hg : w.heap[g]? = some (.cells cur e' fz)) (hne : e ≠ e') : v.ownBlock ≠ some g := by
  intro hv
  rcases h.2 with ⟨rfl, _⟩ | ⟨g', cap, cur', rfl, _, hh, _⟩
  · simp [Value.ownBlock] at hv
  · simp only [Value.ownBlock, Option.some.injEq] at hv
    subst hv
    rw [hh] at hg
    simp only [Option.some.injEq, Obj.cells.injEq] at hg
    exact hne hg.2.1
theorem EL.grown {w0 w w' : World} {u : Value} {l : List Int} {row : Option Nat} (h : EL w0 w u l) (hg : w.grownBy w' row) (hr : ∀ g, row = some g → ∃ cur e fz, w.heap[g]? = some (.cells cur e fz) ∧ 5 ≠ e) : EL w0 w' u l := by
  rcases h with ⟨h, hx⟩ | h
  · refine .inl ⟨h.kept hg ?_, hx⟩
    cases hrow : row with
    | none =>
      cases hv : u.ownBlock with
      | none => exact .inl rfl
      | some k => exact .inr (by simp)
    | some g =>
      obtain ⟨cur, e, fz, hh, hne⟩ := hr g hrow
      exact .inr (own_block_ne h hh hne)
  · exact .inr h
theorem OWL.grown {w0 w w' : World} {v : Value} {ls : List (List Int)} {row : Option Nat} (h : OWL w0 w v ls) (hg : w.grownBy w' row) (hr : ∀ g, row = some g → ∃ cur e fz, w.heap[g]? = some (.cells cur e fz) ∧ 5 ≠ e ∧ 22 ≠ e) : OWL w0 w' v ls := by
  obtain ⟨xs, h1, h2⟩ := h
  refine ⟨xs, h1.kept hg ?_, fun j hj => (h2 j hj).grown hg fun g e => ?_⟩
  · cases hrow : row with
    | none =>
      cases hv : v.ownBlock with
      | none => exact .inl rfl
      | some k => exact .inr (by simp)
    | some g =>
      obtain ⟨cur, e, fz, hh, _, hne⟩ := hr g hrow
      exact .inr (own_block_ne h1 hh hne)
  · obtain ⟨cur, e', fz, hh, hne, _⟩ := hr g e
    exact ⟨cur, e', fz, hh, hne⟩
theorem OWL.below {w0 w w' : World} {v : Value} {ls : List (List Int)} (h : OWL w0 w v ls) (hb : Below w.heap.size w w') : OWL w0 w' v ls :=
  h.grown (row := none) ⟨hb.os, hb.tape, hb.output, hb.size, fun k hk _ => hb.block k hk⟩ (fun g e => by cases e)
theorem OWL.hl {w0 w : World} {v : Value} {ls : List (List Int)} (h : OWL w0 w v ls) (hb : Below w0.heap.size w0 w) : HL w v ls := by
  obtain ⟨xs, h1, h2⟩ := h
  by_cases h0 : 0 < ls.length
  · obtain ⟨g, cap, rfl, _, hn, hm, hc⟩ := ownsRow_cells h1 h0
    refine ⟨_, cap, rfl, hn, hm, (fun e => by cases e), fun _ => ⟨g, 0, rfl, fun j hj => ⟨xs.getD j undef, ?_, (h2 j hj).hb hb⟩⟩⟩
    have hx : xs.length = ls.length := by have := h1.1; omega
    exact hc j _ (by simp [List.getD, List.getElem?_eq_getElem (show j < xs.length by omega)])
  · have e : ls = [] := List.length_eq_zero_iff.1 (by omega)
    subst e
    rcases h1.2 with ⟨rfl, _⟩ | ⟨g, cap, cur, rfl, _, _, hn, hm, _⟩
    · exact HL.nil _
    · exact ⟨_, cap, rfl, hn, hm, (fun e => by cases e), fun h => absurd rfl h⟩
theorem OWL.nil (w0 w : World) : OWL w0 w (.slice none 0 0) [] := ⟨[], World.ownsRow_nil _ _ _ _, fun j hj => by simp at hj⟩
theorem getD_app {α : Type} (l m : List α) (d : α) (j : Nat) : (l ++ m).getD j d = if j < l.length then l.getD j d else m.getD (j - l.length) d := by
  simp only [List.getD, List.getElem?_append]
  split <;> rfl
theorem wpList_append_OWL {w0 w : World} {ops : Array Oper} {rest : List Oper} {o : Oper} {a : Act} {Q : Exit → Act → World → Prop} (hgd : o.guard = none) (s x : Operand)
    (ho : o.op = .call { callee := .builtin .append, args := #[s, x], argTypes := #[48, 48] })
    (v : Value) (ls : List (List Int)) (hs : a.eval s = v) (hown : OWL w0 w v ls)
    (ad : Addr) (m c : Nat) (us : List Value) (ns : List (List Int)) (hx : a.eval x = .slice (some ad) m c) (hl : us.length = m) (hn : ns.length = m) (hcell : ∀ j u, us[j]? = some u → w.cell? (ad.add j) = some u)
    (hu : ∀ j, j < m → EL w0 w (us.getD j undef) (ns.getD j [])) (h1 : ∀ u ∈ us, u.oneCell' = true)
    (hbytes : (ls.length + m) * 24 ≤ 140737488355328) (hbase : w0.heap.size ≤ w.heap.size)
    (h : ∀ v' w', OWL w0 w' v' (ls ++ ns) → w.grownBy w' v.ownBlock → (∀ g, v.ownBlock = some g → w0.heap.size ≤ g ∧ BT w g 22) → wpList Try.prog ops Q rest (a.put o.dst v') w') : wpList Try.prog ops Q (o :: rest) a w := by
  obtain ⟨i0, hi, hz0, hz1, hz2⟩ := info_parts info_bytes
  obtain ⟨xs, hrow, hel⟩ := hown
  have hblk : ∀ g, v.ownBlock = some g → w0.heap.size ≤ g ∧ BT w g 22 := by
    intro g hg
    refine ⟨(hrow.lt g hg).1, ?_⟩
    rcases hrow.2 with ⟨rfl, _⟩ | ⟨g', cap, cur, rfl, _, hh, _⟩
    · simp [Value.ownBlock] at hg
    · simp only [Value.ownBlock, Option.some.injEq] at hg
      subst hg
      exact ⟨cur, _, hh⟩
  refine wpList_append_own w hgd s x 48 ho w0.heap.size 22 i0 (.slice none 0 0) 1 24 Try.underlying48 hi hz0 hz1 hz2 rfl (by decide) v ls.length xs hs hrow ad m c us hx (by omega) hcell h1 (by unfold maxLen; omega) hbytes hbase (fun v' w' h2 h3 _ => h v' w' ?_ h3 hblk)
  refine ⟨xs ++ us, by rw [List.length_append, hn]; exact h2, fun j hj => ?_⟩
  have key : ∀ u l, EL w0 w u l → EL w0 w' u l := fun u l he => he.grown h3 fun g hg => by
    obtain ⟨_, cur, fz, hh⟩ := hblk g hg
    exact ⟨cur, _, fz, hh, by decide⟩
  have hxl : xs.length = ls.length := by have := hrow.1; omega
  rw [getD_app, getD_app, hxl]
  rw [List.length_append] at hj
  split
  · exact key _ _ (hel j ‹_›)
  · exact key _ _ (hu _ (by omega))
theorem takel_eq_step (la lb : List (List Int)) (k : Nat) (ha : k < la.length) (hb : k < lb.length) (h : la.take k = lb.take k) (e : la.getD k [] = lb.getD k []) : la.take (k + 1) = lb.take (k + 1) := by
  rw [List.take_succ_eq_append_getElem ha, List.take_succ_eq_append_getElem hb, h]
  have e1 : la.getD k [] = la[k] := by simp [List.getD, List.getElem?_eq_getElem ha]
  have e2 : lb.getD k [] = lb[k] := by simp [List.getD, List.getElem?_eq_getElem hb]
  rw [e1, e2] at e
  rw [e]
set_option maxHeartbeats 400000 in
theorem sameLists_any (w : World) (va vb : Value) (la lb : List (List Int)) (ha : HL w va la) (hb : HL w vb lb) :
    Calls Try.prog 36 #[va, vb] w fun e w' => e = .returned (.bool (decide (la = lb))) ∧ Dr w w' := by
  by_cases hlen : la.length = lb.length
  · by_cases h0 : 0 < la.length
    · obtain ⟨b1, o1, c1, rfl, hc1, hm1, hk1⟩ := ha.ne h0
      obtain ⟨b2, o2, c2, rfl, hc2, hm2, hk2⟩ := hb.ne (by omega)
      unfold maxLen at hm1 hm2
      have hm : la.length ≤ 9223372036854775807 := by omega
      have HL : Hid (la.length = lb.length) := hlen
      rw [← hlen]
      have hcd : ∀ j, j < la.length → ∃ u, w.cell? ⟨b2, o2 + j, none⟩ = some u ∧ HB w u (lb.getD j []) := fun j hj => hk2 j (by omega)
      clear hlen hk2
      go_enter Try.func36, Try.ntmps36
      go_wp2
      go_loopw [5] (fun i wr => ∃ k : Nat, k ≤ la.length ∧ i = .int .i64 k ∧ la.take k = lb.take k ∧ Dr w wr) (fun i _ => la.length - (intOf i).toNat)
      case atStart => exact ⟨0, Nat.zero_le _, rfl, rfl, Dr.refl _⟩
      case round =>
        obtain ⟨k, hk, rfl, ht, hD⟩ := hrel
        have HD := hid hD
        clear hD
        by_cases hlt : k < la.length
        · obtain ⟨u1, g1, e1⟩ := hk1 k hlt
          obtain ⟨u2, g2, e2⟩ := hcd k hlt
          replace g1 := (HD.out.cell _).trans g1
          replace g2 := (HD.out.cell _).trans g2
          replace e1 := e1.dr HD.out
          replace e2 := e2.dr HD.out
          obtain ⟨x, HX⟩ : ∃ x, Hid (la.getD k [] = x) := ⟨_, rfl⟩
          obtain ⟨y, HY⟩ : ∃ y, Hid (lb.getD k [] = y) := ⟨_, rfl⟩
          rw [HX.out] at e1
          rw [HY.out] at e2
          obtain ⟨p1, c1', r1, _, _⟩ := e1.open
          obtain ⟨p2, c2', r2, _, _⟩ := e2.open
          subst r1 r2
          have E1 := hid e1
          have E2 := hid e2
          clear hk1 hcd e1 e2
          by_cases he : x = y
          · have hne : decide (x = y) = true := by simpa using he
            have HE := hid he
            clear he
            go_wp2
            go_quiet ((go_at_call 29; exact Calls.quiet_of (sameBytes_any _ _ _ x y (E1.out.later fun _ _ hx => hx) (E2.out.later fun _ _ hx => hx))))
            go_wp2
            exact ⟨⟨k + 1, by omega, by go_num, takel_eq_step la lb k hlt (by have := HL.out; omega) ht (by rw [HX.out, HY.out, HE.out]), HD.out.drewN _⟩, by simp [intOf]; omega⟩
          · have hne : decide (x = y) = false := by simpa using he
            go_wp2
            go_quiet ((go_at_call 29; exact Calls.quiet_of (sameBytes_any _ _ _ x y (E1.out.later fun _ _ hx => hx) (E2.out.later fun _ _ hx => hx))))
            go_wp2
            go_ret
            exact ⟨by rw [decide_eq_false (fun h => he ((HX.out.symm.trans (congrArg (fun z => List.getD z k []) h)).trans HY.out))]; rfl, HD.out.drewN _⟩
        · go_wp2
          go_ret
          have e : la = lb := by
            have h1 := List.take_of_length_le (show la.length ≤ k by omega)
            have h2 := List.take_of_length_le (show lb.length ≤ k by have := HL.out; omega)
            rw [← h1, ← h2, ht]
          exact ⟨by simp [e], HD.out⟩
    · obtain ⟨p1, c1, rfl, _, _⟩ := ha.open
      obtain ⟨p2, c2, rfl, _, _⟩ := hb.open
      have e1 : la = [] := List.length_eq_zero_iff.1 (by omega)
      have e2 : lb = [] := List.length_eq_zero_iff.1 (by omega)
      subst e1 e2
      go_enter Try.func36, Try.ntmps36
      go_wp2
      go_loop [5] (fun i => i = .int .i64 0) (fun _ => 0)
      case atStart => rfl
      case round =>
        subst hrel
        go_wp2
        go_ret
        exact ⟨rfl, Dr.refl _⟩
  · obtain ⟨p1, c1, rfl, _, _⟩ := ha.open
    obtain ⟨p2, c2, rfl, _, _⟩ := hb.open
    have hne : ((la.length : Int) != (lb.length : Int)) = true := by rw [bne_iff_ne]; omega
    go_enter Try.func36, Try.ntmps36
    go_wp2
    go_ret
    exact ⟨by simp [show la ≠ lb from fun e => hlen (by rw [e])], Dr.refl _⟩
end Go.Proofs.Ytafdklelfcccbaa
namespace Go.Proofs.Ytafdklelfcccbaa
open Go.RowKit Go.Shelf
theorem own_slc1 {w : World} {B n : Nat} {e : TypeId} {v : Value} {xs : List Value} (h : w.ownsRow B e 1 v n xs) : ∃ p c, v = .slice p n c := by
  rcases h.2 with ⟨rfl, rfl⟩ | ⟨g, cap, cur, rfl, _⟩
  · exact ⟨_, _, rfl⟩
  · exact ⟨_, _, rfl⟩
def PW (B : Nat) (w : World) (v : Value) (ls : List (List Int)) : Prop :=
  ∃ xs, w.ownsRow B 22 1 v ls.length xs ∧ ∀ j, j < ls.length → w.ownsRow B 5 1 (xs.getD j undef) (ls.getD j []).length ((ls.getD j []).map (Value.int .u8)) ∧ BytI (ls.getD j [])
theorem PW.nil (B : Nat) (w : World) : PW B w (.slice none 0 0) [] := ⟨[], World.ownsRow_nil _ _ _ _, fun j hj => by simp at hj⟩
theorem PW.hl {B : Nat} {w : World} {v : Value} {ls : List (List Int)} (h : PW B w v ls) : HL w v ls := by
  obtain ⟨xs, h1, h2⟩ := h
  by_cases h0 : 0 < ls.length
  · obtain ⟨g, cap, rfl, _, hn, hm, hc⟩ := ownsRow_cells h1 h0
    refine ⟨_, cap, rfl, hn, hm, (fun e => by cases e), fun _ => ⟨g, 0, rfl, fun j hj => ⟨xs.getD j undef, ?_, HB.of_own (h2 j hj).1 (h2 j hj).2⟩⟩⟩
    have hx : xs.length = ls.length := by have := h1.1; omega
    exact hc j _ (by simp [List.getD, List.getElem?_eq_getElem (show j < xs.length by omega)])
  · have e : ls = [] := List.length_eq_zero_iff.1 (by omega)
    subst e
    rcases h1.2 with ⟨rfl, _⟩ | ⟨g, cap, cur, rfl, _, _, hn, hm, _⟩
    · exact HL.nil _
    · exact ⟨_, cap, rfl, hn, hm, (fun e => by cases e), fun h => absurd rfl h⟩
theorem PW.from {B n : Nat} {A C : World} {v : Value} {ls : List (List Int)} {row : Option Nat} (h : PW B A v ls) (hg : A.grownBy C row) (hr : ∀ r, row = some r → n ≤ r ∧ ∃ o : Obj, A.heap[r]? = some o ∧ o.isCells = false) : PW B C v ls := by
  obtain ⟨xs, h1, h2⟩ := h
  exact ⟨xs, row_from h1 hg hr, fun j hj => ⟨row_from (h2 j hj).1 hg hr, (h2 j hj).2⟩⟩
theorem PW.push {B0 Bx : Nat} {W w1 : World} {vp v' u : Value} {ls : List (List Int)} {l : List Int} {xs : List Value} {o : Obj} (hrow : W.ownsRow B0 22 1 vp ls.length xs)
    (hel : ∀ j, j < ls.length → W.ownsRow B0 5 1 (xs.getD j undef) (ls.getD j []).length ((ls.getD j []).map (Value.int .u8)) ∧ BytI (ls.getD j [])) (hu : W.ownsRow B0 5 1 u l.length (l.map (Value.int .u8))) (hby : BytI l)
    (x1 : Boxed W Bx 48 vp) (hown : w1.ownsRow B0 22 1 v' (ls.length + 1) (xs ++ [u])) (hg : (W.alloc o).grownBy w1 vp.ownBlock) :
    PW B0 (w1.setCell ⟨Bx, 0, none⟩ v') v' (ls ++ [l]) ∧ Boxed w1 Bx 48 vp ∧ Boxed (w1.setCell ⟨Bx, 0, none⟩ v') Bx 48 v' := by
  have hv1 : Boxed w1 Bx 48 vp := (x1.alloc o).kept hg (x1.not_row (by decide) hrow)
  have gs := grownBy_setCell' w1 Bx v'
  have key : ∀ {q : Value} {m : Nat} {ys : List Value}, W.ownsRow B0 5 1 q m ys → (w1.setCell ⟨Bx, 0, none⟩ v').ownsRow B0 5 1 q m ys := fun {q m ys} h => by
    have h1 := h.alloc o
    have h2 : w1.ownsRow B0 5 1 q m ys := by
      refine h1.kept hg ?_
      cases hvp : vp.ownBlock with
      | none => cases q.ownBlock <;> simp
      | some g =>
        rcases (hrow.alloc o).2 with ⟨rfl, _⟩ | ⟨g', cap, cur, rfl, _, hh, _⟩
        · simp [Value.ownBlock] at hvp
        · simp only [Value.ownBlock, Option.some.injEq] at hvp
          subst hvp
          exact .inr (own_block_ne h1 hh (by decide))
    exact h2.kept gs (.inr (own_block_ne h2 (show w1.heap[Bx]? = _ from hv1) (by decide)))
  refine ⟨⟨xs ++ [u], ?_, fun j hj => ?_⟩, hv1, hv1.set v'⟩
  · rw [List.length_append, List.length_singleton]
    exact hown.kept gs (.inr (hv1.not_row (by decide) hown).symm)
  · have hxl : xs.length = ls.length := by have := hrow.1; omega
    rw [List.length_append, List.length_singleton] at hj
    rw [getD_app, getD_app, hxl]
    split
    · rename_i h
      exact ⟨key (hel j h).1, (hel j h).2⟩
    · have : j - ls.length = 0 := by omega
      rw [this]
      exact ⟨key hu, hby⟩
end Go.Proofs.Ytafdklelfcccbaa
