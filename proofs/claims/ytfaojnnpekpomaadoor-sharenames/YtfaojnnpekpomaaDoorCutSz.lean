/- cut.SegSize, BlockSize, Cover. -/
import Derived.Test.YtfaojnnpekpomaaDoorCutAg
set_option linter.unusedVariables false
set_option linter.unusedSimpArgs false
namespace Go.Proofs.YtfaojnnpekpomaaDoor
open Go Go.RowKit Ev

theorem Ft.segs {a b c d e f g h : Int} (q : Ft a b c d e f g h) : e = upI d c ∧ f = tlI d c ∧ g = c / a ∧ h = upI (tlI d c) a ∧ 1 ≤ e ∧ e ≤ 512 := by
  obtain ⟨q1, q2⟩ := q
  simp only [shR, List.cons.injEq, and_true, true_and] at q2
  obtain ⟨rfl, rfl, rfl, rfl⟩ := q2
  exact ⟨rfl, rfl, rfl, rfl, upI_pos (by have := q1.2.2.2.2.2.2.1; omega) q1.2.2.2.1, q1.2.2.2.2.2.2.2.2⟩
/-- What is told of a segment's size, and the error. -/
def szE (t : Bool) (segs j : Int) : Int := if t = true then (if 0 ≤ j ∧ j < segs then 0 else 90) else 92
def szV (t : Bool) (segs j size last : Int) : Int := if t = true then (if 0 ≤ j ∧ j < segs then (if j = segs - 1 then last else size) else 0) else 0
def ft_t (F : Nat) (b : Bool) : Nat × List AV × AV := (F, [shX 0], bX b)
def c_j0 (b : Bool) : BinOp × Ex × Ex × Bool := (.lss, .var 8, .lit 0, b)
def c_js (b : Bool) : BinOp × Ex × Ex × Bool := (.geq, .var 8, .var 4, b)
def c_jl (b : Bool) : BinOp × Ex × Ex × Bool := (.eql, .var 8, .ari .sub .i64 (.var 4) (.lit 1), b)
theorem c_jl_ok {ρ : Env} {e j : Int} {b : Bool} (h4 : Ex.den ρ (.var 4) = e) (h8 : Ex.den ρ (.var 8) = j) (h1 : 1 ≤ e) (h2 : e ≤ 512) (hb : (j == e - 1) = b) : CmpOk ρ (c_jl b) := by
  show some (Ex.den ρ (.var 8) == IntKind.i64.wrap (Ex.den ρ (.var 4) - 1)) = some b
  rw [h4, h8, wrap64 (by omega) (by omega), hb]
theorem ft_ent {ρ : Env} {a b c d e f g h : Int} {r : Bool} (hx : (vs64 0 8).map (Ex.den ρ) = [a, b, c, d, e, f, g, h]) {F : Nat} (hF : ∀ w, Calls Tryd.prog F #[shV [a, b, c, d, e, f, g, h]] w fun r w' => r = .returned (.bool (ftB a b c d e f g h)) ∧ Below w.heap.size w w') (hb : ftB a b c d e f g h = r) : EntOk ρ (ft_t F r) :=
  ent [shV [a, b, c, d, e, f, g, h]] (.bool r) (fun ms => by simp only [List.map_cons, List.map_nil, shX, AV.inst]; rw [row_den, hx]) (fun _ => rfl) fun w => by rw [← hb]; exact hF w
theorem tupI2 (ρ : Env) (ms : List Nat) (e f : Ex) : (AV.tup [e64 e, e64 f]).inst ρ ms = some (.tuple #[.int .i64 (e.den ρ), .int .i64 (f.den ρ)]) := rfl
theorem tupI3 (ρ : Env) (ms : List Nat) (e f g : Ex) : (AV.tup [e64 e, e64 f, e64 g]).inst ρ ms = some (.tuple #[.int .i64 (e.den ρ), .int .i64 (f.den ρ), .int .i64 (g.den ρ)]) := rfl
noncomputable def blocksize_ev (c : List (BinOp × Ex × Ex × Bool)) (b : Bool) : Option AV := (evCallF Tryd.prog (tabLore c []) (tabCon [ft_t 21 b]) 100 15 [shX 0, B64 8] H0).map (·.1)
theorem blocksize_ev1 : blocksize_ev [] false = some (.tup [e64 (.lit 0), e64 (.lit 92)]) := by kernel_rfl
theorem blocksize_ev2 : blocksize_ev [c_j0 true] true = some (.tup [e64 (.lit 0), e64 (.lit 90)]) := by kernel_rfl
theorem blocksize_ev3 : blocksize_ev [c_j0 false, c_js true] true = some (.tup [e64 (.lit 0), e64 (.lit 90)]) := by kernel_rfl
theorem blocksize_ev4 : blocksize_ev [c_j0 false, c_js false, c_jl true] true = some (.tup [e64 (.var 7), e64 (.lit 0)]) := by kernel_rfl
theorem blocksize_ev5 : blocksize_ev [c_j0 false, c_js false, c_jl false] true = some (.tup [e64 (.var 6), e64 (.lit 0)]) := by kernel_rfl
theorem blocksize_any (w : World) (a b c d e f g h j : Int) : Calls Tryd.prog 15 #[shV [a, b, c, d, e, f, g, h], .int .i64 j] w fun r w' => r = .returned (.tuple #[.int .i64 (szV (ftB a b c d e f g h) e j g h), .int .i64 (szE (ftB a b c d e f g h) e j)]) ∧ Below w.heap.size w w' := by
  let ρ := envI [a, b, c, d, e, f, g, h, j] (.tuple #[])
  have hx : [shX 0, B64 8].map (AV.inst ρ ms0) = [shV [a, b, c, d, e, f, g, h], .int .i64 j].map some := by
    simp only [List.map_cons, List.map_nil, shX, AV.inst]; rw [row_den]; rfl
  have hent : ∀ r, ftB a b c d e f g h = r → ∀ x ∈ [ft_t 21 r], EntOk ρ x := fun r hr => all1 (ft_ent rfl (fun w => fits_any w a b c d e f g h) hr)
  by_cases hf : Ft a b c d e f g h
  · have hb : ftB a b c d e f g h = true := decide_eq_true hf
    obtain ⟨_, _, _, _, s1, s2⟩ := hf.segs
    by_cases h0 : j < 0
    · have hj : ¬ (0 ≤ j ∧ j < e) := by omega
      have z1 : szV true e j g h = 0 := by unfold szV; rw [if_pos rfl, if_neg hj]
      have z2 : szE true e j = 90 := by unfold szE; rw [if_pos rfl, if_neg hj]
      rw [hb, z1, z2]
      exact ev_row (ρ := ρ) (c := [c_j0 true]) (all1 (show some (decide (j < 0)) = some true by rw [decide_eq_true h0])) alln (hent true hb) blocksize_ev2 [shV [a, b, c, d, e, f, g, h], .int .i64 j] _ hx (fun _ => rfl) w
    have F1 : CmpOk ρ (c_j0 false) := show some (decide (j < 0)) = some false by rw [decide_eq_false h0]
    by_cases h1 : j ≥ e
    · have hj : ¬ (0 ≤ j ∧ j < e) := by omega
      have z1 : szV true e j g h = 0 := by unfold szV; rw [if_pos rfl, if_neg hj]
      have z2 : szE true e j = 90 := by unfold szE; rw [if_pos rfl, if_neg hj]
      rw [hb, z1, z2]
      exact ev_row (ρ := ρ) (c := [c_j0 false, c_js true]) (allc F1 (all1 (show some (decide (j ≥ e)) = some true by rw [decide_eq_true h1]))) alln (hent true hb) blocksize_ev3 [shV [a, b, c, d, e, f, g, h], .int .i64 j] _ hx (fun _ => rfl) w
    have F2 : CmpOk ρ (c_js false) := show some (decide (j ≥ e)) = some false by rw [decide_eq_false h1]
    by_cases h2 : j = e - 1
    · have hj : 0 ≤ j ∧ j < e := ⟨by omega, by omega⟩
      have z1 : szV true e j g h = h := by unfold szV; rw [if_pos rfl, if_pos hj, if_pos h2]
      have z2 : szE true e j = 0 := by unfold szE; rw [if_pos rfl, if_pos hj]
      rw [hb, z1, z2]
      exact ev_row (ρ := ρ) (allc F1 (allc F2 (all1 (c_jl_ok rfl rfl s1 s2 (beq_iff_eq.2 h2))))) alln (hent true hb) blocksize_ev4 [shV [a, b, c, d, e, f, g, h], .int .i64 j] _ hx (fun _ => rfl) w
    · have hj : 0 ≤ j ∧ j < e := ⟨by omega, by omega⟩
      have z1 : szV true e j g h = g := by unfold szV; rw [if_pos rfl, if_pos hj, if_neg h2]
      have z2 : szE true e j = 0 := by unfold szE; rw [if_pos rfl, if_pos hj]
      rw [hb, z1, z2]
      exact ev_row (ρ := ρ) (allc F1 (allc F2 (all1 (c_jl_ok rfl rfl s1 s2 (beq_false_of_ne h2))))) alln (hent true hb) blocksize_ev5 [shV [a, b, c, d, e, f, g, h], .int .i64 j] _ hx (fun _ => rfl) w
  · have hb : ftB a b c d e f g h = false := decide_eq_false hf
    rw [hb, szV, szE, if_neg (by decide), if_neg (by decide)]
    exact ev_row (ρ := ρ) alln alln (hent false hb) blocksize_ev1 [shV [a, b, c, d, e, f, g, h], .int .i64 j] _ hx (fun _ => rfl) w
noncomputable def rblocksize_ev (c : List (BinOp × Ex × Ex × Bool)) (b : Bool) : Option AV := (evCallF Tryd.prog (tabLore c []) (tabCon [ft_t 24 b]) 100 10 [shX 0, B64 8] H0).map (·.1)
theorem rblocksize_ev1 : rblocksize_ev [] false = some (.tup [e64 (.lit 0), e64 (.lit 92)]) := by kernel_rfl
theorem rblocksize_ev2 : rblocksize_ev [c_j0 true] true = some (.tup [e64 (.lit 0), e64 (.lit 90)]) := by kernel_rfl
theorem rblocksize_ev3 : rblocksize_ev [c_j0 false, c_js true] true = some (.tup [e64 (.lit 0), e64 (.lit 90)]) := by kernel_rfl
theorem rblocksize_ev4 : rblocksize_ev [c_j0 false, c_js false, c_jl true] true = some (.tup [e64 (.var 7), e64 (.lit 0)]) := by kernel_rfl
theorem rblocksize_ev5 : rblocksize_ev [c_j0 false, c_js false, c_jl false] true = some (.tup [e64 (.var 6), e64 (.lit 0)]) := by kernel_rfl
theorem rblocksize_any (w : World) (a b c d e f g h j : Int) : Calls Tryd.prog 10 #[shV [a, b, c, d, e, f, g, h], .int .i64 j] w fun r w' => r = .returned (.tuple #[.int .i64 (szV (ftB a b c d e f g h) e j g h), .int .i64 (szE (ftB a b c d e f g h) e j)]) ∧ Below w.heap.size w w' := by
  let ρ := envI [a, b, c, d, e, f, g, h, j] (.tuple #[])
  have hx : [shX 0, B64 8].map (AV.inst ρ ms0) = [shV [a, b, c, d, e, f, g, h], .int .i64 j].map some := by
    simp only [List.map_cons, List.map_nil, shX, AV.inst]; rw [row_den]; rfl
  have hent : ∀ r, ftB a b c d e f g h = r → ∀ x ∈ [ft_t 24 r], EntOk ρ x := fun r hr => all1 (ft_ent rfl (fun w => rfits_any w a b c d e f g h) hr)
  by_cases hf : Ft a b c d e f g h
  · have hb : ftB a b c d e f g h = true := decide_eq_true hf
    obtain ⟨_, _, _, _, s1, s2⟩ := hf.segs
    by_cases h0 : j < 0
    · have hj : ¬ (0 ≤ j ∧ j < e) := by omega
      have z1 : szV true e j g h = 0 := by unfold szV; rw [if_pos rfl, if_neg hj]
      have z2 : szE true e j = 90 := by unfold szE; rw [if_pos rfl, if_neg hj]
      rw [hb, z1, z2]
      exact ev_row (ρ := ρ) (c := [c_j0 true]) (all1 (show some (decide (j < 0)) = some true by rw [decide_eq_true h0])) alln (hent true hb) rblocksize_ev2 [shV [a, b, c, d, e, f, g, h], .int .i64 j] _ hx (fun _ => rfl) w
    have F1 : CmpOk ρ (c_j0 false) := show some (decide (j < 0)) = some false by rw [decide_eq_false h0]
    by_cases h1 : j ≥ e
    · have hj : ¬ (0 ≤ j ∧ j < e) := by omega
      have z1 : szV true e j g h = 0 := by unfold szV; rw [if_pos rfl, if_neg hj]
      have z2 : szE true e j = 90 := by unfold szE; rw [if_pos rfl, if_neg hj]
      rw [hb, z1, z2]
      exact ev_row (ρ := ρ) (c := [c_j0 false, c_js true]) (allc F1 (all1 (show some (decide (j ≥ e)) = some true by rw [decide_eq_true h1]))) alln (hent true hb) rblocksize_ev3 [shV [a, b, c, d, e, f, g, h], .int .i64 j] _ hx (fun _ => rfl) w
    have F2 : CmpOk ρ (c_js false) := show some (decide (j ≥ e)) = some false by rw [decide_eq_false h1]
    by_cases h2 : j = e - 1
    · have hj : 0 ≤ j ∧ j < e := ⟨by omega, by omega⟩
      have z1 : szV true e j g h = h := by unfold szV; rw [if_pos rfl, if_pos hj, if_pos h2]
      have z2 : szE true e j = 0 := by unfold szE; rw [if_pos rfl, if_pos hj]
      rw [hb, z1, z2]
      exact ev_row (ρ := ρ) (allc F1 (allc F2 (all1 (c_jl_ok rfl rfl s1 s2 (beq_iff_eq.2 h2))))) alln (hent true hb) rblocksize_ev4 [shV [a, b, c, d, e, f, g, h], .int .i64 j] _ hx (fun _ => rfl) w
    · have hj : 0 ≤ j ∧ j < e := ⟨by omega, by omega⟩
      have z1 : szV true e j g h = g := by unfold szV; rw [if_pos rfl, if_pos hj, if_neg h2]
      have z2 : szE true e j = 0 := by unfold szE; rw [if_pos rfl, if_pos hj]
      rw [hb, z1, z2]
      exact ev_row (ρ := ρ) (allc F1 (allc F2 (all1 (c_jl_ok rfl rfl s1 s2 (beq_false_of_ne h2))))) alln (hent true hb) rblocksize_ev5 [shV [a, b, c, d, e, f, g, h], .int .i64 j] _ hx (fun _ => rfl) w
  · have hb : ftB a b c d e f g h = false := decide_eq_false hf
    rw [hb, szV, szE, if_neg (by decide), if_neg (by decide)]
    exact ev_row (ρ := ρ) alln alln (hent false hb) rblocksize_ev1 [shV [a, b, c, d, e, f, g, h], .int .i64 j] _ hx (fun _ => rfl) w
/-- Where a stretch lies. -/
def cvO (t : Bool) (z p n : Int) : Prop := t = true ∧ 0 ≤ p ∧ 1 ≤ n ∧ n ≤ z - p
instance (t : Bool) (z p n : Int) : Decidable (cvO t z p n) := by unfold cvO; infer_instance
def cvE (t : Bool) (z p n : Int) : Int := if t = true then (if cvO t z p n then 0 else 90) else 92
def cvA (t : Bool) (s z p n : Int) : Int := if cvO t z p n then p / s else 0
def cvZ (t : Bool) (s z p n : Int) : Int := if cvO t z p n then (p + n - 1) / s else 0
def c_a0 (b : Bool) : BinOp × Ex × Ex × Bool := (.lss, .var 8, .lit 0, b)
def c_n1 (b : Bool) : BinOp × Ex × Ex × Bool := (.lss, .var 9, .lit 1, b)
def c_az (b : Bool) : BinOp × Ex × Ex × Bool := (.gtr, .var 8, .var 3, b)
def c_nz (b : Bool) : BinOp × Ex × Ex × Bool := (.gtr, .var 9, .ari .sub .i64 (.var 3) (.var 8), b)
def c_s0 : BinOp × Ex × Ex × Bool := (.neq, .var 2, .lit 0, true)
def cvX : AV := .tup [e64 (.ari .quo .i64 (.var 8) (.var 2)), e64 (.ari .quo .i64 (.ari .sub .i64 (.ari .add .i64 (.var 8) (.var 9)) (.lit 1)) (.var 2)), e64 (.lit 0)]
def cvBad (e : Int) : AV := .tup [e64 (.lit 0), e64 (.lit 0), e64 (.lit e)]
end Go.Proofs.YtfaojnnpekpomaaDoor
