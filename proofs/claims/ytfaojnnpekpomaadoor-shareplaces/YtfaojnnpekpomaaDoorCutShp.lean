/- Shapes: cut.shaped, Shape, Again, Fits, by the evaluator with contracts and facts by tables. -/
import Derived.Test.YtfaojnnpekpomaaDoorCutNamesLaw
set_option linter.unusedVariables false
set_option linter.unusedSimpArgs false
namespace Go.Proofs.YtfaojnnpekpomaaDoor
open Go Go.RowKit Ev

def shV (l : List Int) : Value := .agg (ints l)
/-- What holds of all of a list that is told. -/
theorem all1 {α : Type} {p : α → Prop} {a : α} (h : p a) : ∀ e ∈ [a], p e := fun e he => by
  simp only [List.mem_cons, List.not_mem_nil, or_false] at he; subst he; exact h
theorem allc {α : Type} {p : α → Prop} {a : α} {l : List α} (h : p a) (hl : ∀ e ∈ l, p e) : ∀ e ∈ a :: l, p e := fun e he => by
  rcases List.mem_cons.1 he with rfl | he
  · exact h
  · exact hl e he
theorem alln {α : Type} {p : α → Prop} : ∀ e ∈ ([] : List α), p e := fun e he => by simp at he
theorem row_den (ρ : Env) (ms : List Nat) (l : List Ex) : (rw64 l).inst ρ ms = some (shV (l.map (Ex.den ρ))) := by
  have : ∀ l : List Ex, seqO ((l.map (SV.int .i64)).map (SV.inst ρ ms)) = some ((l.map (Ex.den ρ)).map (Value.int .i64)) := by
    intro l
    rw [seqO_iff]
    simp [SV.inst]
  simp only [rw64, TV.inst, this, Option.map_some, shV, ints]
def tailX : Ex := .ari .sub .i64 (.var 3) (.ari .mul .i64 (.ari .sub .i64 (.var 4) (.lit 1)) (.var 2))
def tShaped : List (Nat × List AV × AV) := [(42, [B64 3, B64 2], B64 4), (42, [E64 tailX, B64 0], B64 5)]
def cShaped : List (BinOp × Ex × Ex × Bool) := [(.neq, .var 0, .lit 0, true)]
theorem shaped_ev : (evCallF Tryd.prog (tabLore cShaped []) (tabCon tShaped) 100 37 [B64 0, B64 1, B64 2, B64 3] H0).map (·.1) = some (.tv (rw64 [.var 0, .var 1, .var 2, .var 3, .var 4, tailX, .ari .quo .i64 (.var 2) (.var 0), .var 5])) := by kernel_rfl
theorem wrap64 {x : Int} (h1 : -9223372036854775808 ≤ x) (h2 : x ≤ 9223372036854775807) : IntKind.i64.wrap x = x := by rw [IntKind.wrap_i64]; omega
theorem shaped_any (w : World) (k n g z : Int) (hk : 1 ≤ k) (hk2 : k ≤ 255) (hg : 1 ≤ g) (hg2 : g ≤ 65790) (hz : 1 ≤ z) (hz2 : z ≤ 16777216) : Calls Tryd.prog 37 #[.int .i64 k, .int .i64 n, .int .i64 g, .int .i64 z] w fun e w' => e = .returned (shV (shR k n g z)) ∧ Below w.heap.size w w' := by
  have s1 := upI_pos hz hg
  have s2 := upI_le hz hg
  have t1 := tlI_pos (x := z) hg
  have t2 := tlI_le (x := z) hg
  have te := tail_eq z g
  have hm : (upI z g - 1) * g ≤ z := by have := up_split z g; omega
  have hm0 : 0 ≤ (upI z g - 1) * g := Int.mul_nonneg (by omega) (by omega)
  let ρ := envI [k, n, g, z, upI z g, upI (tlI z g) k] (.tuple #[])
  have hT : Ex.den ρ tailX = tlI z g := by
    show IntKind.i64.wrap (z - IntKind.i64.wrap (IntKind.i64.wrap (upI z g - 1) * g)) = tlI z g
    rw [wrap64 (x := upI z g - 1) (by omega) (by omega), wrap64 (x := (upI z g - 1) * g) (by omega) (by omega), te, wrap64 (by omega) (by omega)]
  have hq : IntKind.i64.wrap (g.tdiv k) = g / k := by
    rw [Int.tdiv_eq_ediv_of_nonneg (by omega)]
    have a := Int.ediv_nonneg (show 0 ≤ g by omega) (show 0 ≤ k by omega)
    have b := Int.ediv_le_self k (show 0 ≤ g by omega)
    exact wrap64 (by omega) (by omega)
  refine ev_row (ρ := ρ) (c := cShaped) (r := []) (t := tShaped) ?_ alln ?_ shaped_ev [.int .i64 k, .int .i64 n, .int .i64 g, .int .i64 z] (shV (shR k n g z)) rfl ?_ w
  · exact all1 (show some (k != 0) = some true by rw [bne_iff_ne.2 (show k ≠ 0 by omega)])
  · refine allc (ent [.int .i64 z, .int .i64 g] (.int .i64 (upI z g)) (fun _ => rfl) (fun _ => rfl) fun w => still (upward_any w z g hz (by omega) hg)) (all1 ?_)
    exact ent [.int .i64 (tlI z g), .int .i64 k] (.int .i64 (upI (tlI z g) k)) (fun _ => by simp only [List.map_cons, List.map_nil, E64_inst, hT, B64]; rfl) (fun _ => rfl) fun w => still (upward_any w _ k t1 (by omega) hk)
  · intro ms
    simp only [AV.inst]
    rw [row_den]
    simp only [List.map_cons, List.map_nil, hT]
    show some (shV [k, n, g, z, upI z g, tlI z g, IntKind.i64.wrap (g.tdiv k), upI (tlI z g) k]) = _
    rw [hq]; rfl
theorem tup2 (ρ : Env) (ms : List Nat) (l : List Ex) (e : Ex) : (AV.tup [rw64 l, e64 e]).inst ρ ms = some (.tuple #[shV (l.map (Ex.den ρ)), .int .i64 (e.den ρ)]) := by
  simp only [AV.inst, List.map_cons, List.map_nil, row_den, e64_inst, seqO, Option.map_some]
theorem zs_den (ρ : Env) : zs64.map (Ex.den ρ) = sh0 := rfl
def bX (b : Bool) : AV := .tv (.sc (.bool b))
theorem bX_inst (ρ : Env) (ms : List Nat) (b : Bool) : (bX b).inst ρ ms = some (.bool b) := rfl
/-- The contract of a function that gives a shape and an error's number. -/
def mulX : Ex := .ari .mul .i64 (.var 0) (.var 5)
def prX : AV := .tv (.agg [.int .i64 (.var 0), .int .i64 (.var 1), .int .i64 (.var 2), .int .i64 (.var 3), .opq 0])
theorem prX_inst {k n g h : Int} {r : List Int} {s : Value} (hs : s.oneCell' = true) (ms : List Nat) : prX.inst (envI (k :: n :: g :: h :: r) s) ms = some (prV k n g h s) := by
  simp [prX, AV.inst, TV.inst, SV.inst, seqO, Ex.den, envI, hs, prV]
def rshape_t1 (e : Int) : List (Nat × List AV × AV) := [(18, [prX], E64 (.lit e))]
def rshape_t2 : List (Nat × List AV × AV) := [(18, [prX], E64 (.lit 0)), (20, [B64 2, B64 0], B64 5), (19, [B64 0, B64 1, E64 mulX, B64 4], .tv (rw64 [.var 0, .var 1, mulX, .var 4, .var 6, .var 7, .var 8, .var 9]))]
end Go.Proofs.YtfaojnnpekpomaaDoor
