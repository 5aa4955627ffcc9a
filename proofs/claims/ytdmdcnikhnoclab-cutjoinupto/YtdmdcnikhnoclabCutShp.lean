/- Shapes: cut.shaped, Shape, Again, Fits, by the evaluator with contracts and facts by tables. -/
import Derived.Test.YtdmdcnikhnoclabCutNamesLaw
set_option linter.unusedVariables false
set_option linter.unusedSimpArgs false
namespace Go.Proofs.Ytdmdcnikhnoclab
open Go Go.RowKit Ev

def shV (l : List Int) : Value := .agg (ints l)
/-- What holds of all of a list that is told. -/
theorem all1 {α : Type} {p : α → Prop} {a : α} (h : p a) : ∀ e ∈ [a], p e := fun e he => by
  simp only [List.mem_cons, List.not_mem_nil, or_false] at he; subst he; exact h
theorem allc {α : Type} {p : α → Prop} {a : α} {l : List α} (h : p a) (hl : ∀ e ∈ l, p e) : ∀ e ∈ a :: l, p e := fun e he => by
  rcases List.mem_cons.1 he with rfl | he
  · exact h
  · exact hl e he
theorem alln {α : Type} {p : α → Prop} : ∀ e ∈ ([] : List α), p e := fun e he => by simp at he
theorem row_den (ρ : Env) (ms : List Nat) (l : List Ex) : (rw64 l).inst ρ ms = some (shV (l.map (Ex.den ρ))) := by
  have : ∀ l : List Ex, seqO ((l.map (SV.int .i64)).map (SV.inst ρ ms)) = some ((l.map (Ex.den ρ)).map (Value.int .i64)) := by
    intro l
    rw [seqO_iff]
    simp [SV.inst]
  simp only [rw64, TV.inst, this, Option.map_some, shV, ints]
def tailX : Ex := .ari .sub .i64 (.var 3) (.ari .mul .i64 (.ari .sub .i64 (.var 4) (.lit 1)) (.var 2))
def tShaped : List (Nat × List AV × AV) := [(28, [B64 3, B64 2], B64 4), (28, [E64 tailX, B64 0], B64 5)]
def cShaped : List (BinOp × Ex × Ex × Bool) := [(.neq, .var 0, .lit 0, true)]
theorem shaped_ev : (evCallF Try.prog (tabLore cShaped []) (tabCon tShaped) 100 36 [B64 0, B64 1, B64 2, B64 3] []).map (·.1) = some (.tv (rw64 [.var 0, .var 1, .var 2, .var 3, .var 4, tailX, .ari .quo .i64 (.var 2) (.var 0), .var 5])) := by kernel_rfl
theorem wrap64 {x : Int} (h1 : -9223372036854775808 ≤ x) (h2 : x ≤ 9223372036854775807) : IntKind.i64.wrap x = x := by rw [IntKind.wrap_i64]; omega
theorem shaped_any (w : World) (k n g z : Int) (hk : 1 ≤ k) (hk2 : k ≤ 255) (hg : 1 ≤ g) (hg2 : g ≤ 65790) (hz : 1 ≤ z) (hz2 : z ≤ 16777216) : Calls Try.prog 36 #[.int .i64 k, .int .i64 n, .int .i64 g, .int .i64 z] w fun e w' => e = .returned (shV (shR k n g z)) ∧ Below w.heap.size w w' := by
  have s1 := upI_pos hz hg
  have s2 := upI_le hz hg
  have t1 := tlI_pos (x := z) hg
  have t2 := tlI_le (x := z) hg
  have te := tail_eq z g
  have hm : (upI z g - 1) * g ≤ z := by have := up_split z g; omega
  have hm0 : 0 ≤ (upI z g - 1) * g := Int.mul_nonneg (by omega) (by omega)
  let ρ := envI [k, n, g, z, upI z g, upI (tlI z g) k] (.tuple #[])
  have hT : Ex.den ρ tailX = tlI z g := by
    show IntKind.i64.wrap (z - IntKind.i64.wrap (IntKind.i64.wrap (upI z g - 1) * g)) = tlI z g
    rw [wrap64 (x := upI z g - 1) (by omega) (by omega), wrap64 (x := (upI z g - 1) * g) (by omega) (by omega), te, wrap64 (by omega) (by omega)]
  have hq : IntKind.i64.wrap (g.tdiv k) = g / k := by
    rw [Int.tdiv_eq_ediv_of_nonneg (by omega)]
    have a := Int.ediv_nonneg (show 0 ≤ g by omega) (show 0 ≤ k by omega)
    have b := Int.ediv_le_self k (show 0 ≤ g by omega)
    exact wrap64 (by omega) (by omega)
  refine ev_row (ρ := ρ) (c := cShaped) (r := []) (t := tShaped) ?_ alln ?_ shaped_ev [.int .i64 k, .int .i64 n, .int .i64 g, .int .i64 z] (shV (shR k n g z)) rfl ?_ w
  · exact all1 (show some (k != 0) = some true by rw [bne_iff_ne.2 (show k ≠ 0 by omega)])
  · refine allc (ent [.int .i64 z, .int .i64 g] (.int .i64 (upI z g)) (fun _ => rfl) (fun _ => rfl) fun w => still (upward_any w z g hz (by omega) hg)) (all1 ?_)
    exact ent [.int .i64 (tlI z g), .int .i64 k] (.int .i64 (upI (tlI z g) k)) (fun _ => by simp only [List.map_cons, List.map_nil, E64_inst, hT, B64]; rfl) (fun _ => rfl) fun w => still (upward_any w _ k t1 (by omega) hk)
  · intro ms
    simp only [AV.inst]
    rw [row_den]
    simp only [List.map_cons, List.map_nil, hT]
    show some (shV [k, n, g, z, upI z g, tlI z g, IntKind.i64.wrap (g.tdiv k), upI (tlI z g) k]) = _
    rw [hq]; rfl
theorem tup2 (ρ : Env) (ms : List Nat) (l : List Ex) (e : Ex) : (AV.tup [rw64 l, e64 e]).inst ρ ms = some (.tuple #[shV (l.map (Ex.den ρ)), .int .i64 (e.den ρ)]) := by
  simp only [AV.inst, List.map_cons, List.map_nil, row_den, e64_inst, seqO, Option.map_some]
theorem zs_den (ρ : Env) : zs64.map (Ex.den ρ) = sh0 := rfl
def bX (b : Bool) : AV := .tv (.sc (.bool b))
theorem bX_inst (ρ : Env) (ms : List Nat) (b : Bool) : (bX b).inst ρ ms = some (.bool b) := rfl
/-- The contract of a function that gives a shape and an error's number. -/
def mulX : Ex := .ari .mul .i64 (.var 0) (.var 5)
def prX : AV := .tv (.agg [.int .i64 (.var 0), .int .i64 (.var 1), .int .i64 (.var 2), .int .i64 (.var 3), .opq 0])
theorem prX_inst {k n g h : Int} {r : List Int} {s : Value} (hs : s.oneCell' = true) (ms : List Nat) : prX.inst (envI (k :: n :: g :: h :: r) s) ms = some (prV k n g h s) := by
  simp [prX, AV.inst, TV.inst, SV.inst, seqO, Ex.den, envI, hs, prV]
def shape_t1 (e : Int) : List (Nat × List AV × AV) := [(34, [prX], E64 (.lit e))]
def shape_t2 : List (Nat × List AV × AV) := [(34, [prX], E64 (.lit 0)), (28, [B64 2, B64 0], B64 5), (36, [B64 0, B64 1, E64 mulX, B64 4], .tv (rw64 [.var 0, .var 1, mulX, .var 4, .var 6, .var 7, .var 8, .var 9]))]
def sh_t (b : Bool) : Nat × List AV × AV := (35, [B64 4], bX b)
theorem shape_ev1 : (evCallF Try.prog (tabLore [] []) (tabCon (shape_t1 3)) 100 16 [prX, B64 4] []).map (·.1) = some (.tup [rw64 zs64, e64 (.lit 3)]) := by kernel_rfl
theorem shape_ev2 : (evCallF Try.prog (tabLore [] []) (tabCon (sh_t false :: shape_t1 0)) 100 16 [prX, B64 4] []).map (·.1) = some (.tup [rw64 zs64, e64 (.lit 4)]) := by kernel_rfl
theorem shape_ev3 : (evCallF Try.prog (tabLore [(.gtr, .var 6, .lit 512, true)] []) (tabCon (sh_t true :: shape_t2)) 100 16 [prX, B64 4] []).map (·.1) = some (.tup [rw64 zs64, e64 (.lit 3)]) := by kernel_rfl
theorem shape_ev4 : (evCallF Try.prog (tabLore [(.gtr, .var 6, .lit 512, false)] []) (tabCon (sh_t true :: shape_t2)) 100 16 [prX, B64 4] []).map (·.1) = some (.tup [rw64 [.var 0, .var 1, mulX, .var 4, .var 6, .var 7, .var 8, .var 9], e64 (.lit 0)]) := by kernel_rfl
theorem shape_any (w : World) (k n g h z : Int) (p : Option Addr) (l c : Nat) : Calls Try.prog 16 #[prV k n g h (.slice p l c), .int .i64 z] w fun e w' => e = .returned (.tuple #[shV (shpT k n g l z), .int .i64 (shpE k n g l z)]) ∧ Below w.heap.size w w' := by
  have hs : (Value.slice p l c).oneCell' = true := rfl
  have hsh : ∀ ρ b, szB z = b → Ex.den ρ (.var 4) = z → EntOk ρ (sh_t b) := fun ρ b hb hz => ent [.int .i64 z] (.bool b) (fun _ => by simp only [List.map_cons, List.map_nil, B64, E64_inst, hz]) (fun _ => rfl) fun w => by rw [← hb]; exact still (shared_any w z)
  by_cases hp : OkP k n g l
  · have hch : ∀ w, Calls Try.prog 34 #[prV k n g h (.slice p l c)] w fun e w' => e = .returned (.int .i64 0) ∧ Below w.heap.size w w' := fun w => by
      have := check_any w k n g h p l c
      rwa [chkE, if_pos hp] at this
    obtain ⟨h1, h2, h3, h4, h5, h6⟩ := id hp
    by_cases hz : 33 ≤ z ∧ z ≤ 16777216
    · have hb : szB z = true := decide_eq_true hz
      have u1 := upI_pos h4 h1
      have u2 := up_ge (x := g) h1
      have u3 := up_lt (x := g) h1
      let ρ := envI [k, n, g, h, z, upI g k, upI z (k * upI g k), tlI z (k * upI g k), k * upI g k / k, upI (tlI z (k * upI g k)) k] (.slice p l c)
      have hm : Ex.den ρ mulX = k * upI g k := wrap64 (x := k * upI g k) (by omega) (by omega)
      have hent : ∀ e ∈ sh_t true :: shape_t2, EntOk ρ e := by
        refine allc (hsh ρ true hb rfl) (allc ?_ (allc ?_ (all1 ?_)))
        · exact ent [prV k n g h (.slice p l c)] (.int .i64 0) (fun ms => by simp only [List.map_cons, List.map_nil]; rw [prX_inst hs]) (fun _ => rfl) hch
        · exact ent [.int .i64 g, .int .i64 k] (.int .i64 (upI g k)) (fun _ => rfl) (fun _ => rfl) fun w => still (upward_any w g k h4 (by omega) h1)
        · refine ent [.int .i64 k, .int .i64 n, .int .i64 (k * upI g k), .int .i64 z] (shV (shR k n (k * upI g k) z)) (fun ms => by simp only [List.map_cons, List.map_nil, B64, E64_inst, hm]; rfl) (fun ms => ?_) fun w => shaped_any w k n _ z h1 (by omega) (by omega) (by omega) (by omega) hz.2
          simp only [AV.inst]
          rw [row_den]
          simp only [List.map_cons, List.map_nil, hm]
          rfl
      by_cases h9 : upI z (k * upI g k) ≤ 512
      · have e1 : shpE k n g l z = 0 := by rw [shpE, if_pos hp, if_pos hz, if_pos h9]
        have e2 : shpT k n g l z = shR k n (k * upI g k) z := by rw [shpT, if_pos e1]
        rw [e1, e2]
        refine ev_row (ρ := ρ) (all1 ?_) alln hent shape_ev4 [prV k n g h (.slice p l c), .int .i64 z] _ ?_ (fun ms => ?_) w
        · show some (decide (upI z (k * upI g k) > 512)) = some false
          rw [decide_eq_false (by omega)]
        · simp only [List.map_cons, List.map_nil]; rw [prX_inst hs]; rfl
        · rw [tup2]
          simp only [List.map_cons, List.map_nil, hm]
          rfl
      · have e1 : shpE k n g l z = 3 := by rw [shpE, if_pos hp, if_pos hz, if_neg h9]
        have e2 : shpT k n g l z = sh0 := by rw [shpT, if_neg (by omega)]
        rw [e1, e2]
        refine ev_row (ρ := ρ) (all1 ?_) alln hent shape_ev3 [prV k n g h (.slice p l c), .int .i64 z] _ ?_ (fun ms => ?_) w
        · show some (decide (upI z (k * upI g k) > 512)) = some true
          rw [decide_eq_true (by omega)]
        · simp only [List.map_cons, List.map_nil]; rw [prX_inst hs]; rfl
        · rw [tup2, zs_den]; rfl
    · have hb : szB z = false := decide_eq_false hz
      have e1 : shpE k n g l z = 4 := by rw [shpE, if_pos hp, if_neg hz]
      have e2 : shpT k n g l z = sh0 := by rw [shpT, if_neg (by omega)]
      rw [e1, e2]
      refine ev_row (ρ := envI [k, n, g, h, z] (.slice p l c)) alln alln (allc (hsh _ false hb rfl) (all1 ?_)) shape_ev2 [prV k n g h (.slice p l c), .int .i64 z] _ ?_ (fun ms => ?_) w
      · exact ent [prV k n g h (.slice p l c)] (.int .i64 0) (fun ms => by simp only [List.map_cons, List.map_nil]; rw [prX_inst hs]) (fun _ => rfl) hch
      · simp only [List.map_cons, List.map_nil]; rw [prX_inst hs]; rfl
      · rw [tup2, zs_den]; rfl
  · have e1 : shpE k n g l z = 3 := by rw [shpE, if_neg hp]
    have e2 : shpT k n g l z = sh0 := by rw [shpT, if_neg (by omega)]
    rw [e1, e2]
    refine ev_row (ρ := envI [k, n, g, h, z] (.slice p l c)) alln alln (all1 ?_) shape_ev1 [prV k n g h (.slice p l c), .int .i64 z] _ ?_ (fun ms => ?_) w
    · refine ent [prV k n g h (.slice p l c)] (.int .i64 3) (fun ms => by simp only [List.map_cons, List.map_nil]; rw [prX_inst hs]) (fun _ => rfl) fun w => ?_
      have := check_any w k n g h p l c
      rwa [chkE, if_neg hp] at this
    · simp only [List.map_cons, List.map_nil]; rw [prX_inst hs]; rfl
    · rw [tup2, zs_den]; rfl
end Go.Proofs.Ytdmdcnikhnoclab
