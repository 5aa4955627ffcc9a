/- GfExponents: the law, walked by the evaluator. -/
import Derived.Test.YtdoenaoemdhniabGfLawsLaw
import Derived.IntWalk
set_option linter.unusedVariables false
set_option linter.unusedSimpArgs false
namespace Go.Proofs.Ytdoenaoemdhniab
open Go Go.RowKit Ev

/-- Half the number. -/
def mE : Ex := .ari .quo .i64 (.var 2) (.lit 2)
def xpTab (q r : Bool) : List (Nat × List AV × AV) :=
  (if q then [(12, [B8 0], .tup [e64 (.lit 0), e64 (.lit 60)]), (14, [B8 0, E64 mE], .tup [e8 (.var 9), e64 (.var 11)]), (14, [B8 0, E64 (.ari .add .i64 mE (.lit 1))], .tup [e8 (.var 10), e64 (.var 12)])]
    else [(12, [B8 0], .tup [e64 (.var 3), e64 (.lit 0)]), (13, [B64 3], B8 0), (14, [B8 0, E64 mE], .tup [e8 (.var 9), e64 (.lit 0)]), (14, [B8 0, E64 (.ari .add .i64 mE (.lit 1))], .tup [e8 (.var 10), e64 (.lit 0)]), (8, [B8 9, B8 0], B8 10)]) ++
  (if r then [(12, [B8 1], .tup [e64 (.lit 0), e64 (.lit 60)])] else [(12, [B8 1], .tup [e64 (.var 4), e64 (.lit 0)])]) ++
  (if q || r then [] else [(13, [E64 (.ari .add .i64 (.var 3) (.var 4))], B8 5)]) ++ [
  (11, [], .tv (.sc (.bool true))),
  (8, [B8 0, B8 1], B8 5),
  (13, [E64 (.ari .add .i64 mE (.lit 255))], B8 6),
  (13, [E64 mE], B8 6),
  (8, [B8 6, E8 (.lit 2)], B8 7),
  (13, [E64 (.ari .add .i64 mE (.lit 1))], B8 7),
  (13, [E64 (.ari .sub .i64 (.lit 0) mE)], B8 8),
  (8, [B8 6, B8 8], E8 (.lit 1))]
def xpCmp (q r : Bool) : List (BinOp × Ex × Ex × Bool) := [(.eql, .var 0, .lit 0, q), (.neq, .var 0, .lit 0, !q), (.neq, .var 1, .lit 0, !r), (.lss, .var 3, .lit 0, false), (.gtr, .var 3, .lit 254, false)]
theorem xp_ev : ([true, false].all fun q => [true, false].all fun r => decide (evCallF Try.prog (tabLore (xpCmp q r)) (tabCon (xpTab q r)) 100 4 [B8 0, B8 1, B64 2] [] = some (.tv (.sc (.bool true)), []))) = true := by kernel_rfl
theorem half_bd (n : Int) (h1 : -9223372036854775808 ≤ n) (h2 : n ≤ 9223372036854775807) : -4611686018427387904 ≤ n.tdiv 2 ∧ n.tdiv 2 ≤ 4611686018427387904 := by
  rcases Int.le_total 0 n with h | h
  · rw [Int.tdiv_eq_ediv_of_nonneg h]
    omega
  · have e : n.tdiv 2 = -((-n).tdiv 2) := by rw [Int.neg_tdiv, Int.neg_neg]
    rw [e, Int.tdiv_eq_ediv_of_nonneg (by omega)]
    omega
theorem ex_powA (a : Nat) (k : Int) (ha : a < 256) (h0 : a ≠ 0) : powA a (k % 255).toNat = ex ((lg a : Int) * k) := by
  rw [powA_lg a ha h0, ← ex_nat, Int.natCast_mul, Int.toNat_of_nonneg (by omega)]
  unfold ex
  congr 2
  rw [Int.mul_emod, Int.emod_emod_of_dvd k (Int.dvd_refl 255), ← Int.mul_emod]
theorem powV_some (a : Nat) (k : Int) (ha : a < 256) (h0 : a ≠ 0) : powV a k = (ex ((lg a : Int) * k), 0) := by
  unfold powV
  split
  · rename_i h
    subst h
    rw [Int.mul_zero, ex_zero]
  · rw [ex_powA a k ha h0]
theorem entU {f : Nat} {x : Int} {z : Nat} {ex ez : Ex} {ρ : Env} (h : ∀ w, Calls Try.prog f #[.int .i64 x] w fun e w' => e = .returned (.int .u8 (z : Int)) ∧ Below w.heap.size w w') (h1 : ex.den ρ = x) (h3 : ez.den ρ = z) : EntOk ρ (f, [E64 ex], E8 ez) :=
  ent [.int .i64 x] _ (fun ms => by simp only [E64, e64, List.map_cons, List.map_nil, AV.inst, TV.inst, SV.inst, h1]) (fun ms => by simp only [E8, e8, AV.inst, TV.inst, SV.inst, h3]) h
theorem entP {f : Nat} {a : Nat} {x : Int} {z : Nat} {u : Int} {ea ex ez eu : Ex} {ρ : Env} (h : ∀ w, Calls Try.prog f #[.int .u8 (a : Int), .int .i64 x] w fun e w' => e = .returned (.tuple #[.int .u8 (z : Int), .int .i64 u]) ∧ Below w.heap.size w w') (h0 : ea.den ρ = a) (h1 : ex.den ρ = x) (h3 : ez.den ρ = z) (h4 : eu.den ρ = u) : EntOk ρ (f, [E8 ea, E64 ex], .tup [e8 ez, e64 eu]) :=
  ent [.int .u8 _, .int .i64 x] _ (fun ms => by simp only [E8, e8, E64, e64, List.map_cons, List.map_nil, AV.inst, TV.inst, SV.inst, h1, h0]) (fun ms => by simp only [e8, e64, AV.inst, TV.inst, SV.inst, List.map_cons, List.map_nil, h3, h4]; rfl) h
theorem ent88 {f : Nat} {x y z : Nat} {ex ey ez : Ex} {ρ : Env} (h : ∀ w, Calls Try.prog f #[.int .u8 (x : Int), .int .u8 (y : Int)] w fun e w' => e = .returned (.int .u8 (z : Int)) ∧ Below w.heap.size w w') (h1 : ex.den ρ = x) (h2 : ey.den ρ = y) (h3 : ez.den ρ = z) : EntOk ρ (f, [E8 ex, E8 ey], E8 ez) :=
  ent [.int .u8 _, .int .u8 _] _ (fun ms => by simp only [E8, e8, List.map_cons, List.map_nil, AV.inst, TV.inst, SV.inst, h1, h2]) (fun ms => by simp only [E8, e8, AV.inst, TV.inst, SV.inst, h3]) h
theorem exponents_walk (w : World) (a b : Nat) (n : Int) (ha : a < 256) (hb : b < 256) (hn : -9223372036854775808 ≤ n ∧ n ≤ 9223372036854775807) :
    Calls Try.prog 4 #[.int .u8 (a : Int), .int .u8 (b : Int), .int .i64 n] w fun e w' => e = .returned (.bool true) ∧ Below w.heap.size w w' := by
  have hev := List.all_eq_true.1 (List.all_eq_true.1 xp_ev (decide (a = 0)) (bool_mem _)) (decide (b = 0)) (bool_mem _)
  rw [decide_eq_true_eq] at hev
  have hm := half_bd n hn.1 hn.2
  obtain ⟨m, hmE⟩ : ∃ m, m = n.tdiv 2 := ⟨_, rfl⟩
  rw [← hmE] at hm
  have la := lg_lt a ha
  have lb := lg_lt b hb
  obtain ⟨ρ, hρ⟩ : ∃ ρ, ρ = envI [(a : Int), (b : Int), n, ((lg a : Nat) : Int), ((lg b : Nat) : Int), ((prod a b : Nat) : Int), ((ex m : Nat) : Int), ((ex (m + 1) : Nat) : Int), ((ex (-m) : Nat) : Int), (((powV a m).1 : Nat) : Int), (((powV a (m + 1)).1 : Nat) : Int), (powV a m).2, (powV a (m + 1)).2] := ⟨_, rfl⟩
  have v0 : (Ex.var 0).den ρ = (a : Int) := by rw [hρ]; rfl
  have v1 : (Ex.var 1).den ρ = (b : Int) := by rw [hρ]; rfl
  have v3 : (Ex.var 3).den ρ = ((lg a : Nat) : Int) := by rw [hρ]; rfl
  have v4 : (Ex.var 4).den ρ = ((lg b : Nat) : Int) := by rw [hρ]; rfl
  have v5 : (Ex.var 5).den ρ = ((prod a b : Nat) : Int) := by rw [hρ]; rfl
  have v6 : (Ex.var 6).den ρ = ((ex m : Nat) : Int) := by rw [hρ]; rfl
  have v7 : (Ex.var 7).den ρ = ((ex (m + 1) : Nat) : Int) := by rw [hρ]; rfl
  have v8 : (Ex.var 8).den ρ = ((ex (-m) : Nat) : Int) := by rw [hρ]; rfl
  have v9 : (Ex.var 9).den ρ = (((powV a m).1 : Nat) : Int) := by rw [hρ]; rfl
  have v10 : (Ex.var 10).den ρ = (((powV a (m + 1)).1 : Nat) : Int) := by rw [hρ]; rfl
  have v11 : (Ex.var 11).den ρ = (powV a m).2 := by rw [hρ]; rfl
  have v12 : (Ex.var 12).den ρ = (powV a (m + 1)).2 := by rw [hρ]; rfl
  have vm : mE.den ρ = m := by
    rw [hρ]
    show IntKind.i64.wrap (n.tdiv 2) = m
    rw [← hmE]
    exact IntWalk.i64_in m (by omega)
  have vadd : ∀ k : Int, 0 ≤ k → k ≤ 255 → (Ex.ari .add .i64 mE (.lit k)).den ρ = m + k := fun k h1 h2 => by
    show IntKind.i64.wrap (mE.den ρ + k) = _
    rw [vm]
    exact IntWalk.i64_in _ (by omega)
  have vneg : (Ex.ari .sub .i64 (.lit 0) mE).den ρ = -m := by
    show IntKind.i64.wrap (0 - mE.den ρ) = _
    rw [vm, IntWalk.i64_in _ (by omega)]
    omega
  have vlog : (Ex.ari .add .i64 (.var 3) (.var 4)).den ρ = ((lg a + lg b : Nat) : Int) := by
    show IntKind.i64.wrap ((Ex.var 3).den ρ + (Ex.var 4).den ρ) = _
    rw [v3, v4, IntWalk.i64_in _ (by omega)]
    omega
  have hargs : [B8 0, B8 1, B64 2].map (AV.inst ρ []) = (#[.int .u8 (a : Int), .int .u8 (b : Int), .int .i64 n] : Array Value).toList.map some := by rw [hρ]; rfl
  clear hρ
  have X : ∀ (w : World) (x : Int) (z : Nat), -9223372036854775808 ≤ x → x ≤ 9223372036854775807 → ex x = z → Calls Try.prog 13 #[.int .i64 x] w fun e w' => e = .returned (.int .u8 (z : Int)) ∧ Below w.heap.size w w' := fun w x z h1 h2 h3 => by
    rw [← h3]
    exact exp_any w x h1 h2
  have P : ∀ (w : World) (x y z : Nat), x < 256 → y < 256 → prod x y = z → Calls Try.prog 8 #[.int .u8 (x : Int), .int .u8 (y : Int)] w fun e w' => e = .returned (.int .u8 (z : Int)) ∧ Below w.heap.size w w' := fun w x y z hx hy hz => by
    rw [← hz]
    exact still (mul_any w x y hx hy)
  refine ret_true (calls_of_evF (tabLore_ok (ρ := ρ) ?_) (tabCon_ok ?_) mixedOrders 100 hev (args := #[.int .u8 (a : Int), .int .u8 (b : Int), .int .i64 n]) w hargs)
  · intro e he
    simp only [xpCmp, List.mem_cons, List.not_mem_nil, or_false] at he
    rcases he with rfl | rfl | rfl | rfl | rfl
    · show some ((Ex.var 0).den ρ == 0) = _
      rw [v0, eq_nat]
    · show some ((Ex.var 0).den ρ != 0) = _
      rw [v0, bne, eq_nat]
    · show some ((Ex.var 1).den ρ != 0) = _
      rw [v1, bne, eq_nat]
    · show some (decide ((Ex.var 3).den ρ < 0)) = _
      rw [v3, decide_eq_false (by omega)]
    · show some (decide ((Ex.var 3).den ρ > 254)) = _
      rw [v3, decide_eq_false (by omega)]
  · intro e he
    simp only [xpTab, List.mem_append] at he
    rcases he with ((he | he) | he) | he
    · by_cases h0 : a = 0
      · rw [decide_eq_true h0, if_pos rfl] at he
        simp only [List.mem_cons, List.not_mem_nil, or_false] at he
        rcases he with rfl | rfl | rfl
        · exact ent [.int .u8 0] _ (fun _ => by simp only [B8, E8, e8, List.map_cons, List.map_nil, AV.inst, TV.inst, SV.inst, v0, h0]; rfl) (fun _ => rfl) fun w => log_none w
        · exact entP (fun w => pow_any w a m ha (by omega) (by omega)) v0 vm v9 v11
        · exact entP (fun w => pow_any w a (m + 1) ha (by omega) (by omega)) v0 (vadd 1 (by decide) (by decide)) v10 v12
      · rw [decide_eq_false h0, if_neg (by decide)] at he
        simp only [List.mem_cons, List.not_mem_nil, or_false] at he
        have p1 := powV_some a m ha h0
        have p2 := powV_some a (m + 1) ha h0
        rcases he with rfl | rfl | rfl | rfl | rfl
        · exact ent [.int .u8 (a : Int)] (.tuple #[.int .i64 ((lg a : Nat) : Int), .int .i64 0]) (fun _ => by simp only [B8, E8, e8, List.map_cons, List.map_nil, AV.inst, TV.inst, SV.inst, v0]) (fun _ => by simp only [e64, AV.inst, TV.inst, SV.inst, List.map_cons, List.map_nil, v3]; rfl) fun w => log_any w a ha h0
        · exact entU (fun w => X w (lg a : Int) a (by omega) (by omega) (ex_lg a ha h0)) v3 v0
        · exact entP (fun w => pow_any w a m ha (by omega) (by omega)) v0 vm v9 (by rw [p1]; rfl)
        · exact entP (fun w => pow_any w a (m + 1) ha (by omega) (by omega)) v0 (vadd 1 (by decide) (by decide)) v10 (by rw [p2]; rfl)
        · refine ent88 (fun w => P w (powV a m).1 a (powV a (m + 1)).1 (powV_lt a m) ha ?_) v9 v0 v10
          rw [p1, p2]
          show prod (ex ((lg a : Int) * m)) a = ex ((lg a : Int) * (m + 1))
          have h := ex_add ((lg a : Int) * m) (lg a : Int)
          rw [ex_lg a ha h0] at h
          rw [h, Int.mul_add, Int.mul_one]
    · by_cases h0 : b = 0
      · rw [decide_eq_true h0, if_pos rfl] at he
        simp only [List.mem_cons, List.not_mem_nil, or_false] at he
        subst he
        exact ent [.int .u8 0] _ (fun _ => by simp only [B8, E8, e8, List.map_cons, List.map_nil, AV.inst, TV.inst, SV.inst, v1, h0]; rfl) (fun _ => rfl) fun w => log_none w
      · rw [decide_eq_false h0, if_neg (by decide)] at he
        simp only [List.mem_cons, List.not_mem_nil, or_false] at he
        subst he
        exact ent [.int .u8 (b : Int)] (.tuple #[.int .i64 ((lg b : Nat) : Int), .int .i64 0]) (fun _ => by simp only [B8, E8, e8, List.map_cons, List.map_nil, AV.inst, TV.inst, SV.inst, v1]) (fun _ => by simp only [e64, AV.inst, TV.inst, SV.inst, List.map_cons, List.map_nil, v4]; rfl) fun w => log_any w b hb h0
    · by_cases h0 : a = 0
      · rw [decide_eq_true h0, Bool.true_or, if_pos rfl] at he
        cases he
      · by_cases h1 : b = 0
        · rw [decide_eq_true h1, Bool.or_true, if_pos rfl] at he
          cases he
        · rw [decide_eq_false h0, decide_eq_false h1, Bool.or_false, if_neg (by decide)] at he
          simp only [List.mem_cons, List.not_mem_nil, or_false] at he
          subst he
          exact entU (fun w => X w ((lg a + lg b : Nat) : Int) (prod a b) (by omega) (by omega) (by rw [ex_nat, prod_lg a b ha hb h0 h1])) vlog v5
    · simp only [List.mem_cons, List.not_mem_nil, or_false] at he
      rcases he with rfl | rfl | rfl | rfl | rfl | rfl | rfl | rfl
      · exact ent [] _ (fun _ => rfl) (fun _ => rfl) fun w => awake_any w
      · exact ent88 (fun w => P w a b (prod a b) ha hb rfl) v0 v1 v5
      · exact entU (fun w => X w (m + 255) (ex m) (by omega) (by omega) (ex_more m)) (vadd 255 (by decide) (by decide)) v6
      · exact entU (fun w => X w m (ex m) (by omega) (by omega) rfl) vm v6
      · refine ent88 (fun w => P w (ex m) 2 (ex (m + 1)) (ex_lt m) (by decide) ?_) v6 rfl v7
        exact ex_add m 1
      · exact entU (fun w => X w (m + 1) (ex (m + 1)) (by omega) (by omega) rfl) (vadd 1 (by decide) (by decide)) v7
      · exact entU (fun w => X w (-m) (ex (-m)) (by omega) (by omega) rfl) vneg v8
      · refine ent88 (fun w => P w (ex m) (ex (-m)) 1 (ex_lt m) (ex_lt _) ?_) v6 v8 rfl
        rw [ex_add, Int.add_right_neg, ex_zero]
end Go.Proofs.Ytdoenaoemdhniab
