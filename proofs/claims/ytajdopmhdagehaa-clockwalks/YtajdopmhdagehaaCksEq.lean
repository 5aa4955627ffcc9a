/- '==' and '!=' of two things that are due. -/
import Derived.Test.YtajdopmhdagehaaCksA
import Derived.Laws.StructEq
set_option linter.unusedVariables false
set_option linter.unusedSimpArgs false
namespace Go.Proofs.Ytajdopmhdagehaa.Ds
open Go.Proofs.Ytajdopmhdagehaa
open Go Go.RowKit

theorem same3 (a b : ByteArray) : (a.toList == b.toList) = decide (a = b) := by
  by_cases h : a = b
  · simp [h]
  · have : a.toList ≠ b.toList := fun e => h (ByteArray.ext (by
      have h1 := congrArg List.toArray e
      simpa [ByteArray.toList_eq] using h1))
    simp [h, this]
set_option maxRecDepth 100000 in
theorem run_eq_due (w : World) (a b : Pr) : (Op.equalIn 10000 56 (.agg #[.int .i64 a.1, .int .i64 a.2.1, .string a.2.2]) (.agg #[.int .i64 b.1, .int .i64 b.2.1, .string b.2.2])).run Try.prog w = .ok (decide (a = b)) w := by
  rw [run_equalIn_struct w 9999 _ _ _ (by kernel_rfl) (by kernel_rfl)]
  have hf : ∃ f0 f1 f2, (Try.prog.fieldsOf 56).toList = [f0, f1, f2] ∧ f0.name ≠ "_" ∧ f0.type = 3 ∧ f0.offset = 0 ∧ f1.name ≠ "_" ∧ f1.type = 3 ∧ f1.offset = 1 ∧ f2.name ≠ "_" ∧ f2.type = 9 ∧ f2.offset = 2 := ⟨_, _, _, rfl, by decide, rfl, rfl, by decide, rfl, rfl, by decide, rfl, rfl⟩
  obtain ⟨f0, f1, f2, e0, n0, t0, o0, n1, t1, o1, n2, t2, o2⟩ := hf
  rw [e0]
  have p0 : ∀ (x0 x1 : Int) (x2 : ByteArray), (part 3 #[.int .i64 x0, .int .i64 x1, .string x2] 0).run Try.prog w = .ok (.int .i64 x0) w := fun _ _ _ => by simp [part]
  have p1 : ∀ (x0 x1 : Int) (x2 : ByteArray), (part 3 #[.int .i64 x0, .int .i64 x1, .string x2] 1).run Try.prog w = .ok (.int .i64 x1) w := fun _ _ _ => by simp [part]
  have p2 : ∀ (x0 x1 : Int) (x2 : ByteArray), (part 9 #[.int .i64 x0, .int .i64 x1, .string x2] 2).run Try.prog w = .ok (.string x2) w := fun _ _ _ => by simp [part]
  have i0 : ∀ x y : Int, (Op.equalIn 9999 3 (.int .i64 x) (.int .i64 y)).run Try.prog w = .ok (x == y) w := fun x y => run_equalIn_int (P := Try.prog) w 9998 3 .i64 .i64 x y Try.underlying3
  have i2 : ∀ x y : ByteArray, (Op.equalIn 9999 9 (.string x) (.string y)).run Try.prog w = .ok (decide (x = y)) w := fun x y => by rw [run_equalIn_string (P := Try.prog) w 9998 9 x y Try.underlying9, same3]
  obtain ⟨a0, a1, a2⟩ := a
  obtain ⟨b0, b1, b2⟩ := b
  simp only [Op.eqFields, n0, n1, n2, t0, t1, t2, o0, o1, o2, if_true, ne_eq, not_false_eq_true, Sem.run_bind, p0, p1, p2, Result.andThen_ok, i0, i2]
  by_cases h0 : a0 = b0
  · subst h0
    by_cases h1 : a1 = b1
    · subst h1
      by_cases h2 : a2 = b2
      · subst h2
        simp [p1, p2, i0, i2]
      · simp [h2, p1, p2, i0, i2]
    · simp [h1, p1, p2, i0, i2]
  · simp [h0, p1, p2, i0, i2]
theorem run_eql_due (w : World) (a b : Pr) : (binOp .eql 56 (.agg #[.int .i64 a.1, .int .i64 a.2.1, .string a.2.2]) (.agg #[.int .i64 b.1, .int .i64 b.2.1, .string b.2.2])).run Try.prog w = .ok (.bool (decide (a = b))) w := by
  rw [run_eql_struct, run_eq_due]
  rfl
theorem run_neq_due (w : World) (a b : Pr) : (binOp .neq 56 (.agg #[.int .i64 a.1, .int .i64 a.2.1, .string a.2.2]) (.agg #[.int .i64 b.1, .int .i64 b.2.1, .string b.2.2])).run Try.prog w = .ok (.bool (!decide (a = b))) w := by
  rw [run_neq_struct, run_eq_due]
  rfl
end Go.Proofs.Ytajdopmhdagehaa.Ds
