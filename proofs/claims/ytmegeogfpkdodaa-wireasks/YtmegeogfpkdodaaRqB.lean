/- A request; whether it may be (out of SvRq: import one of them). -/
import Derived.Test.YtmegeogfpkdodaaU8
import Derived.Laws.StructEq
set_option linter.unusedVariables false
set_option linter.unusedSimpArgs false
namespace Go.Proofs.Ytmegeogfpkdodaa
open Go Go.RowKit

theorem bel_drewN {B : Nat} {a w : World} (h : Below B a w) (q : Nat) : Below B a (w.drewN q) := ⟨h.os, h.tape, h.output, h.size, h.block⟩
theorem nat0 (n : Nat) : (((n : Int)) == 0) = decide (n = 0) := by by_cases h : n = 0 <;> simp [h]
/-- A request, its bytes aside. -/
structure Rq where
  k : Int
  ix : List Int
  nb : Int
  pl : Int
  ln : Int
  who : Int
  til : Int
def rqL (r : Rq) (v : Value) : List Value := .int .u8 r.k :: (r.ix.map (Value.int .u8) ++ [.int .i64 r.nb, .int .i64 r.pl, .int .i64 r.ln, .int .u32 r.who, .int .i64 r.til, v])
def rqA (r : Rq) (v : Value) : Array Value := (rqL r v).toArray
def Rq.ok (r : Rq) : Prop := r.ix.length = 16 ∧ ∀ x ∈ r.ix, 0 ≤ x ∧ x < 256
theorem rqA_size {r : Rq} (h : r.ok) (v : Value) : (rqA r v).size = 23 := by simp [rqA, rqL, h.1]
theorem rqA_17 {r : Rq} (h : r.ok) (v : Value) : (rqA r v)[17]? = some (.int .i64 r.nb) := by
  simp [rqA, rqL, h.1, List.getElem?_append_right]
theorem rqA_18 {r : Rq} (h : r.ok) (v : Value) : (rqA r v)[18]? = some (.int .i64 r.pl) := by
  simp [rqA, rqL, h.1, List.getElem?_append_right]
theorem rqA_19 {r : Rq} (h : r.ok) (v : Value) : (rqA r v)[19]? = some (.int .i64 r.ln) := by
  simp [rqA, rqL, h.1, List.getElem?_append_right]
theorem rqA_20 {r : Rq} (h : r.ok) (v : Value) : (rqA r v)[20]? = some (.int .u32 r.who) := by
  simp [rqA, rqL, h.1, List.getElem?_append_right]
theorem rqA_21 {r : Rq} (h : r.ok) (v : Value) : (rqA r v)[21]? = some (.int .i64 r.til) := by
  simp [rqA, rqL, h.1, List.getElem?_append_right]
theorem rqA_22 {r : Rq} (h : r.ok) (v : Value) : (rqA r v)[22]? = some (v) := by
  simp [rqA, rqL, h.1, List.getElem?_append_right]
def nbB (n : Int) : Bool := decide (0 ≤ n ∧ n < 255)
def tkB (t : Int) : Bool := decide (0 ≤ t ∧ t ≤ 1099511627776)
def stB (a n : Int) : Bool := decide (0 ≤ a ∧ a ≤ 33554432 ∧ 1 ≤ n ∧ n ≤ 131072)
/-- May the request be, of so many bytes? -/
def mayB (r : Rq) (n : Nat) : Bool :=
  if r.k = 1 then decide (r.nb = 0 ∧ r.pl = 0 ∧ r.ln = 0 ∧ r.who = 0 ∧ r.til = 0 ∧ n = 0)
  else if r.k = 2 then nbB r.nb && (decide (r.pl = 0 ∧ r.ln = 0) && (tkB r.til && decide (n ≤ 33554432)))
  else if r.k = 3 then nbB r.nb && (stB r.pl r.ln && decide (r.who = 0 ∧ r.til = 0 ∧ n = 0))
  else if r.k = 4 then decide (r.nb = 0 ∧ r.pl = 0 ∧ r.ln = 0) && (tkB r.til && decide (n = 0))
  else if r.k = 5 then decide (r.nb = 0 ∧ r.pl = 0 ∧ r.ln = 0 ∧ r.til = 0 ∧ n = 0)
  else false
set_option maxRecDepth 100000 in
/-- '==' of two leases. -/
theorem eqF_lease (w : World) (a b c d : Int) : (Op.equalIn 10000 35 (.agg #[.int .u32 a, .int .i64 b]) (.agg #[.int .u32 c, .int .i64 d])).run Try.prog w = .ok (a == c && b == d) w := by
  rw [run_equalIn_struct w 9999 _ _ _ (by kernel_rfl) (by kernel_rfl)]
  have hf : ∃ f0 f1, (Try.prog.fieldsOf 35).toList = [f0, f1] ∧ f0.name ≠ "_" ∧ f0.type = 33 ∧ f0.offset = 0 ∧ f1.name ≠ "_" ∧ f1.type = 3 ∧ f1.offset = 1 := ⟨_, _, rfl, by decide, rfl, rfl, by decide, rfl, rfl⟩
  obtain ⟨f0, f1, e0, n0, t0, o0, n1, t1, o1⟩ := hf
  rw [e0]
  have p0 : ∀ x y : Int, (part 33 #[.int .u32 x, .int .i64 y] 0).run Try.prog w = .ok (.int .u32 x) w := fun x y => by simp [part]
  have p1 : ∀ x y : Int, (part 3 #[.int .u32 x, .int .i64 y] 1).run Try.prog w = .ok (.int .i64 y) w := fun x y => by simp [part]
  have i0 := fun x y => run_equalIn_int (P := Try.prog) w 9998 33 .u32 .u32 x y Try.underlying33
  have i1 := fun x y => run_equalIn_int (P := Try.prog) w 9998 3 .i64 .i64 x y Try.underlying3
  simp only [Op.eqFields, n0, n1, t0, t1, o0, o1, if_true, ne_eq, not_false_eq_true, Sem.run_bind, p0, p1, Result.andThen_ok, i0]
  cases h1 : (a == c) with
  | false => simp
  | true => cases h2 : (b == d) <;> simp [p1, i1, h2]
theorem run_eql_lease (w : World) (a b c d : Int) : (binOp .eql 35 (.agg #[.int .u32 a, .int .i64 b]) (.agg #[.int .u32 c, .int .i64 d])).run Try.prog w = .ok (.bool (a == c && b == d)) w := by
  rw [run_eql_struct, eqF_lease]
  rfl
theorem run_neq_lease (w : World) (a b c d : Int) : (binOp .neq 35 (.agg #[.int .u32 a, .int .i64 b]) (.agg #[.int .u32 c, .int .i64 d])).run Try.prog w = .ok (.bool (!(a == c && b == d))) w := by
  rw [run_neq_struct, eqF_lease]
  rfl
end Go.Proofs.Ytmegeogfpkdodaa
