/- '==' of two Uebs. -/
import Derived.Test.YthcdefidoibopabDoorUbRead
import Derived.Test.YthcdefidoibopabDoorArrays
import Derived.Laws.StructEq
set_option linter.unusedVariables false
set_option linter.unusedSimpArgs false
namespace Go.Proofs.YthcdefidoibopabDoor
open Go Go.RowKit

def ubE (u v : Ub) : Bool := u.k == v.k && (u.n == v.n && (u.g == v.g && (u.z == v.z && (decide (u.a = v.a) && decide (u.b = v.b)))))
theorem ubE_iff (u v : Ub) : ubE u v = true ↔ u = v := by
  unfold ubE
  cases u; cases v
  simp
theorem rows_inj {u v : Ub} (hu : RB u) (hv : RB v) (h : ubRows u = ubRows v) : u = v := by
  have q : ∀ x y : Int, 0 ≤ x → 0 ≤ y → dgL x.toNat = dgL y.toNat → x = y := fun x y hx hy e => by have := dgL_inj e; omega
  unfold ubRows at h
  simp only [List.cons.injEq, Prod.mk.injEq, true_and, and_true] at h
  obtain ⟨e1, e2, e3, e4, e5, e6⟩ := h
  cases u; cases v
  obtain ⟨r1, r2, r3, r4⟩ := hu
  obtain ⟨s1, s2, s3, s4⟩ := hv
  simp only at e1 e2 e3 e4 e5 e6 r1 r2 r3 r4 s1 s2 s3 s4
  rw [q _ _ r1.1 s1.1 e1, q _ _ r2.1 s2.1 e2, q _ _ r3.1 s3.1 e3, e4, e5, q _ _ r4.1 s4.1 e6]
theorem part_ub0 (w : World) (u : Ub) : (part 3 (ubA u) 0).run Tryd.prog w = .ok (.int .i64 u.k) w := by
  have e : (ubA u)[0]? = some (.int .i64 u.k) := rfl
  simp [part, e]
theorem part_ub1 (w : World) (u : Ub) : (part 3 (ubA u) 1).run Tryd.prog w = .ok (.int .i64 u.n) w := by
  have e : (ubA u)[1]? = some (.int .i64 u.n) := rfl
  simp [part, e]
theorem part_ub2 (w : World) (u : Ub) : (part 3 (ubA u) 2).run Tryd.prog w = .ok (.int .i64 u.g) w := by
  have e : (ubA u)[2]? = some (.int .i64 u.g) := rfl
  simp [part, e]
theorem part_ub3 (w : World) (u : Ub) : (part 3 (ubA u) 3).run Tryd.prog w = .ok (.int .i64 u.z) w := by
  have e : (ubA u)[3]? = some (.int .i64 u.z) := rfl
  simp [part, e]
theorem cellsB_is (l : List Int) : cellsB l = (l.map (Value.int .u8)).toArray := rfl
theorem info_dig32 : (Tryd.prog.info? 39).map (fun i => i.size) = some 32 := by kernel_rfl
set_option maxRecDepth 100000 in
theorem part_uba (w : World) (u : Ub) (h : u.ok) : (part 39 (ubA u) 4).run Tryd.prog w = .ok (.agg (cellsB u.a)) w := by
  cases hi : Tryd.prog.info? 39 with
  | none => have := info_dig32; rw [hi] at this; cases this
  | some i0 =>
    have hz : i0.size = 32 := by have := info_dig32; rw [hi] at this; simpa using this
    have e3 : ((ubA u).extract 4 36) = cellsB u.a := by
      rw [cellsB_is]
      apply Array.ext'
      simp [ubA, ubL, h.1.1, List.take_append]
    simp [part, isAgg, run_underlying Tryd.underlying39, sizeOf, typeInfo, hi, hz, e3]
set_option maxRecDepth 100000 in
theorem part_ubb (w : World) (u : Ub) (h : u.ok) : (part 39 (ubA u) 36).run Tryd.prog w = .ok (.agg (cellsB u.b)) w := by
  cases hi : Tryd.prog.info? 39 with
  | none => have := info_dig32; rw [hi] at this; cases this
  | some i0 =>
    have hz : i0.size = 32 := by have := info_dig32; rw [hi] at this; simpa using this
    have e3 : ((ubA u).extract 36 68) = cellsB u.b := by
      rw [cellsB_is]
      apply Array.ext'
      simp [ubA, ubL, h.1.1, h.2.1, List.drop_append, List.take_of_length_le]
    simp [part, isAgg, run_underlying Tryd.underlying39, sizeOf, typeInfo, hi, hz, e3]
set_option maxRecDepth 100000 in
theorem run_eql_ueb (w : World) (u v : Ub) (hu : u.ok) (hv : v.ok) : (binOp .eql 41 (.agg (ubA u)) (.agg (ubA v))).run Tryd.prog w = .ok (.bool (ubE u v)) w := by
  rw [run_eql_struct, run_equalIn_struct w 9999 _ _ _ (by kernel_rfl) (by kernel_rfl)]
  have hf : ∃ f0 f1 f2 f3 f4 f5, (Tryd.prog.fieldsOf 41).toList = [f0, f1, f2, f3, f4, f5] ∧ (f0.name ≠ "_" ∧ f0.type = 3 ∧ f0.offset = 0) ∧ (f1.name ≠ "_" ∧ f1.type = 3 ∧ f1.offset = 1) ∧ (f2.name ≠ "_" ∧ f2.type = 3 ∧ f2.offset = 2) ∧ (f3.name ≠ "_" ∧ f3.type = 3 ∧ f3.offset = 3) ∧ (f4.name ≠ "_" ∧ f4.type = 39 ∧ f4.offset = 4) ∧ f5.name ≠ "_" ∧ f5.type = 39 ∧ f5.offset = 36 := ⟨_, _, _, _, _, _, rfl, ⟨by decide, rfl, rfl⟩, ⟨by decide, rfl, rfl⟩, ⟨by decide, rfl, rfl⟩, ⟨by decide, rfl, rfl⟩, ⟨by decide, rfl, rfl⟩, by decide, rfl, rfl⟩
  obtain ⟨f0, f1, f2, f3, f4, f5, e0, ⟨n0, t0, o0⟩, ⟨n1, t1, o1⟩, ⟨n2, t2, o2⟩, ⟨n3, t3, o3⟩, ⟨n4, t4, o4⟩, n5, t5, o5⟩ := hf
  rw [e0]
  have hqa := run_equalIn_bytes w 9997 32 39 Tryd.underlying39 u.a v.a hu.1.1 hv.1.1
  have hqb := run_equalIn_bytes w 9997 32 39 Tryd.underlying39 u.b v.b hu.2.1 hv.2.1
  have hi := fun x y => run_equalIn_int (P := Tryd.prog) w 9998 3 .i64 .i64 x y Tryd.underlying3
  simp only [Op.eqFields, n0, n1, n2, n3, n4, n5, t0, t1, t2, t3, t4, t5, o0, o1, o2, o3, o4, o5, if_true, ne_eq, not_false_eq_true, Sem.run_bind, part_ub0, part_ub1, part_ub2, part_ub3, part_uba _ u hu, part_uba _ v hv, part_ubb _ u hu, part_ubb _ v hv, Result.andThen_ok, hi]
  unfold ubE
  cases h1 : (u.k == v.k) with
  | false => simp
  | true =>
    cases h2 : (u.n == v.n) with
    | false => simp [part_ub1, hi, h2]
    | true =>
      cases h3 : (u.g == v.g) with
      | false => simp [part_ub1, part_ub2, hi, h2, h3]
      | true =>
        cases h4 : (u.z == v.z) with
        | false => simp [part_ub1, part_ub2, part_ub3, hi, h2, h3, h4]
        | true =>
          cases h5 : decide (u.a = v.a) with
          | false =>
            rw [h5] at hqa
            simp [part_ub1, part_ub2, part_ub3, part_uba _ u hu, part_uba _ v hv, hi, h2, h3, h4, hqa]
          | true =>
            rw [h5] at hqa
            cases h6 : decide (u.b = v.b) with
            | false =>
              rw [h6] at hqb
              simp [part_ub1, part_ub2, part_ub3, part_uba _ u hu, part_uba _ v hv, part_ubb _ u hu, part_ubb _ v hv, hi, h2, h3, h4, hqa, hqb]
            | true =>
              rw [h6] at hqb
              simp [part_ub1, part_ub2, part_ub3, part_uba _ u hu, part_uba _ v hv, part_ubb _ u hu, part_ubb _ v hv, hi, h2, h3, h4, hqa, hqb]
end Go.Proofs.YthcdefidoibopabDoor
