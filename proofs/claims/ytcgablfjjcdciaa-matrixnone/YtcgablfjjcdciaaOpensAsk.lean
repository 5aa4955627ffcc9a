/- What a reading of the arguments gives the walks: a slice of pairs of numbers. -/
import Derived.Test.YtcgablfjjcdciaaOpens
import Derived.Test.YtcgablfjjcdciaaMatModsWalk
import Derived.Deep.SlicePairs
set_option linter.unusedSimpArgs false
set_option linter.unusedVariables false
namespace Go.Proofs.Ytcgablfjjcdciaa
open Go.ChangeShapes Go.WideShapes Go.ChangeAt Go.RowKit
variable {H : Type} {enc : TypeId × Value → H} {W : World}

theorem Opn.cells_ask : Try.prog.cellsOf 31 = 2 := by kernel_rfl
theorem Opn.cells_u32 : Try.prog.cellsOf 22 = 1 := by kernel_rfl
theorem open_HAsk {base : Nat} {v : Value} {d : DataW H} {p : List MemPlace} (h : DataW.Trod enc Try.prog W base (fun _ => true) true 23 v d p) (hv : ∃ a n c, v = .slice a n c) :
    ∃ n X Y, HAsk W v n X Y := by
  obtain ⟨a, n, c, rfl⟩ := hv
  obtain ⟨fuel, hf⟩ := h
  rcases Go.Deep.open_slice_pairs Try.underlying23 Try.underlying31 Opn.cells_ask rfl rfl Opn.cells_u32 Opn.cells_u32 hf with ⟨hcs, hx⟩ | ⟨a, len, cap, m, n, V0, V1, D0, D1, P0, P1, hcs, hb, hl, hm, hmm, hx, hel⟩
  · simp only [Value.cells, List.cons.injEq, and_true] at hcs
    rw [hcs]
    exact ⟨0, fun _ => 0, fun _ => 0, ⟨none, 0, rfl, Nat.le_refl _, Nat.zero_le _, fun _ => by show 0 < 4294967296; decide, fun _ => by show 0 < 4294967296; decide, fun h => absurd h (by omega)⟩⟩
  · simp only [Value.cells, List.cons.injEq, and_true] at hcs
    rw [hcs]
    simp only [if_true] at hmm
    subst hmm
    simp only [Prod.mk.injEq] at hx
    obtain ⟨rfl, _⟩ := hx
    have each : ∀ i, i < len → (∃ x : Nat, x < 4294967296 ∧ V0 i = .int .u32 (x : Int)) ∧ (∃ y : Nat, y < 4294967296 ∧ V1 i = .int .u32 (y : Int)) := by
      intro i hi
      obtain ⟨_, _, h3, h4⟩ := hel i (by omega)
      obtain ⟨x, e1, _, w1⟩ := DataW.trod_int Try.underlying22 h3
      obtain ⟨y, e2, _, w2⟩ := DataW.trod_int Try.underlying22 h4
      have b1 := bounds_u32 w1
      have b2 := bounds_u32 w2
      simp only [List.cons.injEq, and_true] at e1 e2
      exact ⟨⟨x.toNat, by omega, by rw [e1, Int.toNat_of_nonneg (by omega)]⟩, ⟨y.toNat, by omega, by rw [e2, Int.toNat_of_nonneg (by omega)]⟩⟩
    refine ⟨len, fun i => if hi : i < len then Classical.choose (each i hi).1 else 0, fun i => if hi : i < len then Classical.choose (each i hi).2 else 0, ⟨some a, _, rfl, by omega, hm, fun i => ?_, fun i => ?_, fun h0 => ?_⟩⟩
    · by_cases hi : i < len
      · simp only [hi, dif_pos]; exact (Classical.choose_spec (each i hi).1).1
      · simp only [hi, dif_neg, not_false_eq_true]; decide
    · by_cases hi : i < len
      · simp only [hi, dif_pos]; exact (Classical.choose_spec (each i hi).2).1
      · simp only [hi, dif_neg, not_false_eq_true]; decide
    · obtain ⟨b, off, sp⟩ := a
      obtain ⟨hu, _⟩ := hel 0 (by omega)
      have hsp : sp = none := by simpa [Addr.add] using World.cell?_spot hu
      subst hsp
      refine ⟨b, off, rfl, fun i hi => ?_⟩
      obtain ⟨h1, h2, _, _⟩ := hel i (by omega)
      rw [Go.WideShapes.add_plain] at h1 h2
      simp only [hi, dif_pos]
      rw [← (Classical.choose_spec (each i hi).1).2, ← (Classical.choose_spec (each i hi).2).2]
      exact ⟨h1, h2⟩
end Go.Proofs.Ytcgablfjjcdciaa
