/- What a reading of the arguments gives the walks: a slice of points. -/
import Derived.Test.YtmglpcenipnmbaaOpens
import Derived.Test.YtmglpcenipnmbaaGfThrough
import Derived.Deep.SlicePairs
set_option linter.unusedSimpArgs false
set_option linter.unusedVariables false
namespace Go.Proofs.Ytmglpcenipnmbaa
open Go.ChangeShapes Go.WideShapes Go.ChangeAt Go.RowKit
variable {H : Type} {enc : TypeId × Value → H} {W : World}

theorem Opn.cells_pt : Try.prog.cellsOf 54 = 2 := by kernel_rfl
theorem Opn.bytes_pt : Try.prog.bytesOf 54 = 2 := by kernel_rfl
theorem open_HPt {base : Nat} {v : Value} {d : DataW H} {p : List MemPlace} (h : DataW.Trod enc Try.prog W base (fun _ => true) true 52 v d p) (hv : ∃ a n c, v = .slice a n c) :
    ∃ n X Y, HPt W v n X Y ∧ (∀ c, v = .slice none n c → c = 0) ∧ ∀ ts ds (j : Nat), (DataW.weightsEach Try.prog ts ds).all (· ≤ reachBytes) = true → ts[j]? = some 52 → ds[j]? = some d → n ≤ 70368744175616 := by
  obtain ⟨a, n, c, rfl⟩ := hv
  obtain ⟨fuel, hf⟩ := h
  rcases Go.Deep.open_slice_pairs Try.underlying52 Try.underlying54 Opn.cells_pt rfl rfl Opn.cells_u8 Opn.cells_u8 hf with ⟨hcs, hx⟩ | ⟨a, len, cap, m, n, V0, V1, D0, D1, P0, P1, hcs, hb, hl, hm, hmm, hx, hel⟩
  · simp only [Value.cells, List.cons.injEq, and_true] at hcs
    rw [hcs]
    exact ⟨0, fun _ => 0, fun _ => 0, ⟨none, 0, rfl, Nat.le_refl _, Nat.zero_le _, fun _ => by show 0 < 256; decide, fun _ => by show 0 < 256; decide, fun h => absurd h (by omega)⟩, fun c e => by simp only [Value.slice.injEq, true_and] at e; exact e.symm, fun _ _ _ _ _ _ => Nat.zero_le _⟩
  · simp only [Value.cells, List.cons.injEq, and_true] at hcs
    rw [hcs]
    simp only [if_true] at hmm
    subst hmm
    simp only [Prod.mk.injEq] at hx
    obtain ⟨rfl, _⟩ := hx
    have each : ∀ i, i < len → (∃ x : Nat, x < 256 ∧ V0 i = .int .u8 (x : Int)) ∧ (∃ y : Nat, y < 256 ∧ V1 i = .int .u8 (y : Int)) := by
      intro i hi
      obtain ⟨_, _, h3, h4⟩ := hel i (by omega)
      obtain ⟨x, e1, _, w1⟩ := DataW.trod_int Try.underlying5 h3
      obtain ⟨y, e2, _, w2⟩ := DataW.trod_int Try.underlying5 h4
      have b1 := bounds_u8 w1
      have b2 := bounds_u8 w2
      simp only [List.cons.injEq, and_true] at e1 e2
      exact ⟨⟨x.toNat, by omega, by rw [e1, Int.toNat_of_nonneg (by omega)]⟩, ⟨y.toNat, by omega, by rw [e2, Int.toNat_of_nonneg (by omega)]⟩⟩
    refine ⟨len, fun i => if hi : i < len then Classical.choose (each i hi).1 else 0, fun i => if hi : i < len then Classical.choose (each i hi).2 else 0, ⟨some a, _, rfl, by omega, hm, fun i => ?_, fun i => ?_, fun h0 => ?_⟩, fun c e => by simp at e, fun ts ds j hs ht hd => ?_⟩
    · by_cases hi : i < len
      · simp only [hi, dif_pos]; exact (Classical.choose_spec (each i hi).1).1
      · simp only [hi, dif_neg, not_false_eq_true]; decide
    · by_cases hi : i < len
      · simp only [hi, dif_pos]; exact (Classical.choose_spec (each i hi).2).1
      · simp only [hi, dif_neg, not_false_eq_true]; decide
    · obtain ⟨b, off, sp⟩ := a
      obtain ⟨hu, _⟩ := hel 0 (by omega)
      have hsp : sp = none := by simpa [Addr.add] using World.cell?_spot hu
      subst hsp
      refine ⟨b, off, rfl, fun i hi => ?_⟩
      obtain ⟨h1, h2, _, _⟩ := hel i (by omega)
      rw [Go.WideShapes.add_plain] at h1 h2
      simp only [hi, dif_pos]
      rw [← (Classical.choose_spec (each i hi).1).2, ← (Classical.choose_spec (each i hi).2).2]
      exact ⟨h1, h2⟩
    · have := sized_slice hs ht hd Try.underlying52
      rw [Opn.bytes_pt] at this
      simp only [List.length_map, List.length_range, reachBytes] at this
      omega
end Go.Proofs.Ytmglpcenipnmbaa
