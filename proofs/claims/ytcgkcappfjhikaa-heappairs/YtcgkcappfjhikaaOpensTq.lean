/- What a reading of an argument that is a row of texts gives, with the reach's bound on its length. -/
import Derived.Test.YtcgkcappfjhikaaOpens
import Derived.Test.YtcgkcappfjhikaaHqPairs
import Derived.ChangeMaps5
set_option linter.unusedSimpArgs false
set_option linter.unusedVariables false
namespace Go.Proofs.Ytcgkcappfjhikaa
open Go.ChangeShapes Go.WideShapes Go.ChangeAt Go.RowKit
variable {H : Type} {enc : TypeId × Value → H} {W : World}
theorem Opn.cells_str : Try.prog.cellsOf 9 = 1 := by kernel_rfl
theorem Opn.bytes_str : Try.prog.bytesOf 9 = 16 := by kernel_rfl
theorem choose_texts {P : Nat → ByteArray → Prop} (n : Nat) (h : ∀ i, i < n → ∃ l, P i l) : ∃ L : Nat → ByteArray, ∀ i, i < n → P i (L i) :=
  ⟨fun i => if hi : i < n then Classical.choose (h i hi) else ⟨#[]⟩, fun i hi => by simp only [hi, dif_pos]; exact Classical.choose_spec (h i hi)⟩
theorem open_HTq {ts : List TypeId} {ds : List (DataW H)} {j base : Nat} {v : Value} {d : DataW H} {p : List MemPlace} (hsz : (DataW.weightsEach Try.prog ts ds).all (· ≤ reachBytes) = true) (ht : ts[j]? = some 57) (hd : ds[j]? = some d)
    (h : DataW.Trod enc Try.prog W base (fun _ => true) true 57 v d p) (hv : ∃ a n c, v = .slice a n c) : ∃ n f, Pq.HTq W v n f ∧ n ≤ 8796093022208 := by
  obtain ⟨a, n, c, rfl⟩ := hv
  obtain ⟨fuel, hf⟩ := h
  rcases Go.Deep.open_slice Try.underlying57 hf with ⟨hcs, hx⟩ | ⟨a, len, cap, m, n, D, Pl, hcs, hb, hl, hm, hmm, hx, hel⟩
  · simp only [Value.cells, List.cons.injEq, and_true] at hcs
    rw [hcs]
    exact ⟨0, fun _ => ⟨#[]⟩, ⟨none, 0, rfl, fun j hj => by omega, fun h => by omega⟩, by omega⟩
  · simp only [Value.cells, List.cons.injEq, and_true] at hcs
    rw [hcs]
    simp only [if_true] at hmm
    subst hmm
    simp only [Prod.mk.injEq] at hx
    obtain ⟨rfl, _⟩ := hx
    have each : ∀ i, i < len → ∃ l : ByteArray, W.cell? (a.add i) = some (.string l) ∧ l.size ≤ maxLen := by
      intro i hi
      obtain ⟨cs', h1, h2⟩ := hel i (by omega)
      rw [Opn.cells_str, Nat.mul_one] at h1
      obtain ⟨s', k1, _, k3⟩ := DataW.trod_string Try.underlying9 h2
      subst k1
      exact ⟨s', cell_of_cells?_one h1, k3⟩
    obtain ⟨L, hL⟩ := choose_texts len each
    have hz := sized_slice hsz ht hd Try.underlying57
    rw [Opn.bytes_str] at hz
    simp only [List.length_map, List.length_range, reachBytes] at hz
    refine ⟨len, L, ⟨some a, _, rfl, fun j hj => ?_, fun h0 => ?_⟩, by omega⟩
    · have := (hL j hj).2
      unfold maxLen at this
      omega
    · obtain ⟨b, off, sp⟩ := a
      have hu := (hL 0 h0).1
      have hsp : sp = none := by simpa [Addr.add] using World.cell?_spot hu
      subst hsp
      refine ⟨b, off, rfl, fun j hj => ?_⟩
      have hu := (hL j hj).1
      rw [Go.WideShapes.add_plain] at hu
      exact hu
end Go.Proofs.Ytcgkcappfjhikaa
