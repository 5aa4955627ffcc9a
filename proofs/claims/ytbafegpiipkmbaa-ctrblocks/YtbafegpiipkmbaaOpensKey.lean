/- What a reading of an argument that is an array of bytes gives. -/
import Derived.Test.YtbafegpiipkmbaaOpens
import Derived.Test.YtbafegpiipkmbaaAesArr
namespace Go.Proofs.Ytbafegpiipkmbaa
open Go.ChangeShapes Go.WideShapes Go.ChangeAt Go.RowKit

set_option maxRecDepth 100000 in
theorem open_arr {t e : TypeId} {n m : Nat} {W : World} {base : Nat} {v : Value} (hu : Try.prog.underlying t = some (.array m e)) (ht : Try.prog.cellTypes Try.prog.depth t = some (List.replicate n 5)) (hc : Try.prog.cellsOf t = n) (h : Value.okWide Try.prog W .any base t v) :
    ∃ l : List Nat, l.length = n ∧ Byt l ∧ v = .agg (cells8 l) := by
  simp only [Value.okWide, hu] at h
  obtain ⟨cs, rfl, h1, ts, h2, _, h3⟩ := h
  rw [ht] at h2
  cases h2
  have key : ∀ (i : Nat) (v : Value), cs[i]? = some v → ∃ k : Nat, k < 256 ∧ v = .int .u8 (k : Int) := fun i v hv => by
    obtain ⟨u, h4, h5⟩ := h3 i v hv
    have hu8 : u = 5 := by
      have := List.mem_of_getElem? h4
      exact (List.mem_replicate.1 this).2
    subst hu8
    simp only [Cell.okWide, Try.underlying5] at h5
    cases v <;> simp only [Cell.ok, Try.underlying5] at h5
    obtain ⟨rfl, h6⟩ := h5
    have h7 := bounds_u8 (by simpa [Lit.wf, IntKind.has] using h6)
    obtain ⟨k, rfl⟩ := Int.eq_ofNat_of_zero_le h7.1
    exact ⟨k, by omega, rfl⟩
  refine ⟨cs.toList.map (fun v => match v with | .int _ n => n.toNat | _ => 0), by simp [h1, hc], fun x hx => ?_, ?_⟩
  · obtain ⟨v, hv, rfl⟩ := List.mem_map.1 hx
    obtain ⟨i, hi, rfl⟩ := List.getElem_of_mem hv
    obtain ⟨k, hk, he⟩ := key i _ (by rw [← Array.getElem?_toList, List.getElem?_eq_getElem hi])
    rw [he]; simpa using hk
  · congr 1
    unfold cells8
    rw [List.map_map]
    apply Array.ext'
    simp only
    refine List.ext_getElem (by simp) fun i hi1 hi2 => ?_
    obtain ⟨k, hk, he⟩ := key i _ (by rw [← Array.getElem?_toList, List.getElem?_eq_getElem hi1])
    simp only [List.getElem_map, Function.comp, he]
    simp
end Go.Proofs.Ytbafegpiipkmbaa
