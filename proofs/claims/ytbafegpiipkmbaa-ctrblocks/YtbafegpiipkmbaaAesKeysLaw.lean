/- The document's keys of the rounds; AesKeys, walked by the evaluator. -/
import Derived.Test.YtbafegpiipkmbaaAesKeysNm
import Derived.Test.YtbafegpiipkmbaaEvFast
set_option linter.unusedVariables false
namespace Go.Proofs.Ytbafegpiipkmbaa
open Go Go.RowKit Ev

theorem rsched_ev : evCallF Try.prog loreR conR 250 56 [.tv (.agg (vars 0 16))] [] = some (.tv (.agg (vars 0 176)), []) := by kernel_rfl
theorem rsched_any (w : World) (k : List Nat) (hk : Byt k) (hl : k.length = 16) : Calls Try.prog 56 #[.agg (cells8 k)] w fun e w' => e = .returned (.agg (cells8 (schedL k))) ∧ Below w.heap.size w w' := by
  refine (calls_of_evF (loreR_ok hl hk) (conR_ok (schedF_lt hl hk)) mixedOrders 250 rsched_ev (args := #[.agg (cells8 k)]) w ?_).mono ?_
  · have e1 : (AV.tv (.agg (vars 0 16))).inst (envB (schedF k)) [] = some (.agg (cells8 k)) := by
      simp only [AV.inst]
      refine vars_inst (schedF_lt hl hk) [] 0 16 k hl fun i hi => ?_
      unfold schedF
      rw [show (0 + i) / 16 = 0 by omega, show (0 + i) % 16 = i by omega]
      rfl
    simp only [List.map_cons, List.map_nil, e1]
  · rintro e w' ⟨ms, u, rfl, h1, h2, h3⟩
    simp only [AV.inst, sched_inst hl hk, Option.some.injEq] at h1
    rw [← h1]
    exact ⟨rfl, h3⟩
theorem sched_named {k : List Nat} (hl : k.length = 16) (hk : Byt k) : named (schedF k) 0 16 = k ∧ named (schedF k) 0 176 = schedL k := by
  obtain ⟨s1, s2, s3⟩ := schedL_ok hl hk
  constructor
  · refine List.ext_getElem (by rw [named_length, hl]) fun i h1 h2 => ?_
    have hi : i < 16 := by simpa [named_length] using h1
    simp only [named, List.getElem_map, List.getElem_range, Nat.zero_add]
    unfold schedF
    rw [show i / 16 = 0 by omega, show i % 16 = i by omega]
    simp [blk, at8, List.getD, List.getElem?_eq_getElem h2]
  · refine List.ext_getElem (by rw [named_length, s1]) fun i h1 h2 => ?_
    have hi : i < 176 := by simpa [named_length] using h1
    simp only [named, List.getElem_map, List.getElem_range, Nat.zero_add]
    rw [s3 i hi]
    simp [at8, List.getD, List.getElem?_eq_getElem h2]
end Go.Proofs.Ytbafegpiipkmbaa
