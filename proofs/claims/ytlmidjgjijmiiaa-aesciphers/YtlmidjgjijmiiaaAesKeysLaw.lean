/- The document's keys of the rounds; AesKeys, walked by the evaluator. -/
import Derived.Test.YtlmidjgjijmiiaaAesKeysNm
import Derived.Test.YtlmidjgjijmiiaaEvFast
set_option linter.unusedVariables false
namespace Go.Proofs.Ytlmidjgjijmiiaa
open Go Go.RowKit Ev

theorem rsched_ev : evCallF Try.prog loreR conR 250 34 [.tv (.agg (vars 0 16))] [] = some (.tv (.agg (vars 0 176)), []) := by kernel_rfl
theorem rsched_any (w : World) (k : List Nat) (hk : Byt k) (hl : k.length = 16) : Calls Try.prog 34 #[.agg (cells8 k)] w fun e w' => e = .returned (.agg (cells8 (schedL k))) ∧ Below w.heap.size w w' := by
  refine (calls_of_evF (loreR_ok hl hk) (conR_ok (schedF_lt hl hk)) mixedOrders 250 rsched_ev (args := #[.agg (cells8 k)]) w ?_).mono ?_
  · have e1 : (AV.tv (.agg (vars 0 16))).inst (envB (schedF k)) [] = some (.agg (cells8 k)) := by
      simp only [AV.inst]
      refine vars_inst (schedF_lt hl hk) [] 0 16 k hl fun i hi => ?_
      unfold schedF
      rw [show (0 + i) / 16 = 0 by omega, show (0 + i) % 16 = i by omega]
      rfl
    simp only [List.map_cons, List.map_nil, e1]
  · rintro e w' ⟨ms, u, rfl, h1, h2, h3⟩
    simp only [AV.inst, sched_inst hl hk, Option.some.injEq] at h1
    rw [← h1]
    exact ⟨rfl, h3⟩
def keysTab : List (Nat × List AV × AV) := [(33, [V 0 16], V 0 176), (34, [V 0 16], V 0 176)]
theorem keys_ev : evCallF Try.prog noLore (tabCon keysTab) 100 5 [V 0 16] [] = some (.tv (.sc (.bool true)), []) := by kernel_rfl
theorem sched_named {k : List Nat} (hl : k.length = 16) (hk : Byt k) : named (schedF k) 0 16 = k ∧ named (schedF k) 0 176 = schedL k := by
  obtain ⟨s1, s2, s3⟩ := schedL_ok hl hk
  constructor
  · refine List.ext_getElem (by rw [named_length, hl]) fun i h1 h2 => ?_
    have hi : i < 16 := by simpa [named_length] using h1
    simp only [named, List.getElem_map, List.getElem_range, Nat.zero_add]
    unfold schedF
    rw [show i / 16 = 0 by omega, show i % 16 = i by omega]
    simp [blk, at8, List.getD, List.getElem?_eq_getElem h2]
  · refine List.ext_getElem (by rw [named_length, s1]) fun i h1 h2 => ?_
    have hi : i < 176 := by simpa [named_length] using h1
    simp only [named, List.getElem_map, List.getElem_range, Nat.zero_add]
    rw [s3 i hi]
    simp [at8, List.getD, List.getElem?_eq_getElem h2]
theorem keys_walk (w : World) (k : List Nat) (hl : k.length = 16) (hk : Byt k) : Calls Try.prog 5 #[.agg (cells8 k)] w fun e w' => e = .returned (.bool true) ∧ Below w.heap.size w w' := by
  obtain ⟨n1, n2⟩ := sched_named hl hk
  have hlt := schedF_lt hl hk
  refine ret_true (calls_of_evF (noLore_ok (envB (schedF k))) (tabCon_ok ?_) mixedOrders 100 keys_ev (args := #[.agg (cells8 k)]) w ?_)
  · intro e he
    simp only [keysTab, List.mem_cons, List.not_mem_nil, or_false] at he
    rcases he with rfl | rfl
    · exact ent1 hlt fun w => by rw [n1, n2]; exact sched_any w k hk hl
    · exact ent1 hlt fun w => by rw [n1, n2]; exact rsched_any w k hk hl
  · simp only [List.map_cons, List.map_nil, V_inst hlt, n1]
end Go.Proofs.Ytlmidjgjijmiiaa
