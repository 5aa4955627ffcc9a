/- The keys of the rounds are never all noughts. -/
import Derived.Test.YtbafegpiipkmbaaAesSched
import Derived.Test.YtbafegpiipkmbaaAesAlg
import Derived.Test.YtbafegpiipkmbaaEvRows
set_option linter.unusedVariables false
namespace Go.Proofs.Ytbafegpiipkmbaa
open Go Go.RowKit Ev

theorem named_key {ks : List Nat} {l : List (List Nat)} {k : List Nat} (hl : k.length = 16) (hk : Byt k) (e : ks = schedL k) : named (rowsEnv ks l) 0 16 = k := by
  subst e
  refine List.ext_getElem (by rw [named_length, hl]) fun i h1 h2 => ?_
  have hi : i < 16 := by simpa [named_length] using h1
  simp only [named, List.getElem_map, List.getElem_range, rowsEnv, Nat.zero_add]
  rw [if_pos (by omega), ← (schedL_ok hl hk).2.2 i (by omega)]
  unfold schedF
  rw [show i / 16 = 0 by omega, show i % 16 = i by omega]
  simp [blk, at8, List.getD, List.getElem?_eq_getElem h2]
theorem zeros_at (n i : Nat) : at8 (zeros8 n) i = 0 := by
  simp only [at8, zeros8, List.getD, List.getElem?_replicate]
  split <;> rfl
/-- The keys of the rounds are never all noughts. -/
theorem sched_ne {k : List Nat} (hl : k.length = 16) (hk : Byt k) : schedL k ≠ zeros8 176 := by
  intro e
  have h0 : ∀ i, i < 176 → schedF k i = 0 := fun i hi => by rw [(schedL_ok hl hk).2.2 i hi, e]; exact zeros_at 176 i
  have h1 : schedF k 16 = sub (schedF k 13) ^^^ 1 ^^^ schedF k 0 := rfl
  rw [h0 16 (by decide), h0 13 (by decide), h0 0 (by decide)] at h1
  revert h1
  decide +kernel

end Go.Proofs.Ytbafegpiipkmbaa
