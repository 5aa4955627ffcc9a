/- Rows of bytes by names. -/
import Derived.Test.YtbafegpiipkmbaaEvTab
namespace Go.Proofs.Ytbafegpiipkmbaa
open Go Go.RowKit Ev

/-- The names: the keys of the rounds, then rows of sixteen bytes. -/
def rowsEnv (ks : List Nat) (l : List (List Nat)) : Nat → Nat := fun i => if i < 176 then at8 ks i else at8 (l.getD ((i - 176) / 16) []) ((i - 176) % 16)
theorem rowsEnv_lt {ks : List Nat} {l : List (List Nat)} (hk : Byt ks) (hl : ∀ x ∈ l, Byt x) (i : Nat) : rowsEnv ks l i < 256 := by
  unfold rowsEnv
  split
  · exact byt_get hk i
  · refine byt_get ?_ _
    by_cases h : (i - 176) / 16 < l.length
    · rw [show l.getD ((i - 176) / 16) [] = l[(i - 176) / 16] by simp [List.getD, List.getElem?_eq_getElem h]]
      exact hl _ (List.getElem_mem h)
    · rw [show l.getD ((i - 176) / 16) [] = [] by simp [List.getD, List.getElem?_eq_none (by omega : l.length ≤ (i - 176) / 16)]]
      exact fun x hx => by simp at hx
theorem named_row {ks : List Nat} {l : List (List Nat)} (p : Nat) {s : List Nat} (hs : l[p]? = some s) (hl : s.length = 16) : named (rowsEnv ks l) (176 + 16 * p) 16 = s := by
  refine List.ext_getElem (by rw [named_length, hl]) fun i h1 h2 => ?_
  have hi : i < 16 := by simpa [named_length] using h1
  simp only [named, List.getElem_map, List.getElem_range, rowsEnv]
  rw [if_neg (by omega), show (176 + 16 * p + i - 176) / 16 = p by omega, show (176 + 16 * p + i - 176) % 16 = i by omega]
  simp [at8, List.getD, hs, List.getElem?_eq_getElem h2]
theorem named_keys {ks : List Nat} {l : List (List Nat)} (hk : ks.length = 176) : named (rowsEnv ks l) 0 176 = ks := by
  refine List.ext_getElem (by rw [named_length, hk]) fun i h1 h2 => ?_
  have hi : i < 176 := by simpa [named_length] using h1
  simp only [named, List.getElem_map, List.getElem_range, rowsEnv, Nat.zero_add]
  rw [if_pos hi]
  simp [at8, List.getD, List.getElem?_eq_getElem h2]
theorem named_low {ks : List Nat} {l : List (List Nat)} {i : Nat} (hi : i < 176) : rowsEnv ks l i = at8 ks i := by
  unfold rowsEnv
  rw [if_pos hi]
end Go.Proofs.Ytbafegpiipkmbaa
