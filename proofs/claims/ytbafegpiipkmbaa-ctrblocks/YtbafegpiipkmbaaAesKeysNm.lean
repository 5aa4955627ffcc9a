/- By which names the bytes of the document's keys go. -/
import Derived.Test.YtbafegpiipkmbaaAesRefFun
import Derived.Test.YtbafegpiipkmbaaAesSched
set_option linter.unusedVariables false
namespace Go.Proofs.Ytbafegpiipkmbaa
open Go Go.RowKit Ev

/-- By which name a byte of the keys goes, the sides changed. -/
def nmR : Ex → Ex
  | .bit .xor .u8 (.var q) (.var p) => if p = q + 12 ∧ 4 ≤ q % 16 then .var (q + 16) else .bit .xor .u8 (.var q) (.var p)
  | .bit .xor .u8 (.var q) (.app 1 (.var x) (.lit 0)) => if 1 ≤ q % 16 ∧ q % 16 < 4 ∧ x = q / 16 * 16 + (12 + (q % 16 + 1) % 4) then .var (q + 16) else .bit .xor .u8 (.var q) (.app 1 (.var x) (.lit 0))
  | .bit .xor .u8 (.var q) (.bit .xor .u8 (.app 1 (.var x) (.lit 0)) (.lit p)) =>
    if q % 16 = 0 ∧ x = q + 13 ∧ p = ((pwr (q / 16) : Nat) : Int) then .var (q + 16) else .bit .xor .u8 (.var q) (.bit .xor .u8 (.app 1 (.var x) (.lit 0)) (.lit p))
  | e => e
theorem nmR_ok {k : List Nat} (hl : k.length = 16) (hk : Byt k) (e : Ex) : (nmR e).den (envB (schedF k)) = e.den (envB (schedF k)) := by
  have hs := schedF_lt hl hk
  unfold nmR
  split
  · rename_i q p
    split
    · rename_i h
      have := nmS_ok hl hk (.bit .xor .u8 (.var p) (.var q))
      rw [show nmS (.bit .xor .u8 (.var p) (.var q)) = .var (q + 16) by simp only [nmS]; rw [if_pos h]] at this
      rw [this, (nden_ok hs _ (by rfl)).1, (nden_ok hs _ (by rfl)).1]
      congr 1
      exact Nat.xor_comm _ _
    · rfl
  · rename_i q x
    split
    · rename_i h
      have := nmS_ok hl hk (.bit .xor .u8 (.app 1 (.var x) (.lit 0)) (.var q))
      rw [show nmS (.bit .xor .u8 (.app 1 (.var x) (.lit 0)) (.var q)) = .var (q + 16) by simp only [nmS]; rw [if_pos h]] at this
      rw [this, (nden_ok hs _ (by rfl)).1, (nden_ok hs _ (by rfl)).1]
      congr 1
      exact Nat.xor_comm _ _
    · rfl
  · rename_i q x p
    split
    · rename_i h
      have := nmS_ok hl hk (.bit .xor .u8 (.bit .xor .u8 (.app 1 (.var x) (.lit 0)) (.lit p)) (.var q))
      rw [show nmS (.bit .xor .u8 (.bit .xor .u8 (.app 1 (.var x) (.lit 0)) (.lit p)) (.var q)) = .var (q + 16) by simp only [nmS]; rw [if_pos h]] at this
      obtain ⟨_, _, rfl⟩ := h
      have hp := pwr_lt (q / 16)
      rw [this, (nden_ok hs _ (by simp [okB]; omega)).1, (nden_ok hs _ (by simp [okB]; omega)).1]
      congr 1
      exact Nat.xor_comm _ _
    · rfl
  · rfl
def loreR : Lore := ⟨fun _ _ _ => none, nmR, fun _ _ => none⟩
theorem loreR_ok {k : List Nat} (hl : k.length = 16) (hk : Byt k) : LoreOk (envB (schedF k)) loreR := ⟨fun _ _ _ _ h => by simp [loreR] at h, nmR_ok hl hk, fun _ _ _ h => by simp [loreR] at h⟩
end Go.Proofs.Ytbafegpiipkmbaa
