/- Unlike pairs of digests have unlike bytes. -/
import Derived.Test.YtjmlpkemjafifaaDoorTgEv
set_option linter.unusedVariables false
namespace Go.Proofs.YtjmlpkemjafifaaDoor

theorem ndB_inj {a b c d : List Int} (ha : a.length = 32) (hb : b.length = 32) (hc : c.length = 32) (hd : d.length = 32) (h : ndB a b = ndB c d) : a = c ∧ b = d := by
  unfold ndB at h
  have h1 := List.append_cancel_left (List.append_cancel_left (List.append_cancel_left h))
  have h2 := List.append_inj h1 (by rw [ha, hc])
  exact ⟨h2.1, List.append_cancel_left h2.2⟩
end Go.Proofs.YtjmlpkemjafifaaDoor
