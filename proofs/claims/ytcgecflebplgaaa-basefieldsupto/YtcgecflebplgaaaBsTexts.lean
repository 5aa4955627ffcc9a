/- The kit's SameTexts, walked: it tells whether two rows of texts are the same, and turns nothing. -/
import Derived.Test.YtcgecflebplgaaaBase
import Derived.Test.YtcgecflebplgaaaChecked
import Derived.Test.YtcgecflebplgaaaBsStr
set_option linter.unusedSimpArgs false
set_option linter.unusedVariables false
namespace Go.Proofs.Ytcgecflebplgaaa
open Go Go.RowKit

/-- v is a row of the texts l in w -/
def HTx (w : World) (v : Value) (l : List ByteArray) : Prop :=
  (l = [] ∧ ∃ p c, v = .slice p 0 c) ∨
    ∃ b o c, v = .slice (some ⟨b, o, none⟩) l.length c ∧ l.length ≤ 9223372036854775807 ∧ ∀ j, j < l.length → w.cell? ⟨b, o + j, none⟩ = some (.string (l.getD j ⟨#[]⟩))

theorem HTx.ne {w : World} {v : Value} {l : List ByteArray} (h : HTx w v l) (h0 : 0 < l.length) :
    ∃ b o c, v = .slice (some ⟨b, o, none⟩) l.length c ∧ l.length ≤ 9223372036854775807 ∧ ∀ j, j < l.length → w.cell? ⟨b, o + j, none⟩ = some (.string (l.getD j ⟨#[]⟩)) := by
  rcases h with ⟨e, _⟩ | h
  · subst e; simp at h0
  · exact h
theorem HTx.open {w : World} {v : Value} {l : List ByteArray} (h : HTx w v l) : ∃ p c, v = .slice p l.length c := by
  rcases h with ⟨e, p, c, rfl⟩ | ⟨b, o, c, rfl, _⟩
  · subst e; exact ⟨p, c, rfl⟩
  · exact ⟨_, c, rfl⟩

theorem take_step_str (la lb : List ByteArray) (k : Nat) (ha : k < la.length) (hb : k < lb.length) (h : la.take k = lb.take k) (e : la.getD k ⟨#[]⟩ = lb.getD k ⟨#[]⟩) : la.take (k + 1) = lb.take (k + 1) := by
  rw [List.take_succ_eq_append_getElem ha, List.take_succ_eq_append_getElem hb, h]
  have e1 : la.getD k ⟨#[]⟩ = la[k] := by simp [List.getD, List.getElem?_eq_getElem ha]
  have e2 : lb.getD k ⟨#[]⟩ = lb[k] := by simp [List.getD, List.getElem?_eq_getElem hb]
  rw [e1, e2] at e
  rw [e]
theorem take_ne_str (la lb : List ByteArray) (k : Nat) (e : la.getD k ⟨#[]⟩ ≠ lb.getD k ⟨#[]⟩) : la ≠ lb := fun h => e (by rw [h])

set_option maxHeartbeats 400000 in
theorem sameTexts_any (w : World) (va vb : Value) (la lb : List ByteArray) (ha : HTx w va la) (hb : HTx w vb lb) :
    Calls Try.prog 25 #[va, vb] w fun e w' => e = .returned (.bool (decide (la = lb))) ∧ Dr w w' := by
  by_cases hlen : la.length = lb.length
  · by_cases h0 : 0 < la.length
    · obtain ⟨b1, o1, c1, rfl, hm1, hk1⟩ := ha.ne h0
      obtain ⟨b2, o2, c2, rfl, hm2, hk2⟩ := hb.ne (by omega)
      have hm : la.length ≤ 9223372036854775807 := by omega
      have HL : Hid (la.length = lb.length) := hlen
      rw [← hlen]
      have hcd : ∀ j, j < la.length → w.cell? ⟨b2, o2 + j, none⟩ = some (.string (lb.getD j ⟨#[]⟩)) := fun j hj => hk2 j (by omega)
      clear hlen hk2
      go_enter Try.func25, Try.ntmps25
      go_wp2
      go_loopw [5] (fun i wr => ∃ k : Nat, k ≤ la.length ∧ i = .int .i64 k ∧ la.take k = lb.take k ∧ Dr w wr) (fun i _ => la.length - (intOf i).toNat)
      case atStart => exact ⟨0, Nat.zero_le _, rfl, rfl, Dr.refl _⟩
      case round =>
        obtain ⟨k, hk, rfl, ht, q, rfl⟩ := hrel
        by_cases hlt : k < la.length
        · have g1 := hk1 k hlt
          have g2 := hcd k hlt
          obtain ⟨x, hx⟩ : ∃ x, la.getD k ⟨#[]⟩ = x := ⟨_, rfl⟩
          obtain ⟨y, hy⟩ : ∃ y, lb.getD k ⟨#[]⟩ = y := ⟨_, rfl⟩
          rw [hx] at g1
          rw [hy] at g2
          have HX := hid hx
          have HY := hid hy
          clear hx hy hk1 hcd
          by_cases he : x = y
          · subst he
            have hne : (x.toList == x.toList) = true := by simp
            go_wp2
            go_quiet (fail)
            go_wp2
            exact ⟨⟨k + 1, by omega, by go_num, take_step_str la lb k hlt (by have := HL.out; omega) ht (by rw [HX.out, HY.out]), Dr.one _ _⟩, by simp [intOf]; omega⟩
          · have hne : (x.toList == y.toList) = false := by rw [eq_iff_sB]; exact decide_eq_false (fun e => he (sB_inj e))
            go_wp2
            go_quiet (fail)
            go_wp2
            go_ret
            exact ⟨by simp [take_ne_str la lb k (by rw [HX.out, HY.out]; exact he)], (Dr.one _ _).drewN _⟩
        · go_wp2
          go_ret
          have e : la = lb := by
            have h1 := List.take_of_length_le (show la.length ≤ k by omega)
            have h2 := List.take_of_length_le (show lb.length ≤ k by have := HL.out; omega)
            rw [← h1, ← h2, ht]
          exact ⟨by simp [e], Dr.one _ _⟩
    · obtain ⟨p1, c1, rfl⟩ := ha.open
      obtain ⟨p2, c2, rfl⟩ := hb.open
      have e1 : la = [] := List.length_eq_zero_iff.1 (by omega)
      have e2 : lb = [] := List.length_eq_zero_iff.1 (by omega)
      subst e1 e2
      go_enter Try.func25, Try.ntmps25
      go_wp2
      go_loop [5] (fun i => i = .int .i64 0) (fun _ => 0)
      case atStart => rfl
      case round =>
        subst hrel
        go_wp2
        go_ret
        exact ⟨rfl, Dr.refl _⟩
  · obtain ⟨p1, c1, rfl⟩ := ha.open
    obtain ⟨p2, c2, rfl⟩ := hb.open
    have hne : ((la.length : Int) != (lb.length : Int)) = true := by rw [bne_iff_ne]; omega
    go_enter Try.func25, Try.ntmps25
    go_wp2
    go_ret
    exact ⟨by simp [show la ≠ lb from fun e => hlen (by rw [e])], Dr.refl _⟩
end Go.Proofs.Ytcgecflebplgaaa
