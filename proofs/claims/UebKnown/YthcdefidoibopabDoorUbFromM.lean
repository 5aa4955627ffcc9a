/- The table of a Ueb: lists alone. -/
import Derived.Test.YthcdefidoibopabDoorUbClo
set_option linter.unusedSimpArgs false
set_option linter.unusedVariables false
namespace Go.Proofs.YthcdefidoibopabDoor
open Go Go.RowKit

def nmJ (j : Nat) : ByteArray := [nmK, nmN, nmSeg, nmSegs, nmShares, nmSize].getD j noS
def fldJ (u : Ub) (j : Nat) : List Int := ((ubRows u).getD j rw0).2
def vld (j : Nat) (l : List Int) : Prop := if j = 3 ∨ j = 4 then l.length = 32 else rdOk (Lib.bytesOf l) 2147483647
instance (j : Nat) (l : List Int) : Decidable (vld j l) := by unfold vld; infer_instance
def updJ (u : Ub) (j : Nat) (l : List Int) : Ub :=
  match j with
  | 0 => { u with k := (valD (Lib.bytesOf l) : Nat) }
  | 1 => { u with n := (valD (Lib.bytesOf l) : Nat) }
  | 2 => { u with g := (valD (Lib.bytesOf l) : Nat) }
  | 3 => { u with b := l }
  | 4 => { u with a := l }
  | 5 => { u with z := (valD (Lib.bytesOf l) : Nat) }
  | _ => u
def RB (u : Ub) : Prop := (0 ≤ u.k ∧ u.k ≤ 2147483647) ∧ (0 ≤ u.n ∧ u.n ≤ 2147483647) ∧ (0 ≤ u.g ∧ u.g ≤ 2147483647) ∧ 0 ≤ u.z ∧ u.z ≤ 2147483647
theorem six {P : Nat → Prop} (h0 : P 0) (h1 : P 1) (h2 : P 2) (h3 : P 3) (h4 : P 4) (h5 : P 5) : ∀ j, j < 6 → P j := by
  intro j hj
  match j, hj with
  | 0, _ => exact h0
  | 1, _ => exact h1
  | 2, _ => exact h2
  | 3, _ => exact h3
  | 4, _ => exact h4
  | 5, _ => exact h5
  | j + 6, h => omega
theorem upd_ok {u : Ub} (hu : u.ok) (hr : RB u) {l : List Int} (hl : Byt8 l) : ∀ j, j < 6 → vld j l → (updJ u j l).ok ∧ RB (updJ u j l) := by
  obtain ⟨⟨a1, a2⟩, b1, b2⟩ := hu
  obtain ⟨r1, r2, r3, r4⟩ := hr
  have hn : ∀ {j}, j ≠ 3 → j ≠ 4 → vld j l → (valD (Lib.bytesOf l) : Int) ≤ 2147483647 := by
    intro j h3 h4 hv
    unfold vld at hv
    rw [if_neg (by omega)] at hv
    exact hv.2
  refine six (fun hv => ?_) (fun hv => ?_) (fun hv => ?_) (fun hv => ?_) (fun hv => ?_) (fun hv => ?_)
  · exact ⟨⟨⟨a1, a2⟩, b1, b2⟩, ⟨⟨by show (0 : Int) ≤ ((_ : Nat) : Int); omega, hn (by omega) (by omega) hv⟩, r2, r3, r4⟩⟩
  · exact ⟨⟨⟨a1, a2⟩, b1, b2⟩, ⟨r1, ⟨by show (0 : Int) ≤ ((_ : Nat) : Int); omega, hn (by omega) (by omega) hv⟩, r3, r4⟩⟩
  · exact ⟨⟨⟨a1, a2⟩, b1, b2⟩, ⟨r1, r2, ⟨by show (0 : Int) ≤ ((_ : Nat) : Int); omega, hn (by omega) (by omega) hv⟩, r4⟩⟩
  · exact ⟨⟨⟨a1, a2⟩, hv, hl⟩, ⟨r1, r2, r3, r4⟩⟩
  · exact ⟨⟨⟨hv, hl⟩, b1, b2⟩, ⟨r1, r2, r3, r4⟩⟩
  · exact ⟨⟨⟨a1, a2⟩, b1, b2⟩, ⟨r1, r2, r3, ⟨by show (0 : Int) ≤ ((_ : Nat) : Int); omega, hn (by omega) (by omega) hv⟩⟩⟩
theorem upd_same (u : Ub) {l : List Int} (hl : Byt8 l) : ∀ j, j < 6 → vld j l → fldJ (updJ u j l) j = l := by
  have hn : ∀ {j}, j ≠ 3 → j ≠ 4 → vld j l → dgL (valD (Lib.bytesOf l)) = l := by
    intro j h3 h4 hv
    unfold vld at hv
    rw [if_neg (by omega)] at hv
    exact (pre_dgL hl hv).symm
  refine six (fun hv => ?_) (fun hv => ?_) (fun hv => ?_) (fun hv => ?_) (fun hv => ?_) (fun hv => ?_)
  · exact hn (by omega) (by omega) hv
  · exact hn (by omega) (by omega) hv
  · exact hn (by omega) (by omega) hv
  · rfl
  · rfl
  · exact hn (by omega) (by omega) hv
theorem upd_other (u : Ub) (l : List Int) : ∀ i, i < 6 → ∀ j, j < 6 → i ≠ j → fldJ (updJ u j l) i = fldJ u i := by
  refine six ?_ ?_ ?_ ?_ ?_ ?_ <;> refine six ?_ ?_ ?_ ?_ ?_ ?_ <;> intro h <;> first | rfl | exact absurd rfl h
theorem nm_lt : ∀ a, a < 6 → ∀ b, b < 6 → leS (nmJ a) (nmJ b) = false → b < a := by decide +kernel
theorem nm_inj : ∀ a, a < 6 → ∀ b, b < 6 → nmJ a = nmJ b → a = b := by decide +kernel
theorem rows_at (u : Ub) : ∀ j, j < 6 → (ubRows u).getD j rw0 = (nmJ j, fldJ u j) := six rfl rfl rfl rfl rfl rfl
theorem fld_vld {u : Ub} (hu : u.ok) (hr : RB u) : ∀ j, j < 6 → vld j (fldJ u j) := by
  have hn : ∀ x : Int, 0 ≤ x → x ≤ 2147483647 → rdOk (Lib.bytesOf (dgL x.toNat)) 2147483647 := by
    intro x h0 h1
    rw [bytesOf_dgL]
    obtain ⟨q1, q2, _⟩ := dec_canon x.toNat
    exact ⟨q1, by rw [q2]; omega⟩
  obtain ⟨r1, r2, r3, r4⟩ := hr
  exact six (hn _ r1.1 r1.2) (hn _ r2.1 r2.2) (hn _ r3.1 r3.2) hu.2.1 hu.1.1 (hn _ r4.1 r4.2)
/-- What fromTable answers. -/
def TabQ (rs : List Rw) (u : Ub) (is : Bool) : Prop := (is = true ∧ u.ok ∧ RB u ∧ rs = ubRows u) ∨ (is = false ∧ u = ub0 ∧ ∀ u' : Ub, u'.ok → RB u' → rs ≠ ubRows u')
theorem tab_short {rs : List Rw} (h : rs.length ≠ 6) : TabQ rs ub0 false := Or.inr ⟨rfl, rfl, fun u' _ _ e => h (by rw [e]; rfl)⟩
theorem tab_miss {rs : List Rw} {k : Nat} (hk : k < 6) (h : ∀ j, j < 6 → (rs.getD k rw0).1 ≠ nmJ j) : TabQ rs ub0 false :=
  Or.inr ⟨rfl, rfl, fun u' _ _ e => h k hk (by rw [e, rows_at u' k hk])⟩
theorem tab_bad {rs : List Rw} {k i : Nat} (hk : k < 6) (hi : i < 6) (hn : (rs.getD k rw0).1 = nmJ i) (hv : ¬ vld i (rs.getD k rw0).2) : TabQ rs ub0 false := by
  refine Or.inr ⟨rfl, rfl, fun u' h1 h2 e => hv ?_⟩
  rw [e, rows_at u' k hk] at hn
  have := nm_inj k hk i hi hn
  subst this
  rw [e, rows_at u' k hk]
  exact fld_vld h1 h2 k hk
/-- Where laying stands. -/
def FrI (rs : List Rw) (k : Nat) (u : Ub) : Prop := u.ok ∧ RB u ∧ (∀ j, j < k → ∃ i, i < 6 ∧ j ≤ i ∧ (rs.getD j rw0).1 = nmJ i) ∧ ((∀ j, j < k → (rs.getD j rw0).1 = nmJ j) → ∀ j, j < k → fldJ u j = (rs.getD j rw0).2)
theorem FrI.zero (rs : List Rw) : FrI rs 0 ub0 := ⟨ub0_ok, by simp [RB, ub0], fun j hj => absurd hj (Nat.not_lt_zero _), fun _ j hj => absurd hj (Nat.not_lt_zero _)⟩
theorem up_at {rs : List Rw} (hm : okRows noS rs) {k : Nat} (hk : k + 1 < rs.length) : leS (rs.getD (k + 1) rw0).1 (rs.getD k rw0).1 = false := by
  have := okRows_take hm (k + 1 + 1)
  rw [take_snoc hk, okRows_snoc, take_snoc (by omega), lastN_snoc] at this
  exact this.2.1
theorem FrI.step {rs : List Rw} {k i : Nat} {u : Ub} (h : FrI rs k u) (hm : okRows noS rs) (hk : k < 6) (hkl : k < rs.length) (hi : i < 6) (hn : (rs.getD k rw0).1 = nmJ i) (hv : vld i (rs.getD k rw0).2) (hb : Byt8 (rs.getD k rw0).2) : FrI rs (k + 1) (updJ u i (rs.getD k rw0).2) := by
  obtain ⟨h1, h2, h3, h4⟩ := h
  obtain ⟨q1, q2⟩ := upd_ok h1 h2 hb i hi hv
  have hki : k ≤ i := by
    cases k with
    | zero => omega
    | succ k =>
      obtain ⟨i', p1, p2, p3⟩ := h3 k (by omega)
      have := up_at hm hkl
      rw [hn, p3] at this
      have := nm_lt i hi i' p1 this
      omega
  refine ⟨q1, q2, fun j hj => ?_, fun hall j hj => ?_⟩
  · by_cases e : j = k
    · subst e; exact ⟨i, hi, hki, hn⟩
    · exact h3 j (by omega)
  · have hik : i = k := nm_inj i hi k hk (by rw [← hn]; exact hall k (by omega))
    subst hik
    by_cases e : j = i
    · subst e; exact upd_same u hb j hi hv
    · rw [upd_other u _ j (by omega) i hi e]
      exact h4 (fun j hj => hall j (by omega)) j (by omega)
theorem FrI.done {rs : List Rw} {u : Ub} (h : FrI rs 6 u) (hm : okRows noS rs) (hl : rs.length = 6) : TabQ rs u true := by
  obtain ⟨h1, h2, h3, h4⟩ := h
  have e5 : (rs.getD 5 rw0).1 = nmJ 5 := by
    obtain ⟨i, p1, p2, p3⟩ := h3 5 (by omega)
    rw [p3, show i = 5 by omega]
  have down : ∀ j, j + 1 < 6 → (rs.getD (j + 1) rw0).1 = nmJ (j + 1) → (rs.getD j rw0).1 = nmJ j := by
    intro j hj hj1
    obtain ⟨i, p1, p2, p3⟩ := h3 j (by omega)
    have := up_at hm (k := j) (by omega)
    rw [hj1, p3] at this
    have := nm_lt (j + 1) (by omega) i p1 this
    rw [p3, show i = j by omega]
  have e4 := down 4 (by omega) e5
  have e3 := down 3 (by omega) e4
  have e2 := down 2 (by omega) e3
  have e1 := down 1 (by omega) e2
  have e0 := down 0 (by omega) e1
  have hall : ∀ j, j < 6 → (rs.getD j rw0).1 = nmJ j := six e0 e1 e2 e3 e4 e5
  have hf := h4 hall
  refine Or.inl ⟨rfl, h1, h2, ?_⟩
  refine List.ext_getElem (by rw [hl]; rfl) fun j q1 q2 => ?_
  rw [← getD_get q1, ← getD_get q2, rows_at u j (by omega)]
  exact Prod.ext (hall j (by omega)) (hf j (by omega)).symm
def cloJ (j x : Nat) : Value := if j = 3 ∨ j = 4 then cloD x else cloN x
theorem kmL_at {L : Array Bool} {bx : Nat → Nat} (h : ∀ i, i < 39 → Lb L i = true) : ∀ j, j < 6 → kmL L bx (nmJ j) = some (cloJ j (bx j)) := by
  have q := fun i hi => h i hi
  obtain ⟨n1, n2, n3, n4, n5, n6, n7, n8, n9, n10, n11, n12, n13, n14, n15⟩ := nm_ne
  have e6 := h 6 (by omega); have e12 := h 12 (by omega); have e18 := h 18 (by omega); have e24 := h 24 (by omega); have e30 := h 30 (by omega); have e36 := h 36 (by omega)
  refine six ?_ ?_ ?_ ?_ ?_ ?_ <;> simp [kmL, nmJ, cloJ, e6, e12, e18, e24, e30, e36, n1.symm, n2.symm, n3.symm, n4.symm, n5.symm, n6.symm, n7.symm, n8.symm, n9.symm, n10.symm, n11.symm, n12.symm, n13.symm, n14.symm, n15.symm]
theorem kmL_no {L : Array Bool} {bx : Nat → Nat} {s : ByteArray} (h : ∀ j, j < 6 → s ≠ nmJ j) : kmL L bx s = none := by
  have h0 : s ≠ nmK := h 0 (by omega)
  have h1 : s ≠ nmN := h 1 (by omega)
  have h2 : s ≠ nmSeg := h 2 (by omega)
  have h3 : s ≠ nmSegs := h 3 (by omega)
  have h4 : s ≠ nmShares := h 4 (by omega)
  have h5 : s ≠ nmSize := h 5 (by omega)
  simp [kmL, h0, h1, h2, h3, h4, h5]
end Go.Proofs.YthcdefidoibopabDoor
