/- Frames as lists of numbers: no program is walked here: frames can be told apart, and where reading them goes wrong there are none. -/
import Derived.Test.YtmegeogfpkdodaaNumbers
namespace Go.Proofs.Ytmegeogfpkdodaa
open Go.RowKit

/-- The pieces that Framed joins: of each list its length in eight bytes, and the list. -/
def pcs (ls : List (List Int)) : List (List Int) := ls.flatMap fun l => [bigL 8 l.length, l]
def pcsTo (ls : List (List Int)) (k : Nat) : List (List Int) := pcs (ls.take k)
/-- The frames of the lists. -/
def framed (ls : List (List Int)) : List Int := (pcs ls).flatten

theorem pcs_snoc (ls : List (List Int)) (k : Nat) (hk : k < ls.length) : pcsTo ls (k + 1) = pcsTo ls k ++ [bigL 8 (ls.getD k []).length, ls.getD k []] := by
  unfold pcsTo pcs
  rw [List.take_succ_eq_append_getElem hk, List.flatMap_append]
  have e : ls.getD k [] = ls[k] := by simp [List.getD, List.getElem?_eq_getElem hk]
  rw [e]
  simp
theorem pcs_length (ls : List (List Int)) : (pcs ls).length = 2 * ls.length := by
  unfold pcs
  induction ls with
  | nil => rfl
  | cons a r ih => simp only [List.flatMap_cons, List.length_append, List.length_cons, List.length_nil, ih]; omega
theorem pcsTo_length (ls : List (List Int)) (k : Nat) : (pcsTo ls k).length ≤ 2 * ls.length := by
  unfold pcsTo
  rw [pcs_length, List.length_take]
  omega
theorem framed_length (ls : List (List Int)) : (framed ls).length = ls.flatten.length + 8 * ls.length := by
  unfold framed pcs
  induction ls with
  | nil => rfl
  | cons a r ih =>
    simp only [List.flatMap_cons, List.flatten_append, List.flatten_cons, List.flatten_nil, List.length_append, List.length_nil, List.length_cons, bigL_length] at ih ⊢
    omega


theorem valL_cons (c : Int) (l : List Int) : ∀ a : Nat, (c :: l).foldl (fun a c => a * 256 + c.toNat) a = l.foldl (fun a c => a * 256 + c.toNat) (a * 256 + c.toNat) := fun _ => rfl
theorem fold_bigL (r x a : Nat) : (bigL r x).foldl (fun a c => a * 256 + c.toNat) a = a * 256 ^ r + x % 256 ^ r := by
  induction r generalizing a with
  | zero => simp [bigL, Nat.mod_one]
  | succ r ih =>
    simp only [bigL, List.foldl_cons, Int.toNat_natCast]
    rw [ih, Nat.pow_succ]
    have h1 := Nat.mod_mul (a := 256 ^ r) (b := 256) (x := x)
    rw [h1]
    have : (a * 256 + x / 256 ^ r % 256) * 256 ^ r = a * (256 ^ r * 256) + 256 ^ r * (x / 256 ^ r % 256) := by
      rw [Nat.add_mul, Nat.mul_assoc, Nat.mul_comm 256 (256 ^ r), Nat.mul_comm (x / 256 ^ r % 256)]
    omega
/-- The number of a number's bytes is the number. -/
theorem valL_bigL (r x : Nat) (h : x < 256 ^ r) : valL (bigL r x) = x := by
  unfold valL
  rw [fold_bigL, Nat.zero_mul, Nat.zero_add, Nat.mod_eq_of_lt h]

theorem valL_head (c : Int) (l : List Int) : valL (c :: l) = c.toNat * 256 ^ l.length + valL l := by
  obtain ⟨r, hr⟩ : ∃ r, r = l.reverse := ⟨_, rfl⟩
  have e : l = r.reverse := by rw [hr, List.reverse_reverse]
  subst e
  clear hr
  induction r with
  | nil => simp [valL]
  | cons d r ih =>
    rw [List.reverse_cons, ← List.cons_append, valL_snoc, valL_snoc, ih, List.length_append]
    simp only [List.length_cons, List.length_nil, Nat.zero_add, Nat.pow_succ]
    rw [Nat.add_mul, Nat.mul_assoc]
    omega

theorem bigL_mod (r x y : Nat) : bigL r (y * 256 ^ r + x) = bigL r x := by
  induction r generalizing y with
  | zero => rfl
  | succ r ih =>
    have e : y * 256 ^ (r + 1) + x = (y * 256) * 256 ^ r + x := by rw [Nat.pow_succ, Nat.mul_comm (256 ^ r), Nat.mul_assoc]
    simp only [bigL]
    rw [e, ih]
    have hp : 0 < 256 ^ r := Nat.pow_pos (by omega)
    rw [Nat.add_comm (y * 256 * 256 ^ r), Nat.add_mul_div_right _ _ hp]
    congr 2
    omega

/-- The bytes of bytes' number are the bytes. -/
theorem bigL_valL (l : List Int) (h : ∀ x ∈ l, 0 ≤ x ∧ x < 256) : bigL l.length (valL l) = l := by
  induction l with
  | nil => rfl
  | cons c l ih =>
    have hl : ∀ x ∈ l, 0 ≤ x ∧ x < 256 := fun x hx => h x (List.mem_cons_of_mem _ hx)
    have hc := h c (by simp)
    have hv := valL_lt l hl
    rw [valL_head]
    simp only [List.length_cons, bigL]
    rw [bigL_mod, ih hl]
    have hp : 0 < 256 ^ l.length := Nat.pow_pos (by omega)
    rw [Nat.add_comm (c.toNat * 256 ^ l.length), Nat.add_mul_div_right _ _ hp, Nat.div_eq_of_lt hv]
    congr 1
    omega

/-- No list is so long that eight bytes don't hold its length. -/
def Ok (ls : List (List Int)) : Prop := ∀ l ∈ ls, l.length < 256 ^ 8

theorem framed_cons (x : List Int) (xs : List (List Int)) : framed (x :: xs) = bigL 8 x.length ++ (x ++ framed xs) := by
  simp [framed, pcs]
theorem framed_append (a b : List (List Int)) : framed (a ++ b) = framed a ++ framed b := by
  simp [framed, pcs]
theorem framed_nil : framed [] = [] := rfl

theorem framed_cancel (ls : List (List Int)) (l : List Int) : ∀ xs, Ok xs → Ok ls → framed xs = framed ls ++ l → ∃ bs, xs = ls ++ bs ∧ framed bs = l := by
  induction ls with
  | nil => intro ys _ _ h; exact ⟨ys, rfl, h⟩
  | cons x xs ih =>
    intro as' ha hl h
    cases as' with
    | nil =>
      exfalso
      have := congrArg List.length h
      rw [framed_cons] at this
      simp [framed_nil, bigL_length] at this
      omega
    | cons y ys =>
      rw [framed_cons, framed_cons, List.append_assoc, List.append_assoc] at h
      have h1 := List.append_inj h (by rw [bigL_length, bigL_length])
      have hlen : y.length = x.length := by
        have := congrArg valL h1.1
        rwa [valL_bigL 8 _ (ha y (by simp)), valL_bigL 8 _ (hl x (by simp))] at this
      have h2 := List.append_inj h1.2 hlen
      obtain ⟨bs, e1, e2⟩ := ih ys (fun z hz => ha z (List.mem_cons_of_mem _ hz)) (fun z hz => hl z (List.mem_cons_of_mem _ hz)) h2.2
      exact ⟨bs, by rw [h2.1, e1]; rfl, e2⟩

/-- Frames are the same where the lists are, and nowhere else. -/
theorem framed_inj {a b : List (List Int)} (ha : Ok a) (hb : Ok b) : framed a = framed b ↔ a = b := by
  constructor
  · intro h
    obtain ⟨bs, e1, e2⟩ := framed_cancel b [] a ha hb (by rw [List.append_nil]; exact h)
    have h2 : bs = [] := by
      cases bs with
      | nil => rfl
      | cons y ys =>
        have := congrArg List.length e2
        rw [framed_cons] at this
        simp [bigL_length] at this
    rw [e1, h2, List.append_nil]
  · intro h; rw [h]

/-- What holds while frames are read: the lists so far, whether a fault was met, and what is left. -/
def UInv (raw : List Int) (ls : List (List Int)) (f : Bool) (l : List Int) : Prop :=
  8 * ls.length ≤ raw.length + 8 ∧ l.length ≤ raw.length ∧ Ok ls ∧ (f = false → raw = framed ls ++ l) ∧ (f = true → l = [] ∧ ∀ xs, Ok xs → framed xs ≠ raw)

theorem UInv.start (raw : List Int) : UInv raw [] false raw := ⟨by simp, Nat.le_refl _, by intro l hl; simp at hl, fun _ => rfl, fun h => by cases h⟩

theorem UInv.none {raw : List Int} {ls : List (List Int)} {l : List Int} (h : UInv raw ls false l) (hb : ∀ bs, Ok bs → framed bs ≠ l) : ∀ xs, Ok xs → framed xs ≠ raw := by
  intro xs ha he
  obtain ⟨_, _, h3, h4, _⟩ := h
  rw [h4 rfl] at he
  obtain ⟨bs, e1, e2⟩ := framed_cancel ls l xs ha h3 he
  exact hb bs (fun z hz => ha z (by rw [e1]; exact List.mem_append_right _ hz)) e2

theorem no_frames_short {l : List Int} (h0 : 0 < l.length) (h8 : l.length < 8) : ∀ bs, Ok bs → framed bs ≠ l := by
  intro bs _ h
  cases bs with
  | nil => rw [framed_nil] at h; subst h; simp at h0
  | cons y ys =>
    have := congrArg List.length h
    rw [framed_cons] at this
    simp [bigL_length] at this
    omega

theorem no_frames_long {l : List Int} (h8 : 8 ≤ l.length) (hv : (l.drop 8).length < valL (l.take 8)) : ∀ bs, Ok bs → framed bs ≠ l := by
  intro bs hb h
  cases bs with
  | nil => rw [framed_nil] at h; subst h; simp at h8
  | cons y ys =>
    rw [framed_cons] at h
    have h1 : l.take 8 = bigL 8 y.length := by rw [← h, List.take_left' (bigL_length _ _)]
    have h2 : l.drop 8 = y ++ framed ys := by rw [← h, List.drop_left' (bigL_length _ _)]
    rw [h1, h2, valL_bigL 8 _ (hb y (by simp)), List.length_append] at hv
    omega

theorem UInv.step {raw : List Int} {ls : List (List Int)} {l : List Int} (hraw : raw.length < 256 ^ 8) (hby : ∀ x ∈ l, 0 ≤ x ∧ x < 256) (h : UInv raw ls false l) (h8 : 8 ≤ l.length) (hv : valL (l.take 8) ≤ (l.drop 8).length) :
    UInv raw (ls ++ [(l.drop 8).take (valL (l.take 8))]) false ((l.drop 8).drop (valL (l.take 8))) := by
  obtain ⟨h1, h2, h3, h4, h5⟩ := h
  have hlen : ((l.drop 8).take (valL (l.take 8))).length = valL (l.take 8) := by simp at hv ⊢; omega
  have e := h4 rfl
  have hr : raw.length = ls.flatten.length + 8 * ls.length + l.length := by rw [e, List.length_append, framed_length]
  refine ⟨?_, ?_, ?_, ?_, fun h => by cases h⟩
  · rw [List.length_append, List.length_singleton]; omega
  · simp; omega
  · intro z hz
    rcases List.mem_append.1 hz with hz | hz
    · exact h3 z hz
    · simp only [List.mem_singleton] at hz
      subst hz
      rw [hlen]
      refine Nat.lt_of_le_of_lt hv (Nat.lt_of_le_of_lt ?_ hraw)
      simp; omega
  · intro _
    rw [framed_append, framed_cons, framed_nil, List.append_nil, hlen, e]
    have hb8 : bigL 8 (valL (l.take 8)) = l.take 8 := by
      have := bigL_valL (l.take 8) (fun x hx => hby x (List.mem_of_mem_take hx))
      rwa [show (l.take 8).length = 8 by simp; omega] at this
    rw [hb8]
    simp only [List.append_assoc, List.take_append_drop]

theorem UInv.short {raw : List Int} {ls : List (List Int)} {l : List Int} (h : UInv raw ls false l) (h0 : 0 < l.length) (h8 : l.length < 8) : UInv raw (ls ++ [[]]) true [] := by
  have hn := h.none (no_frames_short h0 h8)
  obtain ⟨h1, h2, h3, h4, h5⟩ := h
  have e := h4 rfl
  have hr : raw.length = ls.flatten.length + 8 * ls.length + l.length := by rw [e, List.length_append, framed_length]
  refine ⟨by rw [List.length_append, List.length_singleton]; omega, by simp, ?_, (fun h => by cases h), fun _ => ⟨rfl, hn⟩⟩
  intro z hz
  rcases List.mem_append.1 hz with hz | hz
  · exact h3 z hz
  · simp only [List.mem_singleton] at hz
    subst hz
    simp
end Go.Proofs.Ytmegeogfpkdodaa
