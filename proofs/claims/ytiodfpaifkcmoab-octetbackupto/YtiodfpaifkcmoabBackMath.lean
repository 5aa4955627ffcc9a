/- What OctetBack says, of lists and numbers alone: a number's bytes and back, their order, exclusive or there and back, pieces joined again; rows of pieces. -/
import Derived.Test.YtiodfpaifkcmoabXor
import Derived.Test.YtiodfpaifkcmoabLawNum
import Derived.Test.YtiodfpaifkcmoabLess
namespace Go.Proofs.Ytiodfpaifkcmoab
open Go.RowKit

theorem small_big (n x : Nat) : smallNo n (bigL n x) = x % 256 ^ n ∧ smallErr n (bigL n x) = 0 := by
  have hl := bigL_length n x
  refine ⟨?_, ?_⟩
  · unfold smallNo
    rw [if_pos hl, ← bigL_cut, valL_bigL _ _ (Nat.mod_lt _ (Nat.pow_pos (by decide)))]
  · unfold smallErr
    rw [hl, if_neg (Nat.lt_irrefl _), if_neg (Nat.lt_irrefl _)]
theorem small_ok {n : Nat} {l : List Int} (h : smallErr n l = 0) (hb : ∀ x ∈ l, 0 ≤ x ∧ x < 256) : bigL n (smallNo n l) = l := by
  have hl : l.length = n := by
    unfold smallErr at h
    split at h
    · omega
    · split at h
      · omega
      · omega
  unfold smallNo
  rw [if_pos hl, ← hl, bigL_valL l hb]
theorem smallNo_lt {n : Nat} {l : List Int} (hn : n ≤ 8) (hb : ∀ x ∈ l, 0 ≤ x ∧ x < 256) : smallNo n l < 18446744073709551616 := by
  unfold smallNo
  split
  · rename_i h
    have := valL_lt l hb
    rw [h] at this
    exact Nat.lt_of_lt_of_le this (Nat.pow_le_pow_right (by decide) hn)
  · omega
theorem ltL_self : ∀ l : List Int, ltL l l = false
  | [] => rfl
  | a :: l => by
    simp only [ltL]
    rw [if_neg (by omega), if_neg (by omega)]
    exact ltL_self l
theorem ltL_big : ∀ (n x y : Nat), x % 256 ^ n < y % 256 ^ n → ltL (bigL n x) (bigL n y) = true
  | 0, x, y, h => by simp [Nat.mod_one] at h
  | r + 1, x, y, h => by
    rw [Nat.mod_pow_succ, Nat.mod_pow_succ] at h
    simp only [bigL, ltL]
    obtain ⟨a, ha⟩ : ∃ a, x / 256 ^ r % 256 = a := ⟨_, rfl⟩
    obtain ⟨b, hb⟩ : ∃ b, y / 256 ^ r % 256 = b := ⟨_, rfl⟩
    rw [ha, hb] at h ⊢
    have hx : x % 256 ^ r < 256 ^ r := Nat.mod_lt _ (Nat.pow_pos (by decide))
    have hy : y % 256 ^ r < 256 ^ r := Nat.mod_lt _ (Nat.pow_pos (by decide))
    rcases Nat.lt_trichotomy a b with hab | rfl | hab
    · rw [if_pos (by omega)]
    · rw [if_neg (by omega), if_neg (by omega)]
      exact ltL_big r x y (by omega)
    · exfalso
      have : 256 ^ r * (b + 1) ≤ 256 ^ r * a := Nat.mul_le_mul_left _ hab
      rw [Nat.mul_add, Nat.mul_one] at this
      omega

theorem xorB_back {x y : Int} (hx : 0 ≤ x ∧ x < 256) (hy : 0 ≤ y ∧ y < 256) : xorB (xorB x y) y = x := by
  have h := xorB_byt hx hy
  unfold xorB at h ⊢
  rw [u8_xor x y hx.1 hx.2 hy.1 hy.2] at h ⊢
  rw [u8_xor _ y h.1 h.2 hy.1 hy.2, Int.toNat_natCast, Nat.xor_assoc, Nat.xor_self, Nat.xor_zero]
  omega
theorem xorL_back {la lb : List Int} (h : la.length = lb.length) (ha : ∀ x ∈ la, 0 ≤ x ∧ x < 256) (hb : ∀ x ∈ lb, 0 ≤ x ∧ x < 256) : xorL (xorL la lb) lb = la := by
  have h1 := xorL_length h
  apply List.ext_getElem
  · rw [xorL_length (by omega), h1]
  · intro i h2 h3
    rw [← getD_of_lt h2, ← getD_of_lt h3, xorL_getD (by omega) (by omega), xorL_getD h h3]
    exact xorB_back (by rw [getD_of_lt h3]; exact ha _ (List.getElem_mem _)) (by rw [getD_of_lt (by omega)]; exact hb _ (List.getElem_mem _))

theorem own_slc1 {w : World} {B n : Nat} {e : TypeId} {v : Value} {xs : List Value} (h : w.ownsRow B e 1 v n xs) : ∃ p c, v = .slice p n c := by
  rcases h.2 with ⟨rfl, rfl⟩ | ⟨g, cap, cur, rfl, _⟩
  · exact ⟨_, _, rfl⟩
  · exact ⟨_, _, rfl⟩

theorem wide_fn (f : FuncId) : Fence.wide.fn f = True := rfl

theorem eql_func_nil : ∀ (w : World) (f : Fn) (a b : Array Value), (binOp .eql 32 (.func f a b) .nilFunc).run Try.prog w = .ok (.bool false) w := fun w f a b => by
  have h : ∀ d : Nat, (Op.equalIn (d + 1) 32 (.func f a b) .nilFunc).run Try.prog w = .ok false w := fun d => by
    simp [Op.equalIn, run_underlying Try.underlying32]
  simp only [binOp]
  simp [Op.equal, Op.maxDepth, h 9999]

/-- The first k pieces. -/
def pcsL (la : List Int) (size k : Nat) : List (List Int) := (List.range k).map (chPiece la size)
theorem pcsL_length (la : List Int) (size k : Nat) : (pcsL la size k).length = k := by simp [pcsL]
theorem pcsL_succ (la : List Int) (size k : Nat) : pcsL la size (k + 1) = pcsL la size k ++ [chPiece la size k] := by simp [pcsL, List.range_succ]
theorem pcsL_flat (la : List Int) (size : Nat) : ∀ k, (pcsL la size k).flatten = la.take (k * size)
  | 0 => by simp [pcsL]
  | k + 1 => by
    rw [pcsL_succ, List.flatten_append, pcsL_flat la size k]
    simp only [List.flatten_cons, List.flatten_nil, List.append_nil]
    unfold chPiece chAt
    rw [Nat.succ_mul]
    by_cases h : k * size + size ≤ la.length
    · rw [Nat.min_eq_left (by omega)]
      have e : (la.take (k * size + size)) = (la.take (k * size + size)).take (k * size) ++ (la.take (k * size + size)).drop (k * size) := (List.take_append_drop _ _).symm
      rw [List.take_take, Nat.min_eq_left (by omega)] at e
      exact e.symm
    · rw [Nat.min_eq_right (by omega)]
      by_cases h2 : k * size ≤ la.length
      · rw [show k * size + (la.length - k * size) = la.length by omega, List.take_of_length_le (Nat.le_refl _), List.take_of_length_le (show la.length ≤ k * size + size by omega), List.take_append_drop]
      · rw [List.take_of_length_le (show la.length ≤ k * size by omega), List.drop_eq_nil_of_le (by simp; omega), List.append_nil, List.take_of_length_le (by omega)]
theorem pcsL_all (la : List Int) (size : Nat) (hs : 1 ≤ size) : (pcsL la size (chN la.length size)).flatten = la := by
  rw [pcsL_flat]
  refine List.take_of_length_le ?_
  have h1 : ¬ chN la.length size < chN la.length size := Nat.lt_irrefl _
  rw [chN_iff hs] at h1
  unfold chAt at h1
  omega
theorem chN_le (len size : Nat) (hs : 1 ≤ size) : chN len size ≤ len := by
  apply Classical.byContradiction
  intro h
  have h2 : len < chN len size := by omega
  rw [chN_iff hs] at h2
  unfold chAt at h2
  have := Nat.le_mul_of_pos_right len hs
  omega

/-- v is a row of slices, made at or beyond block B, that hold the lists ls in rows of their own there. -/
def PW (B : Nat) (w : World) (v : Value) (ls : List (List Int)) : Prop :=
  ∃ xs, w.ownsRow B 23 1 v ls.length xs ∧ ∀ j, j < ls.length → w.ownsRow B 5 1 (xs.getD j undef) (ls.getD j []).length ((ls.getD j []).map (Value.int .u8)) ∧ Byt (ls.getD j [])
theorem PW.nil (B : Nat) (w : World) : PW B w (.slice none 0 0) [] := ⟨[], World.ownsRow_nil _ _ _ _, fun j hj => by simp at hj⟩
theorem PW.hl {B : Nat} {w : World} {v : Value} {ls : List (List Int)} (h : PW B w v ls) : HL w v ls := by
  obtain ⟨xs, h1, h2⟩ := h
  by_cases h0 : 0 < ls.length
  · obtain ⟨g, cap, rfl, _, hn, hm, hc⟩ := ownsRow_cells h1 h0
    refine ⟨_, cap, rfl, hn, hm, (fun e => by cases e), fun _ => ⟨g, 0, rfl, fun j hj => ⟨xs.getD j undef, ?_, HB.of_own (h2 j hj).1 (h2 j hj).2⟩⟩⟩
    have hx : xs.length = ls.length := by have := h1.1; omega
    exact hc j _ (by simp [List.getD, List.getElem?_eq_getElem (show j < xs.length by omega)])
  · have e : ls = [] := List.length_eq_zero_iff.1 (by omega)
    subst e
    rcases h1.2 with ⟨rfl, _⟩ | ⟨g, cap, cur, rfl, _, _, hn, hm, _⟩
    · exact HL.nil _
    · exact ⟨_, cap, rfl, hn, hm, (fun e => by cases e), fun h => absurd rfl h⟩
theorem PW.from {B n : Nat} {A C : World} {v : Value} {ls : List (List Int)} {row : Option Nat} (h : PW B A v ls) (hg : A.grownBy C row) (hr : ∀ r, row = some r → n ≤ r ∧ ∃ o : Obj, A.heap[r]? = some o ∧ o.isCells = false) : PW B C v ls := by
  obtain ⟨xs, h1, h2⟩ := h
  exact ⟨xs, row_from h1 hg hr, fun j hj => ⟨row_from (h2 j hj).1 hg hr, (h2 j hj).2⟩⟩
/-- One list more is put behind, and the variable's box is written. -/
theorem PW.push {B0 Bx : Nat} {W w1 : World} {vp v' u : Value} {ls : List (List Int)} {l : List Int} {xs : List Value} {o : Obj} (hrow : W.ownsRow B0 23 1 vp ls.length xs)
    (hel : ∀ j, j < ls.length → W.ownsRow B0 5 1 (xs.getD j undef) (ls.getD j []).length ((ls.getD j []).map (Value.int .u8)) ∧ Byt (ls.getD j [])) (hu : W.ownsRow B0 5 1 u l.length (l.map (Value.int .u8))) (hby : Byt l)
    (x1 : Boxed W Bx 34 vp) (hown : w1.ownsRow B0 23 1 v' (ls.length + 1) (xs ++ [u])) (hg : (W.alloc o).grownBy w1 vp.ownBlock) :
    PW B0 (w1.setCell ⟨Bx, 0, none⟩ v') v' (ls ++ [l]) ∧ Boxed w1 Bx 34 vp ∧ Boxed (w1.setCell ⟨Bx, 0, none⟩ v') Bx 34 v' := by
  have hv1 : Boxed w1 Bx 34 vp := (x1.alloc o).kept hg (x1.not_row (by decide) hrow)
  have gs := grownBy_setCell' w1 Bx v'
  have key : ∀ {q : Value} {m : Nat} {ys : List Value}, W.ownsRow B0 5 1 q m ys → (w1.setCell ⟨Bx, 0, none⟩ v').ownsRow B0 5 1 q m ys := fun {q m ys} h => by
    have h1 := h.alloc o
    have h2 : w1.ownsRow B0 5 1 q m ys := by
      refine h1.kept hg ?_
      cases hvp : vp.ownBlock with
      | none => cases q.ownBlock <;> simp
      | some g =>
        rcases (hrow.alloc o).2 with ⟨rfl, _⟩ | ⟨g', cap, cur, rfl, _, hh, _⟩
        · simp [Value.ownBlock] at hvp
        · simp only [Value.ownBlock, Option.some.injEq] at hvp
          subst hvp
          exact .inr (own_block_ne h1 hh (by decide))
    exact h2.kept gs (.inr (own_block_ne h2 (show w1.heap[Bx]? = _ from hv1) (by decide)))
  refine ⟨⟨xs ++ [u], ?_, fun j hj => ?_⟩, hv1, hv1.set v'⟩
  · rw [List.length_append, List.length_singleton]
    exact hown.kept gs (.inr (hv1.not_row (by decide) hown).symm)
  · have hxl : xs.length = ls.length := by have := hrow.1; omega
    rw [List.length_append, List.length_singleton] at hj
    rw [getD_app, getD_app, hxl]
    split
    · rename_i h
      exact ⟨key (hel j h).1, (hel j h).2⟩
    · have : j - ls.length = 0 := by omega
      rw [this]
      exact ⟨key hu, hby⟩
theorem chPiece_byt {l : List Int} (h : ∀ x ∈ l, 0 ≤ x ∧ x < 256) (size k : Nat) : Byt (chPiece l size k) := fun x hx => h x (List.mem_of_mem_take (List.mem_of_mem_drop hx))
theorem HL.open' {w : World} {v : Value} {ls : List (List Int)} (h : HL w v ls) : ∃ p c, v = .slice p ls.length c := by
  obtain ⟨p, c, e, _⟩ := h.open
  exact ⟨p, c, e⟩
theorem undef_not_bool {b : Bool} (h : some undef = some (Value.bool b)) : False := by cases h
end Go.Proofs.Ytiodfpaifkcmoab
