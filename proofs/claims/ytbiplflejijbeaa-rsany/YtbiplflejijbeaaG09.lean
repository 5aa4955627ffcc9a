/- Of the road to rsAny_holds: RsFarM, GsHf, GsGv, GsMk, GsAn, UbPick, IntsA, GsCh, BsStr, BsIdx, GsEq, RangeN, RangeD. -/
import Derived.Test.YtbiplflejijbeaaG08
import Derived.Test.YtbiplflejijbeaaG00
import Derived.Test.YtbiplflejijbeaaG07
import Derived.Test.YtbiplflejijbeaaChecked
import Derived.Laws.AppendOwn
import Derived.Test.YtbiplflejijbeaaG04
import Derived.Laws.IdiomStrings
import Derived.Laws.Strings
import Derived.Laws.Strings2
import Derived.Laws.Concat
import Derived.Lib.Strings
import Derived.WalkKit
import Derived.Test.YtbiplflejijbeaaG06
import Derived.OrdersHeld
set_option linter.unusedVariables false
set_option linter.unusedSimpArgs false
namespace Go.Proofs.Ytbiplflejijbeaa
open Go Go.RowKit
theorem un_prod {u c U : Nat} (hu : u < 256) (hc : c < 256) (hU : U < 256) (h : prod u U = 1) : prod u (prod c U) = c := by
  rw [prod_assoc u c U hu hc hU, prod_comm u c hu hc, ← prod_assoc c u U hc hu hU, h, prod_one c hc]
theorem one_term {c d u v U V : Nat} (hc : c < 256) (hd : d < 256) (hu : u < 256) (hv : v < 256) (hU : U < 256) (hV : V < 256) (h1 : prod u U = 1) (h2 : prod v V = 1) :
    prod (u ^^^ d) (prod c U) ^^^ prod (v ^^^ d) (prod c V) = prod (u ^^^ v) (prod (prod c (prod d V)) U) := by
  have e3 : prod u (prod (prod c (prod d V)) U) = prod d (prod c V) := by
    rw [un_prod hu (prod_lt _ hc) hU h1, prod_assoc c d V hc hd hV, prod_comm c d hc hd, ← prod_assoc d c V hd hc hV]
  have e4 : prod v (prod (prod c (prod d V)) U) = prod d (prod c U) := by
    rw [prod_assoc c d V hc hd hV, ← prod_assoc (prod c d) V U (prod_lt _ hc) hV hU, prod_comm V U hV hU, prod_assoc (prod c d) U V (prod_lt _ hc) hU hV, un_prod hv (prod_lt _ (prod_lt _ hc)) hV h2, prod_comm c d hc hd, ← prod_assoc d c U hd hc hU]
  rw [prod_left u d _ hu hd, prod_left v d _ hv hd, prod_left u v _ hu hv, un_prod hu hc hU h1, un_prod hv hc hV h2, e3, e4, Nat.xor_assoc, xlc (prod d (prod c U)) c, ← Nat.xor_assoc c c, Nat.xor_self, Nat.zero_xor, Nat.xor_comm]
def sumC (c : Nat → Nat) (x : Nat) : List Nat → Nat
  | [] => 0
  | y :: ys => prod (c y) (inv (x ^^^ y)) ^^^ sumC c x ys
theorem xor_zero {x y : Nat} (h : x ^^^ y = 0) : x = y := by
  have e2 := congrArg (fun z => z ^^^ y) h
  simpa [Nat.xor_assoc] using e2
theorem sumC_lt {c : Nat → Nat} (hc : ∀ y, c y < 256) (x : Nat) : ∀ ys, sumC c x ys < 256
  | [] => (by decide : 0 < 256)
  | y :: ys => xor_lt' (prod_lt _ (hc y)) (sumC_lt hc x ys)
theorem sum_two {c : Nat → Nat} (hc : ∀ y, c y < 256) {x x0 y0 : Nat} (hx : x < 256) (hx0 : x0 < 256) (hy0 : y0 < 256) : ∀ ys : List Nat, (∀ y ∈ ys, y < 256 ∧ x ≠ y ∧ x0 ≠ y) →
    prod (x ^^^ y0) (sumC c x ys) ^^^ prod (x0 ^^^ y0) (sumC c x0 ys) = prod (x ^^^ x0) (sumC (fun y => prod (c y) (prod (y ^^^ y0) (inv (x0 ^^^ y)))) x ys)
  | [], _ => by simp [sumC, prod_zero]
  | y :: ys, h => by
    obtain ⟨hy, hxy, hx0y⟩ := h y (by simp)
    have hu : x ^^^ y < 256 := xor_lt' hx hy
    have hv : x0 ^^^ y < 256 := xor_lt' hx0 hy
    have hd : y ^^^ y0 < 256 := xor_lt' hy hy0
    have t := one_term (hc y) hd hu hv (inv_lt _) (inv_lt _) (prod_inv _ hu fun e => hxy (xor_zero e)) (prod_inv _ hv fun e => hx0y (xor_zero e))
    rw [show (x ^^^ y) ^^^ (y ^^^ y0) = x ^^^ y0 by rw [Nat.xor_assoc, xor_left_self], show (x0 ^^^ y) ^^^ (y ^^^ y0) = x0 ^^^ y0 by rw [Nat.xor_assoc, xor_left_self], show (x ^^^ y) ^^^ (x0 ^^^ y) = x ^^^ x0 by rw [Nat.xor_comm x0 y, Nat.xor_assoc, xor_left_self]] at t
    have ih := sum_two hc hx hx0 hy0 ys fun z hz => h z (by simp [hz])
    unfold sumC
    rw [prod_right, prod_right, prod_right, ← t, ← ih]
    simp only [Nat.xor_assoc]
    rw [xlc (prod (x ^^^ y0) (sumC c x ys))]
theorem sumC_congr {c d : Nat → Nat} (x : Nat) : ∀ ys : List Nat, (∀ y ∈ ys, c y = d y) → sumC c x ys = sumC d x ys
  | [], _ => rfl
  | y :: ys, h => by
    unfold sumC
    rw [h y (by simp), sumC_congr x ys fun z hz => h z (by simp [hz])]
theorem sumC_none {c : Nat → Nat} (x : Nat) : ∀ ys : List Nat, (∀ y ∈ ys, c y = 0) → sumC c x ys = 0
  | [], _ => rfl
  | y :: ys, h => by
    unfold sumC
    rw [h y (by simp), sumC_none x ys fun z hz => h z (by simp [hz]), zero_prod _ (inv_lt _)]
    rfl
theorem inv_ne {a : Nat} (ha : a < 256) (h0 : a ≠ 0) : inv a ≠ 0 := fun e => by
  have := prod_inv a ha h0
  rw [e, prod_zero] at this
  cases this
theorem cauchy : ∀ (ys xs : List Nat) (c : Nat → Nat), (∀ y, c y < 256) → xs.length = ys.length → ys.Nodup → xs.Nodup → (∀ y ∈ ys, y < 256) → (∀ x ∈ xs, x < 256) → (∀ x ∈ xs, ∀ y ∈ ys, x ≠ y) → (∀ x ∈ xs, sumC c x ys = 0) → ∀ y ∈ ys, c y = 0
  | [], _, _, _, _, _, _, _, _, _, _, y, hy => by cases hy
  | y0 :: ys, [], _, _, h, _, _, _, _, _, _, _, _ => by cases h
  | y0 :: ys, x0 :: xs, c, hc, hl, hdy, hdx, hby, hbx, hne, hs, y, hy => by
    have hy0 := hby y0 (by simp)
    have hx0 := hbx x0 (by simp)
    obtain ⟨hn1, hdy'⟩ := List.nodup_cons.1 hdy
    obtain ⟨hn2, hdx'⟩ := List.nodup_cons.1 hdx
    have hall : ∀ z ∈ ys, c z = 0 := by
      have ih := cauchy ys xs (fun y => prod (c y) (prod (y ^^^ y0) (inv (x0 ^^^ y)))) (fun y => prod_lt _ (hc y)) (by simpa using hl) hdy' hdx' (fun z hz => hby z (by simp [hz])) (fun z hz => hbx z (by simp [hz])) (fun x hx z hz => hne x (by simp [hx]) z (by simp [hz])) (fun x hx => by
        have hx' := hbx x (by simp [hx])
        have hs1 := hs x (by simp [hx])
        have hs0 := hs x0 (by simp)
        have t := sum_two hc hx' hx0 hy0 (y0 :: ys) (fun z hz => ⟨hby z hz, hne x (by simp [hx]) z hz, hne x0 (by simp) z hz⟩)
        rw [hs1, hs0, prod_zero, prod_zero, Nat.xor_self] at t
        have hlt : ∀ y, (fun y => prod (c y) (prod (y ^^^ y0) (inv (x0 ^^^ y)))) y < 256 := fun y => prod_lt _ (hc y)
        rcases (prod_nought _ _ (xor_lt' hx' hx0) (sumC_lt hlt x _)).1 t.symm with q | q
        · have := xor_zero q
          subst this
          exact absurd hx hn2
        · unfold sumC at q
          rw [Nat.xor_self, zero_prod _ (inv_lt _), prod_zero, zero_prod _ (inv_lt _), Nat.zero_xor] at q
          exact q)
      intro z hz
      have hz' := hby z (by simp [hz])
      have := ih z hz
      have hne0 : z ^^^ y0 ≠ 0 := fun e => by
        have := xor_zero e
        subst this
        exact hn1 hz
      have hne1 : x0 ^^^ z ≠ 0 := fun e => hne x0 (by simp) z (by simp [hz]) (xor_zero e)
      have hi : inv (x0 ^^^ z) ≠ 0 := inv_ne (xor_lt' hx0 hz') hne1
      rcases (prod_nought _ _ (hc z) (prod_lt _ (xor_lt' hz' hy0))).1 this with q | q
      · exact q
      · rcases (prod_nought _ _ (xor_lt' hz' hy0) (inv_lt _)).1 q with q | q
        · exact absurd q hne0
        · exact absurd q hi
    rcases List.mem_cons.1 hy with rfl | hy
    · have hs0 := hs x0 (by simp)
      unfold sumC at hs0
      rw [sumC_none x0 ys hall, Nat.xor_zero] at hs0
      have hne1 : x0 ^^^ y ≠ 0 := fun e => hne x0 (by simp) y (by simp) (xor_zero e)
      rcases (prod_nought _ _ (hc y) (inv_lt _)).1 hs0 with q | q
      · exact q
      · exact absurd q (inv_ne (xor_lt' hx0 hy0) hne1)
    · exact hall y hy
theorem sumC_cons (c : Nat → Nat) (x y : Nat) (ys : List Nat) : sumC c x (y :: ys) = prod (c y) (inv (x ^^^ y)) ^^^ sumC c x ys := rfl
theorem sumC_append (c : Nat → Nat) (x : Nat) (ys : List Nat) : ∀ xs : List Nat, sumC c x (xs ++ ys) = sumC c x xs ^^^ sumC c x ys
  | [] => by simp [sumC]
  | y :: xs => by
    rw [List.cons_append, sumC_cons, sumC_cons, sumC_append c x ys xs, Nat.xor_assoc]
theorem sumC_filter (c : Nat → Nat) (x : Nat) (p : Nat → Bool) : ∀ ys : List Nat, (∀ y ∈ ys, p y = false → c y = 0) → sumC c x (ys.filter p) = sumC c x ys
  | [], _ => rfl
  | y :: ys, h => by
    have ih := sumC_filter c x p ys fun z hz => h z (by simp [hz])
    by_cases hp : p y = true
    · rw [List.filter_cons_of_pos hp]
      unfold sumC
      rw [ih]
    · rw [List.filter_cons_of_neg hp, ih]
      have := h y (by simp) (by simpa using hp)
      conv => rhs; unfold sumC
      rw [this, zero_prod _ (inv_lt _), Nat.zero_xor]
def unL (S : Nat → Bool) (n : Nat) : Nat := ((List.range n).filter fun i => !S i).length
theorem unL_succ (S : Nat → Bool) (n : Nat) : unL S (n + 1) = unL S n + if S n = true then 0 else 1 := by
  unfold unL
  rw [List.range_succ, List.filter_append, List.length_append]
  cases h : S n <;> simp [h]
theorem un_all {S : Nat → Bool} {n : Nat} (h : ∀ i, i < n → S i = true) : unL S n = 0 := by
  induction n with
  | zero => rfl
  | succ n ih => rw [unL_succ, ih fun i hi => h i (by omega), if_pos (h n (by omega))]
theorem un_split (S : Nat → Bool) (k : Nat) : ∀ m, ((List.range (k + m)).filter fun i => decide (k ≤ i) && S i).length + unL S (k + m) = m + unL S k
  | 0 => by
    have : ((List.range (k + 0)).filter fun i => decide (k ≤ i) && S i) = [] := by
      rw [List.filter_eq_nil_iff]
      intro i hi
      have := List.mem_range.1 hi
      have h2 : ¬ k ≤ i := by omega
      simp [h2]
    rw [this, Nat.add_zero, List.length_nil]
  | m + 1 => by
    have ih := un_split S k m
    rw [← Nat.add_assoc, unL_succ, List.range_succ, List.filter_append, List.length_append]
    have hk : k ≤ k + m := by omega
    cases h : S (k + m) <;> simp [h, hk] <;> omega
theorem far {k n L : Nat} (hk : k ≤ n) (hn : n ≤ 255) (S : Nat → Bool) (D : Nat → Nat → Nat) (hD : ∀ j b, D j b < 256) (h1 : ∀ i, i < k → S i = true → ∀ b, b < L → D i b = 0)
    (h2 : ∀ i, k ≤ i → i < n → S i = true → ∀ b, b < L → sumC (fun j => D j b) i (List.range k) = 0) (hu : unL S n ≤ n - k) : ∀ j, j < k → ∀ b, b < L → D j b = 0 := by
  intro j hj b hb
  by_cases hS : S j = true
  · exact h1 j hj hS b hb
  · have hsp := un_split S k (n - k)
    rw [show k + (n - k) = n by omega] at hsp
    have hlen : ((List.range k).filter fun i => !S i).length ≤ ((List.range n).filter fun i => decide (k ≤ i) && S i).length := by
      have : ((List.range k).filter fun i => !S i).length = unL S k := rfl
      omega
    have hmem : ∀ x ∈ ((List.range n).filter fun i => decide (k ≤ i) && S i).take ((List.range k).filter fun i => !S i).length, k ≤ x ∧ x < n ∧ S x = true := by
      intro x hx
      have hx := List.mem_of_mem_take hx
      rw [List.mem_filter, List.mem_range] at hx
      simpa [and_assoc, and_left_comm, and_comm] using hx
    have hmy : ∀ y ∈ ((List.range k).filter fun i => !S i), y < k := by
      intro y hy
      rw [List.mem_filter, List.mem_range] at hy
      exact hy.1
    refine cauchy ((List.range k).filter fun i => !S i) (((List.range n).filter fun i => decide (k ≤ i) && S i).take ((List.range k).filter fun i => !S i).length) (fun j => D j b) (fun j => hD j b) (by rw [List.length_take]; omega) (List.nodup_range.filter _) (List.Pairwise.sublist (List.take_sublist _ _) (List.nodup_range.filter _)) (fun y hy => by have := hmy y hy; omega) (fun x hx => by have := hmem x hx; omega) (fun x hx y hy => by have := hmem x hx; have := hmy y hy; omega) (fun x hx => ?_) j ?_
    · obtain ⟨q1, q2, q3⟩ := hmem x hx
      rw [sumC_filter]
      · exact h2 x q1 q2 q3 b hb
      · intro y hy hp
        exact h1 y (List.mem_range.1 hy) (by simpa using hp) b hb
    · rw [List.mem_filter, List.mem_range]
      exact ⟨hj, by simpa using hS⟩
theorem row_at {k n i j : Nat} (hi : i < n) (hj : j < k) : gN (rwL (elL k n) k i) j = elF k i j := by
  have h : i * k + k ≤ (elL k n).length := by
    rw [elL_length, ← Nat.succ_mul]
    exact Nat.mul_le_mul_right _ hi
  have h2 : i * k + j < n * k := by rw [elL_length] at h; omega
  unfold gN
  rw [rw_get h hj, elL_get _ _ _ h2]
  unfold elP
  rw [(el_at hj).1, (el_at hj).2]
  simp
theorem mix_far {k n i : Nat} (hk : k ≤ i) (hi : i < n) (ds : List (List Int)) (b : Nat) : ∀ m, m ≤ k → mixV (rwL (elL k n) k i) ds m b = sumC (fun j => gN (ds.getD j []) b) i (List.range m)
  | 0, _ => rfl
  | m + 1, h => by
    unfold mixV
    rw [mix_far hk hi ds b m (by omega), List.range_succ, sumC_append, row_at hi (by omega)]
    unfold elF
    rw [if_neg (by omega)]
    simp [sumC]
theorem mix_near {k n i : Nat} (hk : i < k) (hi : i < n) (ds : List (List Int)) (b : Nat) (hd : ∀ j, gN (ds.getD j []) b < 256) : ∀ m, m ≤ k → mixV (rwL (elL k n) k i) ds m b = if i < m then gN (ds.getD i []) b else 0
  | 0, _ => rfl
  | m + 1, h => by
    unfold mixV
    rw [mix_near hk hi ds b hd m (by omega), row_at hi (by omega)]
    unfold elF
    rw [if_pos hk]
    by_cases he : i = m
    · subst he
      rw [if_pos rfl, if_neg (by omega), if_pos (by omega), prod_one _ (hd _), Nat.zero_xor]
    · rw [if_neg he, prod_zero, Nat.xor_zero]
      by_cases h2 : i < m
      · rw [if_pos h2, if_pos (by omega)]
      · rw [if_neg h2, if_neg (by omega)]
theorem mix_sum (row : List Int) (xs ys zs : List (List Int)) (b : Nat) : ∀ m, (∀ j, j < m → gN (xs.getD j []) b < 256 ∧ gN (ys.getD j []) b < 256 ∧ gN (zs.getD j []) b = gN (xs.getD j []) b ^^^ gN (ys.getD j []) b) → mixV row zs m b = mixV row xs m b ^^^ mixV row ys m b
  | 0, _ => by simp [mixV]
  | m + 1, h => by
    obtain ⟨h1, h2, h3⟩ := h m (by omega)
    unfold mixV
    rw [mix_sum row xs ys zs b m fun j hj => h j (by omega), h3, prod_left _ _ _ h1 h2]
    simp only [Nat.xor_assoc]
    rw [xlc (mixV row ys m b)]
theorem sumC_xor {c d : Nat → Nat} (hc : ∀ y, c y < 256) (hd : ∀ y, d y < 256) (x : Nat) : ∀ ys, sumC (fun y => c y ^^^ d y) x ys = sumC c x ys ^^^ sumC d x ys
  | [] => by simp [sumC]
  | y :: ys => by
    unfold sumC
    rw [sumC_xor hc hd x ys, prod_left _ _ _ (hc y) (hd y)]
    simp only [Nat.xor_assoc]
    rw [xlc (sumC c x ys)]
theorem catL_get {ls : Nat → List Int} {c : Nat} : ∀ {n i j : Nat}, (∀ i, i < n → (ls i).length = c) → i < n → j < c → (catL ls n).getD (i * c + j) 0 = (ls i).getD j 0
  | n + 1, i, j, h, hi, hj => by
    show (catL ls n ++ ls n).getD (i * c + j) 0 = _
    have hl : (catL ls n).length = n * c := catL_len fun i hi => h i (by omega)
    simp only [List.getD]
    by_cases e : i = n
    · subst e
      rw [List.getElem?_append_right (by omega), hl, Nat.add_sub_cancel_left]
    · have hle : (i + 1) * c ≤ n * c := Nat.mul_le_mul_right c (by omega)
      rw [Nat.succ_mul] at hle
      rw [List.getElem?_append_left (by omega)]
      exact catL_get (fun i hi => h i (by omega)) (by omega) hj
theorem mtN_pk {k n : Nat} {ns : Nat → Nat} (hns : ∀ i, i < k → ns i < n) {i j : Nat} (hi : i < k) (hj : j < k) : mtN (pkL (elL k n) k ns k) k i j = elF k (ns i) j := by
  unfold mtN pkL
  rw [catL_get (fun i hi => rwL_length (elL_length k n) (hns i hi)) hi hj]
  exact row_at (hns i hi) hj
theorem sub_len {α : Type} [DecidableEq α] : ∀ (l m : List α), l.Nodup → (∀ x ∈ l, x ∈ m) → l.length ≤ m.length
  | [], _, _, _ => Nat.zero_le _
  | a :: l, m, hn, h => by
    have ha := h a List.mem_cons_self
    have hn2 := List.nodup_cons.1 hn
    have := sub_len l (m.erase a) hn2.2 fun x hx => (List.mem_erase_of_ne (fun e => hn2.1 (by rw [← e]; exact hx))).2 (h x (List.mem_cons_of_mem _ hx))
    rw [List.length_erase_of_mem ha] at this
    have hp := List.length_pos_of_mem ha
    rw [List.length_cons]
    omega
theorem flt_both (p : Nat → Bool) : ∀ l : List Nat, (l.filter p).length + (l.filter fun x => !p x).length = l.length
  | [] => rfl
  | a :: l => by
    have ih := flt_both p l
    rw [List.filter_cons, List.filter_cons, List.length_cons]
    cases h : p a <;> simp <;> omega
theorem rows_full {k n : Nat} (hk1 : 1 ≤ k) (hkn : k ≤ n) (hn : n ≤ 255) {ns : Nat → Nat} (hns : ∀ i, i < k → ns i < n) (hne : ∀ i j, i < k → j < k → ns i = ns j → i = j) :
    (FB.els k (Fd.bes k (mtN (pkL (elL k n) k ns k) k)) k).2 = k := by
  have hby : ∀ x ∈ pkL (elL k n) k ns k, 0 ≤ x ∧ x < 256 := catL_byt fun i hi x hx => elL_byt k n hkn hn hk1 x (List.mem_of_mem_take (List.mem_of_mem_drop hx))
  refine Fd.bes_full (F := FB) (mtN_lt hby k) fun x hx h => ?_
  have hx : ∀ j, x j < 256 := hx
  have hA : ∀ t, t < k → ∀ m, m ≤ k → k ≤ ns t → FB.sm (fun j => FB.mul (mtN (pkL (elL k n) k ns k) k t j) (x j)) m = sumC (fun j => x j) (ns t) (List.range m) := fun t ht m => by
    induction m with
    | zero => intro _ _; rfl
    | succ m ih =>
      intro hm hk
      rw [List.range_succ, sumC_append]
      show FB.sm _ m ^^^ prod _ _ = _
      rw [ih (by omega) hk]
      show _ = _ ^^^ (prod (x m) (inv (ns t ^^^ m)) ^^^ 0)
      rw [Nat.xor_zero, mtN_pk hns ht (by omega)]
      unfold elF
      rw [if_neg (by omega), prod_comm _ _ (inv_lt _) (hx m)]
  have hS : ∀ i, ((List.range k).any fun t => ns t == i) = true → ∃ t, t < k ∧ ns t = i := fun i hi => by
    obtain ⟨t, ht, e⟩ := List.any_eq_true.1 hi
    exact ⟨t, List.mem_range.1 ht, by simpa using e⟩
  intro j hj
  refine far (L := 1) hkn hn (fun i => (List.range k).any fun t => ns t == i) (fun j _ => x j) (fun j _ => hx j) (fun i hi hs b _ => ?_) (fun i hi1 hi2 hs b _ => ?_) ?_ j hj 0 (by decide)
  · obtain ⟨t, ht, e⟩ := hS i hs
    have h0 := h t ht
    have h1 := Fd.dot_unit (F := FB) (n := k) (i := i) (v := x) (r := mtN (pkL (elL k n) k ns k) k t) hx hi (fun j hj => by rw [mtN_pk hns ht hj, e]; unfold elF; rw [if_pos hi])
    exact h1.symm.trans h0
  · obtain ⟨t, ht, e⟩ := hS i hs
    have h0 := h t ht
    have := hA t ht k (Nat.le_refl _) (by omega)
    rw [e] at this
    exact this.symm.trans h0
  · have hb := flt_both (fun i => (List.range k).any fun t => ns t == i) (List.range n)
    rw [List.length_range] at hb
    have hl := sub_len ((List.range k).map ns) ((List.range n).filter fun i => (List.range k).any fun t => ns t == i) (by
      show List.Pairwise _ _
      rw [List.pairwise_map]
      exact List.Pairwise.imp_of_mem (fun ha hb hab e => hab (hne _ _ (List.mem_range.1 ha) (List.mem_range.1 hb) e)) List.nodup_range) (fun y hy => by
      obtain ⟨t, ht, rfl⟩ := List.mem_map.1 hy
      have ht := List.mem_range.1 ht
      exact List.mem_filter.2 ⟨List.mem_range.2 (hns t ht), List.any_eq_true.2 ⟨t, List.mem_range.2 ht, by simp⟩⟩)
    rw [List.length_map, List.length_range] at hl
    show (List.filter (fun x => !(List.range k).any fun t => ns t == x) (List.range n)).length ≤ n - k
    omega
theorem mixV_dot (row : List Int) (ds : List (List Int)) (b : Nat) (h1 : ∀ j, gN row j < 256) (h2 : ∀ j, gN (ds.getD j []) b < 256) : ∀ m, mixV row ds m b = FB.sm (fun j => FB.mul (gN row j) (gN (ds.getD j []) b)) m
  | 0 => rfl
  | m + 1 => by
    show mixV row ds m b ^^^ prod _ _ = FB.sm _ m ^^^ prod _ _
    rw [mixV_dot row ds b h1 h2 m, prod_comm _ _ (h2 m) (h1 m)]
theorem gN_lt {l : List Int} (h : ∀ x ∈ l, 0 ≤ x ∧ x < 256) (j : Nat) : gN l j < 256 := by
  unfold gN
  simp only [List.getD]
  cases hq : l[j]? with
  | none => decide
  | some x =>
    have := h x (List.mem_of_getElem? hq)
    show x.toNat < 256
    omega
theorem gN_at {l : List Int} (h : ∀ x ∈ l, 0 ≤ x ∧ x < 256) {b : Nat} (hb : b < l.length) : l[b] = ((gN l b : Nat) : Int) := by
  have := h _ (List.getElem_mem hb)
  unfold gN
  rw [show l.getD b 0 = l[b] by simp [List.getD, hb]]
  omega
theorem gN_rw {l : List Int} (h : ∀ x ∈ l, 0 ≤ x ∧ x < 256) (c i j : Nat) : gN (rwL l c i) j < 256 := gN_lt (fun x hx => h x (List.mem_of_mem_take (List.mem_of_mem_drop hx))) j
theorem iv_row {l : List Int} {k r m : Nat} (hr : r < k) (hm : m < k) : gN (rwL (ivL l k) k r) m = (FB.els k (Fd.bes k (mtN l k)) k).1 r (k + m) := by
  have hlen : (ivL l k).length = k * k := ivL_len l k
  have h : r * k + k ≤ (ivL l k).length := by
    rw [hlen, ← Nat.succ_mul]
    exact Nat.mul_le_mul_right _ hr
  unfold gN
  rw [rw_get h hm]
  unfold ivL
  rw [catL_get (fun i hi => tbL_length _ _) hr hm, tbL_get _ _ _ hm]
  simp
theorem decode_back {k n L : Nat} (hk1 : 1 ≤ k) (hkn : k ≤ n) (hn : n ≤ 255) {ns : Nat → Nat} (hns : ∀ i, i < k → ns i < n) (hne : ∀ i j, i < k → j < k → ns i = ns j → i = j) (xs ds : List (List Int)) (hx : xs.length = k) (hxl : ∀ j, j < k → (xs.getD j []).length = L) (hxb : ∀ j, ∀ x ∈ xs.getD j [], 0 ≤ x ∧ x < 256)
    (hds : ∀ i, i < k → ds.getD i [] = mixL (rwL (elL k n) k (ns i)) xs k L) (hdb : ∀ j, ∀ x ∈ ds.getD j [], 0 ≤ x ∧ x < 256) : prL (ivL (pkL (elL k n) k ns k) k) k ds L k = xs := by
  have hel : ∀ x ∈ elL k n, 0 ≤ x ∧ x < 256 := elL_byt k n hkn hn hk1
  have hby : ∀ x ∈ pkL (elL k n) k ns k, 0 ≤ x ∧ x < 256 := catL_byt fun i hi x hx => hel x (List.mem_of_mem_take (List.mem_of_mem_drop hx))
  have hA := mtN_lt hby k
  have hfull := rows_full hk1 hkn hn hns hne
  have hI := Fd.els_inv (F := FB) (L := k + k) (Fd.bes_ok (F := FB) (n := k) hA) (n := k) k
  have hIok : ∀ i j, (FB.els k (Fd.bes k (mtN (pkL (elL k n) k ns k) k)) k).1 i j < 256 := hI.ok
  have hiv : ∀ x ∈ ivL (pkL (elL k n) k ns k) k, 0 ≤ x ∧ x < 256 := catL_byt fun i _ => tbL_byt _ fun j => hIok _ _
  refine List.ext_getElem (by rw [prL_length, hx]) fun r h1 h2 => ?_
  have hr : r < k := by rw [hx] at h2; exact h2
  have e1 : (prL (ivL (pkL (elL k n) k ns k) k) k ds L k)[r] = mixL (rwL (ivL (pkL (elL k n) k ns k) k) k r) ds k L := by simp [prL]
  have e2 : xs[r] = xs.getD r [] := by simp [List.getD, h2]
  rw [e1, e2]
  refine List.ext_getElem (by rw [show (mixL (rwL (ivL (pkL (elL k n) k ns k) k) k r) ds k L).length = L from tbL_length _ _, hxl r hr]) fun b h3 h4 => ?_
  have hb : b < L := by rw [hxl r hr] at h4; exact h4
  have e3 : (mixL (rwL (ivL (pkL (elL k n) k ns k) k) k r) ds k L)[b] = ((mixV (rwL (ivL (pkL (elL k n) k ns k) k) k r) ds k b : Nat) : Int) := by simp [mixL, tbL]
  have e4 : (xs.getD r [])[b] = ((gN (xs.getD r []) b : Nat) : Int) := gN_at (hxb r) h4
  rw [e3, e4]
  congr 1
  have hu : ∀ j, FB.ok (gN (xs.getD j []) b) := fun j => gN_lt (hxb j) b
  have hbl := Fd.back_left (F := FB) hA hfull hu r hr
  rw [mixV_dot _ _ _ (gN_rw hiv k r) (fun j => gN_lt (hdb j) b)]
  refine Eq.trans ?_ hbl
  unfold Fd.dot
  refine Fd.sm_congr fun m hm => ?_
  rw [iv_row hr hm, hds m hm]
  have e5 : gN (mixL (rwL (elL k n) k (ns m)) xs k L) b = mixV (rwL (elL k n) k (ns m)) xs k b := by
    unfold gN mixL
    rw [tbL_get _ _ _ hb]
    simp
  rw [e5, mixV_dot _ _ _ (gN_rw hel k (ns m)) (fun j => gN_lt (hxb j) b)]
  show FB.mul _ _ = FB.mul _ _
  congr 1
  refine Fd.sm_congr fun j hj => ?_
  rw [row_at (hns m hm) hj, mtN_pk hns hm hj]
def wantL (k n : Nat) (ns : Nat → Nat) (want : Nat) : List Int := rwL (mulL (pkL (elL k n) k (fun _ => want) 1) (ivL (pkL (elL k n) k ns k) k) 1 k k) k 0
set_option maxRecDepth 100000 in
set_option maxHeartbeats 8000000 in
theorem make_ok (w : World) (gc k n : Nat) (gn on cn : Nat) (ns : Nat → Nat) (vb : Value) (ds : List (List Int)) (L want : Nat) (h : HCd w gc k n) (hk1 : 1 ≤ k) (hkn : k ≤ n) (hn : n ≤ 255) (hcn : k ≤ cn) (hcn2 : cn ≤ 9223372036854775807)
    (hv : ∀ i, i < k → w.cell? ⟨gn, on + i, none⟩ = some (.int .i64 (ns i : Int))) (hns : ∀ i, i < k → ns i < n) (hne : ∀ i j, i < k → j < k → ns i = ns j → i = j) (hd : HL w vb ds) (hdk : ds.length = k) (hL : ∀ j, j < ds.length → (ds.getD j []).length = L) (hLb : L ≤ 140737488355328) (hw : want < n)
    (hf : ∀ π, PiK k π → (FB.els k (Fd.bes k (mtN (pkL (elL k n) k (fun i => ns (π i)) k) k)) k).2 = k) :
    Calls Try.prog 11 #[.pointer (some ⟨gc, 0, none⟩), .slice (some ⟨gn, on, none⟩) k cn, vb, .int .i64 (want : Int)] w fun e w' => ∃ (v : Value) (π : Nat → Nat), e = .returned (.tuple #[v, .int .i64 0]) ∧ PiK k π ∧ w'.ownsRow w.heap.size 5 1 v L ((mixL (wantL k n (fun i => ns (π i)) want) (dsP ds k π) k L).map (Value.int .u8)) ∧ Below w.heap.size w w' := by
  have CR : Hid (Calls Try.prog 21 #[.pointer (some ⟨gc, 0, none⟩), .slice (some ⟨gn, on, none⟩) k cn, vb, .int .i64 (want : Int)] w fun e w' => e = .returned (.int .i64 0) ∧ w' = w) := hid (refused_ok w gc k n gn on cn ns vb ds L want h hk1 (by omega) hcn hcn2 hv hns (fun i j hi hj e => by have := hne j i (by omega) hi e; omega) hd hdk hL hw)
  obtain ⟨gb, ob, cb, rfl, hlb, hcb, hh⟩ := hd.ne (by omega)
  rw [hdk] at CR ⊢
  obtain ⟨vs, hvs⟩ : ∃ vs : Nat → Value, ∀ i, i < k → w.cell? ⟨gb, ob + i, none⟩ = some (vs i) ∧ HB w (vs i) (ds.getD i []) := by
    refine ⟨fun i => (w.cell? ⟨gb, ob + i, none⟩).getD undef, fun i hi => ?_⟩
    obtain ⟨u, hu, hbu⟩ := hh i (by omega)
    have e : (w.cell? ⟨gb, ob + i, none⟩).getD undef = u := by rw [hu]; rfl
    show w.cell? ⟨gb, ob + i, none⟩ = some ((w.cell? ⟨gb, ob + i, none⟩).getD undef) ∧ HB w ((w.cell? ⟨gb, ob + i, none⟩).getD undef) _
    rw [e]
    exact ⟨hu, hbu⟩
  have CH := hid (homed_ok w gn on cn gb ob cb k ns vs hk1 (by omega) hv (fun i hi => (hvs i hi).1) (fun i hi => by obtain ⟨p, c, e, _⟩ := (hvs i hi).2.open; exact ⟨p, _, c, e⟩) hne)
  have HVS := hid hvs
  have HNS := hid hns
  have HF := hid hf
  have HLL := hid hL
  have HDK := hid hdk
  have HC := hid h
  clear hh hv hns hne hd hvs hf hL hdk h
  go_enter Try.func11, Try.ntmps11
  go_wp2_with fail
  refine CR.out.mono ?_
  rintro e wq ⟨rfl, hwq⟩
  rw [hwq]
  clear hwq wq CR
  go_wp2_with fail
  refine CH.out.mono ?_
  rintro e w1 ⟨π, v1, v2, rfl, hpi, ho1, ho2, hb1⟩
  have HPI := hid hpi
  have B1 := hid hb1
  obtain ⟨p1, c1, e1⟩ := own_slc ho1
  obtain ⟨p2, c2, e2⟩ := own_slc ho2
  subst e1
  subst e2
  obtain ⟨g1, e1⟩ := own_someR ho1 (by omega)
  obtain ⟨g2, e2⟩ := own_someR ho2 (by omega)
  subst e1
  subst e2
  have hc1 : k ≤ c1 ∧ c1 ≤ 9223372036854775807 := by
    rcases ho1.2 with ⟨e, _⟩ | ⟨g', cap, cur, e, _, _, h3, h4, _⟩
    · cases e
    · cases e
      unfold maxLen at h4
      exact ⟨h3, h4⟩
  have hc2 : k ≤ c2 ∧ c2 ≤ maxLen := by
    rcases ho2.2 with ⟨e, _⟩ | ⟨g', cap, cur, e, _, _, h3, h4, _⟩
    · cases e
    · cases e
      exact ⟨h3, h4⟩
  have CB := hid (back_ok w1 gc k n g1 0 c1 (fun i => ns (π i)) (HC.out.below hb1) hk1 (by omega) hn hc1.1 hc1.2 (fun i hi => by
    rw [Nat.zero_add, ho1.cellAt i (by omega), List.getElem?_map, List.getElem?_range hi, Option.map_some]) (fun i hi => HNS.out _ (hpi.1 i hi)) (HF.out π hpi))
  have H2 : Hid (HL w1 (.slice (some ⟨g2, 0, none⟩) k c2) (dsP ds k π)) := hid ⟨_, c2, by rw [dsP_len], by rw [dsP_len]; exact hc2.1, hc2.2, (fun e => by cases e), fun _ => ⟨g2, 0, rfl, fun j hj => by
    rw [dsP_len] at hj
    refine ⟨vs (π j), ?_, ?_⟩
    · rw [Nat.zero_add, ho2.cellAt j (by omega), List.getElem?_map, List.getElem?_range hj, Option.map_some]
    · rw [dsP_get _ _ _ _ hj]
      exact (HVS.out (π j) (hpi.1 j hj)).2.below hb1⟩⟩
  clear ho1 ho2 hb1 hpi CH
  go_wp2_with fail
  refine CB.out.mono ?_
  rintro e w2 ⟨g', rfl, hg', hm', hb2⟩
  have B2 := hid (B1.out.trans (hb2.mono B1.out.size))
  have M2 := hid hm'
  have H22 := hid (H2.out.below hb2)
  obtain ⟨gm, hgm, hmm⟩ := HC.out.below B2.out
  have HMM := hid hmm
  have q0 : w2.cell? ⟨gc, 0, none⟩ = some (.pointer (some ⟨gm, 0, none⟩)) := (cell_of_row w2 gc 0 _ _ _ hgm).trans rfl
  obtain ⟨w3, HW3⟩ : ∃ x, Hid (w2.alloc (.cells #[.int .i64 (want : Int)] 3) = x) := ⟨_, hid rfl⟩
  have b3 : Below w2.heap.size w2 w3 := by rw [← HW3.out]; exact (Below.refl _ _).alloc (Nat.le_refl _) _
  have C3 : w3.cell? ⟨w2.heap.size, 0, none⟩ = some (.int .i64 (want : Int)) := by rw [← HW3.out, cell_of_row _ _ _ _ _ _ (heap_alloc_new w2 _)]; rfl
  have CP := hid (bpick_any w3 gm n k (elL k n) w2.heap.size 0 1 1 (fun _ => want) (hmm.below b3) (by omega) hk1 (by omega) (Nat.le_refl _) (by omega) (Nat.le_refl _) (by omega) (fun i hi => by rw [show 0 + i = 0 by omega]; exact C3) (fun i hi => hw))
  have B3 := hid (B2.out.trans (b3.mono B2.out.size))
  have M3 := hid (M2.out.below b3)
  have H3 := hid (H22.out.below b3)
  clear hm' hb2 CB hgm hmm b3 C3
  go_wp2_with fail
  rw [HW3.out]
  refine CP.out.mono ?_
  rintro e w4 ⟨g4, rfl, hg4, hm4, hb4⟩
  have B4 := hid (B3.out.trans (hb4.mono B3.out.size))
  have M4 := hid hm4
  have H4 := hid (H3.out.below hb4)
  have CM := hid (bmul_ok w4 g4 1 k (pkL (elL k n) k (fun _ => want) 1) g' k (ivL (pkL (elL k n) k (fun i => ns (π i)) k) k) hm4 (M3.out.below hb4) (Nat.le_refl _) (by omega) hk1 (by omega) hk1 (by omega))
  clear hm4 hb4 hg4 CP q0
  go_wp2_with fail
  refine CM.out.mono ?_
  rintro e w5 ⟨g5, rfl, hm5, hb5⟩
  have B5 := hid (B4.out.trans (hb5.mono B4.out.size))
  have H5 := hid (H4.out.below hb5)
  have CW := hid (brsrow_ok w5 g5 1 k _ 0 hm5 (by omega) (by omega) hk1 (by omega))
  have HLR : Hid ((wantL k n (fun i => ns (π i)) want).length = k) := hid (rwL_length hm5.1 (by omega))
  have HBY : Hid (∀ x ∈ wantL k n (fun i => ns (π i)) want, 0 ≤ x ∧ x < 256) := hid fun x hx => by
    obtain ⟨_, v, _, hb⟩ := hm5
    exact hb.2 x (List.mem_of_mem_take (List.mem_of_mem_drop hx))
  clear hm5 hb5 CM
  go_wp2_with fail
  refine CW.out.mono ?_
  rintro e w6 ⟨v6, rfl, ho6, hb6⟩
  have B6 := hid (B5.out.trans (hb6.mono B5.out.size))
  have hb6v : HB w6 v6 (wantL k n (fun i => ns (π i)) want) := HB.of_own (by rw [HLR.out]; exact ho6) HBY.out
  have CX := mixed_any w6 v6 (.slice (some ⟨g2, 0, none⟩) k c2) (wantL k n (fun i => ns (π i)) want) (dsP ds k π) L hb6v (H5.out.below hb6) (by rw [HLR.out, dsP_len]; exact Nat.le_refl _) (by rw [dsP_len]; omega) (fun j hj => by rw [dsP_len] at hj; rw [dsP_get _ _ _ _ hj]; exact HLL.out _ (by rw [HDK.out]; exact HPI.out.1 j hj)) hLb
  rw [HLR.out] at CX
  have CX := hid CX
  clear ho6 hb6 hb6v CW
  go_wp2_with fail
  refine CX.out.mono ?_
  rintro e w7 ⟨v7, rfl, ho7, hb7⟩
  have B7 := hid (B6.out.trans (hb7.mono B6.out.size))
  have O7 := hid (own_mono ho7 B6.out.size)
  clear ho7 hb7 CX
  go_wp2_with fail
  go_ret2
  exact ⟨v7, π, rfl, HPI.out, O7.out, B7.out⟩
theorem make_back {k n L want : Nat} (hk1 : 1 ≤ k) (hkn : k ≤ n) (hn : n ≤ 255) {ns : Nat → Nat} (hns : ∀ i, i < k → ns i < n) (hne : ∀ i j, i < k → j < k → ns i = ns j → i = j) (hw : want < n) (xs ds : List (List Int)) (hx : xs.length = k) (hxl : ∀ j, j < k → (xs.getD j []).length = L) (hxb : ∀ j, ∀ x ∈ xs.getD j [], 0 ≤ x ∧ x < 256)
    (hds : ∀ i, i < k → ds.getD i [] = mixL (rwL (elL k n) k (ns i)) xs k L) (hdb : ∀ j, ∀ x ∈ ds.getD j [], 0 ≤ x ∧ x < 256) : mixL (wantL k n ns want) ds k L = mixL (rwL (elL k n) k want) xs k L := by
  have hel : ∀ x ∈ elL k n, 0 ≤ x ∧ x < 256 := elL_byt k n hkn hn hk1
  have hby : ∀ x ∈ pkL (elL k n) k ns k, 0 ≤ x ∧ x < 256 := catL_byt fun i hi x hx => hel x (List.mem_of_mem_take (List.mem_of_mem_drop hx))
  have hby1 : ∀ x ∈ pkL (elL k n) k (fun _ => want) 1, 0 ≤ x ∧ x < 256 := catL_byt fun i hi x hx => hel x (List.mem_of_mem_take (List.mem_of_mem_drop hx))
  have hA := mtN_lt hby k
  have hI := Fd.els_inv (F := FB) (L := k + k) (Fd.bes_ok (F := FB) (n := k) hA) (n := k) k
  have hIok : ∀ i j, (FB.els k (Fd.bes k (mtN (pkL (elL k n) k ns k) k)) k).1 i j < 256 := hI.ok
  have hiv : ∀ x ∈ ivL (pkL (elL k n) k ns k) k, 0 ≤ x ∧ x < 256 := catL_byt fun i _ => tbL_byt _ fun j => hIok _ _
  have hback := decode_back (L := L) hk1 hkn hn hns hne xs ds hx hxl hxb hds hdb
  have hml : (mulL (pkL (elL k n) k (fun _ => want) 1) (ivL (pkL (elL k n) k ns k) k) 1 k k).length = 1 * k := mulL_len _ _ _ _ _
  have hwb : ∀ x ∈ wantL k n ns want, 0 ≤ x ∧ x < 256 := fun x hx => mulL_byt hby1 hiv 1 k k x (List.mem_of_mem_take (List.mem_of_mem_drop hx))
  refine List.ext_getElem (by rw [show (mixL (wantL k n ns want) ds k L).length = L from tbL_length _ _, show (mixL (rwL (elL k n) k want) xs k L).length = L from tbL_length _ _]) fun b h3 h4 => ?_
  have hb : b < L := by rw [show (mixL (wantL k n ns want) ds k L).length = L from tbL_length _ _] at h3; exact h3
  have e3 : (mixL (wantL k n ns want) ds k L)[b] = ((mixV (wantL k n ns want) ds k b : Nat) : Int) := by simp [mixL, tbL]
  have e4 : (mixL (rwL (elL k n) k want) xs k L)[b] = ((mixV (rwL (elL k n) k want) xs k b : Nat) : Int) := by simp [mixL, tbL]
  rw [e3, e4]
  congr 1
  have gel : ∀ i j, gN (rwL (elL k n) k i) j < 256 := fun i j => gN_rw hel k i j
  rw [mixV_dot _ _ _ (gN_lt hwb) (fun j => gN_lt (hdb j) b), mixV_dot _ _ _ (gel want) (fun j => gN_lt (hxb j) b)]
  -- an element of the row
  have hw1 : ∀ j, j < k → gN (wantL k n ns want) j = FB.sm (fun m => FB.mul (gN (rwL (elL k n) k want) m) (gN (rwL (ivL (pkL (elL k n) k ns k) k) k m) j)) k := by
    intro j hj
    have e5 : gN (wantL k n ns want) j = mulF (pkL (elL k n) k (fun _ => want) 1) (ivL (pkL (elL k n) k ns k) k) k k 0 j := by
      unfold gN wantL
      rw [rw_get (by rw [hml]; omega) hj]
      unfold mulL
      rw [catL_get (fun i _ => tbL_length _ _) (by omega) hj, tbL_get _ _ _ hj]
      simp
    rw [e5]
    unfold mulF dotL Fd.dot
    refine Fd.sm_congr fun m hm => ?_
    have hp : rwL (pkL (elL k n) k (fun _ => want) 1) k 0 = rwL (elL k n) k want := by
      have hl1 : (rwL (elL k n) k want).length = k := rwL_length (elL_length k n) hw
      unfold pkL
      show rwL ([] ++ rwL (elL k n) k want) k 0 = _
      rw [List.nil_append]
      generalize rwL (elL k n) k want = z at hl1 ⊢
      unfold rwL
      rw [Nat.zero_mul, Nat.zero_add, List.drop_zero]
      exact List.take_of_length_le (by omega)
    have e6 : natL (rwL (pkL (elL k n) k (fun _ => want) 1) k 0) m = gN (rwL (elL k n) k want) m := by
      rw [hp]
      rfl
    have e7 : natL (colL (ivL (pkL (elL k n) k ns k) k) k k j) m = gN (rwL (ivL (pkL (elL k n) k ns k) k) k m) j := by
      unfold natL gN
      rw [colL_get _ _ _ _ _ hm, rw_get (by rw [ivL_len, ← Nat.succ_mul]; exact Nat.mul_le_mul_right _ hm) hj]
    rw [e6, e7]
  have hbk : ∀ m, m < k → gN (xs.getD m []) b = FB.sm (fun j => FB.mul (gN (rwL (ivL (pkL (elL k n) k ns k) k) k m) j) (gN (ds.getD j []) b)) k := by
    intro m hm
    rw [← mixV_dot _ _ _ (gN_rw hiv k m) (fun j => gN_lt (hdb j) b), ← hback, prL_get _ _ _ _ _ _ hm]
    unfold gN mixL
    rw [tbL_get _ _ _ hb]
    simp
  have giv : ∀ m j, gN (rwL (ivL (pkL (elL k n) k ns k) k) k m) j < 256 := fun m j => gN_rw hiv k m j
  have gds : ∀ j, gN (ds.getD j []) b < 256 := fun j => gN_lt (hdb j) b
  have okm : ∀ {a c}, a < 256 → c < 256 → FB.mul a c < 256 := fun ha hc => FB.okm ha hc
  calc FB.sm (fun j => FB.mul (gN (wantL k n ns want) j) (gN (ds.getD j []) b)) k
      = FB.sm (fun j => FB.sm (fun m => FB.mul (gN (rwL (elL k n) k want) m) (FB.mul (gN (rwL (ivL (pkL (elL k n) k ns k) k) k m) j) (gN (ds.getD j []) b))) k) k := by
        refine Fd.sm_congr fun j hj => ?_
        rw [hw1 j hj, FB.mulc (Fd.sm_ok fun m _ => okm (gel want m) (giv m j)) (gds j), ← Fd.sm_mul (gds j) (fun m _ => okm (gel want m) (giv m j))]
        refine Fd.sm_congr fun m hm => ?_
        rw [FB.mulc (gds j) (okm (gel want m) (giv m j)), FB.mula (gel want m) (giv m j) (gds j)]
    _ = FB.sm (fun m => FB.sm (fun j => FB.mul (gN (rwL (elL k n) k want) m) (FB.mul (gN (rwL (ivL (pkL (elL k n) k ns k) k) k m) j) (gN (ds.getD j []) b))) k) k := Fd.sm_comm fun j m => okm (gel want m) (okm (giv m j) (gds j))
    _ = FB.sm (fun m => FB.mul (gN (rwL (elL k n) k want) m) (gN (xs.getD m []) b)) k := by
        refine Fd.sm_congr fun m hm => ?_
        rw [Fd.sm_mul (gel want m) (fun j _ => okm (giv m j) (gds j)), ← hbk m hm]
structure EvD (D : List (List Int)) (k L : Nat) : Prop where
  len : D.length = k
  all : ∀ j, j < k → (D.getD j []).length = L
  byt : ∀ j, ∀ x ∈ D.getD j [], 0 ≤ x ∧ x < 256
theorem el_first {k n L : Nat} (hk1 : 1 ≤ k) (hkn : k ≤ n) (hn : n ≤ 255) {D : List (List Int)} (h : EvD D k L) {i : Nat} (hi : i < k) : mixL (rwL (elL k n) k i) D k L = D.getD i [] := by
  have hel : ∀ x ∈ elL k n, 0 ≤ x ∧ x < 256 := elL_byt k n hkn hn hk1
  refine List.ext_getElem (by rw [show (mixL (rwL (elL k n) k i) D k L).length = L from tbL_length _ _, h.all i hi]) fun b h3 h4 => ?_
  have hb : b < L := by rw [h.all i hi] at h4; exact h4
  have e3 : (mixL (rwL (elL k n) k i) D k L)[b] = ((mixV (rwL (elL k n) k i) D k b : Nat) : Int) := by simp [mixL, tbL]
  rw [e3, gN_at (h.byt i) h4]
  congr 1
  rw [mixV_dot _ _ _ (gN_rw hel k i) (fun j => gN_lt (h.byt j) b)]
  exact Fd.dot_unit (F := FB) (n := k) (i := i) (v := fun j => gN (D.getD j []) b) (r := fun j => gN (rwL (elL k n) k i) j) (fun j => gN_lt (h.byt j) b) hi (fun j hj => by
    rw [row_at (by omega) hj]
    unfold elF
    rw [if_pos hi])
theorem pr_take {k n L : Nat} (hk1 : 1 ≤ k) (hkn : k ≤ n) (hn : n ≤ 255) {D : List (List Int)} (h : EvD D k L) : (prL (elL k n) k D L n).take k = D := by
  refine List.ext_getElem (by rw [List.length_take, prL_length, h.len]; omega) fun i h1 h2 => ?_
  have hi : i < k := by rw [h.len] at h2; exact h2
  have e := el_first hk1 hkn hn h hi
  rw [List.getElem_take]
  rw [show D[i] = D.getD i [] by simp [List.getD, h2], ← e]
  simp [prL]
def smD (A : List (List Int)) (ns : Nat → Nat) (k : Nat) : List (List Int) := (List.range k).map fun i => A.getD (ns i) []
theorem smD_len (A : List (List Int)) (ns : Nat → Nat) (k : Nat) : (smD A ns k).length = k := by simp [smD]
theorem smD_succ (A : List (List Int)) (ns : Nat → Nat) (k : Nat) : smD A ns (k + 1) = smD A ns k ++ [A.getD (ns k) []] := by simp [smD, List.range_succ]
theorem smD_get (A : List (List Int)) (ns : Nat → Nat) {k i : Nat} (h : i < k) : (smD A ns k).getD i [] = A.getD (ns i) [] := by simp [smD, List.getD, h]
theorem smD_none (A : List (List Int)) (ns : Nat → Nat) {k i : Nat} (h : k ≤ i) : (smD A ns k).getD i [] = [] := by simp [smD, List.getD, h]
theorem any_ds {k n L : Nat} (hk1 : 1 ≤ k) (hkn : k ≤ n) (hn : n ≤ 255) {D : List (List Int)} (hD : EvD D k L) {ns : Nat → Nat} (hns : ∀ i, i < k → ns i < n) {π : Nat → Nat} (hπ : PiK k π) : (∀ i, i < k → (dsP (smD (prL (elL k n) k D L n) ns k) k π).getD i [] = mixL (rwL (elL k n) k (ns (π i))) D k L) ∧ ∀ j, ∀ x ∈ (dsP (smD (prL (elL k n) k D L n) ns k) k π).getD j [], 0 ≤ x ∧ x < 256 := by
  have h1 : ∀ i, i < k → (dsP (smD (prL (elL k n) k D L n) ns k) k π).getD i [] = mixL (rwL (elL k n) k (ns (π i))) D k L := fun i hi => by
    rw [dsP_get _ _ _ _ hi, smD_get _ _ (hπ.1 i hi), prL_get _ _ _ _ _ _ (hns _ (hπ.1 i hi))]
  refine ⟨h1, fun j x hx => ?_⟩
  by_cases hj : j < k
  · rw [h1 j hj] at hx
    exact tbL_byt L (fun t => by
      have hel : ∀ x ∈ elL k n, 0 ≤ x ∧ x < 256 := elL_byt k n hkn hn hk1
      rw [mixV_dot _ _ _ (gN_rw hel k _) (fun j => gN_lt (hD.byt j) t)]
      exact Fd.sm_ok (F := FB) fun m _ => FB.okm (gN_rw hel k _ m) (gN_lt (hD.byt m) t)) x hx
  · have : (dsP (smD (prL (elL k n) k D L n) ns k) k π).getD j [] = [] := by simp [dsP, List.getD, show k ≤ j by omega]
    rw [this] at hx
    cases hx
theorem any_back {k n L : Nat} (hk1 : 1 ≤ k) (hkn : k ≤ n) (hn : n ≤ 255) {D : List (List Int)} (hD : EvD D k L) {ns : Nat → Nat} (hns : ∀ i, i < k → ns i < n) (hne : ∀ i j, i < k → j < k → ns i = ns j → i = j) {π : Nat → Nat} (hπ : PiK k π) : prL (ivL (pkL (elL k n) k (fun i => ns (π i)) k) k) k (dsP (smD (prL (elL k n) k D L n) ns k) k π) L k = D := by
  obtain ⟨h1, h2⟩ := any_ds hk1 hkn hn hD hns hπ
  exact decode_back hk1 hkn hn (ns := fun i => ns (π i)) (fun i hi => hns _ (hπ.1 i hi)) (fun i j hi hj e => hπ.2 i j hi hj (hne _ _ (hπ.1 i hi) (hπ.1 j hj) e)) D _ hD.len hD.all hD.byt h1 h2
theorem any_full {k n : Nat} (hk1 : 1 ≤ k) (hkn : k ≤ n) (hn : n ≤ 255) {ns : Nat → Nat} (hns : ∀ i, i < k → ns i < n) (hne : ∀ i j, i < k → j < k → ns i = ns j → i = j) {π : Nat → Nat} (hπ : PiK k π) : (FB.els k (Fd.bes k (mtN (pkL (elL k n) k (fun i => ns (π i)) k) k)) k).2 = k :=
  rows_full hk1 hkn hn (ns := fun i => ns (π i)) (fun i hi => hns _ (hπ.1 i hi)) (fun i j hi hj e => hπ.2 i j hi hj (hne _ _ (hπ.1 i hi) (hπ.1 j hj) e))
theorem any_make {k n L : Nat} (hk1 : 1 ≤ k) (hkn : k ≤ n) (hn : n ≤ 255) {D : List (List Int)} (hD : EvD D k L) {ns : Nat → Nat} (hns : ∀ i, i < k → ns i < n) (hne : ∀ i j, i < k → j < k → ns i = ns j → i = j) {π : Nat → Nat} (hπ : PiK k π) {want : Nat} (hw : want < n) : mixL (wantL k n (fun i => ns (π i)) want) (dsP (smD (prL (elL k n) k D L n) ns k) k π) k L = (prL (elL k n) k D L n).getD want [] := by
  obtain ⟨h1, h2⟩ := any_ds hk1 hkn hn hD hns hπ
  rw [prL_get _ _ _ _ _ _ hw]
  exact make_back hk1 hkn hn (ns := fun i => ns (π i)) (fun i hi => hns _ (hπ.1 i hi)) (fun i j hi hj e => hπ.2 i j hi hj (hne _ _ (hπ.1 i hi) (hπ.1 j hj) e)) hw D _ hD.len hD.all hD.byt h1 h2
set_option maxHeartbeats 1000000 in
theorem kpick_any (w : World) (x : Int) (n : Nat) (h1 : 1 ≤ n) (h2 : n ≤ 140737488355328) : Calls Try.prog 10 #[.int .i64 x, .int .i64 (n : Int)] w fun e w' => (∃ p : Nat, p < n ∧ e = .returned (.int .i64 (p : Int))) ∧ w' = w := by
  have b1 : -(n : Int) < Int.tmod x n := Int.lt_tmod_of_pos x (by omega)
  have b2 : Int.tmod x n < (n : Int) := Int.tmod_lt_of_pos x (by omega)
  have hn1 : ¬ ((n : Int) < 1) := by omega
  have hn0 : ¬ ((n : Int) = 0) := by omega
  obtain ⟨y, hy⟩ : ∃ y, Int.tmod x (n : Int) = y := ⟨_, rfl⟩
  rw [hy] at b1 b2
  by_cases hneg : y < 0
  · go_enter Try.func10, Try.ntmps10
    go_wp2
    go_ret
    refine ⟨⟨(y + n).toNat, by omega, ?_⟩, rfl⟩
    show Ending.returned (Value.int .i64 (y + n)) = _
    rw [Int.toNat_of_nonneg (by omega)]
  · go_enter Try.func10, Try.ntmps10
    go_wp2
    go_ret
    refine ⟨⟨y.toNat, by omega, ?_⟩, rfl⟩
    show Ending.returned (Value.int .i64 y) = _
    rw [Int.toNat_of_nonneg (by omega)]
end Go.Proofs.Ytbiplflejijbeaa
namespace Go.Proofs.Ytbiplflejijbeaa.I
open Go Go.RowKit Go.Proofs.Ytbiplflejijbeaa
def HB (w : World) (v : Value) (l : List Int) : Prop :=
  (∃ (p : Option Addr) (c : Nat), v = .slice p l.length c ∧ l.length ≤ c ∧ c ≤ maxLen ∧ (p = none → c = 0) ∧
    (l ≠ [] → ∃ b off, p = some ⟨b, off, none⟩ ∧ ∀ j, j < l.length → w.cell? ⟨b, off + j, none⟩ = some (.int .i64 (l.getD j 0)))) ∧ ∀ x ∈ l, -9223372036854775808 ≤ x ∧ x < 9223372036854775808
theorem HB.open {w : World} {v : Value} {l : List Int} (h : HB w v l) : ∃ (p : Option Addr) (c : Nat), v = .slice p l.length c ∧ l.length ≤ c ∧ c ≤ maxLen := by
  obtain ⟨⟨p, c, h1, h2, h3, _⟩, _⟩ := h
  exact ⟨p, c, h1, h2, h3⟩
theorem HB.ne {w : World} {v : Value} {l : List Int} (h : HB w v l) (hl : 0 < l.length) :
    ∃ b off c, v = .slice (some ⟨b, off, none⟩) l.length c ∧ l.length ≤ c ∧ c ≤ maxLen ∧ ∀ j, j < l.length → w.cell? ⟨b, off + j, none⟩ = some (.int .i64 (l.getD j 0)) := by
  obtain ⟨⟨p, c, h1, h2, h3, _, h4⟩, _⟩ := h
  obtain ⟨b, off, rfl, hc⟩ := h4 (by intro e; subst e; simp at hl)
  exact ⟨b, off, c, h1, h2, h3, hc⟩
theorem HB.byte {w : World} {v : Value} {l : List Int} (h : HB w v l) (j : Nat) : -9223372036854775808 ≤ l.getD j 0 ∧ l.getD j 0 < 9223372036854775808 := by
  by_cases hj : j < l.length
  · have e : l.getD j 0 = l[j] := by simp [List.getD, List.getElem?_eq_getElem hj]
    rw [e]
    exact h.2 _ (List.getElem_mem hj)
  · have e : l.getD j 0 = 0 := by simp [List.getD, List.getElem?_eq_none (by omega : l.length ≤ j)]
    rw [e]; omega
theorem HB.later {w w' : World} {v : Value} {l : List Int} (h : HB w v l) (hc : ∀ a (n : Int), w.cell? a = some (.int .i64 n) → w'.cell? a = some (.int .i64 n)) : HB w' v l := by
  obtain ⟨⟨p, c, h1, h2, h3, h6, h4⟩, h5⟩ := h
  refine ⟨⟨p, c, h1, h2, h3, h6, fun hl => ?_⟩, h5⟩
  obtain ⟨b, off, e, hh⟩ := h4 hl
  exact ⟨b, off, e, fun j hj => hc _ _ (hh j hj)⟩
theorem HB.below {w w' : World} {v : Value} {l : List Int} (h : HB w v l) (hb : Below w.heap.size w w') : HB w' v l :=
  h.later fun a _ hx => (hb.cell (World.block_lt_of_cell? w a hx)).trans hx
theorem HB.drewN {w : World} {v : Value} {l : List Int} (h : HB w v l) (q : Nat) : HB (w.drewN q) v l := h.later fun _ _ hx => hx
theorem HB.of_own {w : World} {B : Nat} {e : TypeId} {v : Value} {l : List Int} (h : w.ownsRow B e 1 v l.length (l.map (Value.int .i64))) (hx : ∀ x ∈ l, -9223372036854775808 ≤ x ∧ x < 9223372036854775808) : HB w v l := by
  refine ⟨?_, hx⟩
  by_cases h0 : 0 < l.length
  · obtain ⟨g, cap, rfl, _, hn, hm, hc⟩ := ownsRow_cells h h0
    refine ⟨_, cap, rfl, hn, hm, (fun e => by cases e), fun _ => ⟨g, 0, rfl, fun j hj => ?_⟩⟩
    exact hc j _ (by simp [List.getD, List.getElem?_eq_getElem hj])
  · have e : l = [] := List.length_eq_zero_iff.1 (by omega)
    subst e
    rcases h.2 with ⟨rfl, _⟩ | ⟨g, cap, cur, rfl, _, _, hn, hm, _⟩
    · exact ⟨none, 0, rfl, Nat.le_refl _, Nat.zero_le _, fun _ => rfl, fun h => absurd rfl h⟩
    · exact ⟨_, cap, rfl, hn, hm, (fun e => by cases e), fun h => absurd rfl h⟩
theorem HB.grown {w w' : World} {v : Value} {l : List Int} {g : Nat} (h : HB w v l) (hg : w.grownBy w' (some g)) (hn : ∀ o sp (n : Int), w.cell? ⟨g, o, sp⟩ ≠ some (.int .i64 n)) : HB w' v l :=
  h.later fun a n hx => hg.cell hx (by
    intro e
    obtain ⟨b, o, sp⟩ := a
    simp only [Option.some.injEq] at e
    subst e
    exact hn o sp n hx)
theorem HB.nil (w : World) : HB w (.slice none 0 0) [] := ⟨⟨none, 0, rfl, Nat.zero_le _, Nat.zero_le _, fun _ => rfl, fun h => absurd rfl h⟩, by simp⟩
theorem HB.dr {w w' : World} {v : Value} {l : List Int} (h : HB w v l) (d : Dr w w') : HB w' v l := h.later fun a _ hx => (d.cell a).trans hx
theorem info_i64 : (Try.prog.info? 3).map (fun i => (i.zero, i.size, i.bytes)) = some (some (.int .i64 0), 1, 8) := by kernel_rfl
theorem size_i64 : ∀ w, Sem.run Try.prog (Go.sizeOf 3) w = .ok 1 w := fun w => by
  obtain ⟨i0, hi, hz0, hz1, hz2⟩ := info_parts info_i64
  simp [Go.sizeOf, typeInfo, hi, hz1]
theorem eql_nil_bytes : ∀ (w : World) (a : Option Addr) (n c n' c' : Nat), (binOp .eql 23 (.slice a n c) (.slice none n' c')).run Try.prog w = .ok (.bool a.isNone) w :=
  fun w a n c n' c' => Lib.run_eql_slice_nil w _ _ a n c n' c' Try.underlying23
theorem take_eq_step (la lb : List Int) (k : Nat) (ha : k < la.length) (hb : k < lb.length) (h : la.take k = lb.take k) (e : la.getD k 0 = lb.getD k 0) : la.take (k + 1) = lb.take (k + 1) := by
  rw [List.take_succ_eq_append_getElem ha, List.take_succ_eq_append_getElem hb, h]
  have e1 : la.getD k 0 = la[k] := by simp [List.getD, List.getElem?_eq_getElem ha]
  have e2 : lb.getD k 0 = lb[k] := by simp [List.getD, List.getElem?_eq_getElem hb]
  rw [e1, e2] at e
  rw [e]
theorem take_ne (la lb : List Int) (k : Nat) (e : la.getD k 0 ≠ lb.getD k 0) : la ≠ lb := fun h => e (by rw [h])
theorem run_append_byte (w : World) (base : Nat) (ty : TypeId) (v : Value) (n : Nat) (xs : List Value) (hown : w.ownsRow base 3 1 v n xs) (a : Addr) (c : Nat) (x : Int) (hx : w.cell? a = some (.int .i64 x)) (hn : n + 1 ≤ 17592186044416) (hbase : base ≤ w.heap.size) :
    ∃ v' w', (Builtin.append_ #[23, 23] ty #[v, .slice (some a) 1 c]).run Try.prog w = .ok v' w' ∧ w'.ownsRow base 3 1 v' (n + 1) (xs ++ [.int .i64 x]) ∧ w.grownBy w' v.ownBlock ∧
      (v'.ownBlock = v.ownBlock ∨ (v'.ownBlock = some w.heap.size ∧ w.grownBy w' none)) := by
  obtain ⟨i0, hi, hz0, hz1, hz2⟩ := info_parts info_i64
  have hnews : ∀ j u, [Value.int .i64 x][j]? = some u → w.cell? (a.add j) = some u := by
    intro j u hj
    match j, hj with
    | 0, hj => simp at hj; subst hj; simpa [Addr.add] using hx
  have h1 : ∀ u ∈ [Value.int .i64 x], u.oneCell' = true := by intro u hu; simp at hu; subst hu; rfl
  obtain ⟨v', w', hr, h2, h3, _⟩ := run_append_own (P := Try.prog) w base 23 ty 3 i0 (.int .i64 0) 1 8 Try.underlying23 hi hz0 hz1 hz2 rfl (by decide) v n xs hown a 1 c [.int .i64 x] rfl hnews h1 (by unfold maxLen; omega) (by omega) hbase
  refine ⟨v', w', hr, h2, h3, ?_⟩
  rcases hown.2 with ⟨rfl, rfl⟩ | ⟨g, cap, cur, rfl, hbg, hg, hnc, hcm, hcs, htake⟩
  · have hr2 := run_append_nil (P := Try.prog) w 23 ty 3 i0 (.int .i64 0) Try.underlying23 hi hz0 a 1 c [.int .i64 x] (by rw [hz1]; rfl) hnews (by omega) (by omega) (by rw [hz2]; omega)
    rw [hr] at hr2
    simp only [Result.ok.injEq] at hr2
    obtain ⟨rfl, rfl⟩ := hr2
    exact .inr ⟨rfl, ⟨rfl, rfl, rfl, by simp, fun k hk _ => heap_alloc_old w.drew _ hk⟩⟩
  · by_cases hroom : n + 1 ≤ cap
    · obtain ⟨w2, hr2, _⟩ := run_append_fits (P := Try.prog) w base 23 ty 3 i0 1 Try.underlying23 hi hz1 g n cap xs hown a 1 c [.int .i64 x] rfl hnews h1 hroom
      rw [hr] at hr2
      simp only [Result.ok.injEq] at hr2
      obtain ⟨rfl, rfl⟩ := hr2
      exact .inl rfl
    · have hr2 := run_append_grow (P := Try.prog) w 23 ty 3 i0 (.int .i64 0) Try.underlying23 hi hz0 ⟨g, 0, none⟩ n cap xs (by rw [hz1]; exact hown.1) (hown.cells (g := g) rfl) a 1 c [.int .i64 x] (by rw [hz1]; rfl) hnews (by omega) (by omega) (growslice_fits (by omega) (by rw [hz2]; omega))
      rw [hr] at hr2
      simp only [Result.ok.injEq] at hr2
      obtain ⟨rfl, rfl⟩ := hr2
      exact .inr ⟨rfl, ⟨rfl, rfl, rfl, by simp, fun k hk _ => heap_alloc_old w.drew _ hk⟩⟩
theorem wpList_append_byte {w : World} {ops : Array Oper} {rest : List Oper} {o : Oper} {a : Act} {Q : Exit → Act → World → Prop} (hgd : o.guard = none) (s x : Operand)
    (ho : o.op = .call { callee := .builtin .append, args := #[s, x], argTypes := #[23, 23] })
    (base : Nat) (v : Value) (n : Nat) (xs : List Value) (hs : a.eval s = v) (hown : w.ownsRow base 3 1 v n xs)
    (ad : Addr) (c : Nat) (y : Int) (hx : a.eval x = .slice (some ad) 1 c) (hy : w.cell? ad = some (.int .i64 y)) (hn : n + 1 ≤ 17592186044416) (hbase : base ≤ w.heap.size)
    (h : ∀ v' w', w'.ownsRow base 3 1 v' (n + 1) (xs ++ [.int .i64 y]) → w.grownBy w' v.ownBlock → (v'.ownBlock = v.ownBlock ∨ (v'.ownBlock = some w.heap.size ∧ w.grownBy w' none)) → wpList Try.prog ops Q rest (a.put o.dst v') w') : wpList Try.prog ops Q (o :: rest) a w := by
  refine wpList_plain hgd fun K hK => ?_
  obtain ⟨v', w', hr, h2, h3, h4⟩ := run_append_byte w base o.type v n xs hown ad c y hy hn hbase
  unfold Oper.wp execOp
  simp only [ho, resolve, invoke, builtin, Sem.run_bind, Sem.run_pure, Result.andThen_ok, List.map_toArray, List.map_cons, List.map_nil, hs, hx, hr]
  exact hK _ _ (h v' w' h2 h3 h4)
def mkB (k i : Nat) : Int := ((1000003 * (k + 1) + i) % 4611686018427387904 : Nat)
theorem mkB_byt (k i : Nat) : -9223372036854775808 ≤ mkB k i ∧ mkB k i < 9223372036854775808 := by unfold mkB; omega
theorem wrap_succ (k : Nat) (h : k ≤ 1000000000) : IntKind.i64.wrap ((k : Int) + 1) = ((k + 1 : Nat) : Int) := by rw [IntKind.wrap_i64]; omega
def lent (l : List Int) : List Int := l ++ (List.range 70).map fun i => mkB 0 (l.length + i)
def lentTo (l : List Int) (m : Nat) : List Int := l ++ (List.range m).map fun i => mkB 0 (l.length + i)
theorem lent_length (l : List Int) : (lent l).length = l.length + 70 := by simp [lent]
theorem lentTo_length (l : List Int) (m : Nat) : (lentTo l m).length = l.length + m := by simp [lentTo]
theorem lentTo_succ (l : List Int) (m : Nat) : lentTo l (m + 1) = lentTo l m ++ [mkB 0 (l.length + m)] := by simp [lentTo, List.range_succ]
theorem lent_byt {l : List Int} (h : ∀ x ∈ l, -9223372036854775808 ≤ x ∧ x < 9223372036854775808) : ∀ x ∈ lent l, -9223372036854775808 ≤ x ∧ x < 9223372036854775808 := by
  intro x hx
  unfold lent at hx
  rcases List.mem_append.1 hx with hx | hx
  · exact h x hx
  · obtain ⟨i, _, rfl⟩ := List.mem_map.1 hx
    exact mkB_byt _ _
theorem lent_take (l : List Int) : (lent l).take l.length = l := by simp [lent]
set_option maxHeartbeats 1000000 in
theorem sclone_any (w : World) (v : Value) (l : List Int) (h : HB w v l) (hbig : l.length ≤ 17592186044416) :
    Calls Try.prog 38 #[v] w fun e w' => ∃ v', e = .returned v' ∧ w'.ownsRow w.heap.size 3 1 v' l.length (l.map (Value.int .i64)) ∧ Below w.heap.size w w' := by
  obtain ⟨i0, hi, hz0, hz1, hz2⟩ := info_parts info_i64
  have q22 := eql_nil_bytes
  obtain ⟨⟨p, c, rfl, hlc, hm, _, hcell⟩, hby⟩ := h
  cases p with
  | none =>
    have e : l = [] := by
      apply Classical.byContradiction
      intro hne
      obtain ⟨b, off, e, _⟩ := hcell hne
      cases e
    subst e
    go_enter Try.func38, Try.ntmps38
    go_wp2
    go_ret
    exact ⟨_, rfl, World.ownsRow_nil _ _ _ _, Below.refl _ _⟩
  | some a =>
    have A : Hid (l ≠ [] → ∃ b off, some a = some ⟨b, off, none⟩ ∧ ∀ j, j < l.length → w.cell? ⟨b, off + j, none⟩ = some (.int .i64 (l.getD j 0))) := hcell
    clear hcell
    go_enter Try.func38, Try.ntmps38
    go_wp2_with (at_builtin; refine wpList_append_own _ rfl _ _ 23 rfl w.heap.size 3 i0 (.int .i64 0) 1 8 Try.underlying23 hi hz0 hz1 hz2 rfl (by decide) _ _ _ rfl (World.ownsRow_made w #[] 0 (Nat.le_refl _) (Nat.zero_le _) rfl) a l.length c (l.map (Value.int .i64)) rfl ?qc1 ?qc2 ?qc3 ?qc4 ?qc5 ?qc6 ?_)
    case qc1 => simp
    case qc2 =>
      intro j u hj
      have hjn : j < l.length := by
        have := (List.getElem?_eq_some_iff.1 hj).1
        simpa using this
      refine Lib.cell?_alloc_some _ ?_
      obtain ⟨b, off, e, hh⟩ := A.out (by intro e; subst e; simp at hjn)
      cases e
      rw [Go.WideShapes.add_plain, hh j hjn]
      have e : (l.map (Value.int .i64))[j]? = some (Value.int .i64 (l.getD j 0)) := by simp [List.getD, List.getElem?_eq_getElem hjn]
      rw [e] at hj
      exact hj
    case qc3 => intro u hu; obtain ⟨x, _, rfl⟩ := List.mem_map.1 hu; rfl
    case qc4 => unfold maxLen; omega
    case qc5 => omega
    case qc6 => simp
    intro v' w1 hown hgrow hnil
    go_wp2
    go_ret
    exact ⟨v', rfl, by simpa using hown, ((Below.refl _ w).alloc (Nat.le_refl _) _).grown hgrow (by simp) (by intro k hk; simp [Value.ownBlock] at hk; omega)⟩
end Go.Proofs.Ytbiplflejijbeaa.I
namespace Go.Proofs.Ytbiplflejijbeaa
open Go Go.RowKit
theorem info_boolC : (Try.prog.info? 4).map (fun i => (i.zero, i.size, i.bytes)) = some (some (Value.bool false), 1, 1) := by kernel_rfl
def lfB (ns : Nat → Nat) (I v : Nat) : Bool := (List.range I).any fun i => ns i == v
def lfL (ns : Nat → Nat) (I n : Nat) : List Value := (List.range n).map fun v => .bool (lfB ns I v)
theorem lfL_len (ns : Nat → Nat) (I n : Nat) : (lfL ns I n).length = n := by simp [lfL]
theorem lfL_at {ns : Nat → Nat} {I n v : Nat} (h : v < n) : (lfL ns I n)[v]? = some (.bool (lfB ns I v)) := by simp [lfL, h]
theorem lfB_iff {ns : Nat → Nat} {I v : Nat} : lfB ns I v = true ↔ ∃ i, i < I ∧ ns i = v := by
  unfold lfB
  simp [List.any_eq_true]
theorem lfL_set {ns : Nat → Nat} {I n x : Nat} (hx : x < n) : (lfL ns I n).set x (.bool true) = lfL (fun i => if i = I then x else ns i) (I + 1) n := by
  refine List.ext_getElem (by simp [lfL]) fun v h1 h2 => ?_
  have e : ∀ v, lfB (fun i => if i = I then x else ns i) (I + 1) v = (lfB ns I v || x == v) := by
    intro v
    unfold lfB
    rw [List.range_succ, List.any_append]
    congr 1
    · rw [Bool.eq_iff_iff]
      simp only [List.any_eq_true, List.mem_range]
      constructor
      · rintro ⟨i, hi, h⟩
        rw [if_neg (by omega)] at h
        exact ⟨i, hi, h⟩
      · rintro ⟨i, hi, h⟩
        refine ⟨i, hi, ?_⟩
        rw [if_neg (by omega)]
        exact h
    · simp
  simp only [lfL, List.getElem_set, List.getElem_map, List.getElem_range, e]
  by_cases q : x = v
  · subst q; simp
  · rw [if_neg q]
    simp [q]
theorem lf_free {ns : Nat → Nat} {I n : Nat} (h : I < n) : ∃ v, v < n ∧ lfB ns I v = false := by
  refine Classical.byContradiction fun q => ?_
  have h2 : ∀ v ∈ List.range n, v ∈ (List.range I).map ns := fun v hv => by
    have hv := List.mem_range.1 hv
    by_cases e : lfB ns I v = true
    · obtain ⟨i, hi, e⟩ := lfB_iff.1 e
      exact List.mem_map.2 ⟨i, List.mem_range.2 hi, e⟩
    · exact absurd ⟨v, hv, by simpa using e⟩ q
  have := sub_len (List.range n) ((List.range I).map ns) List.nodup_range h2
  simp at this
  omega
def dsM (n v x : Nat) : Nat := (v + n - x) % n
theorem dsM_step {n v x : Nat} (hv : v < n) (hx : x < n) (hne : x ≠ v) : dsM n v ((x + 1) % n) < dsM n v x := by
  unfold dsM
  have e1 : (v + n - x) % n = if x ≤ v then v - x else v + n - x := by
    by_cases h : x ≤ v
    · rw [if_pos h, show v + n - x = (v - x) + n by omega, Nat.add_mod_right]
      exact Nat.mod_eq_of_lt (by omega)
    · rw [if_neg h]
      exact Nat.mod_eq_of_lt (by omega)
  by_cases h2 : x + 1 = n
  · rw [h2, Nat.mod_self, Nat.sub_zero, Nat.add_mod_right, Nat.mod_eq_of_lt hv, e1]
    split <;> omega
  · rw [Nat.mod_eq_of_lt (show x + 1 < n by omega), e1]
    have e2 : (v + n - (x + 1)) % n = if x + 1 ≤ v then v - (x + 1) else v + n - (x + 1) := by
      by_cases h : x + 1 ≤ v
      · rw [if_pos h, show v + n - (x + 1) = (v - (x + 1)) + n by omega, Nat.add_mod_right]
        exact Nat.mod_eq_of_lt (by omega)
      · rw [if_neg h]
        exact Nat.mod_eq_of_lt (by omega)
    rw [e2]
    split <;> split <;> omega
def ivC (ns : Nat → Nat) (k : Nat) : List Value := (List.range k).map fun i => .int .i64 (ns i : Int)
theorem ivC_len (ns : Nat → Nat) (k : Nat) : (ivC ns k).length = k := by simp [ivC]
theorem ivC_succ (ns : Nat → Nat) (k x : Nat) : ivC (fun i => if i = k then x else ns i) (k + 1) = ivC ns k ++ [.int .i64 (x : Int)] := by
  unfold ivC
  rw [List.range_succ, List.map_append]
  congr 1
  · refine List.map_congr_left fun i hi => ?_
    have := List.mem_range.1 hi
    show Value.int .i64 ((if i = k then x else ns i : Nat) : Int) = _
    rw [if_neg (by omega)]
  · simp
set_option maxRecDepth 100000 in
set_option maxHeartbeats 8000000 in
theorem chosen_any (w : World) (k n : Nat) (vp : Value) (lp : List Int) (h : I.HB w vp lp) (hk1 : 1 ≤ k) (hkn : k ≤ n) (hn : n ≤ 255) :
    Calls Try.prog 8 #[.int .i64 (k : Int), .int .i64 (n : Int), vp] w fun e w' => ∃ (v : Value) (ns : Nat → Nat), e = .returned v ∧ (∀ i, i < k → ns i < n) ∧ (∀ i j, i < k → j < k → ns i = ns j → i = j) ∧ w'.ownsRow w.heap.size 3 1 v k (ivC ns k) ∧ Below w.heap.size w w' := by
  obtain ⟨ib, hib, hz0, hz1, hz2⟩ := info_parts info_boolC
  have HP := hid h
  obtain ⟨p, c, rfl, hlc, hcm⟩ := h.open
  unfold maxLen at hcm
  obtain ⟨N, HN⟩ : ∃ x, Hid (lp.length = x) := ⟨_, hid rfl⟩
  rw [HN.out] at hlc ⊢
  obtain ⟨w3, hmk, hown, hgr⟩ := run_make_full (P := Try.prog) w w.heap.size 54 4 ib (.bool false) 1 Try.underlying54 hib hz0 hz1 .i64 .i64 n (by rw [hz2]; omega) (by unfold maxLen; omega) (Nat.le_refl _)
  have hmk2 : (Instr.makeSlice 54 (.int .i64 (n : Int)) (.int .i64 (n : Int))).run Try.prog w = .ok (.slice (some ⟨w.heap.size, 0, none⟩) n n) w3 := hmk
  obtain ⟨lb, Hlb⟩ : ∃ x, Hid (w.heap.size = x) := ⟨_, hid rfl⟩
  have B3 : Hid (Below lb w w3) := hid (by rw [← Hlb.out]; exact (Below.refl _ w).grown hgr (Nat.le_refl _) (fun k e => by cases e))
  have L3 : Hid (w3.ownsRow lb 4 1 (.slice (some ⟨lb, 0, none⟩) n n) n (lfL (fun _ => 0) 0 n)) := hid (by
    have e : (madeCells (Value.bool false).cells (n * 1)).toList = lfL (fun _ => 0) 0 n := by
      rw [show (Value.bool false).cells = #[Value.bool false] from rfl, toList_madeCells_one, Nat.mul_one]
      refine List.ext_getElem (by simp [lfL]) fun i h1 h2 => ?_
      simp [lfL, lfB]
    rw [← e, ← Hlb.out]
    exact hown)
  rw [Hlb.out] at hmk2
  clear hmk hown hgr h
  go_enter Try.func8, Try.ntmps8
  go_wp2_with fail
  clear hmk2
  go_loopw [7, 9, 10] (fun o i x wr => ∃ (I : Nat) (ns : Nat → Nat), I ≤ k ∧ i = .int .i64 (I : Int) ∧ Hid (∀ i, i < I → ns i < n) ∧ Hid (∀ i j, i < I → j < I → ns i = ns j → i = j) ∧ Hid (wr.ownsRow lb 3 1 o I (ivC ns I)) ∧ Hid (wr.ownsRow lb 4 1 (.slice (some ⟨lb, 0, none⟩) n n) n (lfL ns I n)) ∧ Hid (Below lb w wr)) (fun _ i _ _ => k - (intOf i).toNat)
  case atStart => exact ⟨0, fun _ => 0, Nat.zero_le _, rfl, hid (fun i hi => absurd hi (Nat.not_lt_zero _)), hid (fun i j hi => absurd hi (Nat.not_lt_zero _)), hid (World.ownsRow_nil _ _ _ _), L3, B3⟩
  case round =>
    clear L3 B3
    obtain ⟨I, ns, hI, rfl, H1, H2, HO, HL, HQ⟩ := hrel
    by_cases hlt : I < k
    · have hIN : Hid (I ≤ 255) := hid (by omega)
      obtain ⟨po, co, eo⟩ := own_slc HO.out
      subst eo
      by_cases hp : I < N
      · obtain ⟨b, off, cc, e, _, _, hh⟩ := HP.out.ne (by rw [HN.out]; omega)
        simp only [Value.slice.injEq] at e
        obtain ⟨rfl, -, rfl⟩ := e
        have hq0 := hh I (by rw [HN.out]; omega)
        obtain ⟨y, HY⟩ : ∃ y : Int, Hid (lp.getD I 0 = y) := ⟨_, hid rfl⟩
        rw [HY.out] at hq0
        have hq1 : wr.cell? ⟨b, off + I, none⟩ = some (.int .i64 y) := (HQ.out.cell (p := ⟨b, off + I, none⟩) (by rw [← Hlb.out]; exact World.block_lt_of_cell? w _ hq0)).trans hq0
        have CP := hid (kpick_any wr y n (by omega) (by omega))
        clear hh hq0
        go_wp2_with fail
        refine CP.out.mono ?_
        rintro e wq ⟨⟨x0, hx0, rfl⟩, hwq⟩
        rw [hwq]
        clear hwq wq CP hq1
        go_wp2_with fail
        obtain ⟨fv, hfv, hfree⟩ := lf_free (ns := ns) (I := I) (n := n) (by omega)
        have HFV := hid hfree
        go_loopw [10] (fun x wq => ∃ X : Nat, X < n ∧ x = .int .i64 (X : Int) ∧ wr = wq) (fun x _ => dsM n fv (intOf x).toNat)
        case atStart => exact ⟨x0, hx0, rfl, rfl⟩
        case round =>
          obtain ⟨X, hX, rfl, hwq⟩ := hrel
          subst hwq
          have q1 := HL.out.cellAt X (by omega)
          rw [lfL_at hX] at q1
          by_cases hb : lfB ns I X = true
          · have hne : X ≠ fv := fun e => by rw [e, HFV.out] at hb; cases hb
            have hst := hid (dsM_step hfv hX hne)
            have hq : ((X : Int) + 1).tmod (n : Int) = (((X + 1) % n : Nat) : Int) := by
              rw [Int.tmod_eq_emod_of_nonneg (by omega)]
              rfl
            have hnN : ¬ (n = 0) := by omega
            have hm := Nat.mod_lt (X + 1) (show 0 < n by omega)
            obtain ⟨Y, HY⟩ : ∃ y, Hid ((X + 1) % n = y) := ⟨_, hid rfl⟩
            rw [HY.out] at hst hq hm
            rw [hb] at q1
            clear hb
            go_wp2_with fail
            exact ⟨⟨Y, hm, rfl, by first | rfl | trivial⟩, by simpa [intOf] using hst.out⟩
          · have hb : lfB ns I X = false := by simpa using hb
            have HBF := hid hb
            rw [hb] at q1
            have fz := HL.out.frozenAt X
            clear hb
            obtain ⟨w1, HW1⟩ : ∃ y, Hid (wr.setCell ⟨lb, X, none⟩ (.bool true) = y) := ⟨_, hid rfl⟩
            have L1 : Hid (w1.ownsRow lb 4 1 (.slice (some ⟨lb, 0, none⟩) n n) n (lfL (fun i => if i = I then X else ns i) (I + 1) n)) := hid (by
              rw [← lfL_set hX, ← HW1.out]
              exact (HL.out.stored X (.bool true)).1)
            have O1 : Hid (w1.ownsRow lb 3 1 (.slice po I co) I (ivC ns I)) := hid (by
              rw [← HW1.out]
              refine own_blkR HO.out fun q e => heap_setCell_other _ _ _ _ fun z => ?_
              have z : q = lb := by simpa using z
              subst z
              exact own_nothR HO.out HL.out (by decide) e rfl)
            have Q1 : Hid (Below lb w w1) := hid (by rw [← HW1.out]; exact HQ.out.setCell (p := ⟨lb, X, none⟩) (Nat.le_refl _) _)
            have hsz : lb ≤ w1.heap.size := Nat.le_trans (Nat.le_of_eq Hlb.out.symm) Q1.out.size
            go_wp2_with (first | rw [HW1.out] | (refine wpList_append_int rfl _ _ rfl lb _ I (ivC ns I) rfl (O1.out.alloc _) _ _ (X : Int) rfl (by rw [cell_of_row _ w1.heap.size 0 _ _ _ (heap_alloc_new w1 _)]; rfl) (by omega) (by simp; omega) ?_; intro v' w5 ho5 hg5 hloc) | fail)
            have F1 : Hid (∀ i, i < I + 1 → (if i = I then X else ns i) < n) := hid fun i hi => by
              by_cases e : i = I
              · rw [if_pos e]; exact hX
              · rw [if_neg e]; exact H1.out i (by omega)
            have hno : ∀ i, i < I → ns i ≠ X := fun i hi e => by
              have := lfB_iff.2 ⟨i, hi, e⟩
              rw [HBF.out] at this
              cases this
            have F2 : Hid (∀ i j, i < I + 1 → j < I + 1 → (if i = I then X else ns i) = (if j = I then X else ns j) → i = j) := hid fun i j hi hj e => by
              by_cases e1 : i = I
              · by_cases e2 : j = I
                · omega
                · rw [if_pos e1, if_neg e2] at e
                  exact absurd e.symm (hno j (by omega))
              · by_cases e2 : j = I
                · rw [if_neg e1, if_pos e2] at e
                  exact absurd e (hno i (by omega))
                · rw [if_neg e1, if_neg e2] at e
                  exact H2.out i j (by omega) (by omega) e
            have L5 := hid ((L1.out.alloc _).kept hg5 (.inr fun q => own_nothR O1.out L1.out (by decide) q.symm rfl))
            have B5 := hid ((Q1.out.alloc hsz _).grown hg5 (by simp; omega) (fun q e => (O1.out.lt q e).1))
            exact ⟨⟨I + 1, fun i => if i = I then X else ns i, by omega, by go_num, F1, F2, hid (by rw [ivC_succ]; exact ho5), L5, B5⟩, by simp [intOf]; omega⟩
      · go_wp2_with fail
        obtain ⟨fv, hfv, hfree⟩ := lf_free (ns := ns) (I := I) (n := n) (by omega)
        have HFV := hid hfree
        go_loopw [10] (fun x wq => ∃ X : Nat, X < n ∧ x = .int .i64 (X : Int) ∧ wr = wq) (fun x _ => dsM n fv (intOf x).toNat)
        case atStart => exact ⟨0, by omega, rfl, rfl⟩
        case round =>
          obtain ⟨X, hX, rfl, hwq⟩ := hrel
          subst hwq
          have q1 := HL.out.cellAt X (by omega)
          rw [lfL_at hX] at q1
          by_cases hb : lfB ns I X = true
          · have hne : X ≠ fv := fun e => by rw [e, HFV.out] at hb; cases hb
            have hst := hid (dsM_step hfv hX hne)
            have hq : ((X : Int) + 1).tmod (n : Int) = (((X + 1) % n : Nat) : Int) := by
              rw [Int.tmod_eq_emod_of_nonneg (by omega)]
              rfl
            have hnN : ¬ (n = 0) := by omega
            have hm := Nat.mod_lt (X + 1) (show 0 < n by omega)
            obtain ⟨Y, HY⟩ : ∃ y, Hid ((X + 1) % n = y) := ⟨_, hid rfl⟩
            rw [HY.out] at hst hq hm
            rw [hb] at q1
            clear hb
            go_wp2_with fail
            exact ⟨⟨Y, hm, rfl, by first | rfl | trivial⟩, by simpa [intOf] using hst.out⟩
          · have hb : lfB ns I X = false := by simpa using hb
            have HBF := hid hb
            rw [hb] at q1
            have fz := HL.out.frozenAt X
            clear hb
            obtain ⟨w1, HW1⟩ : ∃ y, Hid (wr.setCell ⟨lb, X, none⟩ (.bool true) = y) := ⟨_, hid rfl⟩
            have L1 : Hid (w1.ownsRow lb 4 1 (.slice (some ⟨lb, 0, none⟩) n n) n (lfL (fun i => if i = I then X else ns i) (I + 1) n)) := hid (by
              rw [← lfL_set hX, ← HW1.out]
              exact (HL.out.stored X (.bool true)).1)
            have O1 : Hid (w1.ownsRow lb 3 1 (.slice po I co) I (ivC ns I)) := hid (by
              rw [← HW1.out]
              refine own_blkR HO.out fun q e => heap_setCell_other _ _ _ _ fun z => ?_
              have z : q = lb := by simpa using z
              subst z
              exact own_nothR HO.out HL.out (by decide) e rfl)
            have Q1 : Hid (Below lb w w1) := hid (by rw [← HW1.out]; exact HQ.out.setCell (p := ⟨lb, X, none⟩) (Nat.le_refl _) _)
            have hsz : lb ≤ w1.heap.size := Nat.le_trans (Nat.le_of_eq Hlb.out.symm) Q1.out.size
            go_wp2_with (first | rw [HW1.out] | (refine wpList_append_int rfl _ _ rfl lb _ I (ivC ns I) rfl (O1.out.alloc _) _ _ (X : Int) rfl (by rw [cell_of_row _ w1.heap.size 0 _ _ _ (heap_alloc_new w1 _)]; rfl) (by omega) (by simp; omega) ?_; intro v' w5 ho5 hg5 hloc) | fail)
            have F1 : Hid (∀ i, i < I + 1 → (if i = I then X else ns i) < n) := hid fun i hi => by
              by_cases e : i = I
              · rw [if_pos e]; exact hX
              · rw [if_neg e]; exact H1.out i (by omega)
            have hno : ∀ i, i < I → ns i ≠ X := fun i hi e => by
              have := lfB_iff.2 ⟨i, hi, e⟩
              rw [HBF.out] at this
              cases this
            have F2 : Hid (∀ i j, i < I + 1 → j < I + 1 → (if i = I then X else ns i) = (if j = I then X else ns j) → i = j) := hid fun i j hi hj e => by
              by_cases e1 : i = I
              · by_cases e2 : j = I
                · omega
                · rw [if_pos e1, if_neg e2] at e
                  exact absurd e.symm (hno j (by omega))
              · by_cases e2 : j = I
                · rw [if_neg e1, if_pos e2] at e
                  exact absurd e (hno i (by omega))
                · rw [if_neg e1, if_neg e2] at e
                  exact H2.out i j (by omega) (by omega) e
            have L5 := hid ((L1.out.alloc _).kept hg5 (.inr fun q => own_nothR O1.out L1.out (by decide) q.symm rfl))
            have B5 := hid ((Q1.out.alloc hsz _).grown hg5 (by simp; omega) (fun q e => (O1.out.lt q e).1))
            exact ⟨⟨I + 1, fun i => if i = I then X else ns i, by omega, by go_num, F1, F2, hid (by rw [ivC_succ]; exact ho5), L5, B5⟩, by simp [intOf]; omega⟩
    · have hI' : I = k := by omega
      subst hI'
      go_wp2_with fail
      go_ret
      exact ⟨_, ns, rfl, H1.out, H2.out, by rw [Hlb.out]; exact HO.out, by rw [Hlb.out]; exact HQ.out⟩
end Go.Proofs.Ytbiplflejijbeaa
namespace Go.Proofs.Ytbiplflejijbeaa
open Go.RowKit
def bS (l : List Int) : ByteArray := ⟨(l.map fun x => UInt8.ofNat x.toNat).toArray⟩
def sB (s : ByteArray) : List Int := s.data.toList.map fun b => (b.toNat : Int)
def Byt8 (l : List Int) : Prop := ∀ x ∈ l, 0 ≤ x ∧ x < 256
theorem sB_bS {l : List Int} (h : Byt8 l) : sB (bS l) = l := by
  unfold sB bS
  simp only [List.map_map]
  have : ∀ x ∈ l, ((fun b : UInt8 => (b.toNat : Int)) ∘ fun x : Int => UInt8.ofNat x.toNat) x = x := by
    intro x hx
    have := h x hx
    simp only [Function.comp, UInt8.toNat_ofNat']
    omega
  rw [List.map_congr_left this, List.map_id']
theorem bS_sB (s : ByteArray) : bS (sB s) = s := by
  unfold sB bS
  simp only [List.map_map]
  have : ∀ x ∈ s.data.toList, ((fun x : Int => UInt8.ofNat x.toNat) ∘ fun b : UInt8 => (b.toNat : Int)) x = x := by
    intro x hx
    simp
  rw [List.map_congr_left this, List.map_id']
theorem sB_byt (s : ByteArray) : Byt8 (sB s) := by
  intro x hx
  obtain ⟨b, _, rfl⟩ := List.mem_map.1 hx
  have := b.toNat_lt
  omega
theorem sB_length (s : ByteArray) : (sB s).length = s.size := by
  unfold sB
  rw [List.length_map]
  exact (Lib.size_eq s).symm
theorem bS_size (l : List Int) : (bS l).size = l.length := by
  simp [bS, ByteArray.size]
theorem sB_inj {a b : ByteArray} (h : sB a = sB b) : a = b := by rw [← bS_sB a, h, bS_sB]
theorem sB_get (s : ByteArray) (i : Nat) (h : i < s.size) : (s[i].toNat : Int) = (sB s).getD i 0 := by
  have h2 : i < (sB s).length := by rw [sB_length]; exact h
  rw [getD_of_lt h2]
  simp [sB]
  rfl
theorem sB_cut (s : ByteArray) (a b : Nat) : sB (s.extract a b) = ((sB s).drop a).take (b - a) := by
  unfold sB
  rw [Lib.extract_data, List.map_take, List.map_drop]
theorem sB_app (a b : ByteArray) : sB (a ++ b) = sB a ++ sB b := by
  unfold sB
  rw [← List.map_append]
  congr 1
theorem eq_iff_sB (a b : ByteArray) : (a.toList == b.toList) = decide (sB a = sB b) := by
  rw [ByteArray.toList_eq, ByteArray.toList_eq]
  by_cases h : a = b
  · subst h; simp
  · have h2 : ¬ sB a = sB b := fun e => h (sB_inj e)
    have h3 : ¬ a.data.toList = b.data.toList := by
      intro e
      apply h2
      unfold sB
      rw [e]
    simp [h2, h3]
    intro e
    exact h3 (by rw [e])
end Go.Proofs.Ytbiplflejijbeaa
namespace Go.Proofs.Ytbiplflejijbeaa
open Go Go.RowKit
theorem idx_str (w : World) (s : ByteArray) (i : Nat) (h : i < s.size) : (Instr.index 9 (.string s) (.int .i64 (i : Int))).run Try.prog w = .ok (.int .u8 ((sB s).getD i 0)) w := by
  rw [run_index_string w 9 s .i64 i Try.underlying9, dif_pos (by omega)]
  congr 2
  rw [← sB_get s i h]
  congr
theorem cut_str (w : World) (s : ByteArray) (i j : Nat) (h : i ≤ j) (hj : j ≤ s.size) : (Instr.slice 9 (.string s) (some (.int .i64 (i : Int))) (some (.int .i64 (j : Int))) none).run Try.prog w = .ok (.string (bS (((sB s).drop i).take (j - i)))) w := by
  rw [run_slice_string w 9 s .i64 .i64 i j Try.underlying9 (by omega) (by omega) (by omega), ← sB_cut, bS_sB]
  congr
theorem cut_str_end (w : World) (s : ByteArray) (i : Nat) (h : i ≤ s.size) : (Instr.slice 9 (.string s) (some (.int .i64 (i : Int))) none none).run Try.prog w = .ok (.string (bS ((sB s).drop i))) w := by
  have e : bS ((sB s).drop i) = s.extract i s.size := by
    apply sB_inj
    rw [sB_cut, sB_bS (fun x hx => sB_byt s x (List.mem_of_mem_drop hx)), List.take_of_length_le (by rw [List.length_drop, sB_length]; exact Nat.le_refl _)]
  rw [e]
  simp [Instr.slice, Instr.sliceBounds, Instr.sliceBound, asIntOf, run_underlying Try.underlying9, h]
theorem conv_str {w : World} {v : Value} {l : List Int} (h : HB w v l) : (convert 22 9 v).run Try.prog w = .ok (.string (bS l)) w := by
  have hby : Byt8 l := h.2
  by_cases h0 : 0 < l.length
  · obtain ⟨b, off, c, rfl, _, _, hc⟩ := h.ne h0
    obtain ⟨u, Hu⟩ : ∃ u : List UInt8, l.map (fun x => UInt8.ofNat x.toNat) = u := ⟨_, rfl⟩
    have hul : u.length = l.length := by rw [← Hu]; simp
    have := run_convert_bytes_back (P := Try.prog) w 22 9 5 ⟨b, off, none⟩ c u Try.underlying22 Try.underlying5 Try.underlying9 (by
      intro j hj
      rw [Go.WideShapes.add_plain, hc j (by omega)]
      subst Hu
      simp only [List.getElem_map, UInt8.toNat_ofNat']
      rw [getD_of_lt (by omega)]
      have := hby _ (List.getElem_mem (by omega : j < l.length))
      congr 2
      omega)
    rw [hul] at this
    rw [this]
    unfold bS
    rw [Hu]
  · have e : l = [] := List.length_eq_zero_iff.1 (by omega)
    subst e
    obtain ⟨p, c, rfl, _, _⟩ := h.open
    cases p with
    | none =>
      rw [List.length_nil, run_convert_bytes_string w 22 9 5 none 0 c Try.underlying22 Try.underlying5 Try.underlying9]
      simp [Conv.bytesToString, loadCells, bS]
      rfl
    | some a =>
      exact run_convert_bytes_back (P := Try.prog) w 22 9 5 a c [] Try.underlying22 Try.underlying5 Try.underlying9 (by intro j hj; simp at hj)
theorem bequal_same (w : World) (v1 v2 : Value) (l : List Int) (h1 : HB w v1 l) (h2 : HB w v2 l) :
    Calls Try.prog 30 #[v1, v2] w fun e w' => e = .returned (.bool true) ∧ w' = w := by
  have c1 := conv_str h1
  have c2 := conv_str h2
  obtain ⟨x, hx⟩ : ∃ x, Hid (bS l = x) := ⟨_, rfl⟩
  rw [hx.out] at c1 c2
  clear h1 h2
  go_enter Try.func30, Try.ntmps30
  go_wp2
  go_ret
  exact ⟨by simp, rfl⟩
end Go.Proofs.Ytbiplflejijbeaa
namespace Go.Proofs.Ytbiplflejijbeaa
open Go.RowKit Go.Shelf
structure JN {β : Type} (J : β → (Nat → Prop) → World → Prop) : Prop where
  more : ∀ s E A C, J s E A → A.grownBy C none → J s (fun i => E i ∨ (A.heap.size ≤ i ∧ i < C.heap.size)) C
  turn : ∀ s E A C r, J s E A → E r → A.grownBy C (some r) → A.heap.size = C.heap.size → J s E C
  less : ∀ s E E' A, J s E A → (∀ i, E' i → E i) → J s E' A
theorem JN.grown {β : Type} {J : β → (Nat → Prop) → World → Prop} (h : JN J) {s : β} {E : Nat → Prop} {A C : World} (hs : J s E A) (hg : A.grownBy C none) : J s E C := h.less _ _ _ _ (h.more _ _ _ _ hs hg) fun _ hi => .inl hi
theorem JN.put {β : Type} {J : β → (Nat → Prop) → World → Prop} (h : JN J) {s : β} {E : Nat → Prop} {A : World} {l : Nat} (o : Obj) (hs : J s E A) (hl : E l) : J s E (A.putObj l o) := h.turn _ _ _ _ _ hs hl (grownBy_putObj' A l o) (by simp)
def KE (E : Nat → Prop) (A C : World) : Prop := A.heap.size ≤ C.heap.size ∧ ∀ i, E i → C.heap[i]? = A.heap[i]?
def IterN (F : Fence) (n : Nat) (P : Program) (g : Nat) (lb : Array Value) (enc : Nat → Value → Array Value) (Fit : Nat → Value → Prop) (D : Nat → Prop) (N : Nat) (w0 : World) : Prop :=
  ∀ (l : Nat) (J : Nat → (Nat → Prop) → World → Prop) (Jx : Unit → (Nat → Prop) → World → Prop) (W : World), KE D w0 W → JN J → JN Jx →
    (∀ k v E W1, J k E W1 → Fit k v → k < N → KE D W W1 → YieldAt F (n - 1) P l (enc k v) W1 fun e W' => (e = .returned (.bool true) ∧ J (k + 1) E W' ∧ KE E W1 W') ∨ (e = .returned (.bool false) ∧ Jx () E W' ∧ KE E W1 W')) →
    J 0 D W → CallsIn F n P g (#[.func (.yield l) #[] #[]] ++ lb) W fun e W' => (∃ v, e = .returned v) ∧ (J N D W' ∨ Jx () D W') ∧ KE D W W'
def OutN (E : Nat → Prop) (I : Nat → (Nat → Prop) → World → Prop) (Ix : Code → (Nat → Prop) → World → Prop) (k : Nat) (W : World) : Exit → Act → World → Prop
  | .normal, _, W' => KE E W W' ∧ I (k + 1) E W'
  | .ret, _, W' => KE E W W' ∧ Ix .ret E W'
  | .exit id, _, W' => KE E W W' ∧ Ix (.exit id) E W'
  | _, _, _ => False
theorem KE.put {E : Nat → Prop} {A : World} {l : Nat} (hl : ¬ E l) (o : Obj) : KE E A (A.putObj l o) := ⟨by simp, fun _ hi => World.putObj_heap_other (fun e => hl (e ▸ hi))⟩
theorem KE.trans {E : Nat → Prop} {A B C : World} (h : KE E A B) (k : KE E B C) : KE E A C := ⟨Nat.le_trans h.1 k.1, fun i hi => (k.2 i hi).trans (h.2 i hi)⟩
theorem KE.mono {E E' : Nat → Prop} {A B : World} (h : KE E A B) (hs : ∀ i, E' i → E i) : KE E' A B := ⟨h.1, fun i hi => h.2 i (hs i hi)⟩
def Ed (E : Nat → Prop) (db : Nat) (i : Nat) : Prop := E i ∨ i = db
theorem jn_one {β : Type} {J : β → (Nat → Prop) → World → Prop} (h : JN J) (db : Nat) (o : Obj) : JN (fun s E W => J s (Ed E db) W ∧ ¬ E db ∧ W.heap[db]? = some o) where
  more := fun s E A C ⟨h1, h2, h3⟩ hg => by
    have hl := (Array.getElem?_eq_some_iff.1 h3).1
    refine ⟨h.less _ _ _ _ (h.more _ _ _ _ h1 hg) (fun i hi => ?_), fun q => ?_, (hg.block db hl (by simp)).trans h3⟩
    · rcases hi with (z | z) | z
      · exact .inl (.inl z)
      · exact .inr z
      · exact .inl (.inr z)
    · rcases q with z | z
      · exact h2 z
      · omega
  turn := fun s E A C r ⟨h1, h2, h3⟩ hr hg hs => ⟨h.turn _ _ _ _ r h1 (.inl hr) hg hs, h2, (hg.block db (Array.getElem?_eq_some_iff.1 h3).1 (fun e => h2 (by cases e; exact hr))).trans h3⟩
  less := fun s E E' A ⟨h1, h2, h3⟩ hl => ⟨h.less _ _ _ _ h1 (fun i hi => hi.imp (hl i) id), fun q => h2 (hl _ q), h3⟩
theorem IterN.one {F : Fence} {n : Nat} {P : Program} {g : Nat} {lb : Array Value} {enc : Nat → Value → Array Value} {Fit : Nat → Value → Prop} {D : Nat → Prop} {N : Nat} {w0 : World} (h : IterN F n P g lb enc Fit D N w0) {ab : Nat} {o : Obj} (hn : ¬ D ab) (ho : w0.heap[ab]? = some o) : IterN F n P g lb enc Fit (Ed D ab) N w0 := fun l J Jx W hK hJ hJx hY h0 => by
  have hoW : W.heap[ab]? = some o := (hK.2 ab (.inr rfl)).trans ho
  refine (h l (fun k E W => J k (Ed E ab) W ∧ ¬ E ab ∧ W.heap[ab]? = some o) (fun s E W => Jx s (Ed E ab) W ∧ ¬ E ab ∧ W.heap[ab]? = some o) W (hK.mono fun i hi => .inl hi) (jn_one hJ ab o) (jn_one hJx ab o) ?_ ⟨h0, hn, hoW⟩).mono ?_
  · rintro k v E W1 ⟨q1, q2, q3⟩ hf hk hke
    obtain ⟨fn, tmps, assign, body, hy, hR⟩ := hY k v (Ed E ab) W1 q1 hf hk ⟨hke.1, fun i hi => hi.elim (hke.2 i) (fun z => by rw [z]; exact q3.trans hoW.symm)⟩
    refine ⟨fn, tmps, assign, body, hy, hR.mono ?_⟩
    rintro e W' (⟨r1, r2, r3⟩ | ⟨r1, r2, r3⟩)
    · exact .inl ⟨r1, ⟨r2, q2, (r3.2 ab (.inr rfl)).trans q3⟩, r3.mono fun i hi => .inl hi⟩
    · exact .inr ⟨r1, ⟨r2, q2, (r3.2 ab (.inr rfl)).trans q3⟩, r3.mono fun i hi => .inl hi⟩
  · rintro e W' ⟨hv, hj, hke⟩
    have hab : W'.heap[ab]? = some o := by rcases hj with z | z <;> exact z.2.2
    refine ⟨hv, hj.imp (·.1) (·.1), hke.1, fun i hi => ?_⟩
    rcases hi with z | z
    · exact hke.2 i z
    · rw [z]; exact hab.trans hoW.symm
def Wi (B : Nat) (E : Nat → Prop) (i : Nat) : Prop := E i ∨ i = B ∨ i = B + 1
theorem range_fitN {F : Fence} {n : Nat} {P : Program} {g : Operand} {ps : Array Tmp} {assign body : Code} {Q : Exit → Act → World → Prop} {a : Act} {w : World}
    (hro : F.round = none) (h1 : 1 ≤ n) {gf : Nat} {lb : Array Value} (hg : a.eval g = .func (.func gf) #[] lb) (hFg : F.fn gf) (eg : ∀ args w, (callFunc gf args).run P w = .ok (.enter gf args) w)
    {enc : Nat → Value → Array Value} {Fit : Nat → Value → Prop} {D : Nat → Prop} {N : Nat} {w0 : World} (hit : IterN F (n - 1) P gf lb enc Fit D N w0) (hw0 : KE D w0 w) (hD : ∀ i, D i → i < w.heap.size) (hps : ∀ k v, (enc k v).size = ps.size)
    (I : Nat → (Nat → Prop) → World → Prop) (Ix : Code → (Nat → Prop) → World → Prop) (hI : JN I) (hIx : JN Ix) (h0 : I 0 D w) (A : Nat → Value → Act → (Nat → Prop) → World → Prop) (hA : ∀ k v, JN (A k v))
    (hassign : ∀ (l k : Nat) (v : Value) (E : Nat → Prop) (W : World), w.heap.size ≤ l → I k E W → (∀ i, D i → E i) → (∀ i, E i → i < W.heap.size) → Fit k v → k < N →
      assign.wpIn (F.inRound l) (n - 1 - 1) P (Exit.then (fun a₁ W₁ => KE E W W₁ ∧ A k v a₁ E W₁) (fun _ _ _ => False)) { tmps := (ps.zip (enc k v)).foldl (fun t (p, v) => t.setIfInBounds p v) a.tmps, defers := [] } W)
    (hbody : ∀ (l k : Nat) (v : Value) (a₁ : Act) (E : Nat → Prop) (W : World), w.heap.size ≤ l → E l → (∃ r, W.heap[l]? = some (.loop r)) → A k v a₁ E W → (∀ i, D i → E i) → (∀ i, E i → i < W.heap.size) → KE D w W → k < N → body.wpIn (F.inRound l) (n - 1 - 1) P (OutN E I Ix k W) a₁ W)
    (hdone : ∀ (d : Nat) (W : World), w.heap.size ≤ d → I N (fun i => D i ∨ i = d) W → W.heap[d]? = some (.deferred (some [])) → KE D w W → Q .normal { a with defers := { target := .collected d, args := #[] } :: a.defers } W)
    (hstop : ∀ (d : Nat) (c : Code) (W : World), w.heap.size ≤ d → Ix c (fun i => D i ∨ i = d) W → W.heap[d]? = some (.deferred (some [])) → KE D w W → c.wpIn F n P Q { a with defers := { target := .collected d, args := #[] } :: a.defers } W) :
    (Code.rangeFunc g ps assign body).wpIn F n P Q a w := by
  refine wpIn_rangeFunc fun fn hfn => ?_
  rw [hro]
  let R : LoopState → Option Code → Loop := fun st pe => { state := st, pending := pe, fn, tmps := a.tmps, params := ps, assign, body, defers := w.heap.size }
  let BK : LoopState → Option Code → World → Prop := fun st pe W => W.heap[w.heap.size + 1]? = some (.loop (R st pe)) ∧ W.heap[w.heap.size]? = some (.deferred (some []))
  have bk_put : ∀ {st pe W} (st' pe'), BK st pe W → BK st' pe' (W.putObj (w.heap.size + 1) (.loop (R st' pe'))) := fun st' pe' h =>
    ⟨World.putObj_heap_same (Array.getElem?_eq_some_iff.1 h.1).1, (World.putObj_heap_other (by omega)).trans h.2⟩
  have bk_kept : ∀ {st pe A C} {E : Nat → Prop}, BK st pe A → KE (Wi w.heap.size E) A C → BK st pe C := fun h k => ⟨(k.2 _ (.inr (.inr rfl))).trans h.1, (k.2 _ (.inr (.inl rfl))).trans h.2⟩
  have bk_grown : ∀ {st pe A C row}, BK st pe A → A.grownBy C row → (∀ r, row = some r → r ≠ w.heap.size ∧ r ≠ w.heap.size + 1) → BK st pe C := fun h k hr =>
    ⟨(k.block _ (Array.getElem?_eq_some_iff.1 h.1).1 (fun e => (hr _ e.symm).2 rfl)).trans h.1, (k.block _ (Array.getElem?_eq_some_iff.1 h.2).1 (fun e => (hr _ e.symm).1 rfl)).trans h.2⟩
  obtain ⟨W1, hW1⟩ : ∃ W1, (w.alloc (.deferred (some []))).alloc (.loop (R .ready none)) = W1 := ⟨_, rfl⟩
  have hs1 : W1.heap.size = w.heap.size + 2 := by rw [← hW1]; simp
  have hg1 : w.grownBy W1 none := by
    rw [← hW1]
    exact ⟨rfl, rfl, rfl, by simp; omega, fun i hi _ => (Below.heap_alloc _ _ _ (by simp; omega)).trans (Below.heap_alloc _ _ _ hi)⟩
  have hBK1 : BK .ready none W1 := by
    rw [← hW1]
    refine ⟨?_, (Below.heap_alloc _ _ _ (by simp)).trans (World.alloc_heap_new w _)⟩
    have := World.alloc_heap_new (w.alloc (.deferred (some []))) (.loop (R .ready none))
    rwa [World.size_alloc] at this
  -- E and the loop's own blocks
  let SD : (Nat → Prop) → Prop := fun E => (∀ i, E i → i ≠ w.heap.size ∧ i ≠ w.heap.size + 1) ∧ ∀ i, D i → E i
  have hSD : SD D := ⟨fun i hi => by have := hD i hi; omega, fun _ h => h⟩
  let JJ : Nat → (Nat → Prop) → World → Prop := fun k E W => ∃ E', (∀ i, E i → E' i) ∧ SD E' ∧ I k (Wi w.heap.size E') W ∧ BK .ready none W ∧ ∀ i, E' i → i < W.heap.size
  let JX : Unit → (Nat → Prop) → World → Prop := fun _ E W => ∃ c E', (∀ i, E i → E' i) ∧ SD E' ∧ Ix c (Wi w.heap.size E') W ∧ BK .done (some c) W ∧ ∀ i, E' i → i < W.heap.size
  have bks : ∀ {st pe W}, BK st pe W → w.heap.size + 1 < W.heap.size := fun h => (Array.getElem?_eq_some_iff.1 h.1).1
  have hJJ : JN JJ := ⟨fun k E X C ⟨E', h1, h2, h3, h4, h5⟩ hg => ⟨fun i => E' i ∨ (X.heap.size ≤ i ∧ i < C.heap.size), fun i hi => hi.imp (h1 i) id, ⟨fun i hi => by
      rcases hi with z | z
      · exact h2.1 i z
      · have := bks h4; omega, fun i hi => .inl (h2.2 i hi)⟩, hI.less _ _ _ _ (hI.more _ _ _ _ h3 hg) (fun i hi => by
      rcases hi with (z | z) | z
      · exact .inl (.inl z)
      · exact .inr z
      · exact .inl (.inr z)), bk_grown h4 hg (fun r e => by cases e), fun i hi => by
      rcases hi with z | z
      · exact Nat.lt_of_lt_of_le (h5 i z) hg.size
      · exact z.2⟩,
    fun k E X C r ⟨E', h1, h2, h3, h4, h5⟩ hr hg hs => ⟨E', h1, h2, hI.turn _ _ _ _ r h3 (.inl (h1 r hr)) hg hs, bk_grown h4 hg (fun q e => by cases e; exact h2.1 r (h1 r hr)), fun i hi => hs ▸ h5 i hi⟩,
    fun k E E2 X ⟨E', h1, h2, h3, h4, h5⟩ hl => ⟨E', fun i hi => h1 i (hl i hi), h2, h3, h4, h5⟩⟩
  have hJX : JN JX := ⟨fun k E X C ⟨c, E', h1, h2, h3, h4, h5⟩ hg => ⟨c, fun i => E' i ∨ (X.heap.size ≤ i ∧ i < C.heap.size), fun i hi => hi.imp (h1 i) id, ⟨fun i hi => by
      rcases hi with z | z
      · exact h2.1 i z
      · have := bks h4; omega, fun i hi => .inl (h2.2 i hi)⟩, hIx.less _ _ _ _ (hIx.more _ _ _ _ h3 hg) (fun i hi => by
      rcases hi with (z | z) | z
      · exact .inl (.inl z)
      · exact .inr z
      · exact .inl (.inr z)), bk_grown h4 hg (fun r e => by cases e), fun i hi => by
      rcases hi with z | z
      · exact Nat.lt_of_lt_of_le (h5 i z) hg.size
      · exact z.2⟩,
    fun k E X C r ⟨c, E', h1, h2, h3, h4, h5⟩ hr hg hs => ⟨c, E', h1, h2, hIx.turn _ _ _ _ r h3 (.inl (h1 r hr)) hg hs, bk_grown h4 hg (fun q e => by cases e; exact h2.1 r (h1 r hr)), fun i hi => hs ▸ h5 i hi⟩,
    fun k E E2 X ⟨c, E', h1, h2, h3, h4, h5⟩ hl => ⟨c, E', fun i hi => h1 i (hl i hi), h2, h3, h4, h5⟩⟩
  have hI1 : JJ 0 D W1 := ⟨D, fun _ h => h, hSD, hI.less _ _ _ _ (hI.more _ _ _ _ h0 hg1) (fun i hi => by
    rcases hi with z | z | z
    · exact .inl z
    · exact .inr (by omega)
    · exact .inr (by omega)), hBK1, fun i hi => by have := hD i hi; omega⟩
  refine ⟨w.heap.size + 1, [{ target := .collected w.heap.size, args := #[] }], W1, { target := .fn (.func gf) lb, args := #[.func (.yield (w.heap.size + 1)) #[] #[]] }, W1, gf, #[.func (.yield (w.heap.size + 1)) #[] #[]] ++ lb, W1, ?_, ?_, ?_, ?_, fun _ => h1, ?_⟩
  · rw [← hW1]; exact run_enterLoop_outer _ _ _ _ _
  · simp only [resolve, hg]; simp [go_sem]
  · intro f' hf'; simp [Target.leads] at hf'; subst hf'; exact hFg
  · simp [invoke, go_sem, eg]
  · refine (hit (w.heap.size + 1) JJ JX W1 (hw0.trans ⟨hg1.size, fun i hi => hg1.block i (hD i hi) (by simp)⟩) hJJ hJX ?_ hI1).mono ?_
    · rintro k v E W ⟨E', hE, hS, hi, hb, hz⟩ hf hk hkd
      have hzw : ∀ {A : World}, W.heap.size ≤ A.heap.size → ∀ i, Wi w.heap.size E' i → i < A.heap.size := fun hA i h => by
        have hbs := bks hb
        rcases h with h | h | h
        · exact Nat.lt_of_lt_of_le (hz i h) hA
        · omega
        · omega
      have hmem : Wi w.heap.size E' (w.heap.size + 1) := .inr (.inr rfl)
      have hDE : ∀ i, D i → Wi w.heap.size E' i := fun i hi => .inl (hS.2 i hi)
      have hnE : ¬ E (w.heap.size + 1) := fun h => (hS.1 _ (hE _ h)).2 rfl
      refine ⟨fn, _, assign, body, run_yield (P := P) (r := R .ready none) (args := enc k v) hb.1 (hps k v), roundIn_of_wpIn hfn (wpIn_mono (hassign _ k v (Wi w.heap.size E') W (by omega) hi hDE (hzw (Nat.le_refl _)) hf hk) ?_)⟩
      rintro e1 a1 Wa hp1
      have hn1 : e1 = .normal := by cases e1 <;> first | rfl | exact hp1.elim
      subst hn1
      obtain ⟨m1, m3⟩ := hp1
      have hb1 := bk_kept hb m1
      refine ⟨_, run_beginRound hb1.1 rfl, ?_⟩
      have hb2 : BK .busy none (Wa.putObj (w.heap.size + 1) (.loop (R .busy none))) := bk_put _ _ hb1
      have m1' : KE E W Wa := m1.mono fun i hi => .inl (hE i hi)
      refine wpIn_mono (hbody _ k v a1 (Wi w.heap.size E') _ (by omega) hmem ⟨_, hb2.1⟩ ((hA k v).put _ m3 hmem) hDE (hzw (by simp; exact m1.1)) (((KE.trans ⟨hg1.size, fun i hi => hg1.block i (hD i hi) (by simp)⟩ hkd).trans (m1.mono fun i hi => hDE i hi)).trans (KE.put (fun q => by have := hD _ q; omega) _)) hk) ?_
      rintro e a3 W3 hp
      cases e with
      | normal =>
        obtain ⟨k2, k3⟩ := hp
        have hb3 := bk_kept hb2 k2
        exact ⟨_, _, run_endRound (P := P) none hb3.1, .inl ⟨rfl, ⟨E', hE, hS, hI.put _ k3 hmem, bk_put .ready none hb3, fun i hi => hzw (by have := m1.1; have := k2.1; simp at this ⊢; omega) i (.inl hi)⟩, (m1'.trans ((KE.put hnE _).trans (k2.mono fun i hi => .inl (hE i hi)))).trans (KE.put hnE _)⟩⟩
      | ret =>
        have hb3 := bk_kept hb2 hp.1
        exact ⟨_, _, run_endRound (P := P) (some .ret) hb3.1, .inr ⟨rfl, ⟨.ret, E', hE, hS, hIx.put _ hp.2 hmem, bk_put .done (some .ret) hb3, fun i hi => hzw (by have := m1.1; have := hp.1.1; simp at this ⊢; omega) i (.inl hi)⟩, (m1'.trans ((KE.put hnE _).trans (hp.1.mono fun i hi => .inl (hE i hi)))).trans (KE.put hnE _)⟩⟩
      | exit id =>
        have hb3 := bk_kept hb2 hp.1
        exact ⟨_, _, run_endRound (P := P) (some (.exit id)) hb3.1, .inr ⟨rfl, ⟨.exit id, E', hE, hS, hIx.put _ hp.2 hmem, bk_put .done (some (.exit id)) hb3, fun i hi => hzw (by have := m1.1; have := hp.1.1; simp at this ⊢; omega) i (.inl hi)⟩, (m1'.trans ((KE.put hnE _).trans (hp.1.mono fun i hi => .inl (hE i hi)))).trans (KE.put hnE _)⟩⟩
      | goto t => exact hp.elim
      | panic ch => exact hp.elim
      | outgrown => exact hp.elim
    · rintro e W2 ⟨⟨v, rfl⟩, ⟨E', hE, hS, hi, hb, -⟩ | ⟨c, E', hE, hS, hc, hb, -⟩, hke⟩
      all_goals have hkf : ∀ o, KE D w (W2.putObj (w.heap.size + 1) o) := fun o => (KE.trans ⟨hg1.size, fun i hi => hg1.block i (hD i hi) (by simp)⟩ hke).trans (KE.put (fun q => by have := hD _ q; omega) o)
      · exact ⟨none, _, run_endLoop (P := P) hb.1 (by simp [R]), hdone _ _ (Nat.le_refl _) (hI.less _ _ _ _ (hI.put _ hi (.inr (.inr rfl))) fun i hi => hi.imp (hE i) .inl) ((World.putObj_heap_other (by omega)).trans hb.2) (hkf _)⟩
      · exact ⟨some c, _, run_endLoop (P := P) hb.1 (by simp [R]), hstop _ c _ (Nat.le_refl _) (hIx.less _ _ _ _ (hIx.put _ hc (.inr (.inr rfl))) fun i hi => hi.imp (hE i) .inl) ((World.putObj_heap_other (by omega)).trans hb.2) (hkf _)⟩
end Go.Proofs.Ytbiplflejijbeaa
namespace Go.Proofs.Ytbiplflejijbeaa
open Go.RowKit Go.Shelf Ev
def dAct (a : Act) (ps : Array Tmp) (vs : Array Value) (ds db : Nat) : Act := { tmps := ((ps.zip vs).foldl (fun t (p, v) => t.setIfInBounds p v) a.tmps).setIfInBounds ds (.pointer (some ⟨db, 0, none⟩)), defers := [] }
theorem range_fitD {F : Fence} {n : Nat} {P : Program} {g : Operand} {ps : Array Tmp} {assign body : Code} {Q : Exit → Act → World → Prop} {a : Act} {w : World}
    (hro : F.round = none) (h1 : 1 ≤ n) {gf : Nat} {lb : Array Value} (hg : a.eval g = .func (.func gf) #[] lb) (hFg : F.fn gf) (eg : ∀ args w, (callFunc gf args).run P w = .ok (.enter gf args) w)
    {enc : Nat → Value → Array Value} {Fit : Nat → Value → Prop} {D : Nat → Prop} {N : Nat} {w0 : World} (hit : IterN F (n - 1) P gf lb enc Fit D N w0) (hw0 : KE D w0 w) (hD : ∀ i, D i → i < w.heap.size) (hps : ∀ k v, (enc k v).size = ps.size)
    (I : Nat → (Nat → Prop) → World → Prop) (Ix : Code → (Nat → Prop) → World → Prop) (hI : JN I) (hIx : JN Ix) (h0 : I 0 D w) (ds : Nat) (B : Nat → Value → Obj)
    (hassign : ∀ (l k : Nat) (v : Value) (W : World), Fit k v → k < N →
      assign.wpIn (F.inRound l) (n - 1 - 1) P (Exit.then (fun a₁ W₁ => a₁ = dAct a ps (enc k v) ds W.heap.size ∧ W₁ = W.alloc (B k v)) (fun _ _ _ => False)) { tmps := (ps.zip (enc k v)).foldl (fun t (p, v) => t.setIfInBounds p v) a.tmps, defers := [] } W)
    (hbody : ∀ (l k : Nat) (v : Value) (db : Nat) (E : Nat → Prop) (W : World), w.heap.size ≤ l → E l → (∃ r, W.heap[l]? = some (.loop r)) → I k (Ed E db) W → ¬ E db → W.heap[db]? = some (B k v) → (∀ i, D i → E i) → (∀ i, E i → i < W.heap.size) → KE D w W → Fit k v → k < N → body.wpIn (F.inRound l) (n - 1 - 1) P (OutN E I Ix k W) (dAct a ps (enc k v) ds db) W)
    (hdone : ∀ (d : Nat) (W : World), w.heap.size ≤ d → I N (fun i => D i ∨ i = d) W → W.heap[d]? = some (.deferred (some [])) → KE D w W → Q .normal { a with defers := { target := .collected d, args := #[] } :: a.defers } W)
    (hstop : ∀ (d : Nat) (c : Code) (W : World), w.heap.size ≤ d → Ix c (fun i => D i ∨ i = d) W → W.heap[d]? = some (.deferred (some [])) → KE D w W → c.wpIn F n P Q { a with defers := { target := .collected d, args := #[] } :: a.defers } W) :
    (Code.rangeFunc g ps assign body).wpIn F n P Q a w := by
  refine range_fitN hro h1 hg hFg eg hit hw0 hD hps I Ix hI hIx h0 (fun k v a₁ E W => ∃ db, a₁ = dAct a ps (enc k v) ds db ∧ Fit k v ∧ (I k (Ed E db) W ∧ ¬ E db ∧ W.heap[db]? = some (B k v)))
    (fun k v => ⟨fun s E A C ⟨db, q1, q2, q3⟩ hg => ⟨db, q1, q2, (jn_one hI db _).more k _ _ _ q3 hg⟩, fun s E A C r ⟨db, q1, q2, q3⟩ hr hg hs => ⟨db, q1, q2, (jn_one hI db _).turn k _ _ _ r q3 hr hg hs⟩, fun s E E' A ⟨db, q1, q2, q3⟩ hl => ⟨db, q1, q2, (jn_one hI db _).less k _ _ _ q3 hl⟩⟩) ?_ ?_ hdone hstop
  · intro l k v E W hl hi hDE hEl hf hk
    refine wpIn_mono (hassign l k v W hf hk) ?_
    rintro e a1 W1 hp
    have hn1 : e = .normal := by cases e <;> first | rfl | exact hp.elim
    subst hn1
    obtain ⟨rfl, rfl⟩ := hp
    have hs : (W.alloc (B k v)).heap.size = W.heap.size + 1 := by simp
    refine ⟨⟨by omega, fun i hi => Below.heap_alloc W _ i (hEl i hi)⟩, W.heap.size, rfl, hf, hI.less _ _ _ _ (hI.more k E W (W.alloc (B k v)) hi ⟨rfl, rfl, rfl, by omega, fun i hi _ => Below.heap_alloc W _ i hi⟩) (fun i hi => ?_), fun q => by have := hEl _ q; omega, World.alloc_heap_new W _⟩
    rcases hi with z | z
    · exact .inl z
    · exact .inr (by omega)
  · rintro l k v a1 E W hl hE hr ⟨db, rfl, hf, q1, q2, q3⟩ hDE hEl hkd hk
    exact hbody l k v db E W hl hE hr q1 q2 q3 hDE hEl hkd hf hk
theorem in_region_held {P : Program} {ops : Array Oper} {K : Act → World → Prop} {Qq : Exit → Act → World → Prop} {S : World → Prop} {l n id : Nat} {a : Act} {w : World} (hm : P.follows .mixedOrders = true) (hc : ops.all (fun o => calmO o && dstFree [] o) = true) (hS : S w.drew)
    (h : S w.drew → wpAnyH P .any ops (fun e a' w' => e = .normal ∧ Exit.then K Qq e a' w') S ops.size (Array.replicate ops.size false) a w.drew) : (Code.region id ops true).wpIn (Fence.wide.inRound l) n P (Exit.then K Qq) a w :=
  wpIn_mono (wpIn_region_any hm (any_in (ro := some l) (Y := []) (yv := undef) (Q := fun e a' w' => e = .normal ∧ Exit.then K Qq e a' w') (fun e a w q => q.1) hc _ _ _ _ (wpAny_of_held _ _ _ _ (h hS)) (fun y hy => by cases hy))) (fun e a' w' q => q.1.2)
end Go.Proofs.Ytbiplflejijbeaa
