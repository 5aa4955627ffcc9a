/- Of the road to wireCallsUpto_holds: FrameMath, WrM, WrM2, IntsA, WrP, WrMul, WrRep, WrPSeq. -/
import Derived.Test.YtgjadpidoaianaaG00
import Derived.Test.YtgjadpidoaianaaG05
import Derived.Laws.AppendOwn
import Derived.Test.YtgjadpidoaianaaG03
import Derived.Laws.OwnMore
set_option linter.unusedVariables false
set_option linter.unusedSimpArgs false
namespace Go.Proofs.Ytgjadpidoaianaa
open Go.RowKit
theorem fold_bigL (r x a : Nat) : (bigL r x).foldl (fun a c => a * 256 + c.toNat) a = a * 256 ^ r + x % 256 ^ r := by
  induction r generalizing a with
  | zero => simp [bigL, Nat.mod_one]
  | succ r ih =>
    simp only [bigL, List.foldl_cons, Int.toNat_natCast]
    rw [ih, Nat.pow_succ]
    have h1 := Nat.mod_mul (a := 256 ^ r) (b := 256) (x := x)
    rw [h1]
    have : (a * 256 + x / 256 ^ r % 256) * 256 ^ r = a * (256 ^ r * 256) + 256 ^ r * (x / 256 ^ r % 256) := by
      rw [Nat.add_mul, Nat.mul_assoc, Nat.mul_comm 256 (256 ^ r), Nat.mul_comm (x / 256 ^ r % 256)]
    omega
theorem valL_bigL (r x : Nat) (h : x < 256 ^ r) : valL (bigL r x) = x := by
  unfold valL
  rw [fold_bigL, Nat.zero_mul, Nat.zero_add, Nat.mod_eq_of_lt h]
end Go.Proofs.Ytgjadpidoaianaa
namespace Go.Proofs.Ytgjadpidoaianaa
open Go Go.RowKit
theorem okT_app (a t : List Int) (n : Int) (h : (a.length : Int) = n) : okTake (a ++ t) n = true := okTake_iff.2 ⟨by omega, by simp; omega⟩
theorem taken_app (a t : List Int) (n : Int) (h : (a.length : Int) = n) : taken (a ++ t) n = a := by
  rw [taken, okT_app a t n h, if_pos rfl, show n.toNat = a.length by omega, List.take_left]
theorem left_app (a t : List Int) (n : Int) (h : (a.length : Int) = n) : leftAt (a ++ t) n = t := by
  rw [leftAt, okT_app a t n h, if_pos rfl, show n.toNat = a.length by omega, List.drop_left]
theorem ok_cut {l : List Int} {n : Nat} (h : okTake l (n : Int) = true) : ∃ a t, l = a ++ t ∧ (a.length : Int) = n := by
  have := (okTake_iff.1 h).2
  exact ⟨l.take n, l.drop n, (List.take_append_drop n l).symm, by simp; omega⟩
theorem okT_cons (k : Int) (t : List Int) : okTake (k :: t) 1 = true := okT_app [k] t 1 rfl
theorem taken_cons (k : Int) (t : List Int) : taken (k :: t) 1 = [k] := taken_app [k] t 1 rfl
theorem left_cons (k : Int) (t : List Int) : leftAt (k :: t) 1 = t := left_app [k] t 1 rfl
theorem small1 (k : Int) (h : 0 ≤ k) : ((smallNo 1 [k] : Nat) : Int) = k := by simp [smallNo, valL]; omega
theorem small_of {n : Nat} {a : List Int} (h : (a.length : Int) = n) : smallNo n a = valL a := by unfold smallNo; rw [if_pos (by omega)]
theorem small_bigN (n x : Nat) (h : x < 256 ^ n) : smallNo n (bigL n x) = x := by rw [small_of (by rw [bigL_length]), valL_bigL n x h]
theorem tkE_ok {n m : Nat} {f : Nat → Bool} {l : Nat → List Int} {bk : Nat → Bool} : (tkE n m f l bk).2 = true ↔ f m = false ∧ ∀ k, k < m → bk k = true := by
  have hA : ∀ m, (tkA n l bk m).2 = true ↔ ∀ k, k < m → bk k = true := by
    intro m
    induction m with
    | zero => simp [tkA]
    | succ m ih =>
      unfold tkA
      constructor
      · intro h k hk
        split at h
        · simp at h
        · rename_i hc
          have h1 := ih.1 h
          rcases Nat.lt_or_ge k m with h2 | h2
          · exact h1 k h2
          · rw [show k = m by omega]
            rw [h] at hc
            simpa using hc
      · intro h
        rw [if_neg (by rw [h m (by omega)]; simp)]
        exact ih.2 fun k hk => h k (by omega)
  unfold tkE
  cases f m <;> simp [hA m]
theorem rd1_iff {n : Nat} {s : QS} : (rd1 n s).2 = true ↔ (kindF s).1.f = false ∧ (kindF s).2 = true := by
  unfold rd1 tkS
  rw [tkE_ok]
  constructor
  · rintro ⟨h1, h2⟩
    exact ⟨h1, h2 0 (by simp)⟩
  · rintro ⟨h1, h2⟩
    refine ⟨h1, fun k hk => ?_⟩
    have : k = 0 := by simpa using hk
    subst this
    exact h2
theorem rd2_iff {n : Nat} {s : QS} : (rd2 n s).2 = true ↔ (st2 s).f = false ∧ ∀ k, k < (flS (st1 s).r.k).length → (((flS (st1 s).r.k).getD k (fun s => (s, true))) (sq (flS (st1 s).r.k) (st1 s) k)).2 = true := by
  unfold rd2 tkS
  rw [tkE_ok]
  rfl
theorem indexF_app (f : Bool) (a t : List Int) (r : Rq) (sz : Int) (h : (a.length : Int) = 16) : indexF ⟨f, a ++ t, r, sz⟩ = (⟨f, t, { r with ix := a }, sz⟩, true) := by
  simp [indexF, QS.adv, okT_app a t 16 h, taken_app a t 16 h, left_app a t 16 h]
theorem indexF_f {s : QS} (h : (indexF s).1.f = false) : s.f = false ∧ ∃ a t, s.l = a ++ t ∧ (a.length : Int) = 16 := by
  have h1 : (s.f || !okTake s.l 16) = false := h
  simp at h1
  exact ⟨h1.1, ok_cut (n := 16) h1.2⟩
theorem numberF_app (f : Bool) (a t : List Int) (r : Rq) (sz : Int) (h : (a.length : Int) = 1) : numberF ⟨f, a ++ t, r, sz⟩ = (⟨f, t, { r with nb := (smallNo 1 a : Nat) }, sz⟩, nbB (smallNo 1 a : Nat)) := by
  simp [numberF, QS.adv, okT_app a t 1 h, taken_app a t 1 h, left_app a t 1 h]
theorem numberF_f {s : QS} (h : (numberF s).1.f = false) : s.f = false ∧ ∃ a t, s.l = a ++ t ∧ (a.length : Int) = 1 := by
  have h1 : (s.f || !okTake s.l 1) = false := h
  simp at h1
  exact ⟨h1.1, ok_cut (n := 1) h1.2⟩
theorem whoF_app (f : Bool) (a t : List Int) (r : Rq) (sz : Int) (h : (a.length : Int) = 4) : whoF ⟨f, a ++ t, r, sz⟩ = (⟨f, t, { r with who := (smallNo 4 a : Nat) }, sz⟩, true) := by
  simp [whoF, QS.adv, okT_app a t 4 h, taken_app a t 4 h, left_app a t 4 h]
theorem whoF_f {s : QS} (h : (whoF s).1.f = false) : s.f = false ∧ ∃ a t, s.l = a ++ t ∧ (a.length : Int) = 4 := by
  have h1 : (s.f || !okTake s.l 4) = false := h
  simp at h1
  exact ⟨h1.1, ok_cut (n := 4) h1.2⟩
theorem untilF_app (f : Bool) (a t : List Int) (r : Rq) (sz : Int) (h : (a.length : Int) = 8) : untilF ⟨f, a ++ t, r, sz⟩ = (⟨f, t, { r with til := IntKind.i64.wrap (smallNo 8 a : Nat) }, sz⟩, tkB (IntKind.i64.wrap (smallNo 8 a : Nat))) := by
  simp [untilF, QS.adv, okT_app a t 8 h, taken_app a t 8 h, left_app a t 8 h]
theorem untilF_f {s : QS} (h : (untilF s).1.f = false) : s.f = false ∧ ∃ a t, s.l = a ++ t ∧ (a.length : Int) = 8 := by
  have h1 : (s.f || !okTake s.l 8) = false := h
  simp at h1
  exact ⟨h1.1, ok_cut (n := 8) h1.2⟩
theorem atF_app (f : Bool) (a t : List Int) (r : Rq) (sz : Int) (h : (a.length : Int) = 4) : atF ⟨f, a ++ t, r, sz⟩ = (⟨f, t, { r with pl := (smallNo 4 a : Nat) }, sz⟩, plB (smallNo 4 a : Nat)) := by
  simp [atF, QS.adv, okT_app a t 4 h, taken_app a t 4 h, left_app a t 4 h]
theorem atF_f {s : QS} (h : (atF s).1.f = false) : s.f = false ∧ ∃ a t, s.l = a ++ t ∧ (a.length : Int) = 4 := by
  have h1 : (s.f || !okTake s.l 4) = false := h
  simp at h1
  exact ⟨h1.1, ok_cut (n := 4) h1.2⟩
theorem lengthF_app (f : Bool) (a t : List Int) (r : Rq) (sz : Int) (h : (a.length : Int) = 4) : lengthF ⟨f, a ++ t, r, sz⟩ = (⟨f, t, { r with ln := (smallNo 4 a : Nat) }, sz⟩, flB (smallNo 4 a : Nat)) := by
  simp [lengthF, QS.adv, okT_app a t 4 h, taken_app a t 4 h, left_app a t 4 h]
theorem lengthF_f {s : QS} (h : (lengthF s).1.f = false) : s.f = false ∧ ∃ a t, s.l = a ++ t ∧ (a.length : Int) = 4 := by
  have h1 : (s.f || !okTake s.l 4) = false := h
  simp at h1
  exact ⟨h1.1, ok_cut (n := 4) h1.2⟩
theorem bytesF_app (f : Bool) (a t : List Int) (r : Rq) (sz : Int) (h : (a.length : Int) = 4) : bytesF ⟨f, a ++ t, r, sz⟩ = (⟨f, t, r, (smallNo 4 a : Nat)⟩, plB (smallNo 4 a : Nat)) := by
  simp [bytesF, QS.adv, okT_app a t 4 h, taken_app a t 4 h, left_app a t 4 h]
theorem bytesF_f {s : QS} (h : (bytesF s).1.f = false) : s.f = false ∧ ∃ a t, s.l = a ++ t ∧ (a.length : Int) = 4 := by
  have h1 : (s.f || !okTake s.l 4) = false := h
  simp at h1
  exact ⟨h1.1, ok_cut (n := 4) h1.2⟩
theorem st1_cons (k : Int) (h0 : 0 ≤ k) (T : List Int) : st1 (qs0 (k :: T)) = ⟨false, T, { rq0 with k := k }, 0⟩ := by
  show (kindF (qs0 (k :: T))).1 = _
  simp [kindF, qs0, QS.adv, okT_cons, taken_cons, left_cons, small1 k h0]
theorem rd1_cons (n : Nat) (k : Int) (h0 : 0 ≤ k) (T : List Int) : (rd1 n (qs0 (k :: T))).2 = kdB k := by
  rw [Bool.eq_iff_iff, rd1_iff]
  have e := st1_cons k h0 T
  have e1 : (kindF (qs0 (k :: T))).1 = ⟨false, T, { rq0 with k := k }, 0⟩ := e
  have e2 : (kindF (qs0 (k :: T))).2 = kdB (kindF (qs0 (k :: T))).1.r.k := rfl
  rw [e2, e1]
  simp
theorem rd2_cons (n : Nat) (k : Int) (h0 : 0 ≤ k) (T : List Int) : (rd2 n (qs0 (k :: T))).2 = true ↔ (sq (flS k) ⟨false, T, { rq0 with k := k }, 0⟩ (flS k).length).f = false ∧ ∀ j, j < (flS k).length → (((flS k).getD j (fun s => (s, true))) (sq (flS k) ⟨false, T, { rq0 with k := k }, 0⟩ j)).2 = true := by
  rw [rd2_iff]
  unfold st2
  rw [st1_cons k h0 T]
theorem st2_cons (k : Int) (h0 : 0 ≤ k) (T : List Int) : st2 (qs0 (k :: T)) = sq (flS k) ⟨false, T, { rq0 with k := k }, 0⟩ (flS k).length := by
  unfold st2
  rw [st1_cons k h0 T]
set_option maxRecDepth 10000 in
theorem chain_1 (n : Nat) (ix t : List Int) (h16 : (ix.length : Int) = 16)  :
    st2 (qs0 (1 :: (ix ++ t))) = ⟨false, t, ⟨1, ix, 0, 0, 0, 0, 0⟩, 0⟩ ∧ ((rd2 n (qs0 (1 :: (ix ++ t)))).2 = true ↔ True) := by
  rw [rd2_cons n 1 (by omega), st2_cons 1 (by omega)]
  obtain ⟨s1, hs1⟩ : ∃ x : QS, (⟨false, (ix ++ t), { rq0 with k := 1 }, 0⟩ : QS) = x := ⟨_, rfl⟩
  rw [hs1]
  have q1 : sq (flS 1) s1 1 = ⟨false, t, ⟨1, ix, 0, 0, 0, 0, 0⟩, 0⟩ := by
    show (indexF s1).1 = _
    rw [← hs1, indexF_app _ _ _ _ _ h16]
    rfl
  refine ⟨q1, ?_⟩
  rw [show (flS 1).length = 1 from rfl, q1]
  constructor
  · rintro ⟨_, hb⟩
    exact trivial
  · intro hb
    refine ⟨rfl, fun j hj => ?_⟩
    match j, hj with
    | 0, _ => rfl
    | j + 1, hj => omega
set_option maxRecDepth 10000 in
theorem chain_2 (n : Nat) (ix a0 a1 a2 a3 t : List Int) (h16 : (ix.length : Int) = 16) (h0 : (a0.length : Int) = 1) (h1 : (a1.length : Int) = 4) (h2 : (a2.length : Int) = 8) (h3 : (a3.length : Int) = 4) :
    st2 (qs0 (2 :: (ix ++ (a0 ++ (a1 ++ (a2 ++ (a3 ++ t))))))) = ⟨false, t, ⟨2, ix, (smallNo 1 a0 : Nat), 0, 0, (smallNo 4 a1 : Nat), IntKind.i64.wrap (smallNo 8 a2 : Nat)⟩, (smallNo 4 a3 : Nat)⟩ ∧ ((rd2 n (qs0 (2 :: (ix ++ (a0 ++ (a1 ++ (a2 ++ (a3 ++ t)))))))).2 = true ↔ nbB ((smallNo 1 a0 : Nat)) = true ∧ tkB (IntKind.i64.wrap (smallNo 8 a2 : Nat)) = true ∧ plB ((smallNo 4 a3 : Nat)) = true) := by
  rw [rd2_cons n 2 (by omega), st2_cons 2 (by omega)]
  obtain ⟨s1, hs1⟩ : ∃ x : QS, (⟨false, (ix ++ (a0 ++ (a1 ++ (a2 ++ (a3 ++ t))))), { rq0 with k := 2 }, 0⟩ : QS) = x := ⟨_, rfl⟩
  rw [hs1]
  have q1 : sq (flS 2) s1 1 = ⟨false, (a0 ++ (a1 ++ (a2 ++ (a3 ++ t)))), ⟨2, ix, 0, 0, 0, 0, 0⟩, 0⟩ := by
    show (indexF s1).1 = _
    rw [← hs1, indexF_app _ _ _ _ _ h16]
    rfl
  have q2 : sq (flS 2) s1 2 = ⟨false, (a1 ++ (a2 ++ (a3 ++ t))), ⟨2, ix, (smallNo 1 a0 : Nat), 0, 0, 0, 0⟩, 0⟩ := by
    show (numberF (sq (flS 2) s1 1)).1 = _
    rw [q1, numberF_app _ _ _ _ _ h0]
  have q3 : sq (flS 2) s1 3 = ⟨false, (a2 ++ (a3 ++ t)), ⟨2, ix, (smallNo 1 a0 : Nat), 0, 0, (smallNo 4 a1 : Nat), 0⟩, 0⟩ := by
    show (whoF (sq (flS 2) s1 2)).1 = _
    rw [q2, whoF_app _ _ _ _ _ h1]
  have q4 : sq (flS 2) s1 4 = ⟨false, (a3 ++ t), ⟨2, ix, (smallNo 1 a0 : Nat), 0, 0, (smallNo 4 a1 : Nat), IntKind.i64.wrap (smallNo 8 a2 : Nat)⟩, 0⟩ := by
    show (untilF (sq (flS 2) s1 3)).1 = _
    rw [q3, untilF_app _ _ _ _ _ h2]
  have q5 : sq (flS 2) s1 5 = ⟨false, t, ⟨2, ix, (smallNo 1 a0 : Nat), 0, 0, (smallNo 4 a1 : Nat), IntKind.i64.wrap (smallNo 8 a2 : Nat)⟩, (smallNo 4 a3 : Nat)⟩ := by
    show (bytesF (sq (flS 2) s1 4)).1 = _
    rw [q4, bytesF_app _ _ _ _ _ h3]
  refine ⟨q5, ?_⟩
  rw [show (flS 2).length = 5 from rfl, q5]
  constructor
  · rintro ⟨_, hb⟩
    have b0 := hb 1 (by omega)
    change (numberF (sq (flS 2) s1 1)).2 = true at b0
    rw [q1, numberF_app _ _ _ _ _ h0] at b0
    have b2 := hb 3 (by omega)
    change (untilF (sq (flS 2) s1 3)).2 = true at b2
    rw [q3, untilF_app _ _ _ _ _ h2] at b2
    have b3 := hb 4 (by omega)
    change (bytesF (sq (flS 2) s1 4)).2 = true at b3
    rw [q4, bytesF_app _ _ _ _ _ h3] at b3
    exact ⟨b0, b2, b3⟩
  · intro hb
    refine ⟨rfl, fun j hj => ?_⟩
    obtain ⟨b0, b2, b3⟩ := hb
    match j, hj with
    | 0, _ => rfl
    | 1, _ =>
      show (numberF (sq (flS 2) s1 1)).2 = true
      rw [q1, numberF_app _ _ _ _ _ h0]
      exact b0
    | 2, _ => rfl
    | 3, _ =>
      show (untilF (sq (flS 2) s1 3)).2 = true
      rw [q3, untilF_app _ _ _ _ _ h2]
      exact b2
    | 4, _ =>
      show (bytesF (sq (flS 2) s1 4)).2 = true
      rw [q4, bytesF_app _ _ _ _ _ h3]
      exact b3
    | j + 5, hj => omega
set_option maxRecDepth 10000 in
theorem chain_3 (n : Nat) (ix a0 a1 a2 t : List Int) (h16 : (ix.length : Int) = 16) (h0 : (a0.length : Int) = 1) (h1 : (a1.length : Int) = 4) (h2 : (a2.length : Int) = 4) :
    st2 (qs0 (3 :: (ix ++ (a0 ++ (a1 ++ (a2 ++ t)))))) = ⟨false, t, ⟨3, ix, (smallNo 1 a0 : Nat), (smallNo 4 a1 : Nat), (smallNo 4 a2 : Nat), 0, 0⟩, 0⟩ ∧ ((rd2 n (qs0 (3 :: (ix ++ (a0 ++ (a1 ++ (a2 ++ t))))))).2 = true ↔ nbB ((smallNo 1 a0 : Nat)) = true ∧ plB ((smallNo 4 a1 : Nat)) = true ∧ flB ((smallNo 4 a2 : Nat)) = true) := by
  rw [rd2_cons n 3 (by omega), st2_cons 3 (by omega)]
  obtain ⟨s1, hs1⟩ : ∃ x : QS, (⟨false, (ix ++ (a0 ++ (a1 ++ (a2 ++ t)))), { rq0 with k := 3 }, 0⟩ : QS) = x := ⟨_, rfl⟩
  rw [hs1]
  have q1 : sq (flS 3) s1 1 = ⟨false, (a0 ++ (a1 ++ (a2 ++ t))), ⟨3, ix, 0, 0, 0, 0, 0⟩, 0⟩ := by
    show (indexF s1).1 = _
    rw [← hs1, indexF_app _ _ _ _ _ h16]
    rfl
  have q2 : sq (flS 3) s1 2 = ⟨false, (a1 ++ (a2 ++ t)), ⟨3, ix, (smallNo 1 a0 : Nat), 0, 0, 0, 0⟩, 0⟩ := by
    show (numberF (sq (flS 3) s1 1)).1 = _
    rw [q1, numberF_app _ _ _ _ _ h0]
  have q3 : sq (flS 3) s1 3 = ⟨false, (a2 ++ t), ⟨3, ix, (smallNo 1 a0 : Nat), (smallNo 4 a1 : Nat), 0, 0, 0⟩, 0⟩ := by
    show (atF (sq (flS 3) s1 2)).1 = _
    rw [q2, atF_app _ _ _ _ _ h1]
  have q4 : sq (flS 3) s1 4 = ⟨false, t, ⟨3, ix, (smallNo 1 a0 : Nat), (smallNo 4 a1 : Nat), (smallNo 4 a2 : Nat), 0, 0⟩, 0⟩ := by
    show (lengthF (sq (flS 3) s1 3)).1 = _
    rw [q3, lengthF_app _ _ _ _ _ h2]
  refine ⟨q4, ?_⟩
  rw [show (flS 3).length = 4 from rfl, q4]
  constructor
  · rintro ⟨_, hb⟩
    have b0 := hb 1 (by omega)
    change (numberF (sq (flS 3) s1 1)).2 = true at b0
    rw [q1, numberF_app _ _ _ _ _ h0] at b0
    have b1 := hb 2 (by omega)
    change (atF (sq (flS 3) s1 2)).2 = true at b1
    rw [q2, atF_app _ _ _ _ _ h1] at b1
    have b2 := hb 3 (by omega)
    change (lengthF (sq (flS 3) s1 3)).2 = true at b2
    rw [q3, lengthF_app _ _ _ _ _ h2] at b2
    exact ⟨b0, b1, b2⟩
  · intro hb
    refine ⟨rfl, fun j hj => ?_⟩
    obtain ⟨b0, b1, b2⟩ := hb
    match j, hj with
    | 0, _ => rfl
    | 1, _ =>
      show (numberF (sq (flS 3) s1 1)).2 = true
      rw [q1, numberF_app _ _ _ _ _ h0]
      exact b0
    | 2, _ =>
      show (atF (sq (flS 3) s1 2)).2 = true
      rw [q2, atF_app _ _ _ _ _ h1]
      exact b1
    | 3, _ =>
      show (lengthF (sq (flS 3) s1 3)).2 = true
      rw [q3, lengthF_app _ _ _ _ _ h2]
      exact b2
    | j + 4, hj => omega
set_option maxRecDepth 10000 in
theorem chain_4 (n : Nat) (ix a0 a1 t : List Int) (h16 : (ix.length : Int) = 16) (h0 : (a0.length : Int) = 4) (h1 : (a1.length : Int) = 8) :
    st2 (qs0 (4 :: (ix ++ (a0 ++ (a1 ++ t))))) = ⟨false, t, ⟨4, ix, 0, 0, 0, (smallNo 4 a0 : Nat), IntKind.i64.wrap (smallNo 8 a1 : Nat)⟩, 0⟩ ∧ ((rd2 n (qs0 (4 :: (ix ++ (a0 ++ (a1 ++ t)))))).2 = true ↔ tkB (IntKind.i64.wrap (smallNo 8 a1 : Nat)) = true) := by
  rw [rd2_cons n 4 (by omega), st2_cons 4 (by omega)]
  obtain ⟨s1, hs1⟩ : ∃ x : QS, (⟨false, (ix ++ (a0 ++ (a1 ++ t))), { rq0 with k := 4 }, 0⟩ : QS) = x := ⟨_, rfl⟩
  rw [hs1]
  have q1 : sq (flS 4) s1 1 = ⟨false, (a0 ++ (a1 ++ t)), ⟨4, ix, 0, 0, 0, 0, 0⟩, 0⟩ := by
    show (indexF s1).1 = _
    rw [← hs1, indexF_app _ _ _ _ _ h16]
    rfl
  have q2 : sq (flS 4) s1 2 = ⟨false, (a1 ++ t), ⟨4, ix, 0, 0, 0, (smallNo 4 a0 : Nat), 0⟩, 0⟩ := by
    show (whoF (sq (flS 4) s1 1)).1 = _
    rw [q1, whoF_app _ _ _ _ _ h0]
  have q3 : sq (flS 4) s1 3 = ⟨false, t, ⟨4, ix, 0, 0, 0, (smallNo 4 a0 : Nat), IntKind.i64.wrap (smallNo 8 a1 : Nat)⟩, 0⟩ := by
    show (untilF (sq (flS 4) s1 2)).1 = _
    rw [q2, untilF_app _ _ _ _ _ h1]
  refine ⟨q3, ?_⟩
  rw [show (flS 4).length = 3 from rfl, q3]
  constructor
  · rintro ⟨_, hb⟩
    have b1 := hb 2 (by omega)
    change (untilF (sq (flS 4) s1 2)).2 = true at b1
    rw [q2, untilF_app _ _ _ _ _ h1] at b1
    exact b1
  · intro hb
    refine ⟨rfl, fun j hj => ?_⟩
    have b1 := hb
    match j, hj with
    | 0, _ => rfl
    | 1, _ => rfl
    | 2, _ =>
      show (untilF (sq (flS 4) s1 2)).2 = true
      rw [q2, untilF_app _ _ _ _ _ h1]
      exact b1
    | j + 3, hj => omega
set_option maxRecDepth 10000 in
theorem chain_5 (n : Nat) (ix a0 t : List Int) (h16 : (ix.length : Int) = 16) (h0 : (a0.length : Int) = 4) :
    st2 (qs0 (5 :: (ix ++ (a0 ++ t)))) = ⟨false, t, ⟨5, ix, 0, 0, 0, (smallNo 4 a0 : Nat), 0⟩, 0⟩ ∧ ((rd2 n (qs0 (5 :: (ix ++ (a0 ++ t))))).2 = true ↔ True) := by
  rw [rd2_cons n 5 (by omega), st2_cons 5 (by omega)]
  obtain ⟨s1, hs1⟩ : ∃ x : QS, (⟨false, (ix ++ (a0 ++ t)), { rq0 with k := 5 }, 0⟩ : QS) = x := ⟨_, rfl⟩
  rw [hs1]
  have q1 : sq (flS 5) s1 1 = ⟨false, (a0 ++ t), ⟨5, ix, 0, 0, 0, 0, 0⟩, 0⟩ := by
    show (indexF s1).1 = _
    rw [← hs1, indexF_app _ _ _ _ _ h16]
    rfl
  have q2 : sq (flS 5) s1 2 = ⟨false, t, ⟨5, ix, 0, 0, 0, (smallNo 4 a0 : Nat), 0⟩, 0⟩ := by
    show (whoF (sq (flS 5) s1 1)).1 = _
    rw [q1, whoF_app _ _ _ _ _ h0]
  refine ⟨q2, ?_⟩
  rw [show (flS 5).length = 2 from rfl, q2]
  constructor
  · rintro ⟨_, hb⟩
    exact trivial
  · intro hb
    refine ⟨rfl, fun j hj => ?_⟩
    match j, hj with
    | 0, _ => rfl
    | 1, _ => rfl
    | j + 2, hj => omega
theorem g1 (x : Nat) : ((bigL 1 x).length : Int) = 1 := by rw [bigL_length]; rfl
theorem g4 (x : Nat) : ((bigL 4 x).length : Int) = 4 := by rw [bigL_length]; rfl
theorem e1 (x : Nat) (h : x < 256) : smallNo 1 (bigL 1 x) = x := small_bigN 1 x h
theorem e4 (x : Nat) (h : x < 4294967296) : smallNo 4 (bigL 4 x) = x := small_bigN 4 x h
theorem rd1_nil (n : Nat) : (rd1 n (qs0 [])).2 = false := by
  rw [Bool.eq_false_iff]
  intro h
  have := (rd1_iff.1 h).1
  simp [kindF, qs0, QS.adv, okTake] at this
end Go.Proofs.Ytgjadpidoaianaa
namespace Go.Proofs.Ytgjadpidoaianaa.I
open Go Go.RowKit Go.Proofs.Ytgjadpidoaianaa
def HB (w : World) (v : Value) (l : List Int) : Prop :=
  (∃ (p : Option Addr) (c : Nat), v = .slice p l.length c ∧ l.length ≤ c ∧ c ≤ maxLen ∧ (p = none → c = 0) ∧
    (l ≠ [] → ∃ b off, p = some ⟨b, off, none⟩ ∧ ∀ j, j < l.length → w.cell? ⟨b, off + j, none⟩ = some (.int .i64 (l.getD j 0)))) ∧ ∀ x ∈ l, -9223372036854775808 ≤ x ∧ x < 9223372036854775808
theorem HB.open {w : World} {v : Value} {l : List Int} (h : HB w v l) : ∃ (p : Option Addr) (c : Nat), v = .slice p l.length c ∧ l.length ≤ c ∧ c ≤ maxLen := by
  obtain ⟨⟨p, c, h1, h2, h3, _⟩, _⟩ := h
  exact ⟨p, c, h1, h2, h3⟩
theorem HB.ne {w : World} {v : Value} {l : List Int} (h : HB w v l) (hl : 0 < l.length) :
    ∃ b off c, v = .slice (some ⟨b, off, none⟩) l.length c ∧ l.length ≤ c ∧ c ≤ maxLen ∧ ∀ j, j < l.length → w.cell? ⟨b, off + j, none⟩ = some (.int .i64 (l.getD j 0)) := by
  obtain ⟨⟨p, c, h1, h2, h3, _, h4⟩, _⟩ := h
  obtain ⟨b, off, rfl, hc⟩ := h4 (by intro e; subst e; simp at hl)
  exact ⟨b, off, c, h1, h2, h3, hc⟩
theorem HB.byte {w : World} {v : Value} {l : List Int} (h : HB w v l) (j : Nat) : -9223372036854775808 ≤ l.getD j 0 ∧ l.getD j 0 < 9223372036854775808 := by
  by_cases hj : j < l.length
  · have e : l.getD j 0 = l[j] := by simp [List.getD, List.getElem?_eq_getElem hj]
    rw [e]
    exact h.2 _ (List.getElem_mem hj)
  · have e : l.getD j 0 = 0 := by simp [List.getD, List.getElem?_eq_none (by omega : l.length ≤ j)]
    rw [e]; omega
theorem HB.later {w w' : World} {v : Value} {l : List Int} (h : HB w v l) (hc : ∀ a (n : Int), w.cell? a = some (.int .i64 n) → w'.cell? a = some (.int .i64 n)) : HB w' v l := by
  obtain ⟨⟨p, c, h1, h2, h3, h6, h4⟩, h5⟩ := h
  refine ⟨⟨p, c, h1, h2, h3, h6, fun hl => ?_⟩, h5⟩
  obtain ⟨b, off, e, hh⟩ := h4 hl
  exact ⟨b, off, e, fun j hj => hc _ _ (hh j hj)⟩
theorem HB.below {w w' : World} {v : Value} {l : List Int} (h : HB w v l) (hb : Below w.heap.size w w') : HB w' v l :=
  h.later fun a _ hx => (hb.cell (World.block_lt_of_cell? w a hx)).trans hx
theorem HB.drewN {w : World} {v : Value} {l : List Int} (h : HB w v l) (q : Nat) : HB (w.drewN q) v l := h.later fun _ _ hx => hx
theorem HB.of_own {w : World} {B : Nat} {e : TypeId} {v : Value} {l : List Int} (h : w.ownsRow B e 1 v l.length (l.map (Value.int .i64))) (hx : ∀ x ∈ l, -9223372036854775808 ≤ x ∧ x < 9223372036854775808) : HB w v l := by
  refine ⟨?_, hx⟩
  by_cases h0 : 0 < l.length
  · obtain ⟨g, cap, rfl, _, hn, hm, hc⟩ := ownsRow_cells h h0
    refine ⟨_, cap, rfl, hn, hm, (fun e => by cases e), fun _ => ⟨g, 0, rfl, fun j hj => ?_⟩⟩
    exact hc j _ (by simp [List.getD, List.getElem?_eq_getElem hj])
  · have e : l = [] := List.length_eq_zero_iff.1 (by omega)
    subst e
    rcases h.2 with ⟨rfl, _⟩ | ⟨g, cap, cur, rfl, _, _, hn, hm, _⟩
    · exact ⟨none, 0, rfl, Nat.le_refl _, Nat.zero_le _, fun _ => rfl, fun h => absurd rfl h⟩
    · exact ⟨_, cap, rfl, hn, hm, (fun e => by cases e), fun h => absurd rfl h⟩
theorem HB.grown {w w' : World} {v : Value} {l : List Int} {g : Nat} (h : HB w v l) (hg : w.grownBy w' (some g)) (hn : ∀ o sp (n : Int), w.cell? ⟨g, o, sp⟩ ≠ some (.int .i64 n)) : HB w' v l :=
  h.later fun a n hx => hg.cell hx (by
    intro e
    obtain ⟨b, o, sp⟩ := a
    simp only [Option.some.injEq] at e
    subst e
    exact hn o sp n hx)
theorem HB.nil (w : World) : HB w (.slice none 0 0) [] := ⟨⟨none, 0, rfl, Nat.zero_le _, Nat.zero_le _, fun _ => rfl, fun h => absurd rfl h⟩, by simp⟩
theorem HB.dr {w w' : World} {v : Value} {l : List Int} (h : HB w v l) (d : Dr w w') : HB w' v l := h.later fun a _ hx => (d.cell a).trans hx
theorem info_i64 : (Try.prog.info? 3).map (fun i => (i.zero, i.size, i.bytes)) = some (some (.int .i64 0), 1, 8) := by kernel_rfl
theorem size_i64 : ∀ w, Sem.run Try.prog (Go.sizeOf 3) w = .ok 1 w := fun w => by
  obtain ⟨i0, hi, hz0, hz1, hz2⟩ := info_parts info_i64
  simp [Go.sizeOf, typeInfo, hi, hz1]
theorem eql_nil_bytes : ∀ (w : World) (a : Option Addr) (n c n' c' : Nat), (binOp .eql 40 (.slice a n c) (.slice none n' c')).run Try.prog w = .ok (.bool a.isNone) w :=
  fun w a n c n' c' => Lib.run_eql_slice_nil w _ _ a n c n' c' Try.underlying40
theorem take_eq_step (la lb : List Int) (k : Nat) (ha : k < la.length) (hb : k < lb.length) (h : la.take k = lb.take k) (e : la.getD k 0 = lb.getD k 0) : la.take (k + 1) = lb.take (k + 1) := by
  rw [List.take_succ_eq_append_getElem ha, List.take_succ_eq_append_getElem hb, h]
  have e1 : la.getD k 0 = la[k] := by simp [List.getD, List.getElem?_eq_getElem ha]
  have e2 : lb.getD k 0 = lb[k] := by simp [List.getD, List.getElem?_eq_getElem hb]
  rw [e1, e2] at e
  rw [e]
theorem take_ne (la lb : List Int) (k : Nat) (e : la.getD k 0 ≠ lb.getD k 0) : la ≠ lb := fun h => e (by rw [h])
set_option maxHeartbeats 400000 in
theorem sameBytes_any (w : World) (va vb : Value) (la lb : List Int) (ha : HB w va la) (hb : HB w vb lb) :
    Calls Try.prog 10 #[va, vb] w fun e w' => e = .returned (.bool (decide (la = lb))) ∧ Dr w w' := by
  by_cases hlen : la.length = lb.length
  · by_cases h0 : 0 < la.length
    · obtain ⟨b1, o1, c1, rfl, hc1, hm1, hk1⟩ := ha.ne h0
      obtain ⟨b2, o2, c2, rfl, hc2, hm2, hk2⟩ := hb.ne (by omega)
      unfold maxLen at hm1 hm2
      have hm : la.length ≤ 9223372036854775807 := by omega
      have HL : Hid (la.length = lb.length) := hlen
      rw [← hlen]
      have hcd : ∀ j, j < la.length → w.cell? ⟨b2, o2 + j, none⟩ = some (.int .i64 (lb.getD j 0)) := fun j hj => hk2 j (by omega)
      clear hlen hk2
      go_enter Try.func10, Try.ntmps10
      go_wp2
      go_loopw [5] (fun i wr => ∃ k : Nat, k ≤ la.length ∧ i = .int .i64 k ∧ la.take k = lb.take k ∧ Dr w wr) (fun i _ => la.length - (intOf i).toNat)
      case atStart => exact ⟨0, Nat.zero_le _, rfl, rfl, Dr.refl _⟩
      case round =>
        obtain ⟨k, hk, rfl, ht, q, rfl⟩ := hrel
        by_cases hlt : k < la.length
        · have g1 := hk1 k hlt
          have g2 := hcd k hlt
          obtain ⟨x, hx⟩ : ∃ x, la.getD k 0 = x := ⟨_, rfl⟩
          obtain ⟨y, hy⟩ : ∃ y, lb.getD k 0 = y := ⟨_, rfl⟩
          rw [hx] at g1
          rw [hy] at g2
          have HX := hid hx
          have HY := hid hy
          clear hx hy hk1 hcd
          by_cases he : x = y
          · have hne : (x != y) = false := by simpa using he
            have HE := hid he
            clear he
            go_wp2
            go_quiet (fail)
            go_wp2
            exact ⟨⟨k + 1, by omega, by go_num, take_eq_step la lb k hlt (by have := HL.out; omega) ht (by rw [HX.out, HY.out, HE.out]), Dr.one _ _⟩, by simp [intOf]; omega⟩
          · have hne : (x != y) = true := by simpa using he
            go_wp2
            go_quiet (fail)
            go_wp2
            go_ret
            exact ⟨by simp [take_ne la lb k (by rw [HX.out, HY.out]; exact he)], (Dr.one _ _).drewN _⟩
        · go_wp2
          go_ret
          have e : la = lb := by
            have h1 := List.take_of_length_le (show la.length ≤ k by omega)
            have h2 := List.take_of_length_le (show lb.length ≤ k by have := HL.out; omega)
            rw [← h1, ← h2, ht]
          exact ⟨by simp [e], Dr.one _ _⟩
    · obtain ⟨p1, c1, rfl, _, _⟩ := ha.open
      obtain ⟨p2, c2, rfl, _, _⟩ := hb.open
      have e1 : la = [] := List.length_eq_zero_iff.1 (by omega)
      have e2 : lb = [] := List.length_eq_zero_iff.1 (by omega)
      subst e1 e2
      go_enter Try.func10, Try.ntmps10
      go_wp2
      go_loop [5] (fun i => i = .int .i64 0) (fun _ => 0)
      case atStart => rfl
      case round =>
        subst hrel
        go_wp2
        go_ret
        exact ⟨rfl, Dr.refl _⟩
  · obtain ⟨p1, c1, rfl, _, _⟩ := ha.open
    obtain ⟨p2, c2, rfl, _, _⟩ := hb.open
    have hne : ((la.length : Int) != (lb.length : Int)) = true := by rw [bne_iff_ne]; omega
    go_enter Try.func10, Try.ntmps10
    go_wp2
    go_ret
    exact ⟨by simp [show la ≠ lb from fun e => hlen (by rw [e])], Dr.refl _⟩
theorem run_append_byte (w : World) (base : Nat) (ty : TypeId) (v : Value) (n : Nat) (xs : List Value) (hown : w.ownsRow base 3 1 v n xs) (a : Addr) (c : Nat) (x : Int) (hx : w.cell? a = some (.int .i64 x)) (hn : n + 1 ≤ 17592186044416) (hbase : base ≤ w.heap.size) :
    ∃ v' w', (Builtin.append_ #[40, 40] ty #[v, .slice (some a) 1 c]).run Try.prog w = .ok v' w' ∧ w'.ownsRow base 3 1 v' (n + 1) (xs ++ [.int .i64 x]) ∧ w.grownBy w' v.ownBlock ∧
      (v'.ownBlock = v.ownBlock ∨ (v'.ownBlock = some w.heap.size ∧ w.grownBy w' none)) := by
  obtain ⟨i0, hi, hz0, hz1, hz2⟩ := info_parts info_i64
  have hnews : ∀ j u, [Value.int .i64 x][j]? = some u → w.cell? (a.add j) = some u := by
    intro j u hj
    match j, hj with
    | 0, hj => simp at hj; subst hj; simpa [Addr.add] using hx
  have h1 : ∀ u ∈ [Value.int .i64 x], u.oneCell' = true := by intro u hu; simp at hu; subst hu; rfl
  obtain ⟨v', w', hr, h2, h3, _⟩ := run_append_own (P := Try.prog) w base 40 ty 3 i0 (.int .i64 0) 1 8 Try.underlying40 hi hz0 hz1 hz2 rfl (by decide) v n xs hown a 1 c [.int .i64 x] rfl hnews h1 (by unfold maxLen; omega) (by omega) hbase
  refine ⟨v', w', hr, h2, h3, ?_⟩
  rcases hown.2 with ⟨rfl, rfl⟩ | ⟨g, cap, cur, rfl, hbg, hg, hnc, hcm, hcs, htake⟩
  · have hr2 := run_append_nil (P := Try.prog) w 40 ty 3 i0 (.int .i64 0) Try.underlying40 hi hz0 a 1 c [.int .i64 x] (by rw [hz1]; rfl) hnews (by omega) (by omega) (by rw [hz2]; omega)
    rw [hr] at hr2
    simp only [Result.ok.injEq] at hr2
    obtain ⟨rfl, rfl⟩ := hr2
    exact .inr ⟨rfl, ⟨rfl, rfl, rfl, by simp, fun k hk _ => heap_alloc_old w.drew _ hk⟩⟩
  · by_cases hroom : n + 1 ≤ cap
    · obtain ⟨w2, hr2, _⟩ := run_append_fits (P := Try.prog) w base 40 ty 3 i0 1 Try.underlying40 hi hz1 g n cap xs hown a 1 c [.int .i64 x] rfl hnews h1 hroom
      rw [hr] at hr2
      simp only [Result.ok.injEq] at hr2
      obtain ⟨rfl, rfl⟩ := hr2
      exact .inl rfl
    · have hr2 := run_append_grow (P := Try.prog) w 40 ty 3 i0 (.int .i64 0) Try.underlying40 hi hz0 ⟨g, 0, none⟩ n cap xs (by rw [hz1]; exact hown.1) (hown.cells (g := g) rfl) a 1 c [.int .i64 x] (by rw [hz1]; rfl) hnews (by omega) (by omega) (growslice_fits (by omega) (by rw [hz2]; omega))
      rw [hr] at hr2
      simp only [Result.ok.injEq] at hr2
      obtain ⟨rfl, rfl⟩ := hr2
      exact .inr ⟨rfl, ⟨rfl, rfl, rfl, by simp, fun k hk _ => heap_alloc_old w.drew _ hk⟩⟩
theorem wpList_append_byte {w : World} {ops : Array Oper} {rest : List Oper} {o : Oper} {a : Act} {Q : Exit → Act → World → Prop} (hgd : o.guard = none) (s x : Operand)
    (ho : o.op = .call { callee := .builtin .append, args := #[s, x], argTypes := #[40, 40] })
    (base : Nat) (v : Value) (n : Nat) (xs : List Value) (hs : a.eval s = v) (hown : w.ownsRow base 3 1 v n xs)
    (ad : Addr) (c : Nat) (y : Int) (hx : a.eval x = .slice (some ad) 1 c) (hy : w.cell? ad = some (.int .i64 y)) (hn : n + 1 ≤ 17592186044416) (hbase : base ≤ w.heap.size)
    (h : ∀ v' w', w'.ownsRow base 3 1 v' (n + 1) (xs ++ [.int .i64 y]) → w.grownBy w' v.ownBlock → (v'.ownBlock = v.ownBlock ∨ (v'.ownBlock = some w.heap.size ∧ w.grownBy w' none)) → wpList Try.prog ops Q rest (a.put o.dst v') w') : wpList Try.prog ops Q (o :: rest) a w := by
  refine wpList_plain hgd fun K hK => ?_
  obtain ⟨v', w', hr, h2, h3, h4⟩ := run_append_byte w base o.type v n xs hown ad c y hy hn hbase
  unfold Oper.wp execOp
  simp only [ho, resolve, invoke, builtin, Sem.run_bind, Sem.run_pure, Result.andThen_ok, List.map_toArray, List.map_cons, List.map_nil, hs, hx, hr]
  exact hK _ _ (h v' w' h2 h3 h4)
def mkB (k i : Nat) : Int := ((1000003 * (k + 1) + i) % 4611686018427387904 : Nat)
theorem mkB_byt (k i : Nat) : -9223372036854775808 ≤ mkB k i ∧ mkB k i < 9223372036854775808 := by unfold mkB; omega
set_option maxHeartbeats 400000 in
theorem mark_any (w : World) (k i : Nat) (hk : k ≤ 1000000000) (hi : i ≤ 1125899906842624) : Calls Try.prog 35 #[.int .i64 k, .int .i64 i] w fun e w' => e = .returned (.int .i64 (mkB k i)) ∧ w' = w := by
  go_enter Try.func35, Try.ntmps35
  go_wp2
  go_ret
  have e : (1000003 * ((k : Int) + 1) + (i : Int)) = mkB k i := by unfold mkB; omega
  rw [← e]
  exact ⟨rfl, rfl⟩
theorem mark_eq (w : World) (k i : Nat) (a b : Int) (ha : a = (k : Int)) (hb : b = (i : Int)) (hk : k ≤ 1000000000) (hi : i ≤ 1125899906842624) : Calls Try.prog 35 #[.int .i64 a, .int .i64 b] w fun e w' => e = .returned (.int .i64 (mkB k i)) ∧ w' = w := by
  subst ha hb
  exact mark_any w k i hk hi
theorem wrap_succ (k : Nat) (h : k ≤ 1000000000) : IntKind.i64.wrap ((k : Int) + 1) = ((k + 1 : Nat) : Int) := by rw [IntKind.wrap_i64]; omega
def lent (l : List Int) : List Int := l ++ (List.range 70).map fun i => mkB 0 (l.length + i)
def lentTo (l : List Int) (m : Nat) : List Int := l ++ (List.range m).map fun i => mkB 0 (l.length + i)
theorem lent_length (l : List Int) : (lent l).length = l.length + 70 := by simp [lent]
theorem lentTo_succ (l : List Int) (m : Nat) : lentTo l (m + 1) = lentTo l m ++ [mkB 0 (l.length + m)] := by simp [lentTo, List.range_succ]
theorem lent_byt {l : List Int} (h : ∀ x ∈ l, -9223372036854775808 ≤ x ∧ x < 9223372036854775808) : ∀ x ∈ lent l, -9223372036854775808 ≤ x ∧ x < 9223372036854775808 := by
  intro x hx
  unfold lent at hx
  rcases List.mem_append.1 hx with hx | hx
  · exact h x hx
  · obtain ⟨i, _, rfl⟩ := List.mem_map.1 hx
    exact mkB_byt _ _
theorem lent_take (l : List Int) : (lent l).take l.length = l := by simp [lent]
set_option maxHeartbeats 1000000 in
theorem lent_any (w : World) (v : Value) (l : List Int) (h : HB w v l) (hbig : l.length ≤ 17592186043904) :
    Calls Try.prog 23 #[v] w fun e w' => ∃ v', e = .returned v' ∧ w'.ownsRow w.heap.size 3 1 v' (lent l).length ((lent l).map (Value.int .i64)) ∧ Below w.heap.size w w' := by
  obtain ⟨p, c, e, hlc, hm⟩ := h.open
  unfold maxLen at hm
  have A : Hid (0 < l.length → ∃ b off, p = some ⟨b, off, none⟩ ∧ ∀ j, j < l.length → w.cell? ⟨b, off + j, none⟩ = some (.int .i64 (l.getD j 0))) := by
    intro h0
    obtain ⟨b, off, c', e', _, _, hh⟩ := h.ne h0
    rw [e] at e'
    simp only [Value.slice.injEq, true_and] at e'
    exact ⟨b, off, e'.1, hh⟩
  clear h
  subst e
  go_enter Try.func23, Try.ntmps23
  go_wp2
  go_loopw [3, 4] (fun o i wr => ∃ k : Nat, k ≤ l.length ∧ i = .int .i64 k ∧ Hid (wr.ownsRow w.heap.size 3 1 o k ((l.take k).map (Value.int .i64))) ∧ Hid (Below w.heap.size w wr)) (fun _ i _ => l.length - (intOf i).toNat)
  case atStart => exact ⟨0, Nat.zero_le _, rfl, World.ownsRow_nil _ _ _ _, Below.refl _ _⟩
  case round =>
    obtain ⟨k, hk, rfl, HO, HBw⟩ := hrel
    by_cases hlt : k < l.length
    · obtain ⟨b, off, rfl, hh⟩ := A.out (by omega)
      have hu0 := hh k hlt
      have hu := (HBw.out.cell (World.block_lt_of_cell? w _ hu0)).trans hu0
      have HS : Hid (l.take (k + 1) = l.take k ++ [l.getD k 0]) := by
        show _ = _
        rw [List.take_succ_eq_append_getElem hlt, getD_of_lt hlt]
      obtain ⟨x, HX⟩ : ∃ x, Hid (l.getD k 0 = x) := ⟨_, rfl⟩
      rw [HX.out] at hu HS
      clear hh hu0
      go_wp2_with (at_builtin; refine wpList_append_byte rfl _ _ rfl w.heap.size _ k _ rfl (HO.out.alloc _) ⟨wr.heap.size, 0, none⟩ 1 x rfl (by simp) ?q1 ?q2 ?_)
      case q1 => omega
      case q2 => have := HBw.out.size; simp; omega
      intro v' w2 hown2 hgr2 _
      have HO2 : Hid (w2.ownsRow w.heap.size 3 1 v' (k + 1) ((l.take (k + 1)).map (Value.int .i64))) := by
        rw [HS.out, List.map_append, List.map_take]
        exact hown2
      have HB2 := hid ((HBw.out.alloc HBw.out.size _).grown hgr2 (by have := HBw.out.size; simp; omega) (fun k e => (HO.out.lt k e).1))
      clear hown2 hgr2
      go_wp2
      exact ⟨⟨k + 1, by omega, by go_num, HO2, HB2⟩, by simp [intOf]; omega⟩
    · have hkl : k = l.length := by omega
      have HO' : Hid (wr.ownsRow w.heap.size 3 1 u3 (l.length + 0) ((lentTo l 0).map (Value.int .i64))) := by
        show World.ownsRow _ _ _ _ _ _ _
        have := HO.out
        rw [hkl, List.take_of_length_le (Nat.le_refl _)] at this
        simpa [lentTo] using this
      clear hkl
      go_wp2
      go_loopw [3, 5] (fun o i wz => ∃ m : Nat, m ≤ 70 ∧ i = .int .i64 m ∧ Hid (wz.ownsRow w.heap.size 3 1 o (l.length + m) ((lentTo l m).map (Value.int .i64))) ∧ Hid (Below w.heap.size w wz)) (fun _ i _ => 70 - (intOf i).toNat)
      case atStart => exact ⟨0, Nat.zero_le _, rfl, HO', HBw⟩
      case round =>
        clear HO' HBw HO
        obtain ⟨m, hm70, rfl, HO, HBw⟩ := hrel
        by_cases hlt2 : m < 70
        · have hlt3 : (m : Int) < 70 := by omega
          have HS := hid (lentTo_succ l m)
          go_wp2_with fail
          have e1 : ((l.length : Int) + (m : Int)) = ((l.length + m : Nat) : Int) := by omega
          rw [e1]
          refine (mark_any wr 0 (l.length + m) (by omega) (by omega)).mono ?_
          rintro e wz ⟨rfl, hw⟩
          have hw' := hw.symm
          subst hw'
          clear hw e1
          go_wp2_with (at_builtin; refine wpList_append_byte rfl _ _ rfl w.heap.size _ (l.length + m) _ rfl (HO.out.alloc _) ⟨wr.heap.size, 0, none⟩ 1 (mkB 0 (l.length + m)) rfl (by simp) ?q1 ?q2 ?_)
          case q1 => omega
          case q2 => have := HBw.out.size; simp; omega
          intro v' w2 hown2 hgr2 _
          have HO2 : Hid (w2.ownsRow w.heap.size 3 1 v' (l.length + (m + 1)) ((lentTo l (m + 1)).map (Value.int .i64))) := by
            rw [HS.out, List.map_append]
            exact hown2
          have HB2 := hid ((HBw.out.alloc HBw.out.size _).grown hgr2 (by have := HBw.out.size; simp; omega) (fun k e => (HO.out.lt k e).1))
          clear hown2 hgr2
          go_wp2
          exact ⟨⟨m + 1, by omega, by go_num, HO2, HB2⟩, by simp [intOf]; omega⟩
        · have e70 : m = 70 := by omega
          subst e70
          go_wp2
          go_ret
          refine ⟨_, rfl, ?_, HBw.out⟩
          rw [lent_length]
          exact HO.out
set_option maxHeartbeats 400000 in
theorem kept_any (w : World) (vf vl : Value) (fl l : List Int) (hf : HB w vf fl) (hl : HB w vl l) (hbig : l.length ≤ 17592186043904) :
    Calls Try.prog 31 #[vf, vl] w fun e w' => e = .returned (.bool (decide (fl = lent l))) ∧ Below w.heap.size w w' := by
  have HF := hid hf
  have HLl := hid hl
  obtain ⟨p1, c1, rfl, _, _⟩ := hf.open
  obtain ⟨p2, c2, rfl, _, _⟩ := hl.open
  clear hf hl
  go_enter Try.func31, Try.ntmps31
  go_wp2_with fail
  refine (lent_any w _ l HLl.out hbig).mono ?_
  rintro e w1 ⟨v1, rfl, hown, hB⟩
  have H1 := hid (HB.of_own hown (lent_byt HLl.out.2))
  have HF1 := hid (HF.out.below hB)
  have B1 := hid hB
  obtain ⟨p3, c3, e3, _, _⟩ := H1.out.open
  clear hown hB
  subst e3
  obtain ⟨ll, HLL⟩ : ∃ ll, Hid (lent l = ll) := ⟨_, rfl⟩
  rw [HLL.out] at H1 ⊢
  go_wp2_with fail
  refine (sameBytes_any w1 _ _ fl ll HF1.out H1.out).mono ?_
  rintro e w2 ⟨rfl, hD⟩
  have B2 := hid (B1.out.trans (hD.below _))
  obtain ⟨z, HZ⟩ : ∃ z, Hid (decide (fl = ll) = z) := ⟨_, rfl⟩
  rw [HZ.out]
  clear hD
  go_wp2
  go_ret
  exact ⟨by rw [HLL.out, HZ.out]; rfl, B2.out⟩
set_option maxHeartbeats 1000000 in
theorem over_any (w : World) (B : Nat) (v : Value) (n : Nat) (xs : List Value) (h : w.ownsRow B 3 1 v n xs) (hn : n ≤ 17592186044416) :
    Calls Try.prog 33 #[v] w fun e w' => e = .returned (.tuple #[]) ∧ (∃ ys, w'.ownsRow B 3 1 v n ys) ∧ w.grownBy w' v.ownBlock := by
  rcases h.2 with ⟨rfl, rfl⟩ | ⟨g, cap, cur, rfl, hbg, hg, hnc, hcm, hcs, htake⟩
  · go_enter Try.func33, Try.ntmps33
    go_wp2
    go_loop [2] (fun i => i = .int .i64 0) (fun _ => 0)
    case atStart => rfl
    case round =>
      subst hrel
      go_wp2
      go_end0
      exact ⟨rfl, ⟨xs, h⟩, ⟨rfl, rfl, rfl, Nat.le_refl _, fun _ _ _ => rfl⟩⟩
  · have HO := hid h
    clear h hg htake hcs hbg
    unfold maxLen at hcm
    go_enter Try.func33, Try.ntmps33
    go_wp2
    go_loopw [2] (fun i wr => ∃ k : Nat, k ≤ n ∧ i = .int .i64 k ∧ Hid (∃ ys, wr.ownsRow B 3 1 (.slice (some ⟨g, 0, none⟩) n cap) n ys) ∧ Hid (w.grownBy wr (some g))) (fun i _ => n - (intOf i).toNat)
    case atStart => exact ⟨0, Nat.zero_le _, rfl, ⟨_, HO.out⟩, ⟨rfl, rfl, rfl, Nat.le_refl _, fun _ _ _ => rfl⟩⟩
    case round =>
      obtain ⟨k, hk, rfl, HY, HG⟩ := hrel
      by_cases hlt : k < n
      · obtain ⟨ys, hy⟩ := HY.out
        have hc := hy.cellAt k (by omega)
        have hfz := hy.frozenAt k
        obtain ⟨z, hz⟩ : ∃ z, ys[k]? = some z := ⟨_, List.getElem?_eq_getElem (by have := hy.1; omega)⟩
        rw [hz] at hc
        have HYY := hid hy
        clear hz hy
        go_wp2_with fail
        have e1 : ((k : Int) + 3) = ((k + 3 : Nat) : Int) := by omega
        rw [e1]
        refine (mark_any wr 7 (k + 3) (by omega) (by omega)).mono ?_
        rintro e wz ⟨rfl, hw⟩
        have hw' := hw.symm
        subst hw'
        clear hw e1
        go_wp2
        exact ⟨⟨k + 1, by omega, by go_num, ⟨_, (HYY.out.stored k _).1⟩, ⟨HG.out.os, HG.out.tape, HG.out.output, by simpa using HG.out.size, fun i hi hne => by
          rw [heap_setCell_other _ _ _ _ (fun e => hne (by simp [e]))]
          exact HG.out.block i hi hne⟩⟩, by simp [intOf]; omega⟩
      · go_wp2
        go_end0
        exact ⟨rfl, HY.out, HG.out⟩
end Go.Proofs.Ytgjadpidoaianaa.I
namespace Go.Proofs.Ytgjadpidoaianaa
open Go Go.RowKit
def rkB (t : Int) : Bool := decide (1 ≤ t ∧ t ≤ 7)
set_option maxRecDepth 100000 in
set_option maxHeartbeats 4000000 in
theorem isReply_any (w : World) (t : Int) : Calls Try.prog 67 #[.int .u8 t] w fun e w' => e = .returned (.bool (rkB t)) ∧ w' = w := by
  go_enter Try.func67, Try.ntmps67
  go_wp2
  all_goals go_ret
  all_goals (refine ⟨?_, rfl⟩; simp [rkB]; try omega)
def folB (ns : List Int) (x : Int) : Bool := nbB x && (decide (ns.length = 0) || decide (ns.getD (ns.length - 1) 0 < x))
set_option maxRecDepth 100000 in
set_option maxHeartbeats 4000000 in
theorem follows_any (w : World) (v : Value) (ns : List Int) (h : I.HB w v ns) (x : Int) : Calls Try.prog 86 #[v, .int .i64 x] w fun e w' => e = .returned (.bool (folB ns x)) ∧ w' = w := by
  have C := hid (isNumber_any w x)
  have hF : Hid (folB ns x = (nbB x && (decide (ns.length = 0) || decide (ns.getD (ns.length - 1) 0 < x)))) := hid rfl
  obtain ⟨fb, HF⟩ : ∃ b, Hid (folB ns x = b) := ⟨_, hid rfl⟩
  rw [HF.out] at hF ⊢
  clear HF
  obtain ⟨nb, HN⟩ : ∃ b, Hid (nbB x = b) := ⟨_, hid rfl⟩
  rw [HN.out] at C hF
  by_cases h0 : 0 < ns.length
  · obtain ⟨b, off, c, rfl, h1, h2, hh⟩ := h.ne h0
    have hl := hh (ns.length - 1) (by omega)
    have hle : ns.length ≤ 9223372036854775807 := by unfold maxLen at h2; omega
    have hlI : 0 < (ns.length : Int) := by omega
    have hne : ((ns.length : Int) == 0) = false := beq_eq_false_iff_ne.2 (by omega)
    have hw : IntKind.i64.wrap ((ns.length : Int) - 1) = ((ns.length - 1 : Nat) : Int) := by rw [IntKind.wrap_i64]; omega
    have hlt2 : ns.length - 1 < ns.length := by omega
    rw [show (decide (ns.length = 0)) = false from decide_eq_false (by omega)] at hF
    generalize ns.getD (ns.length - 1) 0 = y at hl hF
    clear hh h
    cases nb <;> (
      go_enter Try.func86, Try.ntmps86
      go_wp2_with fail
      refine C.out.mono ?_
      rintro e w' ⟨rfl, hw'⟩
      subst hw'
      go_wp2_with fail
      go_ret
      exact ⟨by rw [hF.out]; simp, rfl⟩)
  · obtain ⟨p, c, rfl, h1, h2⟩ := h.open
    have h00 : ns.length = 0 := by omega
    rw [h00] at hF ⊢
    clear h
    cases nb <;> (
      go_enter Try.func86, Try.ntmps86
      go_wp2_with fail
      refine C.out.mono ?_
      rintro e w' ⟨rfl, hw'⟩
      subst hw'
      go_wp2_with fail
      go_ret
      exact ⟨by rw [hF.out]; simp, rfl⟩)
structure PS where
  f : Bool
  l : List Int
  k : Int
  ns : List Int
  many : Int
  sz : Int
def prL (g n : Nat) (k : Int) (vn vb : Value) (many sz : Int) : List Value := [.pointer (some ⟨g, 0, none⟩), .int .i64 (n : Int), .int .u8 k, vn, vb, .int .i64 many, .int .i64 sz]
abbrev TP : TypeId := 90
theorem TP_ok : TOk TP := ⟨by decide, by decide⟩
def OkP (s : PS) : Prop := (0 ≤ s.many ∧ s.many < 256) ∧ (0 ≤ s.sz ∧ s.sz < 4294967296) ∧ ∀ x ∈ s.ns, 0 ≤ x ∧ x < 256
def PR (B : Nat) (w : World) (R g n : Nat) (s : PS) : Prop := ∃ vn, BR w R g TP (prL g n s.k vn (.slice none 0 0) s.many s.sz) s.f s.l ∧ w.ownsRow B 3 1 vn s.ns.length (s.ns.map (Value.int .i64)) ∧ OkP s ∧ R < B ∧ g < B ∧ (s.ns = [] → vn = .slice none 0 0)
def SB (R g B : Nat) : Nat → Prop := fun k => k = R ∨ k = g ∨ B ≤ k
theorem own_ex {w w' : World} {B : Nat} {e : TypeId} {v : Value} {n : Nat} {xs : List Value} {S : Nat → Prop} (h : w.ownsRow B e 1 v n xs) (hE : Ex S w w') (hS : ∀ k, B ≤ k → k < w.heap.size → ¬ S k) : w'.ownsRow B e 1 v n xs := by
  refine ⟨h.1, h.2.elim .inl fun ⟨gg, cap, cur, z1, z2, z3, z4⟩ => .inr ⟨gg, cap, cur, z1, z2, ?_, z4⟩⟩
  have hlt := (Array.getElem?_eq_some_iff.1 z3).1
  rw [hE.block gg hlt (hS gg z2 hlt)]
  exact z3
theorem own_slice {w : World} {B : Nat} {e : TypeId} {v : Value} {n : Nat} {xs : List Value} (h : w.ownsRow B e 1 v n xs) : ∃ p c, v = .slice p n c := by
  rcases h.2 with ⟨e1, e2⟩ | ⟨gg, cap, cur, e1, _⟩
  · exact ⟨none, 0, by rw [e1, e2]⟩
  · exact ⟨_, _, e1⟩
def kindP (s : PS) : PS × Bool := ({ s with f := s.f || !okTake s.l 1, l := leftAt s.l 1, k := ((smallNo 1 (taken s.l 1) : Nat) : Int) }, rkB ((smallNo 1 (taken s.l 1) : Nat) : Int))
set_option maxRecDepth 100000 in
set_option maxHeartbeats 4000000 in
theorem kindP_any (B : Nat) (w : World) (R g n : Nat) (s : PS) (h : PR B w R g n s) :
    Calls Try.prog 68 #[.pointer (some ⟨R, 0, none⟩)] w fun e w' => e = .returned (.bool (kindP s).2) ∧ PR B w' R g n (kindP s).1 ∧ Ex (RG R g) w w' := by
  obtain ⟨f, l, k, ns, many, sz⟩ := s
  obtain ⟨vn, hB, hown, hok, hRB, hgB, hnil⟩ := h
  simp only at hB hown hnil
  have hx := valL_le 1 (taken l 1) (taken_byt hB.rd.byt 1)
  simp only [kindP]
  have c0 : w.cell? ⟨R, 0, none⟩ = some (.pointer (some ⟨g, 0, none⟩)) := hB.cell rfl
  have C1 := hid (byte_any w g f l hB.rd)
  generalize hX : smallNo 1 (taken l 1) = x at hx C1 ⊢
  clear hX
  obtain ⟨y, HY⟩ : ∃ y : Int, Hid ((x : Int) = y) := ⟨_, hid rfl⟩
  have QE : Hid ((prL g n k vn (.slice none 0 0) many sz).set 2 (Value.int .u8 y) = prL g n y vn (.slice none 0 0) many sz) := hid rfl
  have HB := hid hB
  have HO := hid hok
  have HW := hid hown
  have HRB := hid (And.intro hRB hgB)
  have HNL := hid hnil
  clear hB hok hown hRB hgB hnil
  go_enter Try.func68, Try.ntmps68
  go_wp2_with fail
  refine C1.out.mono ?_
  rintro e w1 ⟨rfl, hr, hg⟩
  have B1 := HB.out.still TP_ok hg hr
  have c1 : w1.cell? ⟨R, 2, none⟩ = some ((prL g n k vn (.slice none 0 0) many sz)[2]'(by simp [prL])) := B1.cell (List.getElem?_eq_getElem _)
  generalize (prL g n k vn (.slice none 0 0) many sz)[2]'_ = u1 at c1
  have f1 := B1.free 2
  have hwr : (x : Int) = y := HY.out
  obtain ⟨P1, P2⟩ := HB.out.put TP_ok hg hr 2 (Value.int .u8 y)
  rw [QE.out] at P1
  have HP1 := hid P1
  have HP2 := hid P2
  have HOW : Hid ((w1.setCell ⟨R, 2, none⟩ (Value.int .u8 y)).ownsRow B 3 1 vn ns.length (ns.map (Value.int .i64))) := hid (own_ex HW.out P2 (fun k hk _ => by have := HRB.out; rintro (e | e) <;> omega))
  clear P1 P2 B1 hr hg C1 HB QE
  rw [hwr]
  clear hwr
  have C2 := hid (isReply_any (w1.setCell ⟨R, 2, none⟩ (Value.int .u8 y)) y)
  go_wp2_with (first | rw [hwr] | fail)
  refine C2.out.mono ?_
  rintro e w2 ⟨rfl, hw2⟩
  have hw3 := hw2.symm
  subst hw3
  clear hw2 C2
  go_wp2_with fail
  go_ret
  rw [HY.out]
  have h0y : 0 ≤ y := by have := HY.out; omega
  refine ⟨rfl, ⟨vn, HP1.out, HOW.out, ?_, HRB.out.1, HRB.out.2, HNL.out⟩, HP2.out⟩
  exact HO.out
def numbersP (s : PS) : PS × Bool := ({ s with f := s.f || !okTake s.l 1, l := leftAt s.l 1, many := ((smallNo 1 (taken s.l 1) : Nat) : Int) }, true)
set_option maxRecDepth 100000 in
set_option maxHeartbeats 4000000 in
theorem numbersP_any (B : Nat) (w : World) (R g n : Nat) (s : PS) (h : PR B w R g n s) :
    Calls Try.prog 87 #[.pointer (some ⟨R, 0, none⟩)] w fun e w' => e = .returned (.bool (numbersP s).2) ∧ PR B w' R g n (numbersP s).1 ∧ Ex (RG R g) w w' := by
  obtain ⟨f, l, k, ns, many, sz⟩ := s
  obtain ⟨vn, hB, hown, hok, hRB, hgB, hnil⟩ := h
  simp only at hB hown hnil
  have hx := valL_le 1 (taken l 1) (taken_byt hB.rd.byt 1)
  simp only [numbersP]
  have c0 : w.cell? ⟨R, 0, none⟩ = some (.pointer (some ⟨g, 0, none⟩)) := hB.cell rfl
  have C1 := hid (byte_any w g f l hB.rd)
  generalize hX : smallNo 1 (taken l 1) = x at hx C1 ⊢
  clear hX
  obtain ⟨y, HY⟩ : ∃ y : Int, Hid ((x : Int) = y) := ⟨_, hid rfl⟩
  have QE : Hid ((prL g n k vn (.slice none 0 0) many sz).set 5 (Value.int .i64 y) = prL g n k vn (.slice none 0 0) y sz) := hid rfl
  have HB := hid hB
  have HO := hid hok
  have HW := hid hown
  have HRB := hid (And.intro hRB hgB)
  have HNL := hid hnil
  clear hB hok hown hRB hgB hnil
  go_enter Try.func87, Try.ntmps87
  go_wp2_with fail
  refine C1.out.mono ?_
  rintro e w1 ⟨rfl, hr, hg⟩
  have B1 := HB.out.still TP_ok hg hr
  have c1 : w1.cell? ⟨R, 5, none⟩ = some ((prL g n k vn (.slice none 0 0) many sz)[5]'(by simp [prL])) := B1.cell (List.getElem?_eq_getElem _)
  generalize (prL g n k vn (.slice none 0 0) many sz)[5]'_ = u1 at c1
  have f1 := B1.free 5
  have hwr : IntKind.i64.wrap (x : Int) = y := by rw [← HY.out]; rw [IntKind.wrap_i64]; have := hx; simp at this; omega
  obtain ⟨P1, P2⟩ := HB.out.put TP_ok hg hr 5 (Value.int .i64 y)
  rw [QE.out] at P1
  have HP1 := hid P1
  have HP2 := hid P2
  have HOW : Hid ((w1.setCell ⟨R, 5, none⟩ (Value.int .i64 y)).ownsRow B 3 1 vn ns.length (ns.map (Value.int .i64))) := hid (own_ex HW.out P2 (fun k hk _ => by have := HRB.out; rintro (e | e) <;> omega))
  clear P1 P2 B1 hr hg C1 HB QE
  go_wp2_with fail
  go_ret
  rw [HY.out]
  have h0y : 0 ≤ y := by have := HY.out; omega
  refine ⟨rfl, ⟨vn, HP1.out, HOW.out, ?_, HRB.out.1, HRB.out.2, HNL.out⟩, HP2.out⟩
  exact ⟨⟨h0y, by have := HY.out; simp at hx; show y < _; omega⟩, HO.out.2⟩
def bytesP (s : PS) : PS × Bool := ({ s with f := s.f || !okTake s.l 4, l := leftAt s.l 4, sz := ((smallNo 4 (taken s.l 4) : Nat) : Int) }, flB ((smallNo 4 (taken s.l 4) : Nat) : Int))
set_option maxRecDepth 100000 in
set_option maxHeartbeats 4000000 in
theorem bytesP_any (B : Nat) (w : World) (R g n : Nat) (s : PS) (h : PR B w R g n s) :
    Calls Try.prog 88 #[.pointer (some ⟨R, 0, none⟩)] w fun e w' => e = .returned (.bool (bytesP s).2) ∧ PR B w' R g n (bytesP s).1 ∧ Ex (RG R g) w w' := by
  obtain ⟨f, l, k, ns, many, sz⟩ := s
  obtain ⟨vn, hB, hown, hok, hRB, hgB, hnil⟩ := h
  simp only at hB hown hnil
  have hx := valL_le 4 (taken l 4) (taken_byt hB.rd.byt 4)
  simp only [bytesP]
  have c0 : w.cell? ⟨R, 0, none⟩ = some (.pointer (some ⟨g, 0, none⟩)) := hB.cell rfl
  have C1 := hid (word_any w g f l hB.rd)
  generalize hX : smallNo 4 (taken l 4) = x at hx C1 ⊢
  clear hX
  obtain ⟨y, HY⟩ : ∃ y : Int, Hid ((x : Int) = y) := ⟨_, hid rfl⟩
  have QE : Hid ((prL g n k vn (.slice none 0 0) many sz).set 6 (Value.int .i64 y) = prL g n k vn (.slice none 0 0) many y) := hid rfl
  have HB := hid hB
  have HO := hid hok
  have HW := hid hown
  have HRB := hid (And.intro hRB hgB)
  have HNL := hid hnil
  clear hB hok hown hRB hgB hnil
  go_enter Try.func88, Try.ntmps88
  go_wp2_with fail
  refine C1.out.mono ?_
  rintro e w1 ⟨rfl, hr, hg⟩
  have B1 := HB.out.still TP_ok hg hr
  have c1 : w1.cell? ⟨R, 6, none⟩ = some ((prL g n k vn (.slice none 0 0) many sz)[6]'(by simp [prL])) := B1.cell (List.getElem?_eq_getElem _)
  generalize (prL g n k vn (.slice none 0 0) many sz)[6]'_ = u1 at c1
  have f1 := B1.free 6
  have hwr : IntKind.i64.wrap (x : Int) = y := by rw [← HY.out]; rw [IntKind.wrap_i64]; have := hx; simp at this; omega
  obtain ⟨P1, P2⟩ := HB.out.put TP_ok hg hr 6 (Value.int .i64 y)
  rw [QE.out] at P1
  have HP1 := hid P1
  have HP2 := hid P2
  have HOW : Hid ((w1.setCell ⟨R, 6, none⟩ (Value.int .i64 y)).ownsRow B 3 1 vn ns.length (ns.map (Value.int .i64))) := hid (own_ex HW.out P2 (fun k hk _ => by have := HRB.out; rintro (e | e) <;> omega))
  clear P1 P2 B1 hr hg C1 HB QE
  have C2 := hid (isFetchLen_any (w1.setCell ⟨R, 6, none⟩ (Value.int .i64 y)) y)
  go_wp2_with (first | rw [hwr] | fail)
  refine C2.out.mono ?_
  rintro e w2 ⟨rfl, hw2⟩
  have hw3 := hw2.symm
  subst hw3
  clear hw2 C2
  go_wp2_with fail
  go_ret
  rw [HY.out]
  have h0y : 0 ≤ y := by have := HY.out; omega
  refine ⟨rfl, ⟨vn, HP1.out, HOW.out, ?_, HRB.out.1, HRB.out.2, HNL.out⟩, HP2.out⟩
  exact ⟨HO.out.1, ⟨h0y, by have := HY.out; simp at hx; show y < _; omega⟩, HO.out.2.2⟩
def numberP (s : PS) : PS × Bool := ({ s with f := s.f || !okTake s.l 1, l := leftAt s.l 1, ns := s.ns ++ [((smallNo 1 (taken s.l 1) : Nat) : Int)] }, folB s.ns ((smallNo 1 (taken s.l 1) : Nat) : Int))
set_option maxRecDepth 100000 in
set_option maxHeartbeats 4000000 in
theorem numberP_any (B : Nat) (w : World) (R g n : Nat) (s : PS) (h : PR B w R g n s) (hm : s.ns.length ≤ 1000) (hBw : B ≤ w.heap.size + 1) :
    Calls Try.prog 72 #[.pointer (some ⟨R, 0, none⟩)] w fun e w' => e = .returned (.bool (numberP s).2) ∧ PR B w' R g n (numberP s).1 ∧ Ex (SB R g B) w w' := by
  obtain ⟨f, l, k, ns, many, sz⟩ := s
  obtain ⟨vn, hB, hown, hok, hRB, hgB, hnil⟩ := h
  simp only at hB hown hm
  have hx := valL_le 1 (taken l 1) (taken_byt hB.rd.byt 1)
  simp only [numberP]
  have c0 : w.cell? ⟨R, 0, none⟩ = some (.pointer (some ⟨g, 0, none⟩)) := hB.cell rfl
  have C1 := hid (byte_any w g f l hB.rd)
  generalize hX : smallNo 1 (taken l 1) = x at hx C1 ⊢
  clear hX
  obtain ⟨y, HY⟩ : ∃ y : Int, Hid ((x : Int) = y) := ⟨_, hid rfl⟩
  have hyb : Hid (0 ≤ y ∧ y < 256) := hid (by have := HY.out; simp at hx; omega)
  have HB := hid hB
  have HO := hid hok
  have HW := hid hown
  have HRB := hid (And.intro hRB hgB)
  have HOn : Hid (∀ x ∈ ns, -9223372036854775808 ≤ x ∧ x < 9223372036854775808) := hid (fun x hx => by have := hok.2.2 x hx; omega)
  obtain ⟨pn, cn, hvn⟩ := own_slice hown
  clear hB hok hown hRB hgB hnil
  go_enter Try.func72, Try.ntmps72
  go_wp2_with fail
  refine C1.out.mono ?_
  rintro e w1 ⟨rfl, hr, hg⟩
  have b1 := HB.out.still TP_ok hg hr
  have hE1 : Ex (RG R g) w w1 := Ex.grown hg (fun k e => .inr (by simpa using e.symm))
  have o1 : w1.ownsRow B 3 1 vn ns.length (ns.map (Value.int .i64)) := own_ex HW.out hE1 (fun k hk _ => by have := HRB.out; rintro (e | e) <;> omega)
  have CF := hid (follows_any w1 vn ns (I.HB.of_own o1 HOn.out) y)
  have c3 : w1.cell? ⟨R, 3, none⟩ = some vn := b1.cell rfl
  have hwr : IntKind.i64.wrap (x : Int) = y := by rw [← HY.out]; rw [IntKind.wrap_i64]; have := hx; simp at this; omega
  have c0' : w1.cell? ⟨R, 0, none⟩ = some (.pointer (some ⟨g, 0, none⟩)) := b1.cell rfl
  obtain ⟨fb, HFB⟩ : ∃ b, Hid (folB ns y = b) := ⟨_, hid rfl⟩
  rw [HFB.out] at CF
  obtain ⟨W2, HW2⟩ : ∃ W : World, Hid (w1.alloc (.cells #[.int .i64 y] 3) = W) := ⟨_, hid rfl⟩
  have B2 : Hid (Below w1.heap.size w1 W2) := by rw [← HW2.out]; exact hid ((Below.refl _ w1).alloc (Nat.le_refl _) _)
  have O2 : Hid (W2.ownsRow B 3 1 vn ns.length (ns.map (Value.int .i64))) := hid (own_ex o1 (Ex.of_below (S := fun _ => False) B2.out) (fun _ _ _ e => e))
  have L2 : Hid (W2.cell? ⟨w1.heap.size, 0, none⟩ = some (.int .i64 y)) := hid (by
    have : W2.heap[w1.heap.size]? = some (.cells #[.int .i64 y] 3 (0, 0)) := by rw [← HW2.out]; exact heap_alloc_new w1 _
    simp [World.cell?, this])
  have b2 := b1.below B2.out
  have c3' : W2.cell? ⟨R, 3, none⟩ = some vn := b2.cell rfl
  have HB2 := hid b2
  have HE1 := hid hE1
  have HS1 : Hid (B ≤ W2.heap.size) := hid (by rw [show W2.heap.size = w1.heap.size + 1 by rw [← HW2.out]; simp]; have := hE1.size; omega)
  subst hvn
  clear hr hg b1 b2 hE1 o1 C1 HB
  go_wp2_with (first | rw [hwr] | fail)
  refine CF.out.mono ?_
  rintro e w1' ⟨rfl, hw1'⟩
  subst hw1'
  go_wp2_with (first | rw [HW2.out] | (at_builtin; refine I.wpList_append_byte rfl _ _ rfl B _ _ _ rfl O2.out _ _ _ rfl L2.out (by omega) HS1.out ?_) | fail)
  intro v3 w3 ho3 hg3 _
  have hown2 : ∀ k, (Value.slice pn ns.length cn).ownBlock = some k → B ≤ k ∧ ∃ cur, W2.heap[k]? = some (.cells cur 3 (0, 0)) := fun k e => by
    rcases O2.out.2 with ⟨e1, e2⟩ | ⟨gg, cap, cur, e1, e2, e3, _⟩
    · rw [e1] at e; cases e
    · rw [e1] at e
      simp only [Value.ownBlock, Option.some.injEq] at e
      subst e
      exact ⟨e2, cur, e3⟩
  have hE3 : Ex (fun k => (Value.slice pn ns.length cn).ownBlock = some k) W2 w3 := Ex.grown hg3 (fun k e => e)
  have b3 : BR w3 R g TP (prL g n k (.slice pn ns.length cn) (.slice none 0 0) many sz) (f || !okTake l 1) (leftAt l 1) := ⟨(hE3.block R (Array.getElem?_eq_some_iff.1 HB2.out.blk).1 (fun e => by have := (hown2 R e).1; have := HRB.out; omega)).trans HB2.out.blk, HB2.out.rd.ex hE3 (fun e => by have := (hown2 g e).1; have := HRB.out; omega) (fun k e _ => by obtain ⟨_, cur, hc⟩ := hown2 k e; exact ⟨_, _, _, hc, by decide⟩)⟩
  have c4 : w3.cell? ⟨R, 3, none⟩ = some (.slice pn ns.length cn) := b3.cell rfl
  have f4 := b3.free 3
  obtain ⟨p3, c3s, hv3⟩ := own_slice ho3
  obtain ⟨P1, P2⟩ := b3.put (f' := f || !okTake l 1) (l' := leftAt l 1) TP_ok (w1 := w3) ⟨rfl, rfl, rfl, Nat.le_refl _, fun _ _ _ => rfl⟩ b3.rd 3 v3
  have HP1 := hid P1
  have QE : Hid ((prL g n k (.slice pn ns.length cn) (.slice none 0 0) many sz).set 3 v3 = prL g n k v3 (.slice none 0 0) many sz) := hid rfl
  rw [QE.out] at HP1
  have E5 : Hid (Ex (SB R g B) w (w3.setCell ⟨R, 3, none⟩ v3)) := hid (((HE1.out.mono (S' := SB R g B) (fun k e => e.elim .inl (fun e => .inr (.inl e)))).trans (Ex.of_below (S := SB R g B) B2.out) (fun _ e => .inl e)).trans ((hE3.mono (S' := SB R g B) (fun k e => .inr (.inr (hown2 k e).1))).trans (P2.mono (S' := SB R g B) (fun k e => e.elim .inl (fun e => .inr (.inl e)))) (fun _ e => .inl e)) (fun _ e => .inl e))
  have HOW : Hid ((w3.setCell ⟨R, 3, none⟩ v3).ownsRow B 3 1 v3 (ns ++ [y]).length ((ns ++ [y]).map (Value.int .i64))) := hid (own_ex (by rw [List.length_append, List.map_append]; exact ho3) P2 (fun k hk _ => by have := HRB.out; rintro (e | e) <;> omega))
  clear P1 P2 QE b3 hE3 hown2 hg3 ho3 CF
  subst hv3
  go_wp2_with fail
  go_ret
  rw [HY.out, HFB.out]
  refine ⟨rfl, ⟨_, HP1.out, HOW.out, ⟨HO.out.1, HO.out.2.1, fun z hz => ?_⟩, HRB.out.1, HRB.out.2, fun e => absurd e (by simp)⟩, E5.out⟩
  rcases List.mem_append.1 hz with hz | hz
  · exact HO.out.2.2 z hz
  · obtain rfl : z = y := by simpa using hz
    exact hyb.out
set_option maxRecDepth 100000 in
theorem andm (m : Nat) (hm : m < 256) : bits BinOp.and IntKind.u64 (m : Int) 4294967295 = (m : Int) := by
  have h : ∀ i : Fin 256, bits BinOp.and IntKind.u64 ((i.val : Nat) : Int) 4294967295 = ((i.val : Nat) : Int) := by decide
  exact h ⟨m, hm⟩
set_option maxRecDepth 100000 in
set_option maxHeartbeats 4000000 in
theorem mul64_one (w : World) (m : Nat) (hm : m < 256) : Calls Try.prog 94 #[.int .u64 1, .int .u64 (m : Int)] w fun e w' => e = .returned (.tuple #[.int .u64 0, .int .u64 (m : Int)]) ∧ w' = w := by
  have bm : bits BinOp.and IntKind.u64 (m : Int) 4294967295 = (m : Int) := andm m hm
  have b1 : bits BinOp.and IntKind.u64 1 4294967295 = 1 := andm 1 (by omega)
  have b0 : bits BinOp.and IntKind.u64 0 4294967295 = 0 := andm 0 (by omega)
  have dm : (m : Int) / 4294967296 = 0 := by omega
  have w0 : IntKind.u64.wrap 0 = 0 := by decide
  have wm : IntKind.u64.wrap (m : Int) = (m : Int) := by rw [IntKind.wrap_u64]; omega
  go_enter Try.func94, Try.ntmps94
  go_wp2
  go_ret2
  simp [b1, bm, dm, b0, w0, wm]
set_option maxRecDepth 100000 in
set_option maxHeartbeats 4000000 in
theorem mul_one (w : World) (m : Nat) (hm : m < 256) : Calls Try.prog 89 #[.int .u64 1, .int .u64 (m : Int)] w fun e w' => e = .returned (.tuple #[.int .u64 0, .int .u64 (m : Int)]) ∧ w' = w := by
  have C := hid (mul64_one w m hm)
  go_enter Try.func89, Try.ntmps89
  go_wp2_with fail
  refine C.out.mono ?_
  rintro e w' ⟨rfl, hw'⟩
  subst hw'
  go_wp2_with fail
  go_ret2
  exact ⟨rfl, rfl⟩
theorem elmF : Try.prog.elem 100 = TF := by kernel_rfl
theorem size_fd : ∀ w, Sem.run Try.prog (Go.sizeOf TF) w = .ok 1 w := fun w => by
  obtain ⟨i0, hi, hz0, hz1, hz2⟩ := info_parts info_fd
  simp [Go.sizeOf, typeInfo, hi, hz1]
theorem size_fd' : (Try.prog.info? TF).map (·.size) = some 1 := by kernel_rfl
theorem slice_lF (W : World) (b n c lo : Nat) (h1 : lo ≤ n) (h2 : n < c ∨ lo < c) (h3 : n ≤ c) : (Instr.slice 100 (.slice (some ⟨b, 0, none⟩) n c) (some (.int .i64 (lo : Int))) none none).run Try.prog W = .ok (.slice (some ⟨b, lo, none⟩) (n - lo) (c - lo)) W := by
  have h := run_slice_l (P := Try.prog) W 100 (some ⟨b, 0, none⟩) n c (by rw [elmF]; exact Try.underlying100) .i64 (lo : Int) (by omega) (by omega)
  rw [h, elmF, size_fd, Result.andThen_ok, Int.toNat_natCast]
  unfold sliced
  rw [Nat.mul_one, if_neg (by omega)]
  simp [Go.WideShapes.add_plain]
theorem slice_hF (W : World) (b n c hi : Nat) (h1 : hi ≤ c) (h2 : 0 < c) : (Instr.slice 100 (.slice (some ⟨b, 0, none⟩) n c) none (some (.int .i64 (hi : Int))) none).run Try.prog W = .ok (.slice (some ⟨b, 0, none⟩) hi c) W := by
  have h := run_slice_h (P := Try.prog) W 100 (some ⟨b, 0, none⟩) n c (by rw [elmF]; exact Try.underlying100) .i64 (hi : Int) (by omega) (by omega)
  rw [h, elmF, size_fd, Result.andThen_ok, Int.toNat_natCast]
  unfold sliced
  rw [if_neg (by omega)]
  simp [Go.WideShapes.add_plain]
theorem yieldsIf_slG {P : Program} {ops : Array Oper} {S : World → Prop} {op : Oper} {a : Act} (hw : Region.wanted op (yielded ops a.tmps) = true) (t : TypeId) (x : Operand) (lo hi : Option Operand) (ht : P.underlying t = some (.slice (P.elem t))) (ho : op.op = .slice t x lo hi none) (vx : Value) (vl vh : Option Value) (hx : a.eval x = vx) (hl : lo.map a.eval = vl) (hh : hi.map a.eval = vh) (v : Value)
    (hr : ∀ w, S w → (Instr.slice t vx vl vh none).run P w = .ok v w) : YieldsIf P ops S op v a :=
  .inl ⟨hw, fun w hS => by
    unfold execOp
    simp only [ho, Sem.run_bind, Option.map_none, hx, hl, hh, run_sliceAt_slice w t _ _ _ _ ht, hr w hS, Result.andThen_ok]
    rfl⟩
def repA (m k : Nat) (c : Value) : List Value := List.replicate k c ++ List.replicate (m - k) Value.nilFunc
theorem repA_len {m k : Nat} (h : k ≤ m) (c : Value) : (repA m k c).length = m := by simp [repA]; omega
theorem repA_step {m k j : Nat} (c : Value) (h : k + j ≤ m) (cs : List Value) (hcs : cs = List.replicate j c) : (repA m k c).take k ++ cs ++ (repA m k c).drop (k + cs.length) = repA m (k + j) c := by
  subst hcs
  have e1 : (repA m k c).take k = List.replicate k c := by simp [repA]
  have e2 : (repA m k c).drop (k + (List.replicate j c).length) = List.replicate (m - (k + j)) Value.nilFunc := by
    simp [repA, List.drop_append]
    omega
  rw [e1, e2]
  simp only [repA, List.replicate_append_replicate]
set_option maxRecDepth 100000 in
set_option maxHeartbeats 8000000 in
theorem repeat_any (w : World) (b m : Nat) (hm : m < 256) (c : Value) (hb : w.heap[b]? = some (.cells #[c] TF (0, 0))) (hc : c.oneCell' = true) :
    Calls Try.prog 71 #[.slice (some ⟨b, 0, none⟩) 1 1, .int .i64 (m : Int)] w fun e w' => e = .returned (.slice (some ⟨w.heap.size, 0, none⟩) m m) ∧ w'.heap[w.heap.size]? = some (.cells (List.replicate m c).toArray TF (0, 0)) ∧ Below w.heap.size w w' := by
  have CM := hid (mul_one w m hm)
  obtain ⟨i0, hi, hz0, hz1, hz2⟩ := info_parts info_fd
  have hblt := (Array.getElem?_eq_some_iff.1 hb).1
  obtain ⟨w1, hmk, hown, hgr⟩ := run_make_full (P := Try.prog) w w.heap.size 100 TF i0 _ 1 Try.underlying100 hi hz0 hz1 .i64 .i64 m (by rw [hz2]; omega) (by unfold maxLen; omega) (Nat.le_refl _)
  have H1 : Hid (w1.heap[w.heap.size]? = some (.cells (repA m 0 c).toArray TF (0, 0))) := hid (by
    rcases hown.2 with ⟨e1, _⟩ | ⟨gg, cap, cur, e1, _, e3, _, _, e4, e5⟩
    · cases e1
    · cases e1
      rw [e3]
      congr 2
      have h6 : cur.toList = (madeCells (Value.cells Value.nilFunc) (m * 1)).toList := by
        rw [← e5, List.take_of_length_le (by simp [e4])]
      have h7 : cur.toList = List.replicate m Value.nilFunc := by
        rw [h6, show Value.cells Value.nilFunc = #[Value.nilFunc] from rfl, toList_madeCells_one, Nat.mul_one]
      rw [← Array.toArray_toList (xs := cur), h7]
      simp [repA])
  have B1 : Hid (Below w.heap.size w w1) := hid ((Below.refl _ w).grown hgr (Nat.le_refl _) (fun k e => by cases e))
  have hw1 : IntKind.u64.wrap (m : Int) = (m : Int) := by rw [IntKind.wrap_u64]; omega
  have hw2 : IntKind.i64.wrap (m : Int) = (m : Int) := by rw [IntKind.wrap_i64]; omega
  obtain ⟨w2, k2, hcp, hk2, hk2', H2, B2⟩ : ∃ (w2 : World) (k : Nat), (Builtin.copy_ #[100, 100] 3 #[.slice (some ⟨w.heap.size, 0, none⟩) m m, .slice (some ⟨b, 0, none⟩) 1 1]).run Try.prog w1 = .ok (.int .i64 (k : Int)) w2 ∧ k ≤ m ∧ (0 < m → 0 < k) ∧ Hid (w2.heap[w.heap.size]? = some (.cells (repA m k c).toArray TF (0, 0))) ∧ Hid (Below w.heap.size w w2) := by
    by_cases h0 : m = 0
    · refine ⟨w1, 0, ?_, by omega, by omega, H1, B1⟩
      have := run_copy_none (P := Try.prog) w1 100 100 3 TF (some ⟨w.heap.size, 0, none⟩) (some ⟨b, 0, none⟩) m m 1 1 Try.underlying100 size_fd' (by rw [h0]; rfl)
      rw [this]
      rfl
    · have hr := run_copy_row Try.prog w1 100 100 3 TF w.heap.size 0 m m ⟨b, 0, none⟩ 1 1 _ TF [c] Try.underlying100 size_fd' H1.out (by show 1 = Nat.min 1 m; exact (Nat.min_eq_left (by omega)).symm) (fun j v hv => by
        have hj : j = 0 := by have := (List.getElem?_eq_some_iff.1 hv).1; simpa using this
        subst hj
        rw [Go.WideShapes.add_plain]
        have h5 : w1.heap[b]? = some (.cells #[c] TF (0, 0)) := (B1.out.block b hblt).trans hb
        simpa [World.cell?, h5] using hv) (by simp [repA_len]; omega) (by simpa using hc)
      have e := repA_step (m := m) (k := 0) (j := 1) c (by omega) [c] rfl
      simp only [List.toList_toArray, List.take_zero, List.nil_append] at hr e
      rw [e] at hr
      refine ⟨_, 1, hr, by omega, by omega, hid (setRow_heap w1 _ _ _ TF _ H1.out), hid (B1.out.trans ⟨rfl, rfl, rfl, by simp [World.setRow], fun k hk => by simp [World.setRow, Array.getElem?_modify, show w.heap.size ≠ k by omega]⟩)⟩
  clear hb hown hgr H1 B1
  have hlt256 : (m : Int) < 256 := by omega
  go_enter Try.func71, Try.ntmps71
  go_wp2_with (first | rw [hw1] | fail)
  refine CM.out.mono ?_
  rintro e w' ⟨rfl, hw'⟩
  subst hw'
  go_wp2_with (first | rw [hw2] | rw [hmk] | rw [hcp] | fail)
  go_loopw [8] (fun i wr => ∃ k : Nat, k ≤ m ∧ i = .int .i64 k ∧ (0 < m → 0 < k) ∧ wr.heap[w'.heap.size]? = some (.cells (repA m k c).toArray TF (0, 0)) ∧ Below w'.heap.size w' wr) (fun i _ => m - (intOf i).toNat)
  case atStart => exact ⟨k2, hk2, rfl, hk2', H2.out, B2.out⟩
  case round =>
    obtain ⟨k, hk, rfl, hk0, hH, hB⟩ := hrel
    clear hmk hcp H2 B2 CM
    by_cases hlt : k < m
    · have hkp := hk0 (by omega)
      have HH := hid hH
      have HBl := hid hB
      have hcr : ∃ (w3 : World) (j : Nat), (Builtin.copy_ #[100, 100] 3 #[.slice (some ⟨w'.heap.size, k, none⟩) (m - k) (m - k), .slice (some ⟨w'.heap.size, 0, none⟩) k m]).run Try.prog (wr.drewN 1) = .ok (.int .i64 (j : Int)) w3 ∧ 0 < j ∧ k + j ≤ m ∧ Hid (w3.heap[w'.heap.size]? = some (.cells (repA m (k + j) c).toArray TF (0, 0))) ∧ Hid (Below w'.heap.size w' w3) := by
        obtain ⟨j, hj, hj1, hj2, hj3⟩ : ∃ j, Nat.min k (m - k) = j ∧ j ≤ k ∧ j ≤ m - k ∧ 0 < j := ⟨_, rfl, Nat.min_le_left _ _, Nat.min_le_right _ _, Nat.lt_min.2 ⟨hkp, by omega⟩⟩
        have hr := run_copy_row Try.prog (wr.drewN 1) 100 100 3 TF w'.heap.size k (m - k) (m - k) ⟨w'.heap.size, 0, none⟩ k m _ TF (List.replicate j c) Try.underlying100 size_fd' (show (wr.drewN 1).heap[w'.heap.size]? = _ from hH) (by simp [hj]) (fun i v hv => by
          have hi : i < j := by have := (List.getElem?_eq_some_iff.1 hv).1; simpa using this
          have hi2 : i < k := by omega
          rw [Go.WideShapes.add_plain, Nat.zero_add]
          have h5 : (wr.drewN 1).heap[w'.heap.size]? = some (.cells (repA m k c).toArray TF (0, 0)) := hH
          simp only [World.cell?, h5]
          simp [repA, List.getElem?_append_left, hi2, List.getElem?_replicate]
          have : c = v := by simpa [List.getElem?_replicate, hi] using hv
          exact this) (by simp only [List.length_replicate, List.size_toArray, repA_len hk]; omega) (fun v hv => by rw [(List.mem_replicate.1 hv).2]; exact hc)
        have e := repA_step (m := m) (k := k) (j := j) c (by omega) _ rfl
        simp only [List.toList_toArray] at hr
        rw [e] at hr
        refine ⟨_, j, hr.trans (by simp [goInt]), hj3, by omega, hid (setRow_heap _ _ _ _ TF _ (show (wr.drewN 1).heap[w'.heap.size]? = _ from hH)), hid ((bel_drewN hB 1).trans ⟨rfl, rfl, rfl, by simp [World.setRow], fun k hk => by simp [World.setRow, Array.getElem?_modify, show w'.heap.size ≠ k by omega]⟩)⟩
      obtain ⟨w3, j, hc3', hj, hkj, H3, B3⟩ := hcr
      have hc3 : (Builtin.copy_ #[100, 100] 3 #[.slice (some ⟨w'.heap.size, k, none⟩) (m - k) (m - k), .slice (some ⟨w'.heap.size, 0, none⟩) k m]).run Try.prog wr.drew = .ok (.int .i64 (j : Int)) w3 := hc3'
      clear hc3'
      have hwj : IntKind.i64.wrap ((k : Int) + (j : Int)) = ((k + j : Nat) : Int) := by rw [IntKind.wrap_i64]; omega
      clear hH hB
      go_wp2_with fail
      refine wp_region_held_drew (S := (fun _ => True)) (by kernel_rfl) trivial (fun hHeld => ?_)
      have HS := hid hHeld
      clear hHeld
      change wpAnyH _ _ _ _ _ _ _ _ (World.drew _)
      refine wpAnyH_take (i := 0) (v := ?_) rfl (by kernel_rfl) (by kernel_rfl) (by kernel_rfl) (fun _ _ _ h => h) (Or.inl ⟨by rfl, ?q0⟩) HS.out ?_
      case q0 => intro w hSw; go_simp; rfl
      simp only [Act.put, List.getElem_toArray, List.getElem_cons_zero, List.getElem_cons_succ, List.setIfInBounds_toArray, List.set_cons_zero, List.set_cons_succ]
      refine wpAnyH_take (i := 1) (v := ?_) rfl (by kernel_rfl) (by kernel_rfl) (by kernel_rfl) (fun _ _ _ h => h) (Or.inl ⟨by rfl, ?q1⟩) HS.out ?_
      case q1 => intro w hSw; go_simp; rfl
      simp only [Act.put, List.getElem_toArray, List.getElem_cons_zero, List.getElem_cons_succ, List.setIfInBounds_toArray, List.set_cons_zero, List.set_cons_succ]
      refine wpAnyH_take (i := 2) (v := ?_) rfl (by kernel_rfl) (by kernel_rfl) (by kernel_rfl) (fun _ _ _ h => h) (Or.inl ⟨by rfl, ?q2⟩) HS.out ?_
      case q2 => intro w hSw; go_simp; rfl
      simp only [Act.put, List.getElem_toArray, List.getElem_cons_zero, List.getElem_cons_succ, List.setIfInBounds_toArray, List.set_cons_zero, List.set_cons_succ]
      refine wpAnyH_take (i := 3) rfl (by kernel_rfl) (by kernel_rfl) (by kernel_rfl) (fun _ _ _ h => h) (yieldsIf_slG (by rfl) 100 _ _ _ (by rw [elmF]; exact Try.underlying100) rfl (.slice (some ⟨w'.heap.size, 0, none⟩) m m) (some (.int .i64 (k : Int))) none rfl rfl rfl _ (fun W _ => slice_lF W w'.heap.size m m k (by omega) (by omega) (by omega))) HS.out ?_
      simp only [Act.put, List.getElem_toArray, List.getElem_cons_zero, List.getElem_cons_succ, List.setIfInBounds_toArray, List.set_cons_zero, List.set_cons_succ]
      refine wpAnyH_take (i := 4) (v := ?_) rfl (by kernel_rfl) (by kernel_rfl) (by kernel_rfl) (fun _ _ _ h => h) (Or.inl ⟨by rfl, ?q4⟩) HS.out ?_
      case q4 => intro w hSw; go_simp; rfl
      simp only [Act.put, List.getElem_toArray, List.getElem_cons_zero, List.getElem_cons_succ, List.setIfInBounds_toArray, List.set_cons_zero, List.set_cons_succ]
      refine wpAnyH_take (i := 5) (v := ?_) rfl (by kernel_rfl) (by kernel_rfl) (by kernel_rfl) (fun _ _ _ h => h) (Or.inl ⟨by rfl, ?q5⟩) HS.out ?_
      case q5 => intro w hSw; go_simp; rfl
      simp only [Act.put, List.getElem_toArray, List.getElem_cons_zero, List.getElem_cons_succ, List.setIfInBounds_toArray, List.set_cons_zero, List.set_cons_succ]
      refine wpAnyH_take (i := 6) rfl (by kernel_rfl) (by kernel_rfl) (by kernel_rfl) (fun _ _ _ h => h) (yieldsIf_slG (by rfl) 100 _ _ _ (by rw [elmF]; exact Try.underlying100) rfl (.slice (some ⟨w'.heap.size, 0, none⟩) m m) none (some (.int .i64 (k : Int))) rfl rfl rfl _ (fun W _ => slice_hF W w'.heap.size m m k (by omega) (by omega))) HS.out ?_
      simp only [Act.put, List.getElem_toArray, List.getElem_cons_zero, List.getElem_cons_succ, List.setIfInBounds_toArray, List.set_cons_zero, List.set_cons_succ]
      refine wpAnyH_ready (rs := [7]) (by kernel_rfl) (by simp) ?_
      refine AllReadyH.cons rfl (fun K hK => ?_) AllReadyH.nil
      replace hK := hid hK
      go_simp
      refine hK.out _ _ trivial (fun _ => ?_)
      clear hK K
      try clear HS
      have HS : Hid True := hid trivial
      refine wpAnyH_take (i := 8) (v := ?_) rfl (by kernel_rfl) (by kernel_rfl) (by kernel_rfl) (fun _ _ _ h => h) (Or.inl ⟨by rfl, ?q8⟩) HS.out ?_
      case q8 => intro w hSw; go_simp; rfl
      simp only [Act.put, List.getElem_toArray, List.getElem_cons_zero, List.getElem_cons_succ, List.setIfInBounds_toArray, List.set_cons_zero, List.set_cons_succ]
      refine wpAnyH_take (i := 9) (v := ?_) rfl (by kernel_rfl) (by kernel_rfl) (by kernel_rfl) (fun _ _ _ h => h) (Or.inl ⟨by rfl, ?q9⟩) HS.out ?_
      case q9 => intro w hSw; go_simp; rfl
      simp only [Act.put, List.getElem_toArray, List.getElem_cons_zero, List.getElem_cons_succ, List.setIfInBounds_toArray, List.set_cons_zero, List.set_cons_succ]
      refine wpAnyH_done (by kernel_rfl) ?_ _
      go_wp2_with fail
      exact ⟨⟨k + j, by omega, rfl, fun _ => by omega, H3.out, B3.out⟩, by simp [intOf]; omega⟩
    · obtain rfl : k = m := by omega
      go_wp2_with fail
      go_ret
      exact ⟨rfl, by simpa [repA] using hH, hB⟩
abbrev Pst := PS → PS × Bool
def sqP (fs : List Pst) (s : PS) : Nat → PS
  | 0 => s
  | k + 1 => ((fs.getD k (fun s => (s, true))) (sqP fs s k)).1
def tkP (n : Nat) (fs : List Pst) (s : PS) : Int × Bool := tkE n fs.length (fun k => (sqP fs s k).f) (fun k => (sqP fs s k).l) (fun k => ((fs.getD k (fun s => (s, true))) (sqP fs s k)).2)
structure RunsP (fid : Nat) (φ : Pst) : Prop where
  run : ∀ B w R g n s, PR B w R g n s → s.ns.length ≤ 1000 → B ≤ w.heap.size + 1 → Calls Try.prog fid #[.pointer (some ⟨R, 0, none⟩)] w fun e w' => e = .returned (.bool (φ s).2) ∧ PR B w' R g n (φ s).1 ∧ Ex (SB R g B) w w'
  less : ∀ s, (φ s).1.l.length ≤ s.l.length
  more : ∀ s, (φ s).1.ns.length ≤ s.ns.length + 1
  ent : ∀ args w, (callFunc fid args).run Try.prog w = .ok (.enter fid args) w
theorem RG_SB {R g B : Nat} {w w' : World} (h : Ex (RG R g) w w') : Ex (SB R g B) w w' := h.mono fun k e => e.elim .inl fun e => .inr (.inl e)
theorem PR.below {B : Nat} {w w' : World} {R g n : Nat} {s : PS} (h : PR B w R g n s) (hb : Below w.heap.size w w') : PR B w' R g n s := by
  obtain ⟨vn, h1, h2, h3⟩ := h
  exact ⟨vn, h1.below hb, own_ex h2 (Ex.of_below (S := fun _ => False) hb) (fun _ _ _ e => e), h3⟩
theorem PR.rebase {B B' : Nat} {w : World} {R g n : Nat} {s : PS} (h : PR B w R g n s) (h0 : s.ns = []) (hR : R < B') (hg : g < B') : PR B' w R g n s := by
  obtain ⟨vn, h1, h2, h3, _, _, h4⟩ := h
  refine ⟨vn, h1, ?_, h3, hR, hg, h4⟩
  rw [h4 h0, h0]
  exact ⟨rfl, .inl ⟨rfl, rfl⟩⟩
theorem PR.lt {B : Nat} {w : World} {R g n : Nat} {s : PS} (h : PR B w R g n s) : R < w.heap.size ∧ g < w.heap.size := by
  obtain ⟨vn, h1, _⟩ := h
  exact h1.lt
theorem PR.rd {B : Nat} {w : World} {R g n : Nat} {s : PS} (h : PR B w R g n s) : RD w g true s.f s.l := by
  obtain ⟨vn, h1, _⟩ := h
  exact h1.rd
theorem PR.ok {B : Nat} {w : World} {R g n : Nat} {s : PS} (h : PR B w R g n s) : OkP s := by
  obtain ⟨vn, _, _, h3, _⟩ := h
  exact h3
theorem runsP_kind : RunsP 68 kindP := ⟨fun B w R g n s h _ _ => (kindP_any B w R g n s h).mono fun e w' ⟨q1, q2, q3⟩ => ⟨q1, q2, RG_SB q3⟩, fun s => leftAt_le _ _, fun s => Nat.le_succ _, fun args w => enters_of Try.func68 (by kernel_rfl) rfl args w⟩
theorem runsP_numbers : RunsP 87 numbersP := ⟨fun B w R g n s h _ _ => (numbersP_any B w R g n s h).mono fun e w' ⟨q1, q2, q3⟩ => ⟨q1, q2, RG_SB q3⟩, fun s => leftAt_le _ _, fun s => Nat.le_succ _, fun args w => enters_of Try.func87 (by kernel_rfl) rfl args w⟩
theorem runsP_bytes : RunsP 88 bytesP := ⟨fun B w R g n s h _ _ => (bytesP_any B w R g n s h).mono fun e w' ⟨q1, q2, q3⟩ => ⟨q1, q2, RG_SB q3⟩, fun s => leftAt_le _ _, fun s => Nat.le_succ _, fun args w => enters_of Try.func88 (by kernel_rfl) rfl args w⟩
theorem runsP_number : RunsP 72 numberP := ⟨fun B w R g n s h h1 h2 => numberP_any B w R g n s h h1 h2, fun s => leftAt_le _ _, fun s => by simp [numberP], fun args w => enters_of Try.func72 (by kernel_rfl) rfl args w⟩
def AllP (ids : List Nat) (fs : List Pst) : Prop := ids.length = fs.length ∧ ∀ k (h1 : k < ids.length) (h2 : k < fs.length), RunsP ids[k] fs[k]
theorem AllP.nil : AllP [] [] := ⟨rfl, fun k h => by simp at h⟩
theorem AllP.cons {i : Nat} {φ : Pst} {ids : List Nat} {fs : List Pst} (h : RunsP i φ) (t : AllP ids fs) : AllP (i :: ids) (φ :: fs) :=
  ⟨by simp [t.1], fun k h1 h2 => by
    cases k with
    | zero => exact h
    | succ k => exact t.2 k (by simpa using h1) (by simpa using h2)⟩
theorem AllP.rep {i : Nat} {φ : Pst} (h : RunsP i φ) (m : Nat) : AllP (List.replicate m i) (List.replicate m φ) :=
  ⟨by simp, fun k h1 h2 => by simpa using h⟩
theorem sqP_le {ids : List Nat} {fs : List Pst} (h : AllP ids fs) (s : PS) : ∀ k, (sqP fs s k).l.length ≤ s.l.length ∧ (sqP fs s k).ns.length ≤ s.ns.length + k
  | 0 => ⟨Nat.le_refl _, Nat.le_refl _⟩
  | k + 1 => by
    unfold sqP
    have ih := sqP_le h s k
    by_cases hk : k < fs.length
    · have e : fs.getD k (fun s => (s, true)) = fs[k] := by simp [List.getD, List.getElem?_eq_getElem hk]
      rw [e]
      have r := h.2 k (by rw [h.1]; exact hk) hk
      exact ⟨Nat.le_trans (r.less _) ih.1, by have := r.more (sqP fs s k); omega⟩
    · have e : fs.getD k (fun s => (s, true)) = (fun s => (s, true)) := by simp [List.getD, List.getElem?_eq_none (show fs.length ≤ k by omega)]
      rw [e]
      exact ⟨ih.1, by simp only; omega⟩
theorem fdsP_of {ids : List Nat} {fs : List Pst} (h : AllP ids fs) (B R g n : Nat) (s : PS) (hs : s.ns.length + fs.length ≤ 1000) :
    Fds R g fs.length (fun k => ids.getD k 0) (SB R g B) (fun k u => PR B u R g n (sqP fs s k) ∧ B ≤ u.heap.size + 1) (fun k => (sqP fs s k).f) (fun k => (sqP fs s k).l) (fun k => ((fs.getD k (fun s => (s, true))) (sqP fs s k)).2) where
  rd := fun k u hu => hu.1.rd
  stay := fun k u u' hu hb => ⟨hu.1.below hb, by have := hb.size; omega⟩
  ask := fun k hk u hu => by
    have e1 : ids.getD k 0 = ids[k]'(by rw [h.1]; exact hk) := by simp [List.getD, List.getElem?_eq_getElem (show k < ids.length by rw [h.1]; exact hk)]
    have e2 : fs.getD k (fun s => (s, true)) = fs[k] := by simp [List.getD, List.getElem?_eq_getElem hk]
    simp only [sqP]
    rw [e1, e2]
    refine ((h.2 k (by rw [h.1]; exact hk) hk).run B u R g n _ hu.1 (by have := (sqP_le h s k).2; omega) hu.2).mono ?_
    rintro e w' ⟨q1, q2, q3⟩
    exact ⟨q1, ⟨q2, by have := q3.size; omega⟩, q3⟩
  ent := fun k hk args w => by
    have e1 : ids.getD k 0 = ids[k]'(by rw [h.1]; exact hk) := by simp [List.getD, List.getElem?_eq_getElem (show k < ids.length by rw [h.1]; exact hk)]
    simp only [e1]
    exact (h.2 k (by rw [h.1]; exact hk) hk).ent args w
theorem takeP_any {ids : List Nat} {fs : List Pst} (h : AllP ids fs) (hm : ids.length ≤ 500) (w : World) (B0 R g n : Nat) (s : PS) (hQ : PR B0 w R g n s) (h0 : s.ns = []) (hn : n ≤ 140737488355328) (hs : s.l.length ≤ n) (p : Option Addr) (c b : Nat) (hp : 0 < ids.length → p = some ⟨b, 0, none⟩) (hnc : ids.length ≤ c) (hcm : c ≤ maxLen) (hb : 0 < ids.length → b < w.heap.size ∧ b ≠ R ∧ b ≠ g) (hc : ∀ k (hk : k < ids.length), w.cell? ⟨b, 0 + k, none⟩ = some (cl R ids[k])) :
    Calls Try.prog 61 #[.agg #[.pointer (some ⟨g, 0, none⟩), .int .i64 (n : Int)], .slice p ids.length c] w fun e w' => e = .returned (.tuple #[.int .i64 (tkP n fs s).1, .bool (tkP n fs s).2]) ∧ PR (w.heap.size + 1) w' R g n (sqP fs s fs.length) ∧ Ex (RG R g) w w' := by
  have hl := hQ.lt
  have hPR := hQ.rebase h0 (B' := w.heap.size + 1) (by omega) (by omega)
  have D := fdsP_of h (w.heap.size + 1) R g n s (by rw [h0, ← h.1]; simp; omega)
  have := takeS_any D w ⟨hPR, Nat.le_refl _⟩ hn (fun k => Nat.le_trans (sqP_le h s k).1 hs) (by rintro (e | e | e) <;> omega) b 0 c p (by rw [← h.1]; exact hp) (by rw [← h.1]; exact hnc) hcm (by rw [← h.1]; omega) (fun q => by
    obtain ⟨q1, q2, q3⟩ := hb (by rw [h.1]; exact q)
    rintro (e | e | e) <;> omega) (fun k hk => by
    have hk' : k < ids.length := by rw [h.1]; exact hk
    rw [hc k hk']
    simp [cl, List.getD, List.getElem?_eq_getElem hk'])
  rw [h.1]
  refine this.mono ?_
  rintro e w' ⟨q1, q2, q3⟩
  refine ⟨q1, q2.1, ⟨q3.os, q3.tape, q3.output, q3.size, fun k hk hn => q3.block k hk ?_⟩⟩
  rintro (e | e | e)
  · exact hn (.inl e)
  · exact hn (.inr e)
  · omega
def flPF (k : Int) : List Nat := if k = 1 then [87] else if k = 5 then [88] else []
def flPS (k : Int) : List Pst := if k = 1 then [numbersP] else if k = 5 then [bytesP] else []
theorem flP_runs (k : Int) : AllP (flPF k) (flPS k) := by
  unfold flPF flPS
  split
  · exact .cons runsP_numbers .nil
  · split
    · exact .cons runsP_bytes .nil
    · exact .nil
theorem flP_len (k : Int) : (flPF k).length ≤ 1 := by unfold flPF; split <;> (try split) <;> simp
set_option maxRecDepth 100000 in
set_option maxHeartbeats 8000000 in
theorem fieldsP_any (w : World) (R : Nat) (k : Int) (hk : w.cell? ⟨R, 2, none⟩ = some (.int .u8 k)) :
    Calls Try.prog 69 #[.pointer (some ⟨R, 0, none⟩)] w fun e w' => ∃ p, e = .returned (.slice p (flPF k).length (flPF k).length) ∧ (0 < (flPF k).length → p = some ⟨w.heap.size, 0, none⟩ ∧ w.heap.size < w'.heap.size) ∧ (∀ j (hj : j < (flPF k).length), w'.cell? ⟨w.heap.size, 0 + j, none⟩ = some (cl R (flPF k)[j])) ∧ Below w.heap.size w w' := by
  by_cases h1 : k = 1
  · subst h1
    have e : flPF 1 = [87] := rfl
    rw [e]
    go_enter Try.func69, Try.ntmps69
    go_wp2_with fail
    go_ret
    refine ⟨_, rfl, fun _ => ⟨rfl, by simp⟩, fun j hj => ?_, (Below.refl _ w).alloc (Nat.le_refl _) _⟩
    have hj0 : j = 0 := by simpa using hj
    subst hj0
    have := heap_alloc_new w (.cells #[cl R 87] TF)
    simp only [World.cell?]
    rw [show (.cells #[Value.func (Fn.func 87) #[.pointer (some ⟨R, 0, none⟩)] #[]] TF : Obj) = .cells #[cl R 87] TF from rfl, this]
    rfl
  · by_cases h5 : k = 5
    · subst h5
      have e : flPF 5 = [88] := rfl
      rw [e]
      go_enter Try.func69, Try.ntmps69
      go_wp2_with fail
      go_ret
      refine ⟨_, rfl, fun _ => ⟨rfl, by simp⟩, fun j hj => ?_, (Below.refl _ w).alloc (Nat.le_refl _) _⟩
      have hj0 : j = 0 := by simpa using hj
      subst hj0
      have := heap_alloc_new w (.cells #[cl R 88] TF)
      simp only [World.cell?]
      rw [show (.cells #[Value.func (Fn.func 88) #[.pointer (some ⟨R, 0, none⟩)] #[]] TF : Obj) = .cells #[cl R 88] TF from rfl, this]
      rfl
    · have e : flPF k = [] := by unfold flPF; rw [if_neg h1, if_neg h5]
      rw [e]
      have b1 : (k == 1) = false := beq_eq_false_iff_ne.2 h1
      have b5 : (k == 5) = false := beq_eq_false_iff_ne.2 h5
      go_enter Try.func69, Try.ntmps69
      go_wp2_with fail
      go_ret
      exact ⟨_, rfl, fun q => absurd q (by simp), fun j hj => absurd hj (by simp), Below.refl _ _⟩
end Go.Proofs.Ytgjadpidoaianaa
