/- wire: what is laid down as a request is read as that request, and nothing else is. -/
import Derived.Test.YtmegeogfpkdodaaWrPut
import Derived.Test.YtmegeogfpkdodaaFrameMath
set_option linter.unusedVariables false
set_option linter.unusedSimpArgs false
namespace Go.Proofs.Ytmegeogfpkdodaa
open Go Go.RowKit

theorem okT_app (a t : List Int) (n : Int) (h : (a.length : Int) = n) : okTake (a ++ t) n = true := okTake_iff.2 ⟨by omega, by simp; omega⟩
theorem taken_app (a t : List Int) (n : Int) (h : (a.length : Int) = n) : taken (a ++ t) n = a := by
  rw [taken, okT_app a t n h, if_pos rfl, show n.toNat = a.length by omega, List.take_left]
theorem left_app (a t : List Int) (n : Int) (h : (a.length : Int) = n) : leftAt (a ++ t) n = t := by
  rw [leftAt, okT_app a t n h, if_pos rfl, show n.toNat = a.length by omega, List.drop_left]
theorem ok_cut {l : List Int} {n : Nat} (h : okTake l (n : Int) = true) : ∃ a t, l = a ++ t ∧ (a.length : Int) = n := by
  have := (okTake_iff.1 h).2
  exact ⟨l.take n, l.drop n, (List.take_append_drop n l).symm, by simp; omega⟩
theorem okT_cons (k : Int) (t : List Int) : okTake (k :: t) 1 = true := okT_app [k] t 1 rfl
theorem taken_cons (k : Int) (t : List Int) : taken (k :: t) 1 = [k] := taken_app [k] t 1 rfl
theorem left_cons (k : Int) (t : List Int) : leftAt (k :: t) 1 = t := left_app [k] t 1 rfl
theorem small1 (k : Int) (h : 0 ≤ k) : ((smallNo 1 [k] : Nat) : Int) = k := by simp [smallNo, valL]; omega
theorem small_of {n : Nat} {a : List Int} (h : (a.length : Int) = n) : smallNo n a = valL a := by unfold smallNo; rw [if_pos (by omega)]
theorem small_bigN (n x : Nat) (h : x < 256 ^ n) : smallNo n (bigL n x) = x := by rw [small_of (by rw [bigL_length]), valL_bigL n x h]
theorem big_small {n : Nat} {a : List Int} (h : (a.length : Int) = n) (hb : ∀ x ∈ a, 0 ≤ x ∧ x < 256) : bigL n (smallNo n a) = a := by
  rw [small_of h]
  have := bigL_valL a hb
  rw [show a.length = n by omega] at this
  exact this
theorem okT_big (n x : Nat) (t : List Int) : okTake (bigL n x ++ t) (n : Int) = true := okT_app _ _ _ (by rw [bigL_length])
theorem taken_big (n x : Nat) (t : List Int) : taken (bigL n x ++ t) (n : Int) = bigL n x := taken_app _ _ _ (by rw [bigL_length])
theorem left_big (n x : Nat) (t : List Int) : leftAt (bigL n x ++ t) (n : Int) = t := left_app _ _ _ (by rw [bigL_length])
/-- take is content where nothing lacks and all may be. -/
theorem tkE_ok {n m : Nat} {f : Nat → Bool} {l : Nat → List Int} {bk : Nat → Bool} : (tkE n m f l bk).2 = true ↔ f m = false ∧ ∀ k, k < m → bk k = true := by
  have hA : ∀ m, (tkA n l bk m).2 = true ↔ ∀ k, k < m → bk k = true := by
    intro m
    induction m with
    | zero => simp [tkA]
    | succ m ih =>
      unfold tkA
      constructor
      · intro h k hk
        split at h
        · simp at h
        · rename_i hc
          have h1 := ih.1 h
          rcases Nat.lt_or_ge k m with h2 | h2
          · exact h1 k h2
          · rw [show k = m by omega]
            rw [h] at hc
            simpa using hc
      · intro h
        rw [if_neg (by rw [h m (by omega)]; simp)]
        exact ih.2 fun k hk => h k (by omega)
  unfold tkE
  cases f m <;> simp [hA m]
theorem rd1_iff {n : Nat} {s : QS} : (rd1 n s).2 = true ↔ (kindF s).1.f = false ∧ (kindF s).2 = true := by
  unfold rd1 tkS
  rw [tkE_ok]
  constructor
  · rintro ⟨h1, h2⟩
    exact ⟨h1, h2 0 (by simp)⟩
  · rintro ⟨h1, h2⟩
    refine ⟨h1, fun k hk => ?_⟩
    have : k = 0 := by simpa using hk
    subst this
    exact h2
theorem rd2_iff {n : Nat} {s : QS} : (rd2 n s).2 = true ↔ (st2 s).f = false ∧ ∀ k, k < (flS (st1 s).r.k).length → (((flS (st1 s).r.k).getD k (fun s => (s, true))) (sq (flS (st1 s).r.k) (st1 s) k)).2 = true := by
  unfold rd2 tkS
  rw [tkE_ok]
  rfl
/-- The steps of a kind, one behind the other. -/
theorem bytL {a t : List Int} (h : ∀ x ∈ a ++ t, 0 ≤ x ∧ x < 256) : (∀ x ∈ a, 0 ≤ x ∧ x < 256) ∧ ∀ x ∈ t, 0 ≤ x ∧ x < 256 := ⟨fun x hx => h x (by simp [hx]), fun x hx => h x (by simp [hx])⟩
theorem qs_eta (s : QS) : s = ⟨s.f, s.l, s.r, s.sz⟩ := rfl
theorem indexF_app (f : Bool) (a t : List Int) (r : Rq) (sz : Int) (h : (a.length : Int) = 16) : indexF ⟨f, a ++ t, r, sz⟩ = (⟨f, t, { r with ix := a }, sz⟩, true) := by
  simp [indexF, QS.adv, okT_app a t 16 h, taken_app a t 16 h, left_app a t 16 h]
theorem indexF_f {s : QS} (h : (indexF s).1.f = false) : s.f = false ∧ ∃ a t, s.l = a ++ t ∧ (a.length : Int) = 16 := by
  have h1 : (s.f || !okTake s.l 16) = false := h
  simp at h1
  exact ⟨h1.1, ok_cut (n := 16) h1.2⟩
theorem numberF_app (f : Bool) (a t : List Int) (r : Rq) (sz : Int) (h : (a.length : Int) = 1) : numberF ⟨f, a ++ t, r, sz⟩ = (⟨f, t, { r with nb := (smallNo 1 a : Nat) }, sz⟩, nbB (smallNo 1 a : Nat)) := by
  simp [numberF, QS.adv, okT_app a t 1 h, taken_app a t 1 h, left_app a t 1 h]
theorem numberF_f {s : QS} (h : (numberF s).1.f = false) : s.f = false ∧ ∃ a t, s.l = a ++ t ∧ (a.length : Int) = 1 := by
  have h1 : (s.f || !okTake s.l 1) = false := h
  simp at h1
  exact ⟨h1.1, ok_cut (n := 1) h1.2⟩
theorem whoF_app (f : Bool) (a t : List Int) (r : Rq) (sz : Int) (h : (a.length : Int) = 4) : whoF ⟨f, a ++ t, r, sz⟩ = (⟨f, t, { r with who := (smallNo 4 a : Nat) }, sz⟩, true) := by
  simp [whoF, QS.adv, okT_app a t 4 h, taken_app a t 4 h, left_app a t 4 h]
theorem whoF_f {s : QS} (h : (whoF s).1.f = false) : s.f = false ∧ ∃ a t, s.l = a ++ t ∧ (a.length : Int) = 4 := by
  have h1 : (s.f || !okTake s.l 4) = false := h
  simp at h1
  exact ⟨h1.1, ok_cut (n := 4) h1.2⟩
theorem untilF_app (f : Bool) (a t : List Int) (r : Rq) (sz : Int) (h : (a.length : Int) = 8) : untilF ⟨f, a ++ t, r, sz⟩ = (⟨f, t, { r with til := IntKind.i64.wrap (smallNo 8 a : Nat) }, sz⟩, tkB (IntKind.i64.wrap (smallNo 8 a : Nat))) := by
  simp [untilF, QS.adv, okT_app a t 8 h, taken_app a t 8 h, left_app a t 8 h]
theorem untilF_f {s : QS} (h : (untilF s).1.f = false) : s.f = false ∧ ∃ a t, s.l = a ++ t ∧ (a.length : Int) = 8 := by
  have h1 : (s.f || !okTake s.l 8) = false := h
  simp at h1
  exact ⟨h1.1, ok_cut (n := 8) h1.2⟩
theorem atF_app (f : Bool) (a t : List Int) (r : Rq) (sz : Int) (h : (a.length : Int) = 4) : atF ⟨f, a ++ t, r, sz⟩ = (⟨f, t, { r with pl := (smallNo 4 a : Nat) }, sz⟩, plB (smallNo 4 a : Nat)) := by
  simp [atF, QS.adv, okT_app a t 4 h, taken_app a t 4 h, left_app a t 4 h]
theorem atF_f {s : QS} (h : (atF s).1.f = false) : s.f = false ∧ ∃ a t, s.l = a ++ t ∧ (a.length : Int) = 4 := by
  have h1 : (s.f || !okTake s.l 4) = false := h
  simp at h1
  exact ⟨h1.1, ok_cut (n := 4) h1.2⟩
theorem lengthF_app (f : Bool) (a t : List Int) (r : Rq) (sz : Int) (h : (a.length : Int) = 4) : lengthF ⟨f, a ++ t, r, sz⟩ = (⟨f, t, { r with ln := (smallNo 4 a : Nat) }, sz⟩, flB (smallNo 4 a : Nat)) := by
  simp [lengthF, QS.adv, okT_app a t 4 h, taken_app a t 4 h, left_app a t 4 h]
theorem lengthF_f {s : QS} (h : (lengthF s).1.f = false) : s.f = false ∧ ∃ a t, s.l = a ++ t ∧ (a.length : Int) = 4 := by
  have h1 : (s.f || !okTake s.l 4) = false := h
  simp at h1
  exact ⟨h1.1, ok_cut (n := 4) h1.2⟩
theorem bytesF_app (f : Bool) (a t : List Int) (r : Rq) (sz : Int) (h : (a.length : Int) = 4) : bytesF ⟨f, a ++ t, r, sz⟩ = (⟨f, t, r, (smallNo 4 a : Nat)⟩, plB (smallNo 4 a : Nat)) := by
  simp [bytesF, QS.adv, okT_app a t 4 h, taken_app a t 4 h, left_app a t 4 h]
theorem bytesF_f {s : QS} (h : (bytesF s).1.f = false) : s.f = false ∧ ∃ a t, s.l = a ++ t ∧ (a.length : Int) = 4 := by
  have h1 : (s.f || !okTake s.l 4) = false := h
  simp at h1
  exact ⟨h1.1, ok_cut (n := 4) h1.2⟩
theorem st1_cons (k : Int) (h0 : 0 ≤ k) (T : List Int) : st1 (qs0 (k :: T)) = ⟨false, T, { rq0 with k := k }, 0⟩ := by
  show (kindF (qs0 (k :: T))).1 = _
  simp [kindF, qs0, QS.adv, okT_cons, taken_cons, left_cons, small1 k h0]
theorem rd1_cons (n : Nat) (k : Int) (h0 : 0 ≤ k) (T : List Int) : (rd1 n (qs0 (k :: T))).2 = kdB k := by
  rw [Bool.eq_iff_iff, rd1_iff]
  have e := st1_cons k h0 T
  have e1 : (kindF (qs0 (k :: T))).1 = ⟨false, T, { rq0 with k := k }, 0⟩ := e
  have e2 : (kindF (qs0 (k :: T))).2 = kdB (kindF (qs0 (k :: T))).1.r.k := rfl
  rw [e2, e1]
  simp
theorem rd2_cons (n : Nat) (k : Int) (h0 : 0 ≤ k) (T : List Int) : (rd2 n (qs0 (k :: T))).2 = true ↔ (sq (flS k) ⟨false, T, { rq0 with k := k }, 0⟩ (flS k).length).f = false ∧ ∀ j, j < (flS k).length → (((flS k).getD j (fun s => (s, true))) (sq (flS k) ⟨false, T, { rq0 with k := k }, 0⟩ j)).2 = true := by
  rw [rd2_iff]
  unfold st2
  rw [st1_cons k h0 T]
theorem st2_cons (k : Int) (h0 : 0 ≤ k) (T : List Int) : st2 (qs0 (k :: T)) = sq (flS k) ⟨false, T, { rq0 with k := k }, 0⟩ (flS k).length := by
  unfold st2
  rw [st1_cons k h0 T]
set_option maxRecDepth 10000 in
theorem chain_1 (n : Nat) (ix t : List Int) (h16 : (ix.length : Int) = 16)  :
    st2 (qs0 (1 :: (ix ++ t))) = ⟨false, t, ⟨1, ix, 0, 0, 0, 0, 0⟩, 0⟩ ∧ ((rd2 n (qs0 (1 :: (ix ++ t)))).2 = true ↔ True) := by
  rw [rd2_cons n 1 (by omega), st2_cons 1 (by omega)]
  obtain ⟨s1, hs1⟩ : ∃ x : QS, (⟨false, (ix ++ t), { rq0 with k := 1 }, 0⟩ : QS) = x := ⟨_, rfl⟩
  rw [hs1]
  have q1 : sq (flS 1) s1 1 = ⟨false, t, ⟨1, ix, 0, 0, 0, 0, 0⟩, 0⟩ := by
    show (indexF s1).1 = _
    rw [← hs1, indexF_app _ _ _ _ _ h16]
    rfl
  refine ⟨q1, ?_⟩
  rw [show (flS 1).length = 1 from rfl, q1]
  constructor
  · rintro ⟨_, hb⟩
    exact trivial
  · intro hb
    refine ⟨rfl, fun j hj => ?_⟩
    match j, hj with
    | 0, _ => rfl
    | j + 1, hj => omega
set_option maxRecDepth 10000 in
theorem inv_1 (n : Nat) (T : List Int) (h : (rd2 n (qs0 (1 :: T))).2 = true) : ∃ ix t : List Int, T = ix ++ t ∧ (ix.length : Int) = 16 := by
  rw [rd2_cons n 1 (by omega)] at h
  have f1 := h.1
  obtain ⟨s1, hs1⟩ : ∃ x : QS, (⟨false, T, { rq0 with k := 1 }, 0⟩ : QS) = x := ⟨_, rfl⟩
  rw [hs1] at f1
  clear h
  change (sq (flS 1) s1 1).f = false at f1
  obtain ⟨-, ix, T0, e0, h16⟩ := indexF_f (s := s1) f1
  rw [← hs1] at e0
  simp only at e0
  subst e0
  exact ⟨ix, T0, rfl, h16⟩
set_option maxRecDepth 10000 in
theorem chain_2 (n : Nat) (ix a0 a1 a2 a3 t : List Int) (h16 : (ix.length : Int) = 16) (h0 : (a0.length : Int) = 1) (h1 : (a1.length : Int) = 4) (h2 : (a2.length : Int) = 8) (h3 : (a3.length : Int) = 4) :
    st2 (qs0 (2 :: (ix ++ (a0 ++ (a1 ++ (a2 ++ (a3 ++ t))))))) = ⟨false, t, ⟨2, ix, (smallNo 1 a0 : Nat), 0, 0, (smallNo 4 a1 : Nat), IntKind.i64.wrap (smallNo 8 a2 : Nat)⟩, (smallNo 4 a3 : Nat)⟩ ∧ ((rd2 n (qs0 (2 :: (ix ++ (a0 ++ (a1 ++ (a2 ++ (a3 ++ t)))))))).2 = true ↔ nbB ((smallNo 1 a0 : Nat)) = true ∧ tkB (IntKind.i64.wrap (smallNo 8 a2 : Nat)) = true ∧ plB ((smallNo 4 a3 : Nat)) = true) := by
  rw [rd2_cons n 2 (by omega), st2_cons 2 (by omega)]
  obtain ⟨s1, hs1⟩ : ∃ x : QS, (⟨false, (ix ++ (a0 ++ (a1 ++ (a2 ++ (a3 ++ t))))), { rq0 with k := 2 }, 0⟩ : QS) = x := ⟨_, rfl⟩
  rw [hs1]
  have q1 : sq (flS 2) s1 1 = ⟨false, (a0 ++ (a1 ++ (a2 ++ (a3 ++ t)))), ⟨2, ix, 0, 0, 0, 0, 0⟩, 0⟩ := by
    show (indexF s1).1 = _
    rw [← hs1, indexF_app _ _ _ _ _ h16]
    rfl
  have q2 : sq (flS 2) s1 2 = ⟨false, (a1 ++ (a2 ++ (a3 ++ t))), ⟨2, ix, (smallNo 1 a0 : Nat), 0, 0, 0, 0⟩, 0⟩ := by
    show (numberF (sq (flS 2) s1 1)).1 = _
    rw [q1, numberF_app _ _ _ _ _ h0]
  have q3 : sq (flS 2) s1 3 = ⟨false, (a2 ++ (a3 ++ t)), ⟨2, ix, (smallNo 1 a0 : Nat), 0, 0, (smallNo 4 a1 : Nat), 0⟩, 0⟩ := by
    show (whoF (sq (flS 2) s1 2)).1 = _
    rw [q2, whoF_app _ _ _ _ _ h1]
  have q4 : sq (flS 2) s1 4 = ⟨false, (a3 ++ t), ⟨2, ix, (smallNo 1 a0 : Nat), 0, 0, (smallNo 4 a1 : Nat), IntKind.i64.wrap (smallNo 8 a2 : Nat)⟩, 0⟩ := by
    show (untilF (sq (flS 2) s1 3)).1 = _
    rw [q3, untilF_app _ _ _ _ _ h2]
  have q5 : sq (flS 2) s1 5 = ⟨false, t, ⟨2, ix, (smallNo 1 a0 : Nat), 0, 0, (smallNo 4 a1 : Nat), IntKind.i64.wrap (smallNo 8 a2 : Nat)⟩, (smallNo 4 a3 : Nat)⟩ := by
    show (bytesF (sq (flS 2) s1 4)).1 = _
    rw [q4, bytesF_app _ _ _ _ _ h3]
  refine ⟨q5, ?_⟩
  rw [show (flS 2).length = 5 from rfl, q5]
  constructor
  · rintro ⟨_, hb⟩
    have b0 := hb 1 (by omega)
    change (numberF (sq (flS 2) s1 1)).2 = true at b0
    rw [q1, numberF_app _ _ _ _ _ h0] at b0
    have b2 := hb 3 (by omega)
    change (untilF (sq (flS 2) s1 3)).2 = true at b2
    rw [q3, untilF_app _ _ _ _ _ h2] at b2
    have b3 := hb 4 (by omega)
    change (bytesF (sq (flS 2) s1 4)).2 = true at b3
    rw [q4, bytesF_app _ _ _ _ _ h3] at b3
    exact ⟨b0, b2, b3⟩
  · intro hb
    refine ⟨rfl, fun j hj => ?_⟩
    obtain ⟨b0, b2, b3⟩ := hb
    match j, hj with
    | 0, _ => rfl
    | 1, _ =>
      show (numberF (sq (flS 2) s1 1)).2 = true
      rw [q1, numberF_app _ _ _ _ _ h0]
      exact b0
    | 2, _ => rfl
    | 3, _ =>
      show (untilF (sq (flS 2) s1 3)).2 = true
      rw [q3, untilF_app _ _ _ _ _ h2]
      exact b2
    | 4, _ =>
      show (bytesF (sq (flS 2) s1 4)).2 = true
      rw [q4, bytesF_app _ _ _ _ _ h3]
      exact b3
    | j + 5, hj => omega
set_option maxRecDepth 10000 in
theorem inv_2 (n : Nat) (T : List Int) (h : (rd2 n (qs0 (2 :: T))).2 = true) : ∃ ix a0 a1 a2 a3 t : List Int, T = ix ++ (a0 ++ (a1 ++ (a2 ++ (a3 ++ t)))) ∧ (ix.length : Int) = 16 ∧ (a0.length : Int) = 1 ∧ (a1.length : Int) = 4 ∧ (a2.length : Int) = 8 ∧ (a3.length : Int) = 4 := by
  rw [rd2_cons n 2 (by omega)] at h
  have f5 := h.1
  obtain ⟨s1, hs1⟩ : ∃ x : QS, (⟨false, T, { rq0 with k := 2 }, 0⟩ : QS) = x := ⟨_, rfl⟩
  rw [hs1] at f5
  clear h
  change (sq (flS 2) s1 5).f = false at f5
  obtain ⟨f4, c4⟩ := bytesF_f (s := sq (flS 2) s1 4) f5
  obtain ⟨f3, c3⟩ := untilF_f (s := sq (flS 2) s1 3) f4
  obtain ⟨f2, c2⟩ := whoF_f (s := sq (flS 2) s1 2) f3
  obtain ⟨f1, c1⟩ := numberF_f (s := sq (flS 2) s1 1) f2
  obtain ⟨-, ix, T0, e0, h16⟩ := indexF_f (s := s1) f1
  rw [← hs1] at e0
  simp only at e0
  subst e0
  have q1 : sq (flS 2) s1 1 = ⟨false, T0, ⟨2, ix, 0, 0, 0, 0, 0⟩, 0⟩ := by
    show (indexF s1).1 = _
    rw [← hs1, indexF_app _ _ _ _ _ h16]
    rfl
  rw [q1] at c1
  obtain ⟨a0, T1, e1, h0⟩ := c1
  simp only at e1
  subst e1
  have q2 : sq (flS 2) s1 2 = ⟨false, T1, ⟨2, ix, (smallNo 1 a0 : Nat), 0, 0, 0, 0⟩, 0⟩ := by
    show (numberF (sq (flS 2) s1 1)).1 = _
    rw [q1, numberF_app _ _ _ _ _ h0]
  rw [q2] at c2
  obtain ⟨a1, T2, e2, h1⟩ := c2
  simp only at e2
  subst e2
  have q3 : sq (flS 2) s1 3 = ⟨false, T2, ⟨2, ix, (smallNo 1 a0 : Nat), 0, 0, (smallNo 4 a1 : Nat), 0⟩, 0⟩ := by
    show (whoF (sq (flS 2) s1 2)).1 = _
    rw [q2, whoF_app _ _ _ _ _ h1]
  rw [q3] at c3
  obtain ⟨a2, T3, e3, h2⟩ := c3
  simp only at e3
  subst e3
  have q4 : sq (flS 2) s1 4 = ⟨false, T3, ⟨2, ix, (smallNo 1 a0 : Nat), 0, 0, (smallNo 4 a1 : Nat), IntKind.i64.wrap (smallNo 8 a2 : Nat)⟩, 0⟩ := by
    show (untilF (sq (flS 2) s1 3)).1 = _
    rw [q3, untilF_app _ _ _ _ _ h2]
  rw [q4] at c4
  obtain ⟨a3, T4, e4, h3⟩ := c4
  simp only at e4
  subst e4
  exact ⟨ix, a0, a1, a2, a3, T4, rfl, h16, h0, h1, h2, h3⟩
set_option maxRecDepth 10000 in
theorem chain_3 (n : Nat) (ix a0 a1 a2 t : List Int) (h16 : (ix.length : Int) = 16) (h0 : (a0.length : Int) = 1) (h1 : (a1.length : Int) = 4) (h2 : (a2.length : Int) = 4) :
    st2 (qs0 (3 :: (ix ++ (a0 ++ (a1 ++ (a2 ++ t)))))) = ⟨false, t, ⟨3, ix, (smallNo 1 a0 : Nat), (smallNo 4 a1 : Nat), (smallNo 4 a2 : Nat), 0, 0⟩, 0⟩ ∧ ((rd2 n (qs0 (3 :: (ix ++ (a0 ++ (a1 ++ (a2 ++ t))))))).2 = true ↔ nbB ((smallNo 1 a0 : Nat)) = true ∧ plB ((smallNo 4 a1 : Nat)) = true ∧ flB ((smallNo 4 a2 : Nat)) = true) := by
  rw [rd2_cons n 3 (by omega), st2_cons 3 (by omega)]
  obtain ⟨s1, hs1⟩ : ∃ x : QS, (⟨false, (ix ++ (a0 ++ (a1 ++ (a2 ++ t)))), { rq0 with k := 3 }, 0⟩ : QS) = x := ⟨_, rfl⟩
  rw [hs1]
  have q1 : sq (flS 3) s1 1 = ⟨false, (a0 ++ (a1 ++ (a2 ++ t))), ⟨3, ix, 0, 0, 0, 0, 0⟩, 0⟩ := by
    show (indexF s1).1 = _
    rw [← hs1, indexF_app _ _ _ _ _ h16]
    rfl
  have q2 : sq (flS 3) s1 2 = ⟨false, (a1 ++ (a2 ++ t)), ⟨3, ix, (smallNo 1 a0 : Nat), 0, 0, 0, 0⟩, 0⟩ := by
    show (numberF (sq (flS 3) s1 1)).1 = _
    rw [q1, numberF_app _ _ _ _ _ h0]
  have q3 : sq (flS 3) s1 3 = ⟨false, (a2 ++ t), ⟨3, ix, (smallNo 1 a0 : Nat), (smallNo 4 a1 : Nat), 0, 0, 0⟩, 0⟩ := by
    show (atF (sq (flS 3) s1 2)).1 = _
    rw [q2, atF_app _ _ _ _ _ h1]
  have q4 : sq (flS 3) s1 4 = ⟨false, t, ⟨3, ix, (smallNo 1 a0 : Nat), (smallNo 4 a1 : Nat), (smallNo 4 a2 : Nat), 0, 0⟩, 0⟩ := by
    show (lengthF (sq (flS 3) s1 3)).1 = _
    rw [q3, lengthF_app _ _ _ _ _ h2]
  refine ⟨q4, ?_⟩
  rw [show (flS 3).length = 4 from rfl, q4]
  constructor
  · rintro ⟨_, hb⟩
    have b0 := hb 1 (by omega)
    change (numberF (sq (flS 3) s1 1)).2 = true at b0
    rw [q1, numberF_app _ _ _ _ _ h0] at b0
    have b1 := hb 2 (by omega)
    change (atF (sq (flS 3) s1 2)).2 = true at b1
    rw [q2, atF_app _ _ _ _ _ h1] at b1
    have b2 := hb 3 (by omega)
    change (lengthF (sq (flS 3) s1 3)).2 = true at b2
    rw [q3, lengthF_app _ _ _ _ _ h2] at b2
    exact ⟨b0, b1, b2⟩
  · intro hb
    refine ⟨rfl, fun j hj => ?_⟩
    obtain ⟨b0, b1, b2⟩ := hb
    match j, hj with
    | 0, _ => rfl
    | 1, _ =>
      show (numberF (sq (flS 3) s1 1)).2 = true
      rw [q1, numberF_app _ _ _ _ _ h0]
      exact b0
    | 2, _ =>
      show (atF (sq (flS 3) s1 2)).2 = true
      rw [q2, atF_app _ _ _ _ _ h1]
      exact b1
    | 3, _ =>
      show (lengthF (sq (flS 3) s1 3)).2 = true
      rw [q3, lengthF_app _ _ _ _ _ h2]
      exact b2
    | j + 4, hj => omega
set_option maxRecDepth 10000 in
theorem inv_3 (n : Nat) (T : List Int) (h : (rd2 n (qs0 (3 :: T))).2 = true) : ∃ ix a0 a1 a2 t : List Int, T = ix ++ (a0 ++ (a1 ++ (a2 ++ t))) ∧ (ix.length : Int) = 16 ∧ (a0.length : Int) = 1 ∧ (a1.length : Int) = 4 ∧ (a2.length : Int) = 4 := by
  rw [rd2_cons n 3 (by omega)] at h
  have f4 := h.1
  obtain ⟨s1, hs1⟩ : ∃ x : QS, (⟨false, T, { rq0 with k := 3 }, 0⟩ : QS) = x := ⟨_, rfl⟩
  rw [hs1] at f4
  clear h
  change (sq (flS 3) s1 4).f = false at f4
  obtain ⟨f3, c3⟩ := lengthF_f (s := sq (flS 3) s1 3) f4
  obtain ⟨f2, c2⟩ := atF_f (s := sq (flS 3) s1 2) f3
  obtain ⟨f1, c1⟩ := numberF_f (s := sq (flS 3) s1 1) f2
  obtain ⟨-, ix, T0, e0, h16⟩ := indexF_f (s := s1) f1
  rw [← hs1] at e0
  simp only at e0
  subst e0
  have q1 : sq (flS 3) s1 1 = ⟨false, T0, ⟨3, ix, 0, 0, 0, 0, 0⟩, 0⟩ := by
    show (indexF s1).1 = _
    rw [← hs1, indexF_app _ _ _ _ _ h16]
    rfl
  rw [q1] at c1
  obtain ⟨a0, T1, e1, h0⟩ := c1
  simp only at e1
  subst e1
  have q2 : sq (flS 3) s1 2 = ⟨false, T1, ⟨3, ix, (smallNo 1 a0 : Nat), 0, 0, 0, 0⟩, 0⟩ := by
    show (numberF (sq (flS 3) s1 1)).1 = _
    rw [q1, numberF_app _ _ _ _ _ h0]
  rw [q2] at c2
  obtain ⟨a1, T2, e2, h1⟩ := c2
  simp only at e2
  subst e2
  have q3 : sq (flS 3) s1 3 = ⟨false, T2, ⟨3, ix, (smallNo 1 a0 : Nat), (smallNo 4 a1 : Nat), 0, 0, 0⟩, 0⟩ := by
    show (atF (sq (flS 3) s1 2)).1 = _
    rw [q2, atF_app _ _ _ _ _ h1]
  rw [q3] at c3
  obtain ⟨a2, T3, e3, h2⟩ := c3
  simp only at e3
  subst e3
  exact ⟨ix, a0, a1, a2, T3, rfl, h16, h0, h1, h2⟩
set_option maxRecDepth 10000 in
theorem chain_4 (n : Nat) (ix a0 a1 t : List Int) (h16 : (ix.length : Int) = 16) (h0 : (a0.length : Int) = 4) (h1 : (a1.length : Int) = 8) :
    st2 (qs0 (4 :: (ix ++ (a0 ++ (a1 ++ t))))) = ⟨false, t, ⟨4, ix, 0, 0, 0, (smallNo 4 a0 : Nat), IntKind.i64.wrap (smallNo 8 a1 : Nat)⟩, 0⟩ ∧ ((rd2 n (qs0 (4 :: (ix ++ (a0 ++ (a1 ++ t)))))).2 = true ↔ tkB (IntKind.i64.wrap (smallNo 8 a1 : Nat)) = true) := by
  rw [rd2_cons n 4 (by omega), st2_cons 4 (by omega)]
  obtain ⟨s1, hs1⟩ : ∃ x : QS, (⟨false, (ix ++ (a0 ++ (a1 ++ t))), { rq0 with k := 4 }, 0⟩ : QS) = x := ⟨_, rfl⟩
  rw [hs1]
  have q1 : sq (flS 4) s1 1 = ⟨false, (a0 ++ (a1 ++ t)), ⟨4, ix, 0, 0, 0, 0, 0⟩, 0⟩ := by
    show (indexF s1).1 = _
    rw [← hs1, indexF_app _ _ _ _ _ h16]
    rfl
  have q2 : sq (flS 4) s1 2 = ⟨false, (a1 ++ t), ⟨4, ix, 0, 0, 0, (smallNo 4 a0 : Nat), 0⟩, 0⟩ := by
    show (whoF (sq (flS 4) s1 1)).1 = _
    rw [q1, whoF_app _ _ _ _ _ h0]
  have q3 : sq (flS 4) s1 3 = ⟨false, t, ⟨4, ix, 0, 0, 0, (smallNo 4 a0 : Nat), IntKind.i64.wrap (smallNo 8 a1 : Nat)⟩, 0⟩ := by
    show (untilF (sq (flS 4) s1 2)).1 = _
    rw [q2, untilF_app _ _ _ _ _ h1]
  refine ⟨q3, ?_⟩
  rw [show (flS 4).length = 3 from rfl, q3]
  constructor
  · rintro ⟨_, hb⟩
    have b1 := hb 2 (by omega)
    change (untilF (sq (flS 4) s1 2)).2 = true at b1
    rw [q2, untilF_app _ _ _ _ _ h1] at b1
    exact b1
  · intro hb
    refine ⟨rfl, fun j hj => ?_⟩
    have b1 := hb
    match j, hj with
    | 0, _ => rfl
    | 1, _ => rfl
    | 2, _ =>
      show (untilF (sq (flS 4) s1 2)).2 = true
      rw [q2, untilF_app _ _ _ _ _ h1]
      exact b1
    | j + 3, hj => omega
set_option maxRecDepth 10000 in
theorem inv_4 (n : Nat) (T : List Int) (h : (rd2 n (qs0 (4 :: T))).2 = true) : ∃ ix a0 a1 t : List Int, T = ix ++ (a0 ++ (a1 ++ t)) ∧ (ix.length : Int) = 16 ∧ (a0.length : Int) = 4 ∧ (a1.length : Int) = 8 := by
  rw [rd2_cons n 4 (by omega)] at h
  have f3 := h.1
  obtain ⟨s1, hs1⟩ : ∃ x : QS, (⟨false, T, { rq0 with k := 4 }, 0⟩ : QS) = x := ⟨_, rfl⟩
  rw [hs1] at f3
  clear h
  change (sq (flS 4) s1 3).f = false at f3
  obtain ⟨f2, c2⟩ := untilF_f (s := sq (flS 4) s1 2) f3
  obtain ⟨f1, c1⟩ := whoF_f (s := sq (flS 4) s1 1) f2
  obtain ⟨-, ix, T0, e0, h16⟩ := indexF_f (s := s1) f1
  rw [← hs1] at e0
  simp only at e0
  subst e0
  have q1 : sq (flS 4) s1 1 = ⟨false, T0, ⟨4, ix, 0, 0, 0, 0, 0⟩, 0⟩ := by
    show (indexF s1).1 = _
    rw [← hs1, indexF_app _ _ _ _ _ h16]
    rfl
  rw [q1] at c1
  obtain ⟨a0, T1, e1, h0⟩ := c1
  simp only at e1
  subst e1
  have q2 : sq (flS 4) s1 2 = ⟨false, T1, ⟨4, ix, 0, 0, 0, (smallNo 4 a0 : Nat), 0⟩, 0⟩ := by
    show (whoF (sq (flS 4) s1 1)).1 = _
    rw [q1, whoF_app _ _ _ _ _ h0]
  rw [q2] at c2
  obtain ⟨a1, T2, e2, h1⟩ := c2
  simp only at e2
  subst e2
  exact ⟨ix, a0, a1, T2, rfl, h16, h0, h1⟩
set_option maxRecDepth 10000 in
theorem chain_5 (n : Nat) (ix a0 t : List Int) (h16 : (ix.length : Int) = 16) (h0 : (a0.length : Int) = 4) :
    st2 (qs0 (5 :: (ix ++ (a0 ++ t)))) = ⟨false, t, ⟨5, ix, 0, 0, 0, (smallNo 4 a0 : Nat), 0⟩, 0⟩ ∧ ((rd2 n (qs0 (5 :: (ix ++ (a0 ++ t))))).2 = true ↔ True) := by
  rw [rd2_cons n 5 (by omega), st2_cons 5 (by omega)]
  obtain ⟨s1, hs1⟩ : ∃ x : QS, (⟨false, (ix ++ (a0 ++ t)), { rq0 with k := 5 }, 0⟩ : QS) = x := ⟨_, rfl⟩
  rw [hs1]
  have q1 : sq (flS 5) s1 1 = ⟨false, (a0 ++ t), ⟨5, ix, 0, 0, 0, 0, 0⟩, 0⟩ := by
    show (indexF s1).1 = _
    rw [← hs1, indexF_app _ _ _ _ _ h16]
    rfl
  have q2 : sq (flS 5) s1 2 = ⟨false, t, ⟨5, ix, 0, 0, 0, (smallNo 4 a0 : Nat), 0⟩, 0⟩ := by
    show (whoF (sq (flS 5) s1 1)).1 = _
    rw [q1, whoF_app _ _ _ _ _ h0]
  refine ⟨q2, ?_⟩
  rw [show (flS 5).length = 2 from rfl, q2]
  constructor
  · rintro ⟨_, hb⟩
    exact trivial
  · intro hb
    refine ⟨rfl, fun j hj => ?_⟩
    match j, hj with
    | 0, _ => rfl
    | 1, _ => rfl
    | j + 2, hj => omega
set_option maxRecDepth 10000 in
theorem inv_5 (n : Nat) (T : List Int) (h : (rd2 n (qs0 (5 :: T))).2 = true) : ∃ ix a0 t : List Int, T = ix ++ (a0 ++ t) ∧ (ix.length : Int) = 16 ∧ (a0.length : Int) = 4 := by
  rw [rd2_cons n 5 (by omega)] at h
  have f2 := h.1
  obtain ⟨s1, hs1⟩ : ∃ x : QS, (⟨false, T, { rq0 with k := 5 }, 0⟩ : QS) = x := ⟨_, rfl⟩
  rw [hs1] at f2
  clear h
  change (sq (flS 5) s1 2).f = false at f2
  obtain ⟨f1, c1⟩ := whoF_f (s := sq (flS 5) s1 1) f2
  obtain ⟨-, ix, T0, e0, h16⟩ := indexF_f (s := s1) f1
  rw [← hs1] at e0
  simp only at e0
  subst e0
  have q1 : sq (flS 5) s1 1 = ⟨false, T0, ⟨5, ix, 0, 0, 0, 0, 0⟩, 0⟩ := by
    show (indexF s1).1 = _
    rw [← hs1, indexF_app _ _ _ _ _ h16]
    rfl
  rw [q1] at c1
  obtain ⟨a0, T1, e1, h0⟩ := c1
  simp only at e1
  subst e1
  exact ⟨ix, a0, T1, rfl, h16, h0⟩
end Go.Proofs.Ytmegeogfpkdodaa
