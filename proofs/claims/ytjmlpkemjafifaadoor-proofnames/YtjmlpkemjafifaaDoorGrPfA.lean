/- Texts laid together: PfM, PfMap, PfKn, PfHold, PfNode. -/
import Derived.Test.YtjmlpkemjafifaaDoorTgEv
import Derived.Test.YtjmlpkemjafifaaDoorTrDig
import Derived.MapKept
import Derived.Test.YtjmlpkemjafifaaDoorTrOwn
import Derived.Laws.Cover3

/- What a proof knows, as plain functions: laying nodes in, rising, what is loose; what follows of them. -/
set_option linter.unusedVariables false
namespace Go.Proofs.YtjmlpkemjafifaaDoor

/-- What is known, by the node's number. -/
abbrev Kn : Type := Nat → Option (List Int)
/-- What is known, and which of it was laid in. -/
structure PS where
  K : Kn
  I : Nat → Bool
def kset (K : Kn) (a : Nat) (d : List Int) : Kn := fun x => if x = a then Option.some d else K x
def iset (I : Nat → Bool) (a : Nat) : Nat → Bool := fun x => if x = a then true else I x
def PS.put (s : PS) (a : Nat) (d : List Int) : PS := ⟨kset s.K a d, iset s.I a⟩
/-- A node held: is it at hand with that digest, and what stands then. -/
def holdB (s : PS) (a : Nat) (d : List Int) : Bool :=
  match s.K a with
  | none => true
  | some e => decide (e = d)
def holdS (s : PS) (a : Nat) (d : List Int) : PS :=
  match s.K a with
  | none => s.put a d
  | some _ => s
/-- The nodes of a list laid in. -/
def layF (W : Nat) : List (Int × List Int) → PS → Int × PS
  | [], s => (0, s)
  | (a, d) :: r, s =>
    if a < 1 ∨ 2 * (W : Int) ≤ a then (120, s)
    else if holdB s a.toNat d = true then layF W r (holdS s a.toNat d) else (121, s)
/-- Is parent x asked, and its children's digests. -/
def askB (s : PS) (x : Nat) : Bool := (s.K (2 * x)).isSome && (s.K (2 * x + 1)).isSome && !((s.K x).isSome && !s.I x && !s.I (2 * x) && !s.I (2 * x + 1))
def kidD (s : PS) (x : Nat) : List Int := ndL ((s.K (2 * x)).getD []) ((s.K (2 * x + 1)).getD [])
/-- From parent x down to the first. -/
def riseF : Nat → PS → Int × PS
  | 0, s => (0, s)
  | x + 1, s =>
    if askB s (x + 1) = true then
      if holdB s (x + 1) (kidD s (x + 1)) = true then riseF x (holdS s (x + 1) (kidD s (x + 1))) else (123, s)
    else riseF x s
/-- Is a node laid in whose brother is not at hand. -/
def looseF (s : PS) : Nat → Bool
  | 0 => false
  | n + 1 => looseF s n || (s.I n && (s.K (n ^^^ 1)).isNone)
def emptyI : Nat → Bool := fun _ => false
def putF (W : Nat) (K : Kn) (ns : List (Int × List Int)) : Int × Kn :=
  let a := layF W ns ⟨K, emptyI⟩
  if a.1 ≠ 0 then (a.1, K)
  else
    let b := riseF (W - 1) a.2
    if b.1 ≠ 0 then (b.1, K)
    else if looseF b.2 (2 * W) = true then (122, K) else (0, b.2.K)
/-- At first: the root, and the pads. -/
def new0 (L W : Nat) (root : List Int) : Kn := fun x => if x = 1 then Option.some root else if W + L ≤ x ∧ x < 2 * W then Option.some (pdL (x - W)) else none
def newF (L W : Nat) (root : List Int) : Kn := (riseF (W - 1) ⟨new0 L W root, emptyI⟩).2.K

/-- Beside what was known stands what was laid in, and nothing else. -/
structure InvS (W : Nat) (K0 : Kn) (s : PS) : Prop where
  inn : ∀ x, s.I x = true → K0 x = none ∧ (s.K x).isSome = true ∧ 1 ≤ x ∧ x < 2 * W
  out : ∀ x, s.I x = false → s.K x = K0 x
theorem InvS.begin (W : Nat) (K : Kn) : InvS W K ⟨K, emptyI⟩ := ⟨fun x h => (by cases h), fun x _ => rfl⟩
theorem InvS.put {W : Nat} {K0 : Kn} {s : PS} (h : InvS W K0 s) {a : Nat} (d : List Int) (h0 : s.K a = none) (h1 : 1 ≤ a) (h2 : a < 2 * W) : InvS W K0 (s.put a d) := by
  constructor
  · intro x hx
    by_cases e : x = a
    · subst e
      refine ⟨?_, by simp [PS.put, kset], h1, h2⟩
      cases hi : s.I x with
      | true => have := (h.inn x hi).2.1; rw [h0] at this; cases this
      | false => rw [← h.out x hi]; exact h0
    · have hx' : s.I x = true := by simpa [PS.put, iset, e] using hx
      have := h.inn x hx'
      refine ⟨this.1, ?_, this.2.2⟩
      simpa [PS.put, kset, e] using this.2.1
  · intro x hx
    by_cases e : x = a
    · subst e; simp [PS.put, iset] at hx
    · have hx' : s.I x = false := by simpa [PS.put, iset, e] using hx
      simpa [PS.put, kset, e] using h.out x hx'
theorem InvS.hold {W : Nat} {K0 : Kn} {s : PS} (h : InvS W K0 s) {a : Nat} (d : List Int) (h1 : 1 ≤ a) (h2 : a < 2 * W) : InvS W K0 (holdS s a d) := by
  unfold holdS
  split
  · rename_i h0; exact h.put d h0 h1 h2
  · exact h
theorem InvS.lay {W : Nat} {K0 : Kn} : ∀ (ns : List (Int × List Int)) (s : PS), InvS W K0 s → InvS W K0 (layF W ns s).2
  | [], s, h => h
  | (a, d) :: r, s, h => by
    unfold layF
    split
    · exact h
    · rename_i hr
      split
      · exact InvS.lay r _ (h.hold d (by omega) (by omega))
      · exact h
theorem InvS.rise {W : Nat} {K0 : Kn} : ∀ (x : Nat) (s : PS), x < W → InvS W K0 s → InvS W K0 (riseF x s).2
  | 0, s, _, h => h
  | x + 1, s, hx, h => by
    unfold riseF
    split
    · split
      · exact InvS.rise x _ (by omega) (h.hold _ (by omega) (by omega))
      · exact h
    · exact InvS.rise x _ (by omega) h
/-- What is known stays. -/
theorem holdS_keeps {s : PS} {a : Nat} {d : List Int} {x : Nat} {e : List Int} (h : s.K x = some e) : (holdS s a d).K x = some e := by
  unfold holdS
  split
  · rename_i h0
    have : x ≠ a := fun q => by subst q; rw [h0] at h; cases h
    simpa [PS.put, kset, this] using h
  · exact h
theorem holdS_other {s : PS} {a : Nat} {d : List Int} {x : Nat} (h : x ≠ a) : (holdS s a d).K x = s.K x ∧ (holdS s a d).I x = s.I x := by
  unfold holdS
  split
  · exact ⟨by simp [PS.put, kset, h], by simp [PS.put, iset, h]⟩
  · exact ⟨rfl, rfl⟩
theorem holdS_has {s : PS} {a : Nat} {d : List Int} (h : holdB s a d = true) : (holdS s a d).K a = some d := by
  unfold holdS
  unfold holdB at h
  split
  · simp [PS.put, kset]
  · rename_i e h0
    rw [h0] at h
    rw [h0, of_decide_eq_true h]
theorem lay_keeps {W : Nat} : ∀ (ns : List (Int × List Int)) (s : PS) (x : Nat) (e : List Int), s.K x = some e → (layF W ns s).2.K x = some e
  | [], s, x, e, h => h
  | (a, d) :: r, s, x, e, h => by
    unfold layF
    split
    · exact h
    · split
      · exact lay_keeps r _ x e (holdS_keeps h)
      · exact h
theorem rise_keeps : ∀ (m : Nat) (s : PS) (x : Nat) (e : List Int), s.K x = some e → (riseF m s).2.K x = some e
  | 0, s, x, e, h => h
  | m + 1, s, x, e, h => by
    unfold riseF
    split
    · split
      · exact rise_keeps m _ x e (holdS_keeps h)
      · exact h
    · exact rise_keeps m _ x e h
/-- All nodes of a list that is laid in are known. -/
theorem lay_has {W : Nat} : ∀ (ns : List (Int × List Int)) (s : PS), (layF W ns s).1 = 0 → ∀ n ∈ ns, 1 ≤ n.1 ∧ n.1 < 2 * W ∧ (layF W ns s).2.K n.1.toNat = some n.2
  | [], s, _, n, hn => by cases hn
  | (a, d) :: r, s, h, n, hn => by
    unfold layF at h ⊢
    split at h
    · cases h
    · rename_i hr
      rw [if_neg hr]
      split at h
      · rename_i hb
        rw [if_pos hb]
        rcases List.mem_cons.1 hn with rfl | hn
        · exact ⟨by simp only; omega, by simp only; omega, lay_keeps r _ _ _ (holdS_has hb)⟩
        · exact lay_has r _ h n hn
      · cases h
/-- Above what rising has reached nothing turns. -/
theorem rise_above : ∀ (m : Nat) (s : PS) (x : Nat), m < x → (riseF m s).2.K x = s.K x ∧ (riseF m s).2.I x = s.I x
  | 0, s, x, _ => ⟨rfl, rfl⟩
  | m + 1, s, x, h => by
    unfold riseF
    split
    · split
      · have a := rise_above m (holdS s (m + 1) (kidD s (m + 1))) x (by omega)
        have b := holdS_other (s := s) (a := m + 1) (d := kidD s (m + 1)) (x := x) (by omega)
        exact ⟨a.1.trans b.1, a.2.trans b.2⟩
      · exact ⟨rfl, rfl⟩
    · exact rise_above m s x (by omega)
/-- Behind rising: who has both children at hand, one of the three laid in, has their digest. -/
theorem rise_right : ∀ (m : Nat) (s : PS), (riseF m s).1 = 0 → ∀ y l r, 1 ≤ y → y ≤ m → (riseF m s).2.K (2 * y) = some l → (riseF m s).2.K (2 * y + 1) = some r →
    ((riseF m s).2.I y = true ∨ (riseF m s).2.I (2 * y) = true ∨ (riseF m s).2.I (2 * y + 1) = true) → (riseF m s).2.K y = some (ndL l r)
  | 0, s, _, y, l, r, h1, h2, _, _, _ => by omega
  | m + 1, s, h, y, l, r, h1, h2, hl, hr, hi => by
    unfold riseF at h hl hr hi ⊢
    by_cases ha : askB s (m + 1) = true
    · rw [if_pos ha] at h hl hr hi ⊢
      by_cases hb : holdB s (m + 1) (kidD s (m + 1)) = true
      · rw [if_pos hb] at h hl hr hi ⊢
        by_cases hy : y ≤ m
        · exact rise_right m _ h y l r h1 hy hl hr hi
        · obtain rfl : y = m + 1 := by omega
          have a1 := rise_above m (holdS s (m + 1) (kidD s (m + 1))) (m + 1) (by omega)
          have a2 := rise_above m (holdS s (m + 1) (kidD s (m + 1))) (2 * (m + 1)) (by omega)
          have a3 := rise_above m (holdS s (m + 1) (kidD s (m + 1))) (2 * (m + 1) + 1) (by omega)
          have b2 := holdS_other (s := s) (a := m + 1) (d := kidD s (m + 1)) (x := 2 * (m + 1)) (by omega)
          have b3 := holdS_other (s := s) (a := m + 1) (d := kidD s (m + 1)) (x := 2 * (m + 1) + 1) (by omega)
          rw [a1.1, holdS_has hb]
          rw [a2.1, b2.1] at hl
          rw [a3.1, b3.1] at hr
          unfold kidD
          rw [hl, hr]
          rfl
      · rw [if_neg hb] at h; cases h
    · rw [if_neg ha] at h hl hr hi ⊢
      by_cases hy : y ≤ m
      · exact rise_right m _ h y l r h1 hy hl hr hi
      · obtain rfl : y = m + 1 := by omega
        have a1 := rise_above m s (m + 1) (by omega)
        have a2 := rise_above m s (2 * (m + 1)) (by omega)
        have a3 := rise_above m s (2 * (m + 1) + 1) (by omega)
        exfalso
        apply ha
        rw [a2.1] at hl
        rw [a3.1] at hr
        rw [a1.2, a2.2, a3.2] at hi
        unfold askB
        rw [hl, hr]
        rcases hi with e | e | e <;> rw [e] <;> simp
theorem loose_none {s : PS} : ∀ (n : Nat), looseF s n = false → ∀ x, x < n → s.I x = true → (s.K (x ^^^ 1)).isSome = true
  | 0, _, x, h, _ => by omega
  | n + 1, h, x, hx, hi => by
    unfold looseF at h
    rw [Bool.or_eq_false_iff] at h
    by_cases e : x = n
    · subst e
      have := h.2
      rw [hi] at this
      cases hk : s.K (x ^^^ 1) with
      | none => rw [hk] at this; cases this
      | some _ => rfl
    · exact loose_none n h.1 x (by omega) hi
/-- Each known node but those of K0 has a brother and a parent that are known, the parent's digest being Node's of the two. -/
def Snd (W : Nat) (K0 K : Kn) : Prop := ∀ x d, 2 ≤ x → x < 2 * W → K x = some d → K0 x = none →
  ∃ b u, K (x ^^^ 1) = some b ∧ K (x / 2) = some u ∧ u = if x % 2 = 1 then ndL b d else ndL d b
def Sub (K K' : Kn) : Prop := ∀ x e, K x = some e → K' x = some e
theorem Sub.refl (K : Kn) : Sub K K := fun _ _ h => h
theorem Sub.trans {A B C : Kn} (h : Sub A B) (k : Sub B C) : Sub A C := fun x e q => k x e (h x e q)
theorem xor1 (x : Nat) : x ^^^ 1 = if x % 2 = 1 then x - 1 else x + 1 := by
  have h1 : (x ^^^ 1) / 2 = x / 2 := by simpa using Nat.xor_div_two_pow (a := x) (b := 1) (n := 1)
  have h2 : (x ^^^ 1) % 2 = (x % 2) ^^^ 1 := by simpa using Nat.xor_mod_two_pow (a := x) (b := 1) (n := 1)
  rcases Nat.mod_two_eq_zero_or_one x with e | e
  · rw [e] at h2
    rw [if_neg (by omega)]
    have h3 : (0 ^^^ 1 : Nat) = 1 := by decide
    omega
  · rw [e] at h2
    rw [if_pos e]
    have h3 : (1 ^^^ 1 : Nat) = 0 := by decide
    omega
theorem put_sub (W : Nat) (K : Kn) (ns : List (Int × List Int)) : Sub K (putF W K ns).2 := by
  intro x e h
  unfold putF
  simp only
  split
  · exact h
  · split
    · exact h
    · split
      · exact h
      · exact rise_keeps _ _ x e (lay_keeps ns _ x e h)
theorem put_refused {W : Nat} {K : Kn} {ns : List (Int × List Int)} (h : (putF W K ns).1 ≠ 0) : (putF W K ns).2 = K := by
  unfold putF at h ⊢
  simp only at h ⊢
  split
  · rfl
  · rename_i h1
    rw [if_neg h1] at h
    split
    · rfl
    · rename_i h2
      rw [if_neg h2] at h
      split
      · rfl
      · rename_i h3
        rw [if_neg h3] at h
        exact absurd rfl h
theorem put_has {W : Nat} {K : Kn} {ns : List (Int × List Int)} (h : (putF W K ns).1 = 0) : ∀ n ∈ ns, 1 ≤ n.1 ∧ n.1 < 2 * W ∧ (putF W K ns).2 n.1.toNat = some n.2 := by
  intro n hn
  unfold putF at h ⊢
  simp only at h ⊢
  split
  · rename_i h1; rw [if_pos h1] at h; exact absurd h h1
  · rename_i h1
    rw [if_neg h1] at h
    split
    · rename_i h2; rw [if_pos h2] at h; exact absurd h h2
    · rename_i h2
      rw [if_neg h2] at h
      split
      · rename_i h3; rw [if_pos h3] at h; cases h
      · have := lay_has ns _ (by simpa using h1) n hn
        exact ⟨this.1, this.2.1, rise_keeps _ _ _ _ this.2.2⟩
theorem put_sound {W : Nat} {K0 K : Kn} {ns : List (Int × List Int)} (hW : 1 ≤ W) (h0 : Sub K0 K) (h1 : (K 1).isSome = true) (h : Snd W K0 K) : Snd W K0 (putF W K ns).2 := by
  refine Classical.byCases (p := (putF W K ns).1 ≠ 0) (fun he => by rw [put_refused he]; exact h) fun he => ?_
  have he : (putF W K ns).1 = 0 := Classical.not_not.1 he
  have hsub := put_sub W K ns
  unfold putF at he hsub ⊢
  simp only at he hsub ⊢
  split
  · exact h
  · rename_i e1
    rw [if_neg e1] at he hsub
    split
    · exact h
    · rename_i e2
      rw [if_neg e2] at he hsub
      split
      · exact h
      · rename_i e3
        rw [if_neg e3] at hsub
        have e2' : (riseF (W - 1) (layF W ns ⟨K, emptyI⟩).2).1 = 0 := by simpa using e2
        have e3' : looseF (riseF (W - 1) (layF W ns ⟨K, emptyI⟩).2).2 (2 * W) = false := by simpa using e3
        have hinv := InvS.rise (W - 1) _ (by omega) (InvS.lay ns _ (InvS.begin W K))
        have hri := rise_right _ _ e2'
        have hlo := loose_none _ e3'
        simp only at hsub
        generalize (riseF (W - 1) (layF W ns ⟨K, emptyI⟩).2).2 = s at *
        intro x d hx2 hxW hk hk0
        simp only at hk ⊢
        cases hi : s.I x with
        | false =>
          rw [hinv.out x hi] at hk
          obtain ⟨b, u, q1, q2, q3⟩ := h x d hx2 hxW hk hk0
          exact ⟨b, u, hsub _ _ q1, hsub _ _ q2, q3⟩
        | true =>
          have hb := hlo x hxW hi
          obtain ⟨b, hb⟩ := Option.isSome_iff_exists.1 hb
          refine ⟨b, _, hb, ?_, rfl⟩
          rw [xor1] at hb
          by_cases hp : x % 2 = 1
          · rw [if_pos hp] at hb ⊢
            have := hri (x / 2) b d (by omega) (by omega) (by rw [show 2 * (x / 2) = x - 1 by omega]; exact hb) (by rw [show 2 * (x / 2) + 1 = x by omega]; exact hk) (Or.inr (Or.inr (by rw [show 2 * (x / 2) + 1 = x by omega]; exact hi)))
            exact this
          · rw [if_neg hp] at hb ⊢
            have := hri (x / 2) d b (by omega) (by omega) (by rw [show 2 * (x / 2) = x by omega]; exact hk) (by rw [show 2 * (x / 2) + 1 = x + 1 by omega]; exact hb) (Or.inr (Or.inl (by rw [show 2 * (x / 2) = x by omega]; exact hi)))
            exact this
/-- What a new proof knows. -/
theorem new_root (L W : Nat) (root : List Int) : newF L W root 1 = some root := rise_keeps _ _ 1 root (by simp [new0])
theorem rise_new : ∀ (m : Nat) (s : PS) (x : Nat), (riseF m s).2.K x ≠ none → s.K x ≠ none ∨ (x ≤ m ∧ (riseF m s).2.K (2 * x) ≠ none ∧ (riseF m s).2.K (2 * x + 1) ≠ none)
  | 0, s, x, h => Or.inl h
  | m + 1, s, x, h => by
    unfold riseF at h ⊢
    by_cases ha : askB s (m + 1) = true
    · rw [if_pos ha] at h ⊢
      by_cases hb : holdB s (m + 1) (kidD s (m + 1)) = true
      · rw [if_pos hb] at h ⊢
        rcases rise_new m _ x h with h1 | ⟨h1, h2⟩
        · by_cases e : x = m + 1
          · subst e
            refine Or.inr ⟨by omega, ?_⟩
            unfold askB at ha
            simp only [Bool.and_eq_true] at ha
            obtain ⟨l, hl⟩ := Option.isSome_iff_exists.1 ha.1.1
            obtain ⟨r, hr⟩ := Option.isSome_iff_exists.1 ha.1.2
            exact ⟨by rw [rise_keeps _ _ _ _ (holdS_keeps hl)]; simp, by rw [rise_keeps _ _ _ _ (holdS_keeps hr)]; simp⟩
          · rw [(holdS_other e).1] at h1; exact Or.inl h1
        · exact Or.inr ⟨by omega, h2⟩
      · rw [if_neg hb] at h; exact Or.inl h
    · rw [if_neg ha] at h ⊢
      rcases rise_new m _ x h with h1 | ⟨h1, h2⟩
      · exact Or.inl h1
      · exact Or.inr ⟨by omega, h2⟩
theorem new_kids {L W : Nat} {root : List Int} {x : Nat} (h1 : x ≠ 1) (h : newF L W root x ≠ none) : (W + L ≤ x ∧ x < 2 * W) ∨ (x < W ∧ newF L W root (2 * x) ≠ none ∧ newF L W root (2 * x + 1) ≠ none) := by
  rcases rise_new _ _ x h with h2 | ⟨h2, h3⟩
  · refine Or.inl ?_
    simp only [new0, if_neg h1] at h2
    split at h2
    · assumption
    · exact absurd rfl h2
  · by_cases hx : x = 0
    · subst hx
      refine absurd ?_ h3.1
      have key : ∀ (m : Nat) (s : PS), s.K 0 = none → (riseF m s).2.K 0 = none := by
        intro m
        induction m with
        | zero => intro s hs; exact hs
        | succ m ih =>
          intro s hs
          unfold riseF
          split
          · split
            · exact ih _ (by rw [(holdS_other (by omega)).1]; exact hs)
            · exact hs
          · exact ih _ hs
      rcases Nat.eq_zero_or_pos W with hW | hW
      · subst hW
        simp [riseF, new0]
      · refine key _ _ ?_
        simp only [new0]
        rw [if_neg (by omega), if_neg (by omega)]
    · exact Or.inr ⟨by omega, h3⟩
/-- A leaf's way up is new, up to the root. -/
theorem new_way {L W : Nat} {root : List Int} (i : Nat) (hi : i < L) (hL : L ≤ W) : ∀ q, 1 < (W + i) / 2 ^ q → newF L W root ((W + i) / 2 ^ q) = none
  | 0, h => by
    apply Classical.byContradiction
    intro hn
    simp only [Nat.pow_zero, Nat.div_one] at h hn
    rcases new_kids (by omega) hn with h1 | h1 <;> omega
  | q + 1, h => by
    have e : (W + i) / 2 ^ (q + 1) = (W + i) / 2 ^ q / 2 := by rw [Nat.pow_succ, Nat.div_div_eq_div_mul]
    rw [e] at h ⊢
    have ih := new_way i hi hL (root := root) q (by omega)
    apply Classical.byContradiction
    intro hn
    rcases new_kids (by omega) hn with h1 | h1
    · have hle : (W + i) / 2 ^ q ≤ W + i := Nat.div_le_self _ _
      omega
    · have : (W + i) / 2 ^ q = 2 * ((W + i) / 2 ^ q / 2) ∨ (W + i) / 2 ^ q = 2 * ((W + i) / 2 ^ q / 2) + 1 := by omega
      rcases this with h2 | h2
      · rw [← h2] at h1; exact h1.2.1 ih
      · rw [← h2] at h1; exact h1.2.2 ih
end Go.Proofs.YtjmlpkemjafifaaDoor

/- A map from numbers to digests: looking up, storing, deleting, its size. -/
set_option linter.unusedVariables false
namespace Go.Proofs.YtjmlpkemjafifaaDoor
open Go.RowKit Go.MapKept

/-- The entries l know what K knows. -/
structure Es (l : List MapEntry) (K : Kn) : Prop where
  keys : ∀ e ∈ l, ∃ (k : Nat) (d : List Int), e.key = .int .i64 (k : Int) ∧ e.val = .agg (cellsB d) ∧ K k = some d ∧ D32 d
  apart : (l.map (·.key)).Nodup
  all : ∀ k d, K k = some d → ∃ e ∈ l, e.key = .int .i64 (k : Int)
def kAt (K : Kn) (a : Int) : List Int := if 0 ≤ a then (K a.toNat).getD zeros32 else zeros32
def kIs (K : Kn) (a : Int) : Bool := decide (0 ≤ a) && (K a.toNat).isSome
theorem kAt_nat (K : Kn) (a : Nat) : kAt K (a : Int) = (K a).getD zeros32 := by simp [kAt]
theorem kIs_nat (K : Kn) (a : Nat) : kIs K (a : Int) = (K a).isSome := by simp [kIs]
theorem Es.isKey {l : List MapEntry} {K : Kn} (h : Es l K) : ∀ e ∈ l, IsKey (.int .i64) e.key := fun e he => by
  obtain ⟨k, d, hk, _⟩ := h.keys e he
  rw [hk]
  exact rfl
theorem Es.D {l : List MapEntry} {K : Kn} (h : Es l K) {k : Nat} {d : List Int} (hk : K k = some d) : D32 d := by
  obtain ⟨e, he, hke⟩ := h.all k d hk
  obtain ⟨k', d', h1, _, h3, h4⟩ := h.keys e he
  rw [hke] at h1
  have : k = k' := by simp at h1; omega
  subst this
  rw [hk] at h3
  cases h3
  exact h4
theorem Es.find {l : List MapEntry} {K : Kn} (h : Es l K) (a : Int) :
    (kIs K a = false ∧ kAt K a = zeros32 ∧ Instr.findNow (.int .i64) (.int .i64 a) l 0 = some none ∧ ∀ x ∈ l, x.key ≠ .int .i64 a) ∨
    (kIs K a = true ∧ ∃ j e, Instr.findNow (.int .i64) (.int .i64 a) l 0 = some (some (j, .agg (cellsB (kAt K a)))) ∧ l[j]? = some e ∧ e.key = .int .i64 a) := by
  rcases findNow_spec (d := .int .i64) (k := .int .i64 a) rfl l 0 h.isKey with ⟨h1, h2⟩ | ⟨j, e, h1, h2, h3⟩
  · left
    have hn : kIs K a = false := by
      cases hk : kIs K a with
      | false => rfl
      | true =>
        exfalso
        unfold kIs at hk
        simp only [Bool.and_eq_true, decide_eq_true_eq] at hk
        obtain ⟨d, hd⟩ := Option.isSome_iff_exists.1 hk.2
        obtain ⟨e, he, hke⟩ := h.all _ _ hd
        exact h2 e he (by rw [hke, Int.toNat_of_nonneg hk.1])
    refine ⟨hn, ?_, h1, h2⟩
    unfold kAt
    split
    · rename_i h0
      unfold kIs at hn
      rw [decide_eq_true h0, Bool.true_and] at hn
      cases hk : K a.toNat with
      | none => rfl
      | some _ => rw [hk] at hn; cases hn
    · rfl
  · right
    obtain ⟨k, d, q1, q2, q3, _⟩ := h.keys e (List.mem_of_getElem? h2)
    rw [h3] at q1
    have hka : a = (k : Int) := by simpa using q1
    subst hka
    refine ⟨by rw [kIs_nat, q3]; rfl, j, e, ?_, h2, h3⟩
    rw [h1, q2, kAt_nat, q3, Nat.zero_add]
    rfl
/-- Block b is a map that knows K. -/
def HMp (w : World) (b : Nat) (K : Kn) : Prop := ∃ es clock, w.heap[b]? = some (.map es clock) ∧ Es es.toList K ∧ ∀ e ∈ es.toList, e.born < clock
def kdel (K : Kn) (k : Nat) : Kn := fun x => if x = k then none else K x
theorem HMp.lt {w : World} {b : Nat} {K : Kn} (h : HMp w b K) : b < w.heap.size := by
  obtain ⟨es, c, h1, _⟩ := h
  exact (Array.getElem?_eq_some_iff.1 h1).1
theorem HMp.of {w w' : World} {b : Nat} {K : Kn} (h : HMp w b K) (hb : w'.heap[b]? = w.heap[b]?) : HMp w' b K := by
  obtain ⟨es, c, h1, h2⟩ := h
  exact ⟨es, c, hb.trans h1, h2⟩
theorem HMp.below {w w' : World} {b : Nat} {K : Kn} (h : HMp w b K) (hB : Below w.heap.size w w') : HMp w' b K := h.of (hB.block b h.lt)
theorem HMp.grown {w w' : World} {b : Nat} {K : Kn} {row : Option Nat} (h : HMp w b K) (hB : w.grownBy w' row) (hn : some b ≠ row) : HMp w' b K := h.of (hB.block b h.lt hn)
theorem HMp.drew {w : World} {b : Nat} {K : Kn} (h : HMp w b K) : HMp w.drew b K := h.of rfl
theorem HMp.D {w : World} {b : Nat} {K : Kn} (h : HMp w b K) {k : Nat} {d : List Int} (hk : K k = some d) : D32 d := by
  obtain ⟨es, c, _, h2, _⟩ := h
  exact h2.D hk
theorem kAt_D {w : World} {b : Nat} {K : Kn} (h : HMp w b K) (a : Int) : D32 (kAt K a) := by
  have hz : D32 zeros32 := ⟨zeros32_length, fun x hx => by have := (List.mem_replicate.1 hx).2; omega⟩
  unfold kAt
  split
  · cases hk : K a.toNat with
    | none => exact hz
    | some d => exact h.D hk
  · exact hz
theorem under_int : Tryd.prog.underlying 3 = some (.int .i64) := Tryd.underlying3
theorem run_zero_digest (w : World) : (zeroValue 28).run Tryd.prog w = .ok (.agg (cellsB zeros32)) w := by
  obtain ⟨i0, hi, hz0, hz1, hz2⟩ := info_parts info_digest
  simp [zeroValue, typeInfo, hi, hz0]
theorem run_look_ok {w : World} {b : Nat} {K : Kn} (h : HMp w b K) (a : Int) : (Instr.lookup 61 (.map (some b)) (.int .i64 a) true).run Tryd.prog w = .ok (.tuple #[.agg (cellsB (kAt K a)), .bool (kIs K a)]) w := by
  obtain ⟨es, c, hb, hE, _⟩ := h
  have hc : (Instr.checkKey es.isEmpty 10000 3 (.int .i64 a)).run Tryd.prog w = .ok () w := MapKept.run_checkKey (k := .int .i64 a) under_int rfl _ 9999
  rcases hE.find a with ⟨h1, h2, h3, h4⟩ | ⟨h1, j, e, h3, h4, h5⟩
  · rw [h1, h2]
    simp [Instr.lookup, run_underlying Tryd.underlying61, MapKept.run_getObj_map hb, hc, MapKept.run_findKey under_int h3, Result.andThen]
    rfl
  · rw [h1]
    simp [Instr.lookup, run_underlying Tryd.underlying61, MapKept.run_getObj_map hb, hc, MapKept.run_findKey under_int h3, Result.andThen]
theorem run_look {w : World} {b : Nat} {K : Kn} (h : HMp w b K) (a : Int) : (Instr.lookup 61 (.map (some b)) (.int .i64 a) false).run Tryd.prog w = .ok (.agg (cellsB (kAt K a))) w := by
  obtain ⟨es, c, hb, hE, _⟩ := h
  have hc : (Instr.checkKey es.isEmpty 10000 3 (.int .i64 a)).run Tryd.prog w = .ok () w := MapKept.run_checkKey (k := .int .i64 a) under_int rfl _ 9999
  rcases hE.find a with ⟨h1, h2, h3, h4⟩ | ⟨h1, j, e, h3, h4, h5⟩
  · rw [h2]
    simp [Instr.lookup, run_underlying Tryd.underlying61, MapKept.run_getObj_map hb, hc, MapKept.run_findKey under_int h3, Result.andThen]
    rfl
  · simp [Instr.lookup, run_underlying Tryd.underlying61, MapKept.run_getObj_map hb, hc, MapKept.run_findKey under_int h3, Result.andThen]
theorem grown_mset {w : World} {b : Nat} {o : Obj} (hb : w.heap[b]? = some o) (o' : Obj) : w.grownBy { w with heap := w.heap.setIfInBounds b o' } (some b) :=
  ⟨rfl, rfl, rfl, by simp, fun k hk hne => (heap_set (w := w) hb).2 k (fun e => hne (by rw [e]))⟩
theorem Es.push {l : List MapEntry} {K : Kn} (h : Es l K) {k : Nat} {d : List Int} (hd : D32 d) (hn : ∀ x ∈ l, x.key ≠ .int .i64 (k : Int)) (c : Nat) : Es (l ++ [⟨.int .i64 (k : Int), .agg (cellsB d), c⟩]) (kset K k d) := by
  refine ⟨fun e he => ?_, ?_, fun x y hx => ?_⟩
  · rcases List.mem_append.1 he with he | he
    · obtain ⟨k', d', q1, q2, q3, q4⟩ := h.keys e he
      have hne : k' ≠ k := fun q => hn e he (by rw [q1, q])
      exact ⟨k', d', q1, q2, by simp [kset, hne, q3], q4⟩
    · rw [List.mem_singleton] at he
      subst he
      exact ⟨k, d, rfl, rfl, by simp [kset], hd⟩
  · rw [List.map_append, List.nodup_append]
    refine ⟨h.apart, by simp, fun a ha b hb => ?_⟩
    obtain ⟨x, hx, rfl⟩ := List.mem_map.1 ha
    simp only [List.map_cons, List.map_nil, List.mem_singleton] at hb
    subst hb
    exact hn x hx
  · by_cases e : x = k
    · subst e
      exact ⟨_, List.mem_append.2 (Or.inr (List.mem_singleton.2 rfl)), rfl⟩
    · simp only [kset, if_neg e] at hx
      obtain ⟨z, hz, hzk⟩ := h.all x y hx
      exact ⟨z, List.mem_append.2 (Or.inl hz), hzk⟩
/-- A new key stored. -/
theorem run_store_new {w : World} {b : Nat} {K : Kn} (h : HMp w b K) {k : Nat} {d : List Int} (hd : D32 d) (hn : K k = none) : ∃ w', (Instr.mapUpdate 61 (.map (some b)) (.int .i64 (k : Int)) (.agg (cellsB d))).run Tryd.prog w = .ok () w' ∧ HMp w' b (kset K k d) ∧ w.grownBy w' (some b) ∧ w'.heap.size = w.heap.size := by
  obtain ⟨es, c, hb, hE, hcl⟩ := h
  have hc : (Instr.checkKey false 10000 3 (.int .i64 (k : Int))).run Tryd.prog w = .ok () w := MapKept.run_checkKey (k := .int .i64 (k : Int)) under_int rfl _ 9999
  rcases hE.find (k : Int) with ⟨h1, h2, h3, h4⟩ | ⟨h1, j, e, h3, h4, h5⟩
  · refine ⟨{ w with heap := w.heap.setIfInBounds b (.map (es.push ⟨.int .i64 (k : Int), .agg (cellsB d), c⟩) (c + 1)) }, ?_, ⟨_, _, (heap_set hb).1, ?_, ?_⟩, grown_mset hb _, by simp⟩
    · simp [Instr.mapUpdate, run_underlying Tryd.underlying61, MapKept.run_getObj_map hb, hc, MapKept.run_findKey under_int h3, MapKept.run_setObj_map _ hb, Result.andThen]
    · rw [Array.toList_push]
      exact hE.push hd h4 c
    · intro e he
      rw [Array.toList_push] at he
      rcases List.mem_append.1 he with q | q
      · have := hcl e q; omega
      · rw [List.mem_singleton.1 q]; simp
  · rw [kIs_nat, hn] at h1
    cases h1
theorem Es.erase {l1 l2 : List MapEntry} {e : MapEntry} {K : Kn} (h : Es (l1 ++ e :: l2) K) {k : Nat} (hk : e.key = .int .i64 (k : Int)) : Es (l1 ++ l2) (kdel K k) := by
  have hap := h.apart
  rw [List.map_append, List.map_cons, List.nodup_append] at hap
  obtain ⟨a1, a2, a3⟩ := hap
  rw [List.nodup_cons] at a2
  have hin : ∀ x, x ∈ l1 ++ l2 → x ∈ l1 ++ e :: l2 := fun x hx => by
    rcases List.mem_append.1 hx with q | q
    · exact List.mem_append.2 (Or.inl q)
    · exact List.mem_append.2 (Or.inr (List.mem_cons_of_mem _ q))
  have hnk : ∀ x ∈ l1 ++ l2, x.key ≠ .int .i64 (k : Int) := fun x hx hxk => by
    rcases List.mem_append.1 hx with q | q
    · exact a3 x.key (List.mem_map.2 ⟨x, q, rfl⟩) e.key (by simp) (by rw [hxk, hk])
    · exact a2.1 (List.mem_map.2 ⟨x, q, by rw [hxk, hk]⟩)
  refine ⟨fun x hx => ?_, ?_, fun x y hxy => ?_⟩
  · obtain ⟨k', d', q1, q2, q3, q4⟩ := h.keys x (hin x hx)
    have hne : k' ≠ k := fun q => hnk x hx (by rw [q1, q])
    exact ⟨k', d', q1, q2, by simp [kdel, hne, q3], q4⟩
  · rw [List.map_append, List.nodup_append]
    exact ⟨a1, a2.2, fun x hx y hy => a3 x hx y (List.mem_cons_of_mem _ hy)⟩
  · by_cases ex : x = k
    · simp [kdel, ex] at hxy
    · simp only [kdel, if_neg ex] at hxy
      obtain ⟨z, hz, hzk⟩ := h.all x y hxy
      refine ⟨z, ?_, hzk⟩
      rcases List.mem_append.1 hz with q | q
      · exact List.mem_append.2 (Or.inl q)
      · rcases List.mem_cons.1 q with q | q
        · subst q
          rw [hk] at hzk
          simp at hzk
          omega
        · exact List.mem_append.2 (Or.inr q)
theorem split_at {l : List MapEntry} {j : Nat} {e : MapEntry} (h : l[j]? = some e) : l = l.take j ++ e :: l.drop (j + 1) ∧ l.eraseIdx j = l.take j ++ l.drop (j + 1) := by
  obtain ⟨hj, rfl⟩ := List.getElem?_eq_some_iff.1 h
  refine ⟨?_, List.eraseIdx_eq_take_drop_succ ..⟩
  rw [← List.drop_eq_getElem_cons hj, List.take_append_drop]
/-- A key taken out. -/
theorem run_delete {w : World} {b : Nat} {K : Kn} (h : HMp w b K) (k : Nat) (ty : TypeId) : ∃ w', (Builtin.delete_ #[61, 3] ty #[.map (some b), .int .i64 (k : Int)]).run Tryd.prog w = .ok (.tuple #[]) w' ∧ HMp w' b (kdel K k) ∧ w.grownBy w' (some b) ∧ w'.heap.size = w.heap.size := by
  obtain ⟨es, c, hb, hE, hc⟩ := h
  have hck : (Instr.checkKey es.isEmpty 10000 3 (.int .i64 (k : Int))).run Tryd.prog w = .ok () w := MapKept.run_checkKey (k := .int .i64 (k : Int)) under_int rfl _ 9999
  rcases hE.find (k : Int) with ⟨h1, h2, h3, h4⟩ | ⟨h1, j, e, h3, h4, h5⟩
  · refine ⟨{ w with heap := w.heap.setIfInBounds b (.map es c) }, ?_, ⟨_, _, (heap_set hb).1, ?_, hc⟩, grown_mset hb _, by simp⟩
    · simp [Builtin.delete_, run_underlying Tryd.underlying61, MapKept.run_getObj_map hb, hck, MapKept.run_findKey under_int h3, MapKept.run_setObj_map _ hb, Result.andThen]
    · have e : kdel K k = K := by
        funext x
        unfold kdel
        split
        · rename_i q
          subst q
          rw [kIs_nat] at h1
          cases hx : K x with
          | none => rfl
          | some _ => rw [hx] at h1; cases h1
        · rfl
      rw [e]
      exact hE
  · obtain ⟨s1, s2⟩ := split_at h4
    refine ⟨{ w with heap := w.heap.setIfInBounds b (.map (es.eraseIdxIfInBounds j) c) }, ?_, ⟨_, _, (heap_set hb).1, ?_⟩, grown_mset hb _, by simp⟩
    · simp [Builtin.delete_, run_underlying Tryd.underlying61, MapKept.run_getObj_map hb, hck, MapKept.run_findKey under_int h3, MapKept.run_setObj_map _ hb, Result.andThen]
    · have e2 : (es.eraseIdxIfInBounds j).toList = es.toList.eraseIdx j := by
        obtain ⟨l⟩ := es
        simp
      rw [e2, s2]
      rw [s1] at hE hc
      refine ⟨hE.erase h5, fun x hx => hc x ?_⟩
      rcases List.mem_append.1 hx with q | q
      · exact List.mem_append.2 (Or.inl q)
      · exact List.mem_append.2 (Or.inr (List.mem_cons_of_mem _ q))
/-- A new entry made, then stored. -/
theorem run_entry {w : World} {b : Nat} {K : Kn} (h : HMp w b K) {k : Nat} {d : List Int} (hd : D32 d) (hn : K k = none) : ∃ (c : Nat) (w1 w2 : World), (Instr.mapEntry 61 (.map (some b)) (.int .i64 (k : Int))).run Tryd.prog w = .ok (.tuple #[.agg (cellsB zeros32), .int .i64 (c : Int)]) w1 ∧
    (Instr.entryStore 61 (.map (some b)) (.int .i64 (c : Int)) (.agg (cellsB d))).run Tryd.prog w1 = .ok () w2 ∧ w.grownBy w1 (some b) ∧ w1.grownBy w2 (some b) ∧ HMp w2 b (kset K k d) ∧ w1.heap.size = w.heap.size ∧ w2.heap.size = w.heap.size := by
  obtain ⟨es, c, hb, hE, hc⟩ := h
  have hck : (Instr.checkKey false 10000 3 (.int .i64 (k : Int))).run Tryd.prog w = .ok () w := MapKept.run_checkKey (k := .int .i64 (k : Int)) under_int rfl _ 9999
  rcases hE.find (k : Int) with ⟨h1, h2, h3, h4⟩ | ⟨h1, j, e, h3, h4, h5⟩
  · let o1 : Obj := .map (es.push ⟨.int .i64 (k : Int), .agg (cellsB zeros32), c⟩) (c + 1)
    let o2 : Obj := .map (es.push ⟨.int .i64 (k : Int), .agg (cellsB d), c⟩) (c + 1)
    let w1 : World := { w with heap := w.heap.setIfInBounds b o1 }
    have hb1 : w1.heap[b]? = some o1 := (heap_set hb).1
    have hf : (es.push ⟨.int .i64 (k : Int), .agg (cellsB zeros32), c⟩).findIdx? (fun e => (e.born : Int) == (c : Int)) = some es.size := by
      obtain ⟨l⟩ := es
      have hl : ∀ x ∈ l, ¬ ((x.born : Int) == (c : Int)) = true := fun x hx q => by
        have := hc x hx
        simp at q
        omega
      simp only [List.push_toArray, List.findIdx?_toArray, List.findIdx?_append]
      rw [List.findIdx?_eq_none_iff.2 (fun x hx => by simpa using hl x hx)]
      simp
    have hm : (es.push ⟨.int .i64 (k : Int), .agg (cellsB zeros32), c⟩).modify es.size (fun e => { e with val := .agg (cellsB d) }) = es.push ⟨.int .i64 (k : Int), .agg (cellsB d), c⟩ := by
      apply Array.ext_getElem?
      intro i
      rw [Array.getElem?_modify, Array.getElem?_push, Array.getElem?_push]
      by_cases e : es.size = i
      · subst e; simp
      · rw [if_neg e, if_neg (Ne.symm e), if_neg (Ne.symm e)]
    refine ⟨c, w1, { w1 with heap := w1.heap.setIfInBounds b o2 }, ?_, ?_, grown_mset hb _, grown_mset hb1 _, ⟨_, _, (heap_set hb1).1, ?_, ?_⟩, by simp [w1], by simp [w1]⟩
    · simp [Instr.mapEntry, run_underlying Tryd.underlying61, MapKept.run_getObj_map hb, hck, MapKept.run_findKey under_int h3, MapKept.run_setObj_map _ hb, Result.andThen, w1, o1, goInt]
      exact ⟨rfl, rfl⟩
    · have ha : (asInt (.int .i64 (c : Int))).run Tryd.prog w1 = .ok (c : Int) w1 := by simp [asInt, asIntOf]
      simp [Instr.entryStore, MapKept.run_getObj_map hb1, ha, hf, hm, MapKept.run_setObj_map _ hb1, Result.andThen, o2]
    · rw [Array.toList_push]
      exact hE.push hd h4 c
    · intro e he
      rw [Array.toList_push] at he
      rcases List.mem_append.1 he with q | q
      · have := hc e q; omega
      · rw [List.mem_singleton.1 q]; simp
  · rw [kIs_nat, hn] at h1
    cases h1
theorem HMp.made (w : World) : HMp (w.alloc (.map #[] 0)) w.heap.size (fun _ => none) :=
  ⟨#[], 0, (MapKept.heap_alloc w _).1, ⟨(fun e he => by cases he), by simp, (fun k d h => by cases h)⟩, fun e he => by cases he⟩
end Go.Proofs.YtjmlpkemjafifaaDoor

/- A proof in memory; made, knows, none of proof, walked. -/
set_option linter.unusedVariables false
set_option linter.unusedSimpArgs false
namespace Go.Proofs.YtjmlpkemjafifaaDoor
open Go.RowKit

/-- At g stands a proof over L leaves of the width W that knows K, in the map at b. -/
def HPf (w : World) (g b L W : Nat) (K : Kn) : Prop := w.heap[g]? = some (.cells #[.int .i64 (L : Int), .int .i64 (W : Int), .map (some b)] 63 (0, 0)) ∧ HMp w b K
theorem HPf.lt {w : World} {g b L W : Nat} {K : Kn} (h : HPf w g b L W K) : g < w.heap.size := (Array.getElem?_eq_some_iff.1 h.1).1
theorem HPf.of {w w' : World} {g b L W : Nat} {K : Kn} (h : HPf w g b L W K) (hg : w'.heap[g]? = w.heap[g]?) (hb : w'.heap[b]? = w.heap[b]?) : HPf w' g b L W K := ⟨hg.trans h.1, h.2.of hb⟩
theorem HPf.below {w w' : World} {g b L W : Nat} {K : Kn} (h : HPf w g b L W K) (hB : Below w.heap.size w w') : HPf w' g b L W K := h.of (hB.block g h.lt) (hB.block b h.2.lt)
theorem HPf.ne {w : World} {g b L W : Nat} {K : Kn} (h : HPf w g b L W K) : g ≠ b := fun e => by
  obtain ⟨es, c, h1, _⟩ := h.2
  have h2 := h.1
  rw [e, h1] at h2
  cases h2
theorem HPf.c0 {w : World} {g b L W : Nat} {K : Kn} (h : HPf w g b L W K) : w.cell? ⟨g, 0, none⟩ = some (.int .i64 (L : Int)) := by rw [cell_of_row w g 0 _ _ _ h.1]; rfl
theorem HPf.c1 {w : World} {g b L W : Nat} {K : Kn} (h : HPf w g b L W K) : w.cell? ⟨g, 1, none⟩ = some (.int .i64 (W : Int)) := by rw [cell_of_row w g 1 _ _ _ h.1]; rfl
theorem HPf.c2 {w : World} {g b L W : Nat} {K : Kn} (h : HPf w g b L W K) : w.cell? ⟨g, 2, none⟩ = some (.map (some b)) := by rw [cell_of_row w g 2 _ _ _ h.1]; rfl
/-- Block n is a row of m bools. -/
def HIn (w : World) (n m : Nat) (I : Nat → Bool) : Prop := w.heap[n]? = some (.cells ((List.range m).map fun i => Value.bool (I i)).toArray 4 (0, 0))
theorem HIn.lt {w : World} {n m : Nat} {I : Nat → Bool} (h : HIn w n m I) : n < w.heap.size := (Array.getElem?_eq_some_iff.1 h).1
theorem HIn.cell {w : World} {n m : Nat} {I : Nat → Bool} (h : HIn w n m I) (i : Nat) (hi : i < m) : w.cell? ⟨n, i, none⟩ = some (.bool (I i)) := by
  rw [cell_of_row w n i _ _ _ h]
  simp [hi]
theorem HIn.below {w w' : World} {n m : Nat} {I : Nat → Bool} (h : HIn w n m I) (hB : Below w.heap.size w w') : HIn w' n m I := (hB.block n h.lt).trans h
theorem HIn.ne {w : World} {n m : Nat} {I : Nat → Bool} (h : HIn w n m I) {g b L W : Nat} {K : Kn} (hp : HPf w g b L W K) : n ≠ g ∧ n ≠ b := by
  constructor
  · intro e
    have h2 := hp.1
    unfold HIn at h
    rw [← e, h] at h2
    have h3 : (Obj.cells ((List.range m).map fun i => Value.bool (I i)).toArray 4 (0, 0)) = .cells #[.int .i64 (L : Int), .int .i64 (W : Int), .map (some b)] 63 (0, 0) := Option.some.inj h2
    injection h3 with h4 h5
    exact absurd h5 (by decide)
  · intro e
    obtain ⟨es, c, h1, _⟩ := hp.2
    unfold HIn at h
    rw [← e, h] at h1
    cases h1

set_option maxRecDepth 100000 in
theorem pmade_ok (w : World) (g b L W : Nat) (K : Kn) (h : HPf w g b L W K) : Calls Tryd.prog 55 #[.pointer (some ⟨g, 0, none⟩)] w fun e w' => e = .returned (.bool true) ∧ Below w.heap.size w w' := by
  have hc := h.c2
  have hn := fun w => run_neq_map_nil (P := Tryd.prog) (w := w) 61 _ _ (some b) Tryd.underlying61
  clear h
  go_enter Tryd.func55, Tryd.ntmps55
  go_wp2
  go_ret
  exact ⟨rfl, Below.refl _ _⟩
set_option maxRecDepth 100000 in
theorem pmade_nil (w : World) : Calls Tryd.prog 55 #[.pointer none] w fun e w' => e = .returned (.bool false) ∧ Below w.heap.size w w' := by
  go_enter Tryd.func55, Tryd.ntmps55
  go_wp2
  go_ret
  exact ⟨rfl, Below.refl _ _⟩
set_option maxRecDepth 100000 in
theorem pmade_zero (w : World) (g : Nat) (hc : w.cell? ⟨g, 2, none⟩ = some (.map none)) : Calls Tryd.prog 55 #[.pointer (some ⟨g, 0, none⟩)] w fun e w' => e = .returned (.bool false) ∧ Below w.heap.size w w' := by
  have hn := fun w => run_neq_map_nil (P := Tryd.prog) (w := w) 61 _ _ none Tryd.underlying61
  go_enter Tryd.func55, Tryd.ntmps55
  go_wp2
  go_ret
  exact ⟨rfl, Below.refl _ _⟩
set_option maxRecDepth 100000 in
set_option maxHeartbeats 1000000 in
theorem knows_any (w : World) (g b L W : Nat) (K : Kn) (h : HPf w g b L W K) (a : Int) : Calls Tryd.prog 56 #[.pointer (some ⟨g, 0, none⟩), .int .i64 a] w fun e w' => e = .returned (.bool (kIs K a)) ∧ Below w.heap.size w w' := by
  have hc := h.c2
  have hl := run_look_ok h.2 a
  have hD := kAt_D h.2 a
  clear h
  generalize kIs K a = z at hl ⊢
  generalize kAt K a = y at hl hD
  obtain ⟨zd, HZD⟩ : ∃ zd, Hid (cellsB zeros32 = zd) := ⟨_, rfl⟩
  obtain ⟨yd, HYD⟩ : ∃ yd, Hid (cellsB y = yd) := ⟨_, rfl⟩
  rw [HYD.out] at hl
  have hys : yd.size = 32 := by rw [← HYD.out, cellsB_size, hD.1]
  have HIy : Hid ((Tryd.prog.info? 28).map (·.size) = some yd.size) := by rw [hys]; exact size_digest
  have H1y : Hid (yd.all (·.oneCell') = true) := by rw [← HYD.out]; exact cellsB_one y
  have HZY : Hid (zd.size = yd.size) := by refine hid ?_; rw [← HZD.out, cellsB_size, zeros32_length, hys]
  clear hys hD
  go_enter Tryd.func56, Tryd.ntmps56
  go_wp2_with (first | (refine wpList_alloc_digest rfl rfl ?_; rw [HZD.out]) | (refine wpList_store_row rfl 28 _ _ rfl w.heap.size yd rfl rfl 28 zd (heap_alloc_new w _) HIy.out HZY.out H1y.out ?_))
  go_ret
  exact ⟨rfl, below_setRow ((Below.refl _ w).alloc (Nat.le_refl _) _) (Nat.le_refl _) _⟩
end Go.Proofs.YtjmlpkemjafifaaDoor

/- hold of proof, walked. -/
set_option linter.unusedVariables false
set_option linter.unusedSimpArgs false
namespace Go.Proofs.YtjmlpkemjafifaaDoor
open Go.RowKit

/-- All blocks but two are as they were. -/
structure Gr2 (w w' : World) (b n : Nat) : Prop where
  os : w'.os = w.os
  tape : w'.tape = w.tape
  output : w'.output = w.output
  size : w.heap.size ≤ w'.heap.size
  block : ∀ k, k < w.heap.size → k ≠ b → k ≠ n → w'.heap[k]? = w.heap[k]?
theorem Gr2.refl (w : World) (b n : Nat) : Gr2 w w b n := ⟨rfl, rfl, rfl, Nat.le_refl _, fun _ _ _ _ => rfl⟩
theorem Gr2.trans {u v w : World} {b n : Nat} (h : Gr2 u v b n) (k : Gr2 v w b n) : Gr2 u w b n :=
  ⟨k.os.trans h.os, k.tape.trans h.tape, k.output.trans h.output, Nat.le_trans h.size k.size, fun i h1 h2 h3 => (k.block i (Nat.lt_of_lt_of_le h1 h.size) h2 h3).trans (h.block i h1 h2 h3)⟩
theorem Gr2.ofBelow {w w' : World} (h : Below w.heap.size w w') (b n : Nat) : Gr2 w w' b n := ⟨h.os, h.tape, h.output, h.size, fun k h1 _ _ => h.block k h1⟩
theorem Gr2.ofGrown {w w' : World} {b : Nat} (h : w.grownBy w' (some b)) (n : Nat) : Gr2 w w' b n := ⟨h.os, h.tape, h.output, h.size, fun k h1 h2 _ => h.block k h1 (fun e => h2 (by cases e; rfl))⟩
theorem Gr2.below {w w' : World} {b n B : Nat} (h : Gr2 w w' b n) (hb : B ≤ b) (hn : B ≤ n) (hB : B ≤ w.heap.size) : Below B w w' := ⟨h.os, h.tape, h.output, h.size, fun k hk => h.block k (by omega) (by omega) (by omega)⟩
theorem Gr2.drew {w w' : World} {b n : Nat} (h : Gr2 w w' b n) : Gr2 w w'.drew b n := ⟨h.os, h.tape, h.output, h.size, h.block⟩
theorem HIn.set {w : World} {n m : Nat} {I : Nat → Bool} (h : HIn w n m I) (a : Nat) (ha : a < m) : HIn (w.setCell ⟨n, a, none⟩ (.bool true)) n m (iset I a) := by
  unfold HIn at h ⊢
  rw [heap_setCell_same w n a _ _ _ h]
  congr 2
  apply Array.ext
  · simp
  · intro i h1 h2
    by_cases e : a = i
    · subst e; simp [iset]
    · simp [iset, Array.getElem_setIfInBounds, e, Ne.symm e]
theorem Gr2.setCell (w : World) (b n a : Nat) (v : Value) : Gr2 w (w.setCell ⟨n, a, none⟩ v) b n := ⟨rfl, rfl, rfl, by simp [World.setCell], fun k _ _ h => Below.heap_setCell _ _ _ _ h⟩
def HdQ (w : World) (g b L W n : Nat) (s : PS) (a : Nat) (d : List Int) (e : Ending) (w' : World) : Prop :=
  e = .returned (.bool (holdB s a d)) ∧ HPf w' g b L W (holdS s a d).K ∧ HIn w' n (2 * W) (holdS s a d).I ∧ Gr2 w w' b n
set_option maxRecDepth 100000 in
set_option maxHeartbeats 4000000 in
theorem hold_any (w : World) (g b L W n : Nat) (s : PS) (a : Nat) (d : List Int) (h : HPf w g b L W s.K) (hi : HIn w n (2 * W) s.I) (ha : a < 2 * W) (hW : W ≤ 512) (hd : D32 d) :
    Calls Tryd.prog 76 #[.pointer (some ⟨g, 0, none⟩), .slice (some ⟨n, 0, none⟩) (2 * W) (2 * W), .int .i64 (a : Int), .agg (cellsB d)] w fun e w' => HdQ w g b L W n s a d e w' := by
  obtain ⟨cd, HCD⟩ : ∃ c, Hid (cellsB d = c) := ⟨_, rfl⟩
  obtain ⟨W0, hW0⟩ : ∃ W0, Hid (w.alloc (.cells cd 28) = W0) := ⟨_, rfl⟩
  have HB0 : Hid (Below w.heap.size w W0) := by rw [← hW0.out]; exact (Below.refl _ w).alloc (Nat.le_refl _) _
  have HR0 : Hid (W0.heap[w.heap.size]? = some (.cells cd 28 (0, 0))) := by rw [← hW0.out]; exact heap_alloc_new w _
  have hS0 : Hid (W0.heap.size = w.heap.size + 1) := by rw [← hW0.out]; refine hid ?_; simp
  have HP := hid h
  have HI := hid hi
  have HD := hid hd
  have hne := hi.ne h
  have hgb := h.ne
  have hgl := h.lt
  have hbl := h.2.lt
  have hnl := hi.lt
  have CK := hid (knows_any W0 g b L W s.K (h.below HB0.out) (a : Int))
  rw [kIs_nat] at CK
  rw [HCD.out]
  clear h hi hd
  have hcast : ((2 * W : Nat) : Int) = 2 * (W : Int) := by omega
  go_enter Tryd.func76, Tryd.ntmps76
  go_wp2_with fail
  rw [hW0.out]
  refine CK.out.mono ?_
  rintro e w1 ⟨rfl, hB1⟩
  have BL1 := hid (HB0.out.trans (hB1.mono HB0.out.size))
  have HX1 : Hid (w1.rangeAt w.heap.size 0 (dc d)) := by
    refine hid fun j v hj => ?_
    have e1 := hB1.block w.heap.size (by rw [hS0.out]; omega)
    rw [Nat.zero_add, cell_of_row w1 w.heap.size j _ _ _ (e1.trans HR0.out), ← HCD.out, ← dc_arr, List.getElem?_toArray]
    exact hj
  have hws : w.heap.size < w1.heap.size := by have := hB1.size; rw [hS0.out] at this; omega
  have HP1 := hid (HP.out.below BL1.out)
  have HI1 := hid (HI.out.below BL1.out)
  clear hB1 CK
  have hwr : ∀ x : List Int, D32 x → (Tryd.prog.info? 28).map (·.size) = some (dc x).length := fun x hx => size_dig hx
  have HWR := hid hwr
  clear hwr
  cases hk : s.K a with
  | some e0 =>
    have hq := fun w => run_eql_bytes w 32 28 Tryd.underlying28 e0 d (HP.out.2.D hk).1 HD.out.1
    have HB' : Hid (holdB s a d = decide (e0 = d)) := by unfold holdB; rw [hk]; rfl
    have HS' : Hid (holdS s a d = s) := by unfold holdS; rw [hk]; rfl
    have HK0 : Hid (kAt s.K (a : Int) = e0) := by rw [kAt_nat, hk]; rfl
    rw [Option.isSome_some]
    clear hk
    go_wp2
    refine wp_region_held_drew (S := fun W' => W'.cell? ⟨g, 2, none⟩ = some (.map (some b)) ∧ HMp W' b s.K ∧ W'.rangeAt w.heap.size 0 (dc d)) (by kernel_rfl) ⟨HP1.out.c2, HP1.out.2, HX1.out⟩ (fun hHeld => ?_)
    have HS := hid hHeld
    clear hHeld
    change wpAnyH _ _ _ _ _ _ _ _ (World.drew _)
    refine wpAnyH_take (i := 0) (v := ?_) rfl (by kernel_rfl) (by kernel_rfl) (by kernel_rfl) (fun _ _ _ h => h) (Or.inl ⟨by rfl, ?q0⟩) HS.out ?_
    case q0 => intro w hSw; obtain ⟨s1, s2, s3⟩ := hSw; go_simp; rfl
    simp only [Act.put, List.getElem_toArray, List.getElem_cons_zero, List.getElem_cons_succ, List.setIfInBounds_toArray, List.set_cons_zero, List.set_cons_succ]
    refine wpAnyH_take (i := 1) (v := ?_) rfl (by kernel_rfl) (by kernel_rfl) (by kernel_rfl) (fun _ _ _ h => h) (Or.inl ⟨by rfl, ?q1⟩) HS.out ?_
    case q1 => intro w hSw; obtain ⟨s1, s2, s3⟩ := hSw; go_simp; rfl
    simp only [Act.put, List.getElem_toArray, List.getElem_cons_zero, List.getElem_cons_succ, List.setIfInBounds_toArray, List.set_cons_zero, List.set_cons_succ]
    refine wpAnyH_take (i := 2) (v := ?_) rfl (by kernel_rfl) (by kernel_rfl) (by kernel_rfl) (fun _ _ _ h => h) (Or.inl ⟨by rfl, ?q2⟩) HS.out ?_
    case q2 => intro w hSw; obtain ⟨s1, s2, s3⟩ := hSw; go_simp; rfl
    simp only [Act.put, List.getElem_toArray, List.getElem_cons_zero, List.getElem_cons_succ, List.setIfInBounds_toArray, List.set_cons_zero, List.set_cons_succ]
    refine wpAnyH_take (i := 3) (v := .map (some b)) rfl (by kernel_rfl) (by kernel_rfl) (by kernel_rfl) (fun _ _ _ h => h) (Or.inl ⟨by rfl, ?q3⟩) HS.out ?_
    case q3 => intro w hSw; obtain ⟨s1, s2, s3⟩ := hSw; go_simp
    simp only [Act.put, List.getElem_toArray, List.getElem_cons_zero, List.getElem_cons_succ, List.setIfInBounds_toArray, List.set_cons_zero, List.set_cons_succ]
    refine wpAnyH_take (i := 4) (v := ?_) rfl (by kernel_rfl) (by kernel_rfl) (by kernel_rfl) (fun _ _ _ h => h) (Or.inl ⟨by rfl, ?q4⟩) HS.out ?_
    case q4 => intro w hSw; obtain ⟨s1, s2, s3⟩ := hSw; go_simp; rfl
    simp only [Act.put, List.getElem_toArray, List.getElem_cons_zero, List.getElem_cons_succ, List.setIfInBounds_toArray, List.set_cons_zero, List.set_cons_succ]
    refine wpAnyH_take (i := 5) (v := .agg (cellsB e0)) rfl (by kernel_rfl) (by kernel_rfl) (by kernel_rfl) (fun _ _ _ h => h) (Or.inl ⟨by rfl, ?q5⟩) HS.out ?_
    case q5 => intro w hSw; obtain ⟨s1, s2, s3⟩ := hSw; have hl := run_look s2 (a : Int); rw [HK0.out] at hl; go_simp
    simp only [Act.put, List.getElem_toArray, List.getElem_cons_zero, List.getElem_cons_succ, List.setIfInBounds_toArray, List.set_cons_zero, List.set_cons_succ]
    refine wpAnyH_take (i := 6) rfl (by kernel_rfl) (by kernel_rfl) (by kernel_rfl) (fun _ _ _ h => h) (yieldsIf_load_mid (by rfl) 28 _ rfl w.heap.size 0 rfl (dc d) _ (fun W hW => hW.2.2) Tryd.underlying28 rfl (HWR.out d HD.out)) HS.out ?_
    simp only [Act.put, List.getElem_toArray, List.getElem_cons_zero, List.getElem_cons_succ, List.setIfInBounds_toArray, List.set_cons_zero, List.set_cons_succ]
    rw [dc_arr]
    refine wpAnyH_take (i := 7) (v := .bool (decide (e0 = d))) rfl (by kernel_rfl) (by kernel_rfl) (by kernel_rfl) (fun _ _ _ h => h) (Or.inl ⟨by rfl, ?q7⟩) HS.out ?_
    case q7 => intro w hSw; obtain ⟨s1, s2, s3⟩ := hSw; go_simp
    simp only [Act.put, List.getElem_toArray, List.getElem_cons_zero, List.getElem_cons_succ, List.setIfInBounds_toArray, List.set_cons_zero, List.set_cons_succ]
    refine wpAnyH_take (i := 8) (v := ?_) rfl (by kernel_rfl) (by kernel_rfl) (by kernel_rfl) (fun _ _ _ h => h) (Or.inl ⟨by rfl, ?q8⟩) HS.out ?_
    case q8 => intro w hSw; obtain ⟨s1, s2, s3⟩ := hSw; go_simp; rfl
    simp only [Act.put, List.getElem_toArray, List.getElem_cons_zero, List.getElem_cons_succ, List.setIfInBounds_toArray, List.set_cons_zero, List.set_cons_succ]
    refine wpAnyH_done (by kernel_rfl) ?_ _
    go_wp2
    go_ret
    refine ⟨by rw [HB'.out]; rfl, ?_, ?_, ?_⟩
    · rw [HS'.out]; exact HP1.out.of rfl rfl
    · rw [HS'.out]; exact HI1.out
    · exact (Gr2.ofBelow BL1.out b n).drew
  | none =>
    have HB' : Hid (holdB s a d = true) := by unfold holdB; rw [hk]; rfl
    have HS' : Hid (holdS s a d = s.put a d) := by unfold holdS; rw [hk]; rfl
    obtain ⟨c, w2, w3, r1, r2, g1, g2, hM3, z1, z2⟩ := run_entry (w := w1.drew) (HP1.out.2.of rfl) HD.out hk
    rw [HCD.out] at r2
    have hz : w1.drew.heap.size = w1.heap.size := rfl
    have R1 := hid r1
    have R2 := hid r2
    have G3 := hid (Gr2.trans (Gr2.ofGrown g1 n) (Gr2.ofGrown g2 n))
    have G2 := hid g1
    have HM3 := hid hM3
    have HI3 : Hid (HIn w3 n (2 * W) s.I) := (g2.block n (by rw [z1]; exact HI1.out.lt) (fun e => hne.2 (by cases e; rfl))).trans ((g1.block n HI1.out.lt (fun e => hne.2 (by cases e; rfl))).trans HI1.out)
    have hcell := HI3.out.cell a ha
    have hfr : w3.frozen? ⟨n, a, none⟩ = false := frozen_of_row w3 n a _ _ HI3.out
    have HQ : Hid (∀ k, k < w1.heap.size → k ≠ b → w3.heap[k]? = w1.heap[k]? ∧ w2.heap[k]? = w1.heap[k]?) := fun k h1 h2 => by
      have q1 := g1.block k h1 (fun e => h2 (by cases e; rfl))
      exact ⟨(g2.block k (by rw [z1]; exact h1) (fun e => h2 (by cases e; rfl))).trans q1, q1⟩
    have HSa : Hid (∀ W' : World, (∀ k, k < w1.heap.size → k ≠ b → k ≠ n → W'.heap[k]? = w1.heap[k]?) → W'.cell? ⟨g, 2, none⟩ = some (.map (some b)) ∧ W'.rangeAt w.heap.size 0 (dc d)) := fun W' hW' => by
      refine ⟨?_, fun j v hj => ?_⟩
      · rw [World.cell?_of_block (w := w1) (hW' g HP1.out.lt (by omega) (by omega))]; exact HP1.out.c2
      · have := HX1.out j v hj
        rw [World.cell?_of_block (w := w1) (hW' w.heap.size hws (by omega) (by omega))]
        exact this
    rw [Option.isSome_none]
    clear hk r1 r2 g1 g2 hM3
    go_wp2
    refine wp_region_held_drew (S := fun W' => W'.cell? ⟨g, 2, none⟩ = some (.map (some b)) ∧ W'.rangeAt w.heap.size 0 (dc d)) (by kernel_rfl) (HSa.out _ fun _ _ _ _ => rfl) (fun hHeld => ?_)
    have HS := hid hHeld
    clear hHeld
    change wpAnyH _ _ _ _ _ _ _ _ (World.drew _)
    refine wpAnyH_take (i := 0) (v := ?_) rfl (by kernel_rfl) (by kernel_rfl) (by kernel_rfl) (fun _ _ _ h => h) (Or.inl ⟨by rfl, ?q0⟩) HS.out ?_
    case q0 => intro w hSw; obtain ⟨s1, s2⟩ := hSw; go_simp; rfl
    simp only [Act.put, List.getElem_toArray, List.getElem_cons_zero, List.getElem_cons_succ, List.setIfInBounds_toArray, List.set_cons_zero, List.set_cons_succ]
    refine wpAnyH_take (i := 1) (v := ?_) rfl (by kernel_rfl) (by kernel_rfl) (by kernel_rfl) (fun _ _ _ h => h) (Or.inl ⟨by rfl, ?q1⟩) HS.out ?_
    case q1 => intro w hSw; obtain ⟨s1, s2⟩ := hSw; go_simp; rfl
    simp only [Act.put, List.getElem_toArray, List.getElem_cons_zero, List.getElem_cons_succ, List.setIfInBounds_toArray, List.set_cons_zero, List.set_cons_succ]
    refine wpAnyH_take (i := 2) (v := ?_) rfl (by kernel_rfl) (by kernel_rfl) (by kernel_rfl) (fun _ _ _ h => h) (Or.inl ⟨by rfl, ?q2⟩) HS.out ?_
    case q2 => intro w hSw; obtain ⟨s1, s2⟩ := hSw; go_simp; rfl
    simp only [Act.put, List.getElem_toArray, List.getElem_cons_zero, List.getElem_cons_succ, List.setIfInBounds_toArray, List.set_cons_zero, List.set_cons_succ]
    refine wpAnyH_take (i := 3) (v := .map (some b)) rfl (by kernel_rfl) (by kernel_rfl) (by kernel_rfl) (fun _ _ _ h => h) (Or.inl ⟨by rfl, ?q3⟩) HS.out ?_
    case q3 => intro w hSw; obtain ⟨s1, s2⟩ := hSw; go_simp
    simp only [Act.put, List.getElem_toArray, List.getElem_cons_zero, List.getElem_cons_succ, List.setIfInBounds_toArray, List.set_cons_zero, List.set_cons_succ]
    refine wpAnyH_take (i := 4) (v := ?_) rfl (by kernel_rfl) (by kernel_rfl) (by kernel_rfl) (fun _ _ _ h => h) (Or.inl ⟨by rfl, ?q4⟩) HS.out ?_
    case q4 => intro w hSw; obtain ⟨s1, s2⟩ := hSw; go_simp; rfl
    simp only [Act.put, List.getElem_toArray, List.getElem_cons_zero, List.getElem_cons_succ, List.setIfInBounds_toArray, List.set_cons_zero, List.set_cons_succ]
    refine wpAnyH_take (i := 5) (v := ?_) rfl (by kernel_rfl) (by kernel_rfl) (by kernel_rfl) (fun _ _ _ h => h) (Or.inl ⟨by rfl, ?q5⟩) HS.out ?_
    case q5 => intro w hSw; obtain ⟨s1, s2⟩ := hSw; go_simp; rfl
    simp only [Act.put, List.getElem_toArray, List.getElem_cons_zero, List.getElem_cons_succ, List.setIfInBounds_toArray, List.set_cons_zero, List.set_cons_succ]
    refine wpAnyH_take (i := 6) (v := ?_) rfl (by kernel_rfl) (by kernel_rfl) (by kernel_rfl) (fun _ _ _ h => h) (Or.inl ⟨by rfl, ?q6⟩) HS.out ?_
    case q6 => intro w hSw; obtain ⟨s1, s2⟩ := hSw; go_simp; rfl
    simp only [Act.put, List.getElem_toArray, List.getElem_cons_zero, List.getElem_cons_succ, List.setIfInBounds_toArray, List.set_cons_zero, List.set_cons_succ]
    refine wpAnyH_take (i := 7) rfl (by kernel_rfl) (by kernel_rfl) (by kernel_rfl) (fun _ _ _ h => h) (yieldsIf_load_mid (by rfl) 28 _ rfl w.heap.size 0 rfl (dc d) _ (fun W hW => hW.2) Tryd.underlying28 rfl (HWR.out d HD.out)) HS.out ?_
    simp only [Act.put, List.getElem_toArray, List.getElem_cons_zero, List.getElem_cons_succ, List.setIfInBounds_toArray, List.set_cons_zero, List.set_cons_succ]
    rw [dc_arr, HCD.out]
    refine wpAnyH_ready (rs := [8]) (by kernel_rfl) (by simp) ?_
    refine AllReadyH.cons rfl (fun K hK => ?_) AllReadyH.nil
    have r1 := R1.out
    go_simp
    refine hK.out _ _ (HSa.out w2 fun k h1 h2 _ => (HQ.out k h1 h2).2) (fun _ => ?_)
    clear hK K
    clear r1
    have HS := hid (HSa.out w2 fun k h1 h2 _ => (HQ.out k h1 h2).2)
    refine wpAnyH_take (i := 9) (v := .int .i64 (c : Int)) rfl (by kernel_rfl) (by kernel_rfl) (by kernel_rfl) (fun _ _ _ h => h) (Or.inl ⟨by rfl, ?q9⟩) HS.out ?_
    case q9 => intro w hSw; obtain ⟨s1, s2⟩ := hSw; go_simp
    simp only [Act.put, List.getElem_toArray, List.getElem_cons_zero, List.getElem_cons_succ, List.setIfInBounds_toArray, List.set_cons_zero, List.set_cons_succ]
    refine wpAnyH_ready (rs := [10]) (by kernel_rfl) (by simp) ?_
    refine AllReadyH.cons rfl (fun K hK => ?_) AllReadyH.nil
    have r2 := R2.out
    go_simp
    refine hK.out _ _ (HSa.out w3 fun k h1 h2 _ => (HQ.out k h1 h2).1) (fun _ => ?_)
    clear hK K
    clear r2
    have HS := hid (HSa.out w3 fun k h1 h2 _ => (HQ.out k h1 h2).1)
    refine wpAnyH_take (i := 11) (v := .pointer (some ⟨n, a, none⟩)) rfl (by kernel_rfl) (by kernel_rfl) (by kernel_rfl) (fun _ _ _ h => h) (Or.inl ⟨by rfl, ?q11⟩) HS.out ?_
    case q11 => intro w hSw; obtain ⟨s1, s2⟩ := hSw; go_simp; intro hq; exfalso; omega
    simp only [Act.put, List.getElem_toArray, List.getElem_cons_zero, List.getElem_cons_succ, List.setIfInBounds_toArray, List.set_cons_zero, List.set_cons_succ]
    refine wpAnyH_ready (rs := [12]) (by kernel_rfl) (by simp) ?_
    refine AllReadyH.cons rfl (fun K hK => ?_) AllReadyH.nil
    go_simp
    refine hK.out _ _ (HSa.out _ fun k h1 h2 h3 => (Below.heap_setCell w3 _ _ _ h3).trans (HQ.out k h1 h2).1) (fun _ => ?_)
    clear hK K
    have HS := hid (HSa.out (w3.setCell ⟨n, a, none⟩ (.bool true)) fun k h1 h2 h3 => (Below.heap_setCell w3 _ _ _ h3).trans (HQ.out k h1 h2).1)
    refine wpAnyH_done (by kernel_rfl) ?_ _
    obtain ⟨w4, HW4⟩ : ∃ w4, Hid (w3.setCell ⟨n, a, none⟩ (.bool true) = w4) := ⟨_, rfl⟩
    rw [HW4.out]
    rw [HW4.out] at HS
    have HI4 : Hid (HIn w4 n (2 * W) (iset s.I a)) := by rw [← HW4.out]; exact HI3.out.set a ha
    have HG4 : Hid (Gr2 w1 w4 b n) := by rw [← HW4.out]; exact (Gr2.trans ⟨G3.out.os, G3.out.tape, G3.out.output, G3.out.size, G3.out.block⟩ (Gr2.setCell w3 b n a _))
    have HM4 : Hid (HMp w4 b (kset s.K a d)) := by rw [← HW4.out]; exact HM3.out.of (Below.heap_setCell w3 _ _ _ (by show b ≠ n; omega))
    have HP4 : Hid (HPf w4 g b L W (kset s.K a d)) := ⟨(HG4.out.block g HP1.out.lt (by omega) (by omega)).trans HP1.out.1, HM4.out⟩
    have hq := fun w => run_eql_bytes w 32 28 Tryd.underlying28 d d HD.out.1 HD.out.1
    have HK0 : Hid (kAt (kset s.K a d) (a : Int) = d) := by refine hid ?_; rw [kAt_nat]; simp [kset]
    clear hcell hfr
    go_wp2
    refine wp_region_held_drew (S := fun W' => W'.cell? ⟨g, 2, none⟩ = some (.map (some b)) ∧ HMp W' b (kset s.K a d) ∧ W'.rangeAt w.heap.size 0 (dc d)) (by kernel_rfl) ⟨HP4.out.c2, HP4.out.2, HS.out.2⟩ (fun hHeld => ?_)
    have HS := hid hHeld
    clear hHeld
    change wpAnyH _ _ _ _ _ _ _ _ (World.drew _)
    refine wpAnyH_take (i := 0) (v := ?_) rfl (by kernel_rfl) (by kernel_rfl) (by kernel_rfl) (fun _ _ _ h => h) (Or.inl ⟨by rfl, ?q0⟩) HS.out ?_
    case q0 => intro w hSw; obtain ⟨s1, s2, s3⟩ := hSw; go_simp; rfl
    simp only [Act.put, List.getElem_toArray, List.getElem_cons_zero, List.getElem_cons_succ, List.setIfInBounds_toArray, List.set_cons_zero, List.set_cons_succ]
    refine wpAnyH_take (i := 1) (v := ?_) rfl (by kernel_rfl) (by kernel_rfl) (by kernel_rfl) (fun _ _ _ h => h) (Or.inl ⟨by rfl, ?q1⟩) HS.out ?_
    case q1 => intro w hSw; obtain ⟨s1, s2, s3⟩ := hSw; go_simp; rfl
    simp only [Act.put, List.getElem_toArray, List.getElem_cons_zero, List.getElem_cons_succ, List.setIfInBounds_toArray, List.set_cons_zero, List.set_cons_succ]
    refine wpAnyH_take (i := 2) (v := ?_) rfl (by kernel_rfl) (by kernel_rfl) (by kernel_rfl) (fun _ _ _ h => h) (Or.inl ⟨by rfl, ?q2⟩) HS.out ?_
    case q2 => intro w hSw; obtain ⟨s1, s2, s3⟩ := hSw; go_simp; rfl
    simp only [Act.put, List.getElem_toArray, List.getElem_cons_zero, List.getElem_cons_succ, List.setIfInBounds_toArray, List.set_cons_zero, List.set_cons_succ]
    refine wpAnyH_take (i := 3) (v := .map (some b)) rfl (by kernel_rfl) (by kernel_rfl) (by kernel_rfl) (fun _ _ _ h => h) (Or.inl ⟨by rfl, ?q3⟩) HS.out ?_
    case q3 => intro w hSw; obtain ⟨s1, s2, s3⟩ := hSw; go_simp
    simp only [Act.put, List.getElem_toArray, List.getElem_cons_zero, List.getElem_cons_succ, List.setIfInBounds_toArray, List.set_cons_zero, List.set_cons_succ]
    refine wpAnyH_take (i := 4) (v := ?_) rfl (by kernel_rfl) (by kernel_rfl) (by kernel_rfl) (fun _ _ _ h => h) (Or.inl ⟨by rfl, ?q4⟩) HS.out ?_
    case q4 => intro w hSw; obtain ⟨s1, s2, s3⟩ := hSw; go_simp; rfl
    simp only [Act.put, List.getElem_toArray, List.getElem_cons_zero, List.getElem_cons_succ, List.setIfInBounds_toArray, List.set_cons_zero, List.set_cons_succ]
    refine wpAnyH_take (i := 5) (v := .agg (cellsB d)) rfl (by kernel_rfl) (by kernel_rfl) (by kernel_rfl) (fun _ _ _ h => h) (Or.inl ⟨by rfl, ?q5⟩) HS.out ?_
    case q5 => intro w hSw; obtain ⟨s1, s2, s3⟩ := hSw; have hl := run_look s2 (a : Int); rw [HK0.out] at hl; go_simp
    simp only [Act.put, List.getElem_toArray, List.getElem_cons_zero, List.getElem_cons_succ, List.setIfInBounds_toArray, List.set_cons_zero, List.set_cons_succ]
    refine wpAnyH_take (i := 6) rfl (by kernel_rfl) (by kernel_rfl) (by kernel_rfl) (fun _ _ _ h => h) (yieldsIf_load_mid (by rfl) 28 _ rfl w.heap.size 0 rfl (dc d) _ (fun W hW => hW.2.2) Tryd.underlying28 rfl (HWR.out d HD.out)) HS.out ?_
    simp only [Act.put, List.getElem_toArray, List.getElem_cons_zero, List.getElem_cons_succ, List.setIfInBounds_toArray, List.set_cons_zero, List.set_cons_succ]
    rw [dc_arr]
    refine wpAnyH_take (i := 7) (v := .bool (decide (d = d))) rfl (by kernel_rfl) (by kernel_rfl) (by kernel_rfl) (fun _ _ _ h => h) (Or.inl ⟨by rfl, ?q7⟩) HS.out ?_
    case q7 => intro w hSw; obtain ⟨s1, s2, s3⟩ := hSw; go_simp
    simp only [Act.put, List.getElem_toArray, List.getElem_cons_zero, List.getElem_cons_succ, List.setIfInBounds_toArray, List.set_cons_zero, List.set_cons_succ]
    refine wpAnyH_take (i := 8) (v := ?_) rfl (by kernel_rfl) (by kernel_rfl) (by kernel_rfl) (fun _ _ _ h => h) (Or.inl ⟨by rfl, ?q8⟩) HS.out ?_
    case q8 => intro w hSw; obtain ⟨s1, s2, s3⟩ := hSw; go_simp; rfl
    simp only [Act.put, List.getElem_toArray, List.getElem_cons_zero, List.getElem_cons_succ, List.setIfInBounds_toArray, List.set_cons_zero, List.set_cons_succ]
    refine wpAnyH_done (by kernel_rfl) ?_ _
    go_wp2
    go_ret
    refine ⟨by rw [HB'.out]; simp, ?_, ?_, ?_⟩
    · rw [HS'.out]; exact HP4.out.of rfl rfl
    · rw [HS'.out]; exact HI4.out
    · exact ((Gr2.ofBelow BL1.out b n).trans HG4.out).drew
end Go.Proofs.YtjmlpkemjafifaaDoor

/- Rows of nodes. -/
set_option linter.unusedVariables false
set_option linter.unusedSimpArgs false
namespace Go.Proofs.YtjmlpkemjafifaaDoor
open Go.RowKit

abbrev NdT : Type := Int × List Int
/-- The cells of a node. -/
def nc (n : NdT) : List Value := .int .i64 n.1 :: dc n.2
def Nd (n : NdT) : Prop := D32 n.2 ∧ -9223372036854775808 ≤ n.1 ∧ n.1 < 9223372036854775808
theorem nc_length {n : NdT} (h : Nd n) : (nc n).length = 33 := by simp [nc, dc_length, h.1.1]
/-- v is a slice of the nodes ns. -/
def HNd (w : World) (v : Value) (ns : List NdT) : Prop :=
  (∃ (p : Option Addr) (c : Nat), v = .slice p ns.length c ∧ ns.length ≤ c ∧ c ≤ maxLen ∧
    (ns ≠ [] → ∃ b off, p = some ⟨b, off, none⟩ ∧ ∀ i, i < ns.length → w.rangeAt b (off + i * 33) (nc (ns.getD i (0, []))))) ∧ ∀ n ∈ ns, Nd n
theorem HNd.get {w : World} {v : Value} {ns : List NdT} (h : HNd w v ns) (i : Nat) (hi : i < ns.length) : Nd (ns.getD i (0, [])) := h.2 _ (by
  rw [show ns.getD i (0, []) = ns[i] by simp [List.getD, List.getElem?_eq_getElem hi]]
  exact List.getElem_mem hi)
theorem HNd.open {w : World} {v : Value} {ns : List NdT} (h : HNd w v ns) : ∃ (p : Option Addr) (c : Nat), v = .slice p ns.length c ∧ ns.length ≤ c ∧ c ≤ maxLen ∧
    (0 < ns.length → ∃ b off, p = some ⟨b, off, none⟩ ∧ b < w.heap.size ∧ ∀ i, i < ns.length → w.rangeAt b (off + i * 33) (nc (ns.getD i (0, [])))) := by
  obtain ⟨⟨p, c, h1, h2, h3, h4⟩, h5⟩ := h
  refine ⟨p, c, h1, h2, h3, fun h0 => ?_⟩
  obtain ⟨b, off, q1, q2⟩ := h4 (fun e => by rw [e] at h0; cases h0)
  refine ⟨b, off, q1, ?_, q2⟩
  have := q2 0 h0 0 (.int .i64 (ns.getD 0 (0, [])).1) rfl
  exact World.block_lt_of_cell? w _ this
theorem HNd.below {w w' : World} {v : Value} {ns : List NdT} (h : HNd w v ns) (hB : Below w.heap.size w w') : HNd w' v ns := by
  obtain ⟨p, c, h1, h2, h3, h4⟩ := h.open
  refine ⟨⟨p, c, h1, h2, h3, fun hne => ?_⟩, h.2⟩
  obtain ⟨b, off, q1, q2, q3⟩ := h4 (List.length_pos_iff.2 hne)
  exact ⟨b, off, q1, fun i hi => range_below (q3 i hi) hB q2⟩
/-- A row of nodes lies neither in a map nor in a row of bools. -/
theorem HNd.apart {w : World} {ns : List NdT} {b off : Nat} (h0 : 0 < ns.length) (h : ∀ i, i < ns.length → w.rangeAt b (off + i * 33) (nc (ns.getD i (0, [])))) :
    (∀ {m : Nat} {K : Kn}, HMp w m K → b ≠ m) ∧ ∀ {n m : Nat} {I : Nat → Bool}, HIn w n m I → b ≠ n := by
  have hc := h 0 h0 0 (.int .i64 (ns.getD 0 (0, [])).1) rfl
  constructor
  · rintro m K ⟨es, c, h1, _⟩ rfl
    simp [World.cell?, h1] at hc
  · rintro n m I hI rfl
    rw [cell_of_row w b _ _ _ _ hI] at hc
    simp only [List.getElem?_toArray, List.getElem?_map] at hc
    cases hx : (List.range m)[off + 0 * 33 + 0]? with
    | none => rw [hx] at hc; cases hc
    | some x => rw [hx] at hc; cases hc
theorem info_node : (Tryd.prog.info? 60).map (fun i => (i.zero, i.size)) = some (some (.agg (nc (0, zeros32)).toArray), 33) := by kernel_rfl
theorem zero_node : (Tryd.prog.info? 60).map (·.zero) = some (some (.agg (nc (0, zeros32)).toArray)) := by kernel_rfl
theorem size_node : (Tryd.prog.info? 60).map (·.size) = some 33 := by kernel_rfl
theorem size_nd {n : NdT} (h : Nd n) : (Tryd.prog.info? 60).map (·.size) = some (nc n).length := by rw [nc_length h]; exact size_node
theorem nc_one (n : NdT) : (nc n).toArray.all (·.oneCell') = true := by
  rw [Array.all_eq_true_iff_forall_mem]
  intro v hv
  have hv' : v ∈ nc n := by simpa using hv
  unfold nc at hv'
  rcases List.mem_cons.1 hv' with rfl | h
  · rfl
  · unfold dc at h
    obtain ⟨x, _, rfl⟩ := List.mem_map.1 h
    rfl
theorem setRow_alloc_new' (w : World) (c c' : Array Value) (t : TypeId) : (w.alloc (.cells c t)).setRow w.heap.size c' = w.alloc (.cells c' t) := by
  simp only [World.setRow, World.alloc]
  congr 1
  apply Array.ext_getElem?
  intro i
  rw [Array.getElem?_modify, Array.getElem?_push, Array.getElem?_push]
  by_cases e : w.heap.size = i
  · subst e; simp
  · rw [if_neg e, if_neg (Ne.symm e), if_neg (Ne.symm e)]
theorem wpList_alloc_zero {T : TypeId} {cs : Array Value} (hz : (Tryd.prog.info? T).map (·.zero) = some (some (.agg cs))) {ops : Array Oper} {rest : List Oper} {o : Oper} {a : Act} {w : World} {Q : Exit → Act → World → Prop} (hgd : o.guard = none) (ho : o.op = .alloc T)
    (h : wpList Tryd.prog ops Q rest (a.put o.dst (.pointer (some ⟨w.heap.size, 0, none⟩))) (w.alloc (.cells cs T))) : wpList Tryd.prog ops Q (o :: rest) a w :=
  wpList_plain hgd fun _ hK => by
    have hr : (Instr.alloc T true (.tuple #[])).run Tryd.prog w = .ok (.pointer (some ⟨w.heap.size, 0, none⟩)) (w.alloc (.cells cs T)) := by
      cases hi : Tryd.prog.info? T with
      | none => simp [hi] at hz
      | some i0 =>
        simp [hi] at hz
        simp [Instr.alloc, zeroValue, typeInfo, hi, hz, newVar, newRow, Value.cells]
    unfold Oper.wp
    simp only [execOp, ho, Sem.run_bind, hr, Result.andThen_ok]
    exact hK _ _ h
end Go.Proofs.YtjmlpkemjafifaaDoor
