/- A range over a function whose iterator itself ranges over a function: what is said of a round names the blocks E that are foreign to the body: it neither hangs on them nor writes them. -/
import Derived.Test.YtajdopmhdagehaaRange
set_option linter.unusedVariables false
namespace Go.Proofs.Ytajdopmhdagehaa
open Go.RowKit Go.Shelf

/-- What may be said of a world where the blocks E are foreign: new blocks are foreign too, a foreign one may turn, fewer may be told. -/
structure JN {β : Type} (J : β → (Nat → Prop) → World → Prop) : Prop where
  more : ∀ s E A C, J s E A → A.grownBy C none → J s (fun i => E i ∨ (A.heap.size ≤ i ∧ i < C.heap.size)) C
  turn : ∀ s E A C r, J s E A → E r → A.grownBy C (some r) → A.heap.size = C.heap.size → J s E C
  less : ∀ s E E' A, J s E A → (∀ i, E' i → E i) → J s E' A
theorem JN.grown {β : Type} {J : β → (Nat → Prop) → World → Prop} (h : JN J) {s : β} {E : Nat → Prop} {A C : World} (hs : J s E A) (hg : A.grownBy C none) : J s E C := h.less _ _ _ _ (h.more _ _ _ _ hs hg) fun _ hi => .inl hi
theorem JN.put {β : Type} {J : β → (Nat → Prop) → World → Prop} (h : JN J) {s : β} {E : Nat → Prop} {A : World} {l : Nat} (o : Obj) (hs : J s E A) (hl : E l) : J s E (A.putObj l o) := h.turn _ _ _ _ _ hs hl (grownBy_putObj' A l o) (by simp)
/-- The blocks E lie as they lay. -/
def KE (E : Nat → Prop) (A C : World) : Prop := A.heap.size ≤ C.heap.size ∧ ∀ i, E i → C.heap[i]? = A.heap[i]?
/-- The iterator's contract: N rounds; the k-th is handed 'enc k v', v being such as Fit says. -/
def IterN (F : Fence) (n : Nat) (P : Program) (g : Nat) (lb : Array Value) (enc : Nat → Value → Array Value) (Fit : Nat → Value → Prop) (D : Nat → Prop) (N : Nat) (w0 : World) : Prop :=
  ∀ (l : Nat) (J : Nat → (Nat → Prop) → World → Prop) (Jx : Unit → (Nat → Prop) → World → Prop) (W : World), KE D w0 W → JN J → JN Jx →
    (∀ k v E W1, J k E W1 → Fit k v → k < N → YieldAt F (n - 1) P l (enc k v) W1 fun e W' => (e = .returned (.bool true) ∧ J (k + 1) E W' ∧ KE E W1 W') ∨ (e = .returned (.bool false) ∧ Jx () E W' ∧ KE E W1 W')) →
    J 0 D W → CallsIn F n P g (#[.func (.yield l) #[] #[]] ++ lb) W fun e W' => (∃ v, e = .returned v) ∧ (J N D W' ∨ Jx () D W') ∧ KE D W W'
/-- How a round's body may be left. -/
def OutN (E : Nat → Prop) (I : Nat → (Nat → Prop) → World → Prop) (Ix : Code → (Nat → Prop) → World → Prop) (k : Nat) (W : World) : Exit → Act → World → Prop
  | .normal, _, W' => KE E W W' ∧ I (k + 1) E W'
  | .ret, _, W' => KE E W W' ∧ Ix .ret E W'
  | .exit id, _, W' => KE E W W' ∧ Ix (.exit id) E W'
  | _, _, _ => False
theorem KE.put {E : Nat → Prop} {A : World} {l : Nat} (hl : ¬ E l) (o : Obj) : KE E A (A.putObj l o) := ⟨by simp, fun _ hi => World.putObj_heap_other (fun e => hl (e ▸ hi))⟩
theorem KE.trans {E : Nat → Prop} {A B C : World} (h : KE E A B) (k : KE E B C) : KE E A C := ⟨Nat.le_trans h.1 k.1, fun i hi => (k.2 i hi).trans (h.2 i hi)⟩
theorem KE.mono {E E' : Nat → Prop} {A B : World} (h : KE E A B) (hs : ∀ i, E' i → E i) : KE E' A B := ⟨h.1, fun i hi => h.2 i (hs i hi)⟩
/-- E, and one block more. -/
def Ed (E : Nat → Prop) (db : Nat) (i : Nat) : Prop := E i ∨ i = db
theorem jn_one {β : Type} {J : β → (Nat → Prop) → World → Prop} (h : JN J) (db : Nat) (o : Obj) : JN (fun s E W => J s (Ed E db) W ∧ ¬ E db ∧ W.heap[db]? = some o) where
  more := fun s E A C ⟨h1, h2, h3⟩ hg => by
    have hl := (Array.getElem?_eq_some_iff.1 h3).1
    refine ⟨h.less _ _ _ _ (h.more _ _ _ _ h1 hg) (fun i hi => ?_), fun q => ?_, (hg.block db hl (by simp)).trans h3⟩
    · rcases hi with (z | z) | z
      · exact .inl (.inl z)
      · exact .inr z
      · exact .inl (.inr z)
    · rcases q with z | z
      · exact h2 z
      · omega
  turn := fun s E A C r ⟨h1, h2, h3⟩ hr hg hs => ⟨h.turn _ _ _ _ r h1 (.inl hr) hg hs, h2, (hg.block db (Array.getElem?_eq_some_iff.1 h3).1 (fun e => h2 (by cases e; exact hr))).trans h3⟩
  less := fun s E E' A ⟨h1, h2, h3⟩ hl => ⟨h.less _ _ _ _ h1 (fun i hi => hi.imp (hl i) id), fun q => h2 (hl _ q), h3⟩
theorem IterN.one {F : Fence} {n : Nat} {P : Program} {g : Nat} {lb : Array Value} {enc : Nat → Value → Array Value} {Fit : Nat → Value → Prop} {D : Nat → Prop} {N : Nat} {w0 : World} (h : IterN F n P g lb enc Fit D N w0) {ab : Nat} {o : Obj} (hn : ¬ D ab) (ho : w0.heap[ab]? = some o) : IterN F n P g lb enc Fit (Ed D ab) N w0 := fun l J Jx W hK hJ hJx hY h0 => by
  have hoW : W.heap[ab]? = some o := (hK.2 ab (.inr rfl)).trans ho
  refine (h l (fun k E W => J k (Ed E ab) W ∧ ¬ E ab ∧ W.heap[ab]? = some o) (fun s E W => Jx s (Ed E ab) W ∧ ¬ E ab ∧ W.heap[ab]? = some o) W (hK.mono fun i hi => .inl hi) (jn_one hJ ab o) (jn_one hJx ab o) ?_ ⟨h0, hn, hoW⟩).mono ?_
  · rintro k v E W1 ⟨q1, q2, q3⟩ hf hk
    obtain ⟨fn, tmps, assign, body, hy, hR⟩ := hY k v (Ed E ab) W1 q1 hf hk
    refine ⟨fn, tmps, assign, body, hy, hR.mono ?_⟩
    rintro e W' (⟨r1, r2, r3⟩ | ⟨r1, r2, r3⟩)
    · exact .inl ⟨r1, ⟨r2, q2, (r3.2 ab (.inr rfl)).trans q3⟩, r3.mono fun i hi => .inl hi⟩
    · exact .inr ⟨r1, ⟨r2, q2, (r3.2 ab (.inr rfl)).trans q3⟩, r3.mono fun i hi => .inl hi⟩
  · rintro e W' ⟨hv, hj, hke⟩
    have hab : W'.heap[ab]? = some o := by rcases hj with z | z <;> exact z.2.2
    refine ⟨hv, hj.imp (·.1) (·.1), hke.1, fun i hi => ?_⟩
    rcases hi with z | z
    · exact hke.2 i z
    · rw [z]; exact hab.trans hoW.symm
/-- The same without the loop's own two blocks. -/
def Wi (B : Nat) (E : Nat → Prop) (i : Nat) : Prop := E i ∨ i = B ∨ i = B + 1

theorem range_fitN {F : Fence} {n : Nat} {P : Program} {g : Operand} {ps : Array Tmp} {assign body : Code} {Q : Exit → Act → World → Prop} {a : Act} {w : World}
    (hro : F.round = none) (h1 : 1 ≤ n) {gf : Nat} {lb : Array Value} (hg : a.eval g = .func (.func gf) #[] lb) (hFg : F.fn gf) (eg : ∀ args w, (callFunc gf args).run P w = .ok (.enter gf args) w)
    {enc : Nat → Value → Array Value} {Fit : Nat → Value → Prop} {D : Nat → Prop} {N : Nat} {w0 : World} (hit : IterN F (n - 1) P gf lb enc Fit D N w0) (hw0 : KE D w0 w) (hD : ∀ i, D i → i < w.heap.size) (hps : ∀ k v, (enc k v).size = ps.size)
    (I : Nat → (Nat → Prop) → World → Prop) (Ix : Code → (Nat → Prop) → World → Prop) (hI : JN I) (hIx : JN Ix) (h0 : I 0 D w) (A : Nat → Value → Act → (Nat → Prop) → World → Prop) (hA : ∀ k v, JN (A k v))
    (hassign : ∀ (l k : Nat) (v : Value) (E : Nat → Prop) (W : World), w.heap.size ≤ l → I k E W → (∀ i, D i → E i) → (∀ i, E i → i < W.heap.size) → Fit k v → k < N →
      assign.wpIn (F.inRound l) (n - 1 - 1) P (Exit.then (fun a₁ W₁ => KE E W W₁ ∧ A k v a₁ E W₁) (fun _ _ _ => False)) { tmps := (ps.zip (enc k v)).foldl (fun t (p, v) => t.setIfInBounds p v) a.tmps, defers := [] } W)
    (hbody : ∀ (l k : Nat) (v : Value) (a₁ : Act) (E : Nat → Prop) (W : World), w.heap.size ≤ l → E l → (∃ r, W.heap[l]? = some (.loop r)) → A k v a₁ E W → (∀ i, D i → E i) → (∀ i, E i → i < W.heap.size) → k < N → body.wpIn (F.inRound l) (n - 1 - 1) P (OutN E I Ix k W) a₁ W)
    (hdone : ∀ (d : Nat) (W : World), w.heap.size ≤ d → I N (fun i => D i ∨ i = d) W → W.heap[d]? = some (.deferred (some [])) → KE D w W → Q .normal { a with defers := { target := .collected d, args := #[] } :: a.defers } W)
    (hstop : ∀ (d : Nat) (c : Code) (W : World), w.heap.size ≤ d → Ix c (fun i => D i ∨ i = d) W → W.heap[d]? = some (.deferred (some [])) → KE D w W → c.wpIn F n P Q { a with defers := { target := .collected d, args := #[] } :: a.defers } W) :
    (Code.rangeFunc g ps assign body).wpIn F n P Q a w := by
  refine wpIn_rangeFunc fun fn hfn => ?_
  rw [hro]
  let R : LoopState → Option Code → Loop := fun st pe => { state := st, pending := pe, fn, tmps := a.tmps, params := ps, assign, body, defers := w.heap.size }
  let BK : LoopState → Option Code → World → Prop := fun st pe W => W.heap[w.heap.size + 1]? = some (.loop (R st pe)) ∧ W.heap[w.heap.size]? = some (.deferred (some []))
  have bk_put : ∀ {st pe W} (st' pe'), BK st pe W → BK st' pe' (W.putObj (w.heap.size + 1) (.loop (R st' pe'))) := fun st' pe' h =>
    ⟨World.putObj_heap_same (Array.getElem?_eq_some_iff.1 h.1).1, (World.putObj_heap_other (by omega)).trans h.2⟩
  have bk_kept : ∀ {st pe A C} {E : Nat → Prop}, BK st pe A → KE (Wi w.heap.size E) A C → BK st pe C := fun h k => ⟨(k.2 _ (.inr (.inr rfl))).trans h.1, (k.2 _ (.inr (.inl rfl))).trans h.2⟩
  have bk_grown : ∀ {st pe A C row}, BK st pe A → A.grownBy C row → (∀ r, row = some r → r ≠ w.heap.size ∧ r ≠ w.heap.size + 1) → BK st pe C := fun h k hr =>
    ⟨(k.block _ (Array.getElem?_eq_some_iff.1 h.1).1 (fun e => (hr _ e.symm).2 rfl)).trans h.1, (k.block _ (Array.getElem?_eq_some_iff.1 h.2).1 (fun e => (hr _ e.symm).1 rfl)).trans h.2⟩
  obtain ⟨W1, hW1⟩ : ∃ W1, (w.alloc (.deferred (some []))).alloc (.loop (R .ready none)) = W1 := ⟨_, rfl⟩
  have hs1 : W1.heap.size = w.heap.size + 2 := by rw [← hW1]; simp
  have hg1 : w.grownBy W1 none := by
    rw [← hW1]
    exact ⟨rfl, rfl, rfl, by simp; omega, fun i hi _ => (Below.heap_alloc _ _ _ (by simp; omega)).trans (Below.heap_alloc _ _ _ hi)⟩
  have hBK1 : BK .ready none W1 := by
    rw [← hW1]
    refine ⟨?_, (Below.heap_alloc _ _ _ (by simp)).trans (World.alloc_heap_new w _)⟩
    have := World.alloc_heap_new (w.alloc (.deferred (some []))) (.loop (R .ready none))
    rwa [World.size_alloc] at this
  -- E and the loop's own blocks
  let SD : (Nat → Prop) → Prop := fun E => (∀ i, E i → i ≠ w.heap.size ∧ i ≠ w.heap.size + 1) ∧ ∀ i, D i → E i
  have hSD : SD D := ⟨fun i hi => by have := hD i hi; omega, fun _ h => h⟩
  let JJ : Nat → (Nat → Prop) → World → Prop := fun k E W => ∃ E', (∀ i, E i → E' i) ∧ SD E' ∧ I k (Wi w.heap.size E') W ∧ BK .ready none W ∧ ∀ i, E' i → i < W.heap.size
  let JX : Unit → (Nat → Prop) → World → Prop := fun _ E W => ∃ c E', (∀ i, E i → E' i) ∧ SD E' ∧ Ix c (Wi w.heap.size E') W ∧ BK .done (some c) W ∧ ∀ i, E' i → i < W.heap.size
  have bks : ∀ {st pe W}, BK st pe W → w.heap.size + 1 < W.heap.size := fun h => (Array.getElem?_eq_some_iff.1 h.1).1
  have hJJ : JN JJ := ⟨fun k E X C ⟨E', h1, h2, h3, h4, h5⟩ hg => ⟨fun i => E' i ∨ (X.heap.size ≤ i ∧ i < C.heap.size), fun i hi => hi.imp (h1 i) id, ⟨fun i hi => by
      rcases hi with z | z
      · exact h2.1 i z
      · have := bks h4; omega, fun i hi => .inl (h2.2 i hi)⟩, hI.less _ _ _ _ (hI.more _ _ _ _ h3 hg) (fun i hi => by
      rcases hi with (z | z) | z
      · exact .inl (.inl z)
      · exact .inr z
      · exact .inl (.inr z)), bk_grown h4 hg (fun r e => by cases e), fun i hi => by
      rcases hi with z | z
      · exact Nat.lt_of_lt_of_le (h5 i z) hg.size
      · exact z.2⟩,
    fun k E X C r ⟨E', h1, h2, h3, h4, h5⟩ hr hg hs => ⟨E', h1, h2, hI.turn _ _ _ _ r h3 (.inl (h1 r hr)) hg hs, bk_grown h4 hg (fun q e => by cases e; exact h2.1 r (h1 r hr)), fun i hi => hs ▸ h5 i hi⟩,
    fun k E E2 X ⟨E', h1, h2, h3, h4, h5⟩ hl => ⟨E', fun i hi => h1 i (hl i hi), h2, h3, h4, h5⟩⟩
  have hJX : JN JX := ⟨fun k E X C ⟨c, E', h1, h2, h3, h4, h5⟩ hg => ⟨c, fun i => E' i ∨ (X.heap.size ≤ i ∧ i < C.heap.size), fun i hi => hi.imp (h1 i) id, ⟨fun i hi => by
      rcases hi with z | z
      · exact h2.1 i z
      · have := bks h4; omega, fun i hi => .inl (h2.2 i hi)⟩, hIx.less _ _ _ _ (hIx.more _ _ _ _ h3 hg) (fun i hi => by
      rcases hi with (z | z) | z
      · exact .inl (.inl z)
      · exact .inr z
      · exact .inl (.inr z)), bk_grown h4 hg (fun r e => by cases e), fun i hi => by
      rcases hi with z | z
      · exact Nat.lt_of_lt_of_le (h5 i z) hg.size
      · exact z.2⟩,
    fun k E X C r ⟨c, E', h1, h2, h3, h4, h5⟩ hr hg hs => ⟨c, E', h1, h2, hIx.turn _ _ _ _ r h3 (.inl (h1 r hr)) hg hs, bk_grown h4 hg (fun q e => by cases e; exact h2.1 r (h1 r hr)), fun i hi => hs ▸ h5 i hi⟩,
    fun k E E2 X ⟨c, E', h1, h2, h3, h4, h5⟩ hl => ⟨c, E', fun i hi => h1 i (hl i hi), h2, h3, h4, h5⟩⟩
  have hI1 : JJ 0 D W1 := ⟨D, fun _ h => h, hSD, hI.less _ _ _ _ (hI.more _ _ _ _ h0 hg1) (fun i hi => by
    rcases hi with z | z | z
    · exact .inl z
    · exact .inr (by omega)
    · exact .inr (by omega)), hBK1, fun i hi => by have := hD i hi; omega⟩
  refine ⟨w.heap.size + 1, [{ target := .collected w.heap.size, args := #[] }], W1, { target := .fn (.func gf) lb, args := #[.func (.yield (w.heap.size + 1)) #[] #[]] }, W1, gf, #[.func (.yield (w.heap.size + 1)) #[] #[]] ++ lb, W1, ?_, ?_, ?_, ?_, fun _ => h1, ?_⟩
  · rw [← hW1]; exact run_enterLoop_outer _ _ _ _ _
  · simp only [resolve, hg]; simp [go_sem]
  · intro f' hf'; simp [Target.leads] at hf'; subst hf'; exact hFg
  · simp [invoke, go_sem, eg]
  · refine (hit (w.heap.size + 1) JJ JX W1 (hw0.trans ⟨hg1.size, fun i hi => hg1.block i (hD i hi) (by simp)⟩) hJJ hJX ?_ hI1).mono ?_
    · rintro k v E W ⟨E', hE, hS, hi, hb, hz⟩ hf hk
      have hzw : ∀ {A : World}, W.heap.size ≤ A.heap.size → ∀ i, Wi w.heap.size E' i → i < A.heap.size := fun hA i h => by
        have hbs := bks hb
        rcases h with h | h | h
        · exact Nat.lt_of_lt_of_le (hz i h) hA
        · omega
        · omega
      have hmem : Wi w.heap.size E' (w.heap.size + 1) := .inr (.inr rfl)
      have hDE : ∀ i, D i → Wi w.heap.size E' i := fun i hi => .inl (hS.2 i hi)
      have hnE : ¬ E (w.heap.size + 1) := fun h => (hS.1 _ (hE _ h)).2 rfl
      refine ⟨fn, _, assign, body, run_yield (P := P) (r := R .ready none) (args := enc k v) hb.1 (hps k v), roundIn_of_wpIn hfn (wpIn_mono (hassign _ k v (Wi w.heap.size E') W (by omega) hi hDE (hzw (Nat.le_refl _)) hf hk) ?_)⟩
      rintro e1 a1 Wa hp1
      have hn1 : e1 = .normal := by cases e1 <;> first | rfl | exact hp1.elim
      subst hn1
      obtain ⟨m1, m3⟩ := hp1
      have hb1 := bk_kept hb m1
      refine ⟨_, run_beginRound hb1.1 rfl, ?_⟩
      have hb2 : BK .busy none (Wa.putObj (w.heap.size + 1) (.loop (R .busy none))) := bk_put _ _ hb1
      have m1' : KE E W Wa := m1.mono fun i hi => .inl (hE i hi)
      refine wpIn_mono (hbody _ k v a1 (Wi w.heap.size E') _ (by omega) hmem ⟨_, hb2.1⟩ ((hA k v).put _ m3 hmem) hDE (hzw (by simp; exact m1.1)) hk) ?_
      rintro e a3 W3 hp
      cases e with
      | normal =>
        obtain ⟨k2, k3⟩ := hp
        have hb3 := bk_kept hb2 k2
        exact ⟨_, _, run_endRound (P := P) none hb3.1, .inl ⟨rfl, ⟨E', hE, hS, hI.put _ k3 hmem, bk_put .ready none hb3, fun i hi => hzw (by have := m1.1; have := k2.1; simp at this ⊢; omega) i (.inl hi)⟩, (m1'.trans ((KE.put hnE _).trans (k2.mono fun i hi => .inl (hE i hi)))).trans (KE.put hnE _)⟩⟩
      | ret =>
        have hb3 := bk_kept hb2 hp.1
        exact ⟨_, _, run_endRound (P := P) (some .ret) hb3.1, .inr ⟨rfl, ⟨.ret, E', hE, hS, hIx.put _ hp.2 hmem, bk_put .done (some .ret) hb3, fun i hi => hzw (by have := m1.1; have := hp.1.1; simp at this ⊢; omega) i (.inl hi)⟩, (m1'.trans ((KE.put hnE _).trans (hp.1.mono fun i hi => .inl (hE i hi)))).trans (KE.put hnE _)⟩⟩
      | exit id =>
        have hb3 := bk_kept hb2 hp.1
        exact ⟨_, _, run_endRound (P := P) (some (.exit id)) hb3.1, .inr ⟨rfl, ⟨.exit id, E', hE, hS, hIx.put _ hp.2 hmem, bk_put .done (some (.exit id)) hb3, fun i hi => hzw (by have := m1.1; have := hp.1.1; simp at this ⊢; omega) i (.inl hi)⟩, (m1'.trans ((KE.put hnE _).trans (hp.1.mono fun i hi => .inl (hE i hi)))).trans (KE.put hnE _)⟩⟩
      | goto t => exact hp.elim
      | panic ch => exact hp.elim
      | outgrown => exact hp.elim
    · rintro e W2 ⟨⟨v, rfl⟩, ⟨E', hE, hS, hi, hb, -⟩ | ⟨c, E', hE, hS, hc, hb, -⟩, hke⟩
      all_goals have hkf : ∀ o, KE D w (W2.putObj (w.heap.size + 1) o) := fun o => (KE.trans ⟨hg1.size, fun i hi => hg1.block i (hD i hi) (by simp)⟩ hke).trans (KE.put (fun q => by have := hD _ q; omega) o)
      · exact ⟨none, _, run_endLoop (P := P) hb.1 (by simp [R]), hdone _ _ (Nat.le_refl _) (hI.less _ _ _ _ (hI.put _ hi (.inr (.inr rfl))) fun i hi => hi.imp (hE i) .inl) ((World.putObj_heap_other (by omega)).trans hb.2) (hkf _)⟩
      · exact ⟨some c, _, run_endLoop (P := P) hb.1 (by simp [R]), hstop _ c _ (Nat.le_refl _) (hIx.less _ _ _ _ (hIx.put _ hc (.inr (.inr rfl))) fun i hi => hi.imp (hE i) .inl) ((World.putObj_heap_other (by omega)).trans hb.2) (hkf _)⟩
end Go.Proofs.Ytajdopmhdagehaa
