/- Of the road to cutSegments_holds: RangeR, RangeW, AppB, SameBytes, Marks, Lists, MarksMore, Apart, LentKit. -/
import Derived.Test.YtjfebbhnjcnepaaG05
import Derived.RangeFuncNested
import Derived.Laws.AppendOwn
import Derived.Test.YtjfebbhnjcnepaaG00
import Derived.Test.YtjfebbhnjcnepaaChecked
import Derived.Deep.RegionHeld3
set_option linter.unusedVariables false
set_option linter.unusedSimpArgs false
namespace Go.Proofs.Ytjfebbhnjcnepaa
open Go.RowKit Go.Shelf
theorem IterN.inRound {F : Fence} {n : Nat} {P : Program} {g : Nat} {lb : Array Value} {enc : Nat → Value → Array Value} {Fit : Nat → Value → Prop} {D : Nat → Prop} {N : Nat} {w0 : World} (l : Nat) (h : IterN F n P g lb enc Fit D N w0) : IterN (F.inRound l) n P g lb enc Fit D N w0 := h
theorem range_fitR {F : Fence} {l0 : Nat} {r0 : Loop} {n : Nat} {P : Program} {g : Operand} {ps : Array Tmp} {assign body : Code} {Q : Exit → Act → World → Prop} {a : Act} {w : World}
    (hro : F.round = some l0) (hl0 : w.heap[l0]? = some (.loop r0)) (h1 : F.depth.isSome = true → 1 ≤ n) {gf : Nat} {lb : Array Value} (hg : a.eval g = .func (.func gf) #[] lb) (hFg : F.fn gf) (eg : ∀ args w, (callFunc gf args).run P w = .ok (.enter gf args) w)
    {enc : Nat → Value → Array Value} {Fit : Nat → Value → Prop} {D : Nat → Prop} {N : Nat} {w0 : World} (hit : IterN F (n - 1) P gf lb enc Fit D N w0) (hw0 : KE D w0 w) (hD : ∀ i, D i → i < w.heap.size) (hps : ∀ k v, (enc k v).size = ps.size)
    (I : Nat → (Nat → Prop) → World → Prop) (Ix : Code → (Nat → Prop) → World → Prop) (hI : JN I) (hIx : JN Ix) (h0 : I 0 D w) (A : Nat → Value → Act → (Nat → Prop) → World → Prop) (hA : ∀ k v, JN (A k v))
    (hassign : ∀ (l k : Nat) (v : Value) (E : Nat → Prop) (W : World), w.heap.size ≤ l → I k E W → (∀ i, D i → E i) → (∀ i, E i → i < W.heap.size) → Fit k v → k < N →
      assign.wpIn (F.inRound l) (n - 1 - 1) P (Exit.then (fun a₁ W₁ => KE E W W₁ ∧ A k v a₁ E W₁) (fun _ _ _ => False)) { tmps := (ps.zip (enc k v)).foldl (fun t (p, v) => t.setIfInBounds p v) a.tmps, defers := [] } W)
    (hbody : ∀ (l k : Nat) (v : Value) (a₁ : Act) (E : Nat → Prop) (W : World), w.heap.size ≤ l → E l → (∃ r, W.heap[l]? = some (.loop r)) → A k v a₁ E W → (∀ i, D i → E i) → (∀ i, E i → i < W.heap.size) → KE D w W → k < N → body.wpIn (F.inRound l) (n - 1 - 1) P (OutN E I Ix k W) a₁ W)
    (hdone : ∀ (W : World), I N D W → KE D w W → Q .normal a W)
    (hstop : ∀ (c : Code) (W : World), Ix c D W → KE D w W → c.wpIn F n P Q a W) :
    (Code.rangeFunc g ps assign body).wpIn F n P Q a w := by
  refine wpIn_rangeFunc fun fn hfn => ?_
  rw [hro]
  let R : LoopState → Option Code → Loop := fun st pe => { state := st, pending := pe, fn, tmps := a.tmps, params := ps, assign, body, defers := r0.defers }
  let BK : LoopState → Option Code → World → Prop := fun st pe W => W.heap[w.heap.size]? = some (.loop (R st pe))
  have bk_put : ∀ {st pe W} (st' pe'), BK st pe W → BK st' pe' (W.putObj w.heap.size (.loop (R st' pe'))) := fun st' pe' h =>
    World.putObj_heap_same (Array.getElem?_eq_some_iff.1 h).1
  have bk_kept : ∀ {st pe A C} {E : Nat → Prop}, BK st pe A → KE (Ed E w.heap.size) A C → BK st pe C := fun h k => (k.2 _ (.inr rfl)).trans h
  have bk_grown : ∀ {st pe A C row}, BK st pe A → A.grownBy C row → (∀ r, row = some r → r ≠ w.heap.size) → BK st pe C := fun h k hr =>
    (k.block _ (Array.getElem?_eq_some_iff.1 h).1 (fun e => hr _ e.symm rfl)).trans h
  obtain ⟨W1, hW1⟩ : ∃ W1, w.alloc (.loop (R .ready none)) = W1 := ⟨_, rfl⟩
  have hs1 : W1.heap.size = w.heap.size + 1 := by rw [← hW1]; simp
  have hg1 : w.grownBy W1 none := by
    rw [← hW1]
    exact ⟨rfl, rfl, rfl, by simp, fun i hi _ => Below.heap_alloc _ _ _ hi⟩
  have hBK1 : BK .ready none W1 := by
    rw [← hW1]
    exact World.alloc_heap_new w _
  -- E and the loop's own blocks
  let SD : (Nat → Prop) → Prop := fun E => (∀ i, E i → i ≠ w.heap.size) ∧ ∀ i, D i → E i
  have hSD : SD D := ⟨fun i hi => by have := hD i hi; omega, fun _ h => h⟩
  let JJ : Nat → (Nat → Prop) → World → Prop := fun k E W => ∃ E', (∀ i, E i → E' i) ∧ SD E' ∧ I k (Ed E' w.heap.size) W ∧ BK .ready none W ∧ ∀ i, E' i → i < W.heap.size
  let JX : Unit → (Nat → Prop) → World → Prop := fun _ E W => ∃ c E', (∀ i, E i → E' i) ∧ SD E' ∧ Ix c (Ed E' w.heap.size) W ∧ BK .done (some c) W ∧ ∀ i, E' i → i < W.heap.size
  have bks : ∀ {st pe W}, BK st pe W → w.heap.size < W.heap.size := fun h => (Array.getElem?_eq_some_iff.1 h).1
  have hJJ : JN JJ := ⟨fun k E X C ⟨E', h1, h2, h3, h4, h5⟩ hg => ⟨fun i => E' i ∨ (X.heap.size ≤ i ∧ i < C.heap.size), fun i hi => hi.imp (h1 i) id, ⟨fun i hi => by
      rcases hi with z | z
      · exact h2.1 i z
      · have := bks h4; omega, fun i hi => .inl (h2.2 i hi)⟩, hI.less _ _ _ _ (hI.more _ _ _ _ h3 hg) (fun i hi => by
      rcases hi with (z | z) | z
      · exact .inl (.inl z)
      · exact .inr z
      · exact .inl (.inr z)), bk_grown h4 hg (fun r e => by cases e), fun i hi => by
      rcases hi with z | z
      · exact Nat.lt_of_lt_of_le (h5 i z) hg.size
      · exact z.2⟩,
    fun k E X C r ⟨E', h1, h2, h3, h4, h5⟩ hr hg hs => ⟨E', h1, h2, hI.turn _ _ _ _ r h3 (.inl (h1 r hr)) hg hs, bk_grown h4 hg (fun q e => by cases e; exact h2.1 r (h1 r hr)), fun i hi => hs ▸ h5 i hi⟩,
    fun k E E2 X ⟨E', h1, h2, h3, h4, h5⟩ hl => ⟨E', fun i hi => h1 i (hl i hi), h2, h3, h4, h5⟩⟩
  have hJX : JN JX := ⟨fun k E X C ⟨c, E', h1, h2, h3, h4, h5⟩ hg => ⟨c, fun i => E' i ∨ (X.heap.size ≤ i ∧ i < C.heap.size), fun i hi => hi.imp (h1 i) id, ⟨fun i hi => by
      rcases hi with z | z
      · exact h2.1 i z
      · have := bks h4; omega, fun i hi => .inl (h2.2 i hi)⟩, hIx.less _ _ _ _ (hIx.more _ _ _ _ h3 hg) (fun i hi => by
      rcases hi with (z | z) | z
      · exact .inl (.inl z)
      · exact .inr z
      · exact .inl (.inr z)), bk_grown h4 hg (fun r e => by cases e), fun i hi => by
      rcases hi with z | z
      · exact Nat.lt_of_lt_of_le (h5 i z) hg.size
      · exact z.2⟩,
    fun k E X C r ⟨c, E', h1, h2, h3, h4, h5⟩ hr hg hs => ⟨c, E', h1, h2, hIx.turn _ _ _ _ r h3 (.inl (h1 r hr)) hg hs, bk_grown h4 hg (fun q e => by cases e; exact h2.1 r (h1 r hr)), fun i hi => hs ▸ h5 i hi⟩,
    fun k E E2 X ⟨c, E', h1, h2, h3, h4, h5⟩ hl => ⟨c, E', fun i hi => h1 i (hl i hi), h2, h3, h4, h5⟩⟩
  have hI1 : JJ 0 D W1 := ⟨D, fun _ h => h, hSD, hI.less _ _ _ _ (hI.more _ _ _ _ h0 hg1) (fun i hi => by
    rcases hi with z | z
    · exact .inl z
    · exact .inr (by omega)), hBK1, fun i hi => by have := hD i hi; omega⟩
  refine ⟨w.heap.size, [], W1, { target := .fn (.func gf) lb, args := #[.func (.yield w.heap.size) #[] #[]] }, W1, gf, #[.func (.yield w.heap.size) #[] #[]] ++ lb, W1, ?_, ?_, ?_, ?_, h1, ?_⟩
  · rw [← hW1]; exact run_enterLoop_inner hl0 _ _ _ _ _
  · simp only [resolve, hg]; simp [go_sem]
  · intro f' hf'; simp [Target.leads] at hf'; subst hf'; exact hFg
  · simp [invoke, go_sem, eg]
  · refine (hit w.heap.size JJ JX W1 (hw0.trans ⟨hg1.size, fun i hi => hg1.block i (hD i hi) (by simp)⟩) hJJ hJX ?_ hI1).mono ?_
    · rintro k v E W ⟨E', hE, hS, hi, hb, hz⟩ hf hk hkd
      have hzw : ∀ {A : World}, W.heap.size ≤ A.heap.size → ∀ i, Ed E' w.heap.size i → i < A.heap.size := fun hA i h => by
        have hbs := bks hb
        rcases h with h | h
        · exact Nat.lt_of_lt_of_le (hz i h) hA
        · omega
      have hmem : Ed E' w.heap.size w.heap.size := .inr rfl
      have hDE : ∀ i, D i → Ed E' w.heap.size i := fun i hi => .inl (hS.2 i hi)
      have hnE : ¬ E w.heap.size := fun h => hS.1 _ (hE _ h) rfl
      refine ⟨fn, _, assign, body, run_yield (P := P) (r := R .ready none) (args := enc k v) hb (hps k v), roundIn_of_wpIn hfn (wpIn_mono (hassign _ k v (Ed E' w.heap.size) W (by omega) hi hDE (hzw (Nat.le_refl _)) hf hk) ?_)⟩
      rintro e1 a1 Wa hp1
      have hn1 : e1 = .normal := by cases e1 <;> first | rfl | exact hp1.elim
      subst hn1
      obtain ⟨m1, m3⟩ := hp1
      have hb1 := bk_kept hb m1
      refine ⟨_, run_beginRound hb1 rfl, ?_⟩
      have hb2 : BK .busy none (Wa.putObj w.heap.size (.loop (R .busy none))) := bk_put _ _ hb1
      have m1' : KE E W Wa := m1.mono fun i hi => .inl (hE i hi)
      refine wpIn_mono (hbody _ k v a1 (Ed E' w.heap.size) _ (by omega) hmem ⟨_, hb2⟩ ((hA k v).put _ m3 hmem) hDE (hzw (by simp; exact m1.1)) (((KE.trans ⟨hg1.size, fun i hi => hg1.block i (hD i hi) (by simp)⟩ hkd).trans (m1.mono fun i hi => hDE i hi)).trans (KE.put (fun q => by have := hD _ q; omega) _)) hk) ?_
      rintro e a3 W3 hp
      cases e with
      | normal =>
        obtain ⟨k2, k3⟩ := hp
        have hb3 := bk_kept hb2 k2
        exact ⟨_, _, run_endRound (P := P) none hb3, .inl ⟨rfl, ⟨E', hE, hS, hI.put _ k3 hmem, bk_put .ready none hb3, fun i hi => hzw (by have := m1.1; have := k2.1; simp at this ⊢; omega) i (.inl hi)⟩, (m1'.trans ((KE.put hnE _).trans (k2.mono fun i hi => .inl (hE i hi)))).trans (KE.put hnE _)⟩⟩
      | ret =>
        have hb3 := bk_kept hb2 hp.1
        exact ⟨_, _, run_endRound (P := P) (some .ret) hb3, .inr ⟨rfl, ⟨.ret, E', hE, hS, hIx.put _ hp.2 hmem, bk_put .done (some .ret) hb3, fun i hi => hzw (by have := m1.1; have := hp.1.1; simp at this ⊢; omega) i (.inl hi)⟩, (m1'.trans ((KE.put hnE _).trans (hp.1.mono fun i hi => .inl (hE i hi)))).trans (KE.put hnE _)⟩⟩
      | exit id =>
        have hb3 := bk_kept hb2 hp.1
        exact ⟨_, _, run_endRound (P := P) (some (.exit id)) hb3, .inr ⟨rfl, ⟨.exit id, E', hE, hS, hIx.put _ hp.2 hmem, bk_put .done (some (.exit id)) hb3, fun i hi => hzw (by have := m1.1; have := hp.1.1; simp at this ⊢; omega) i (.inl hi)⟩, (m1'.trans ((KE.put hnE _).trans (hp.1.mono fun i hi => .inl (hE i hi)))).trans (KE.put hnE _)⟩⟩
      | goto t => exact hp.elim
      | panic ch => exact hp.elim
      | outgrown => exact hp.elim
    · rintro e W2 ⟨⟨v, rfl⟩, ⟨E', hE, hS, hi, hb, -⟩ | ⟨c, E', hE, hS, hc, hb, -⟩, hke⟩
      all_goals have hkf : ∀ o, KE D w (W2.putObj w.heap.size o) := fun o => (KE.trans ⟨hg1.size, fun i hi => hg1.block i (hD i hi) (by simp)⟩ hke).trans (KE.put (fun q => by have := hD _ q; omega) o)
      · exact ⟨none, _, run_endLoop (P := P) hb (by simp [R]), hdone _ (hI.less _ _ _ _ (hI.put _ hi (.inr rfl)) fun i hi => .inl (hE i hi)) (hkf _)⟩
      · exact ⟨some c, _, run_endLoop (P := P) hb (by simp [R]), hstop c _ (hIx.less _ _ _ _ (hIx.put _ hc (.inr rfl)) fun i hi => .inl (hE i hi)) (hkf _)⟩
theorem range_fitRD {F : Fence} {l0 : Nat} {r0 : Loop} {n : Nat} {P : Program} {g : Operand} {ps : Array Tmp} {assign body : Code} {Q : Exit → Act → World → Prop} {a : Act} {w : World}
    (hro : F.round = some l0) (hl0 : w.heap[l0]? = some (.loop r0)) (h1 : F.depth.isSome = true → 1 ≤ n) {gf : Nat} {lb : Array Value} (hg : a.eval g = .func (.func gf) #[] lb) (hFg : F.fn gf) (eg : ∀ args w, (callFunc gf args).run P w = .ok (.enter gf args) w)
    {enc : Nat → Value → Array Value} {Fit : Nat → Value → Prop} {D : Nat → Prop} {N : Nat} {w0 : World} (hit : IterN F (n - 1) P gf lb enc Fit D N w0) (hw0 : KE D w0 w) (hD : ∀ i, D i → i < w.heap.size) (hps : ∀ k v, (enc k v).size = ps.size)
    (I : Nat → (Nat → Prop) → World → Prop) (Ix : Code → (Nat → Prop) → World → Prop) (hI : JN I) (hIx : JN Ix) (h0 : I 0 D w) (ds : Nat) (B : Nat → Value → Obj)
    (hassign : ∀ (l k : Nat) (v : Value) (W : World), Fit k v → k < N →
      assign.wpIn (F.inRound l) (n - 1 - 1) P (Exit.then (fun a₁ W₁ => a₁ = dAct a ps (enc k v) ds W.heap.size ∧ W₁ = W.alloc (B k v)) (fun _ _ _ => False)) { tmps := (ps.zip (enc k v)).foldl (fun t (p, v) => t.setIfInBounds p v) a.tmps, defers := [] } W)
    (hbody : ∀ (l k : Nat) (v : Value) (db : Nat) (E : Nat → Prop) (W : World), w.heap.size ≤ l → E l → (∃ r, W.heap[l]? = some (.loop r)) → I k (Ed E db) W → ¬ E db → W.heap[db]? = some (B k v) → (∀ i, D i → E i) → (∀ i, E i → i < W.heap.size) → KE D w W → Fit k v → k < N → body.wpIn (F.inRound l) (n - 1 - 1) P (OutN E I Ix k W) (dAct a ps (enc k v) ds db) W)
    (hdone : ∀ (W : World), I N D W → KE D w W → Q .normal a W)
    (hstop : ∀ (c : Code) (W : World), Ix c D W → KE D w W → c.wpIn F n P Q a W) :
    (Code.rangeFunc g ps assign body).wpIn F n P Q a w := by
  refine range_fitR hro hl0 h1 hg hFg eg hit hw0 hD hps I Ix hI hIx h0 (fun k v a₁ E W => ∃ db, a₁ = dAct a ps (enc k v) ds db ∧ Fit k v ∧ (I k (Ed E db) W ∧ ¬ E db ∧ W.heap[db]? = some (B k v)))
    (fun k v => ⟨fun s E A C ⟨db, q1, q2, q3⟩ hg => ⟨db, q1, q2, (jn_one hI db _).more k _ _ _ q3 hg⟩, fun s E A C r ⟨db, q1, q2, q3⟩ hr hg hs => ⟨db, q1, q2, (jn_one hI db _).turn k _ _ _ r q3 hr hg hs⟩, fun s E E' A ⟨db, q1, q2, q3⟩ hl => ⟨db, q1, q2, (jn_one hI db _).less k _ _ _ q3 hl⟩⟩) ?_ ?_ hdone hstop
  · intro l k v E W hl hi hDE hEl hf hk
    refine wpIn_mono (hassign l k v W hf hk) ?_
    rintro e a1 W1 hp
    have hn1 : e = .normal := by cases e <;> first | rfl | exact hp.elim
    subst hn1
    obtain ⟨rfl, rfl⟩ := hp
    have hs : (W.alloc (B k v)).heap.size = W.heap.size + 1 := by simp
    refine ⟨⟨by omega, fun i hi => Below.heap_alloc W _ i (hEl i hi)⟩, W.heap.size, rfl, hf, hI.less _ _ _ _ (hI.more k E W (W.alloc (B k v)) hi ⟨rfl, rfl, rfl, by omega, fun i hi _ => Below.heap_alloc W _ i hi⟩) (fun i hi => ?_), fun q => by have := hEl _ q; omega, World.alloc_heap_new W _⟩
    rcases hi with z | z
    · exact .inl z
    · exact .inr (by omega)
  · rintro l k v a1 E W hl hE hr ⟨db, rfl, hf, q1, q2, q3⟩ hDE hEl hkd hk
    exact hbody l k v db E W hl hE hr q1 q2 q3 hDE hEl hkd hf hk
theorem jn_more {β : Type} {J : β → (Nat → Prop) → World → Prop} (h : JN J) (X : Nat → Prop) (w0 : World) (hX : ∀ i, X i → i < w0.heap.size) : JN (fun s E W => J s (fun i => E i ∨ X i) W ∧ (∀ i, X i → ¬ E i) ∧ ∀ i, X i → W.heap[i]? = w0.heap[i]?) where
  more := fun s E A C ⟨h1, h2, h3⟩ hg => by
    have hl : ∀ i, X i → i < A.heap.size := fun i hi => by
      have e := h3 i hi
      rw [Array.getElem?_eq_getElem (hX i hi)] at e
      exact (Array.getElem?_eq_some_iff.1 e).1
    refine ⟨h.less _ _ _ _ (h.more _ _ _ _ h1 hg) (fun i hi => ?_), fun i hi q => ?_, fun i hi => (hg.block i (hl i hi) (by simp)).trans (h3 i hi)⟩
    · rcases hi with (z | z) | z
      · exact .inl (.inl z)
      · exact .inr z
      · exact .inl (.inr z)
    · rcases q with z | z
      · exact h2 i hi z
      · have := hl i hi; omega
  turn := fun s E A C r ⟨h1, h2, h3⟩ hr hg hs => by
    have hl : ∀ i, X i → i < A.heap.size := fun i hi => by
      have e := h3 i hi
      rw [Array.getElem?_eq_getElem (hX i hi)] at e
      exact (Array.getElem?_eq_some_iff.1 e).1
    exact ⟨h.turn _ _ _ _ r h1 (.inl hr) hg hs, h2, fun i hi => (hg.block i (hl i hi) (fun e => h2 i hi (by cases e; exact hr))).trans (h3 i hi)⟩
  less := fun s E E' A ⟨h1, h2, h3⟩ hl => ⟨h.less _ _ _ _ h1 (fun i hi => hi.imp (hl i) id), fun i hi q => h2 i hi (hl _ q), h3⟩
theorem IterN.more {F : Fence} {n : Nat} {P : Program} {g : Nat} {lb : Array Value} {enc : Nat → Value → Array Value} {Fit : Nat → Value → Prop} {D : Nat → Prop} {N : Nat} {w0 : World} (h : IterN F n P g lb enc Fit D N w0) (X : Nat → Prop) (hn : ∀ i, X i → ¬ D i) (hX : ∀ i, X i → i < w0.heap.size) : IterN F n P g lb enc Fit (fun i => D i ∨ X i) N w0 := fun l J Jx W hK hJ hJx hY h0 => by
  refine (h l (fun k E W => J k (fun i => E i ∨ X i) W ∧ (∀ i, X i → ¬ E i) ∧ ∀ i, X i → W.heap[i]? = w0.heap[i]?) (fun s E W => Jx s (fun i => E i ∨ X i) W ∧ (∀ i, X i → ¬ E i) ∧ ∀ i, X i → W.heap[i]? = w0.heap[i]?) W (hK.mono fun i hi => .inl hi) (jn_more hJ X w0 hX) (jn_more hJx X w0 hX) ?_ ⟨h0, hn, fun i hi => hK.2 i (.inr hi)⟩).mono ?_
  · rintro k v E W1 ⟨q1, q2, q3⟩ hf hk hke
    obtain ⟨fn, tmps, assign, body, hy, hR⟩ := hY k v (fun i => E i ∨ X i) W1 q1 hf hk ⟨hke.1, fun i hi => hi.elim (hke.2 i) (fun z => (q3 i z).trans (hK.2 i (.inr z)).symm)⟩
    refine ⟨fn, tmps, assign, body, hy, hR.mono ?_⟩
    rintro e W' (⟨r1, r2, r3⟩ | ⟨r1, r2, r3⟩)
    · exact .inl ⟨r1, ⟨r2, q2, fun i hi => (r3.2 i (.inr hi)).trans (q3 i hi)⟩, r3.mono fun i hi => .inl hi⟩
    · exact .inr ⟨r1, ⟨r2, q2, fun i hi => (r3.2 i (.inr hi)).trans (q3 i hi)⟩, r3.mono fun i hi => .inl hi⟩
  · rintro e W' ⟨hv, hj, hke⟩
    have hab : ∀ i, X i → W'.heap[i]? = w0.heap[i]? := by rcases hj with z | z <;> exact z.2.2
    refine ⟨hv, hj.imp (·.1) (·.1), hke.1, fun i hi => ?_⟩
    rcases hi with z | z
    · exact hke.2 i z
    · exact (hab i z).trans (hK.2 i (.inr z)).symm
def CarryE (E : Nat → Prop) (A W : World) : Prop := ∀ Φ : (Nat → Prop) → World → Prop, JN (fun (_ : Unit) => Φ) → Φ E A → Φ E W
def IterW (F : Fence) (n : Nat) (P : Program) (g : Nat) (lb : Array Value) (enc : Nat → Value → Array Value) (Fit : Nat → Value → Nat → World → Prop) (D : Nat → Prop) (N : Nat) (w0 : World) : Prop :=
  ∀ (l : Nat) (J : Nat → (Nat → Prop) → World → Prop) (Jx : Unit → (Nat → Prop) → World → Prop) (W : World), KE D w0 W → JN J → JN Jx →
    (∀ k v E A W1, J k E A → A.grownBy W1 none → Fit k v A.heap.size W1 → k < N → KE D W W1 → YieldAt F (n - 1) P l (enc k v) W1 fun e W' => (e = .returned (.bool true) ∧ J (k + 1) E W' ∧ KE E W1 W') ∨ (e = .returned (.bool false) ∧ Jx () E W' ∧ KE E W1 W')) →
    J 0 D W → CallsIn F n P g (#[.func (.yield l) #[] #[]] ++ lb) W fun e W' => (∃ v, e = .returned v) ∧ (J N D W' ∨ Jx () D W') ∧ KE D W W'
def FitS (Fit : Nat → Value → Nat → World → Prop) : Prop := ∀ k v S A l o, Fit k v S A → l < S → Fit k v S (A.putObj l o)
theorem IterW.inRound {F : Fence} {n : Nat} {P : Program} {g : Nat} {lb : Array Value} {enc : Nat → Value → Array Value} {Fit : Nat → Value → Nat → World → Prop} {D : Nat → Prop} {N : Nat} {w0 : World} (l : Nat) (h : IterW F n P g lb enc Fit D N w0) : IterW (F.inRound l) n P g lb enc Fit D N w0 := h
theorem range_fitW {F : Fence} {n : Nat} {P : Program} {g : Operand} {ps : Array Tmp} {assign body : Code} {Q : Exit → Act → World → Prop} {a : Act} {w : World}
    (hro : F.round = none) (h1 : 1 ≤ n) {gf : Nat} {lb : Array Value} (hg : a.eval g = .func (.func gf) #[] lb) (hFg : F.fn gf) (eg : ∀ args w, (callFunc gf args).run P w = .ok (.enter gf args) w)
    {enc : Nat → Value → Array Value} {Fit : Nat → Value → Nat → World → Prop} {D : Nat → Prop} {N : Nat} {w0 : World} (hit : IterW F (n - 1) P gf lb enc Fit D N w0) (hw0 : KE D w0 w) (hD : ∀ i, D i → i < w.heap.size) (hps : ∀ k v, (enc k v).size = ps.size)
    (I : Nat → (Nat → Prop) → World → Prop) (Ix : Code → (Nat → Prop) → World → Prop) (hI : JN I) (hIx : JN Ix) (h0 : I 0 D w) (hFit : FitS Fit) (a₁ : Nat → Value → Act)
    (hassign : ∀ (l k : Nat) (v : Value) (W : World) (K : Act → World → Prop), K (a₁ k v) W →
      assign.wpIn (F.inRound l) (n - 1 - 1) P (Exit.then K (fun _ _ _ => False)) { tmps := (ps.zip (enc k v)).foldl (fun t (p, v) => t.setIfInBounds p v) a.tmps, defers := [] } W)
    (hbody : ∀ (l k : Nat) (v : Value) (E : Nat → Prop) (A W : World), w.heap.size ≤ l → E l → (∃ r, W.heap[l]? = some (.loop r)) → I k E A → (∀ i, E i → i < A.heap.size) → CarryE E A W → A.heap.size ≤ W.heap.size → Fit k v A.heap.size W → (∀ i, D i → E i) → KE D w W → k < N → body.wpIn (F.inRound l) (n - 1 - 1) P (OutN E I Ix k W) (a₁ k v) W)
    (hdone : ∀ (d : Nat) (W : World), w.heap.size ≤ d → I N (fun i => D i ∨ i = d) W → W.heap[d]? = some (.deferred (some [])) → KE D w W → Q .normal { a with defers := { target := .collected d, args := #[] } :: a.defers } W)
    (hstop : ∀ (d : Nat) (c : Code) (W : World), w.heap.size ≤ d → Ix c (fun i => D i ∨ i = d) W → W.heap[d]? = some (.deferred (some [])) → KE D w W → c.wpIn F n P Q { a with defers := { target := .collected d, args := #[] } :: a.defers } W) :
    (Code.rangeFunc g ps assign body).wpIn F n P Q a w := by
  refine wpIn_rangeFunc fun fn hfn => ?_
  rw [hro]
  let R : LoopState → Option Code → Loop := fun st pe => { state := st, pending := pe, fn, tmps := a.tmps, params := ps, assign, body, defers := w.heap.size }
  let BK : LoopState → Option Code → World → Prop := fun st pe W => W.heap[w.heap.size + 1]? = some (.loop (R st pe)) ∧ W.heap[w.heap.size]? = some (.deferred (some []))
  have bk_put : ∀ {st pe W} (st' pe'), BK st pe W → BK st' pe' (W.putObj (w.heap.size + 1) (.loop (R st' pe'))) := fun st' pe' h =>
    ⟨World.putObj_heap_same (Array.getElem?_eq_some_iff.1 h.1).1, (World.putObj_heap_other (by omega)).trans h.2⟩
  have bk_kept : ∀ {st pe A C} {E : Nat → Prop}, BK st pe A → KE (Wi w.heap.size E) A C → BK st pe C := fun h k => ⟨(k.2 _ (.inr (.inr rfl))).trans h.1, (k.2 _ (.inr (.inl rfl))).trans h.2⟩
  have bk_grown : ∀ {st pe A C row}, BK st pe A → A.grownBy C row → (∀ r, row = some r → r ≠ w.heap.size ∧ r ≠ w.heap.size + 1) → BK st pe C := fun h k hr =>
    ⟨(k.block _ (Array.getElem?_eq_some_iff.1 h.1).1 (fun e => (hr _ e.symm).2 rfl)).trans h.1, (k.block _ (Array.getElem?_eq_some_iff.1 h.2).1 (fun e => (hr _ e.symm).1 rfl)).trans h.2⟩
  obtain ⟨W1, hW1⟩ : ∃ W1, (w.alloc (.deferred (some []))).alloc (.loop (R .ready none)) = W1 := ⟨_, rfl⟩
  have hs1 : W1.heap.size = w.heap.size + 2 := by rw [← hW1]; simp
  have hg1 : w.grownBy W1 none := by
    rw [← hW1]
    exact ⟨rfl, rfl, rfl, by simp; omega, fun i hi _ => (Below.heap_alloc _ _ _ (by simp; omega)).trans (Below.heap_alloc _ _ _ hi)⟩
  have hBK1 : BK .ready none W1 := by
    rw [← hW1]
    refine ⟨?_, (Below.heap_alloc _ _ _ (by simp)).trans (World.alloc_heap_new w _)⟩
    have := World.alloc_heap_new (w.alloc (.deferred (some []))) (.loop (R .ready none))
    rwa [World.size_alloc] at this
  -- E and the loop's own blocks
  let SD : (Nat → Prop) → Prop := fun E => (∀ i, E i → i ≠ w.heap.size ∧ i ≠ w.heap.size + 1) ∧ ∀ i, D i → E i
  have hSD : SD D := ⟨fun i hi => by have := hD i hi; omega, fun _ h => h⟩
  let JJ : Nat → (Nat → Prop) → World → Prop := fun k E W => ∃ E', (∀ i, E i → E' i) ∧ SD E' ∧ I k (Wi w.heap.size E') W ∧ BK .ready none W ∧ ∀ i, E' i → i < W.heap.size
  let JX : Unit → (Nat → Prop) → World → Prop := fun _ E W => ∃ c E', (∀ i, E i → E' i) ∧ SD E' ∧ Ix c (Wi w.heap.size E') W ∧ BK .done (some c) W ∧ ∀ i, E' i → i < W.heap.size
  have bks : ∀ {st pe W}, BK st pe W → w.heap.size + 1 < W.heap.size := fun h => (Array.getElem?_eq_some_iff.1 h.1).1
  have hJJ : JN JJ := ⟨fun k E X C ⟨E', h1, h2, h3, h4, h5⟩ hg => ⟨fun i => E' i ∨ (X.heap.size ≤ i ∧ i < C.heap.size), fun i hi => hi.imp (h1 i) id, ⟨fun i hi => by
      rcases hi with z | z
      · exact h2.1 i z
      · have := bks h4; omega, fun i hi => .inl (h2.2 i hi)⟩, hI.less _ _ _ _ (hI.more _ _ _ _ h3 hg) (fun i hi => by
      rcases hi with (z | z) | z
      · exact .inl (.inl z)
      · exact .inr z
      · exact .inl (.inr z)), bk_grown h4 hg (fun r e => by cases e), fun i hi => by
      rcases hi with z | z
      · exact Nat.lt_of_lt_of_le (h5 i z) hg.size
      · exact z.2⟩,
    fun k E X C r ⟨E', h1, h2, h3, h4, h5⟩ hr hg hs => ⟨E', h1, h2, hI.turn _ _ _ _ r h3 (.inl (h1 r hr)) hg hs, bk_grown h4 hg (fun q e => by cases e; exact h2.1 r (h1 r hr)), fun i hi => hs ▸ h5 i hi⟩,
    fun k E E2 X ⟨E', h1, h2, h3, h4, h5⟩ hl => ⟨E', fun i hi => h1 i (hl i hi), h2, h3, h4, h5⟩⟩
  have hJX : JN JX := ⟨fun k E X C ⟨c, E', h1, h2, h3, h4, h5⟩ hg => ⟨c, fun i => E' i ∨ (X.heap.size ≤ i ∧ i < C.heap.size), fun i hi => hi.imp (h1 i) id, ⟨fun i hi => by
      rcases hi with z | z
      · exact h2.1 i z
      · have := bks h4; omega, fun i hi => .inl (h2.2 i hi)⟩, hIx.less _ _ _ _ (hIx.more _ _ _ _ h3 hg) (fun i hi => by
      rcases hi with (z | z) | z
      · exact .inl (.inl z)
      · exact .inr z
      · exact .inl (.inr z)), bk_grown h4 hg (fun r e => by cases e), fun i hi => by
      rcases hi with z | z
      · exact Nat.lt_of_lt_of_le (h5 i z) hg.size
      · exact z.2⟩,
    fun k E X C r ⟨c, E', h1, h2, h3, h4, h5⟩ hr hg hs => ⟨c, E', h1, h2, hIx.turn _ _ _ _ r h3 (.inl (h1 r hr)) hg hs, bk_grown h4 hg (fun q e => by cases e; exact h2.1 r (h1 r hr)), fun i hi => hs ▸ h5 i hi⟩,
    fun k E E2 X ⟨c, E', h1, h2, h3, h4, h5⟩ hl => ⟨c, E', fun i hi => h1 i (hl i hi), h2, h3, h4, h5⟩⟩
  have hI1 : JJ 0 D W1 := ⟨D, fun _ h => h, hSD, hI.less _ _ _ _ (hI.more _ _ _ _ h0 hg1) (fun i hi => by
    rcases hi with z | z | z
    · exact .inl z
    · exact .inr (by omega)
    · exact .inr (by omega)), hBK1, fun i hi => by have := hD i hi; omega⟩
  refine ⟨w.heap.size + 1, [{ target := .collected w.heap.size, args := #[] }], W1, { target := .fn (.func gf) lb, args := #[.func (.yield (w.heap.size + 1)) #[] #[]] }, W1, gf, #[.func (.yield (w.heap.size + 1)) #[] #[]] ++ lb, W1, ?_, ?_, ?_, ?_, fun _ => h1, ?_⟩
  · rw [← hW1]; exact run_enterLoop_outer _ _ _ _ _
  · simp only [resolve, hg]; simp [go_sem]
  · intro f' hf'; simp [Target.leads] at hf'; subst hf'; exact hFg
  · simp [invoke, go_sem, eg]
  · refine (hit (w.heap.size + 1) JJ JX W1 (hw0.trans ⟨hg1.size, fun i hi => hg1.block i (hD i hi) (by simp)⟩) hJJ hJX ?_ hI1).mono ?_
    · rintro k v E A W ⟨E', hE, hS, hiA, hbA, hzA⟩ hgA hf hk hkd
      have hb := bk_grown hbA hgA (fun r e => by cases e)
      have hzwA : ∀ i, (Wi w.heap.size E') i → i < A.heap.size := fun i h => by
        have hbs := bks hbA
        rcases h with h | h | h
        · exact hzA i h
        · omega
        · omega
      have hzw : ∀ {A' : World}, A.heap.size ≤ A'.heap.size → ∀ i, (Wi w.heap.size E') i → i < A'.heap.size := fun hA i h => Nat.lt_of_lt_of_le (hzwA i h) hA
      have hmem : (Wi w.heap.size E') (w.heap.size + 1) := .inr (.inr rfl)
      have hDE : ∀ i, D i → (Wi w.heap.size E') i := fun i hi => .inl (hS.2 i hi)
      have hnE : ¬ E (w.heap.size + 1) := fun h => (hS.1 _ (hE _ h)).2 rfl
      have hb2 : BK .busy none (W.putObj (w.heap.size + 1) (.loop (R .busy none))) := bk_put _ _ hb
      refine ⟨fn, _, assign, body, run_yield (P := P) (r := R .ready none) (args := enc k v) hb.1 (hps k v), roundIn_of_wpIn hfn (hassign _ k v W _ ⟨_, run_beginRound hb.1 rfl, ?_⟩)⟩
      refine wpIn_mono (hbody _ k v (Wi w.heap.size E') A _ (by omega) hmem ⟨_, hb2.1⟩ hiA hzwA (fun Φ hΦ hA => JN.put hΦ (s := ()) _ (JN.grown hΦ (s := ()) hA hgA) hmem) (by simp; exact hgA.size) (hFit k v A.heap.size W _ _ hf (hzwA _ hmem)) hDE ((KE.trans ⟨hg1.size, fun i hi => hg1.block i (hD i hi) (by simp)⟩ hkd).trans (KE.put (fun q => by have := hD _ q; omega) _)) hk) ?_
      rintro e a3 W3 hp
      cases e with
      | normal =>
        obtain ⟨k2, k3⟩ := hp
        have hb3 := bk_kept hb2 k2
        exact ⟨_, _, run_endRound (P := P) none hb3.1, .inl ⟨rfl, ⟨E', hE, hS, hI.put _ k3 hmem, bk_put .ready none hb3, fun i hi => hzw (by have := hgA.size; have := k2.1; simp at this ⊢; omega) i (.inl hi)⟩, ((KE.put hnE _).trans (k2.mono fun i hi => .inl (hE i hi))).trans (KE.put hnE _)⟩⟩
      | ret =>
        have hb3 := bk_kept hb2 hp.1
        exact ⟨_, _, run_endRound (P := P) (some .ret) hb3.1, .inr ⟨rfl, ⟨.ret, E', hE, hS, hIx.put _ hp.2 hmem, bk_put .done (some .ret) hb3, fun i hi => hzw (by have := hgA.size; have := hp.1.1; simp at this ⊢; omega) i (.inl hi)⟩, ((KE.put hnE _).trans (hp.1.mono fun i hi => .inl (hE i hi))).trans (KE.put hnE _)⟩⟩
      | exit id =>
        have hb3 := bk_kept hb2 hp.1
        exact ⟨_, _, run_endRound (P := P) (some (.exit id)) hb3.1, .inr ⟨rfl, ⟨.exit id, E', hE, hS, hIx.put _ hp.2 hmem, bk_put .done (some (.exit id)) hb3, fun i hi => hzw (by have := hgA.size; have := hp.1.1; simp at this ⊢; omega) i (.inl hi)⟩, ((KE.put hnE _).trans (hp.1.mono fun i hi => .inl (hE i hi))).trans (KE.put hnE _)⟩⟩
      | goto t => exact hp.elim
      | panic ch => exact hp.elim
      | outgrown => exact hp.elim
    · rintro e W2 ⟨⟨v, rfl⟩, ⟨E', hE, hS, hi, hb, -⟩ | ⟨c, E', hE, hS, hc, hb, -⟩, hke⟩
      all_goals have hkf : ∀ o, KE D w (W2.putObj (w.heap.size + 1) o) := fun o => (KE.trans ⟨hg1.size, fun i hi => hg1.block i (hD i hi) (by simp)⟩ hke).trans (KE.put (fun q => by have := hD _ q; omega) o)
      · exact ⟨none, _, run_endLoop (P := P) hb.1 (by simp [R]), hdone _ _ (Nat.le_refl _) (hI.less _ _ _ _ (hI.put _ hi (.inr (.inr rfl))) fun i hi => hi.imp (hE i) .inl) ((World.putObj_heap_other (by omega)).trans hb.2) (hkf _)⟩
      · exact ⟨some c, _, run_endLoop (P := P) hb.1 (by simp [R]), hstop _ c _ (Nat.le_refl _) (hIx.less _ _ _ _ (hIx.put _ hc (.inr (.inr rfl))) fun i hi => hi.imp (hE i) .inl) ((World.putObj_heap_other (by omega)).trans hb.2) (hkf _)⟩
theorem range_fitWR {F : Fence} {l0 : Nat} {r0 : Loop} {n : Nat} {P : Program} {g : Operand} {ps : Array Tmp} {assign body : Code} {Q : Exit → Act → World → Prop} {a : Act} {w : World}
    (hro : F.round = some l0) (hl0 : w.heap[l0]? = some (.loop r0)) (h1 : F.depth.isSome = true → 1 ≤ n) {gf : Nat} {lb : Array Value} (hg : a.eval g = .func (.func gf) #[] lb) (hFg : F.fn gf) (eg : ∀ args w, (callFunc gf args).run P w = .ok (.enter gf args) w)
    {enc : Nat → Value → Array Value} {Fit : Nat → Value → Nat → World → Prop} {D : Nat → Prop} {N : Nat} {w0 : World} (hit : IterW F (n - 1) P gf lb enc Fit D N w0) (hw0 : KE D w0 w) (hD : ∀ i, D i → i < w.heap.size) (hps : ∀ k v, (enc k v).size = ps.size)
    (I : Nat → (Nat → Prop) → World → Prop) (Ix : Code → (Nat → Prop) → World → Prop) (hI : JN I) (hIx : JN Ix) (h0 : I 0 D w) (hFit : FitS Fit) (a₁ : Nat → Value → Act)
    (hassign : ∀ (l k : Nat) (v : Value) (W : World) (K : Act → World → Prop), K (a₁ k v) W →
      assign.wpIn (F.inRound l) (n - 1 - 1) P (Exit.then K (fun _ _ _ => False)) { tmps := (ps.zip (enc k v)).foldl (fun t (p, v) => t.setIfInBounds p v) a.tmps, defers := [] } W)
    (hbody : ∀ (l k : Nat) (v : Value) (E : Nat → Prop) (A W : World), w.heap.size ≤ l → E l → (∃ r, W.heap[l]? = some (.loop r)) → I k E A → (∀ i, E i → i < A.heap.size) → CarryE E A W → A.heap.size ≤ W.heap.size → Fit k v A.heap.size W → (∀ i, D i → E i) → KE D w W → k < N → body.wpIn (F.inRound l) (n - 1 - 1) P (OutN E I Ix k W) (a₁ k v) W)
    (hdone : ∀ (W : World), I N D W → KE D w W → Q .normal a W)
    (hstop : ∀ (c : Code) (W : World), Ix c D W → KE D w W → c.wpIn F n P Q a W) :
    (Code.rangeFunc g ps assign body).wpIn F n P Q a w := by
  refine wpIn_rangeFunc fun fn hfn => ?_
  rw [hro]
  let R : LoopState → Option Code → Loop := fun st pe => { state := st, pending := pe, fn, tmps := a.tmps, params := ps, assign, body, defers := r0.defers }
  let BK : LoopState → Option Code → World → Prop := fun st pe W => W.heap[w.heap.size]? = some (.loop (R st pe))
  have bk_put : ∀ {st pe W} (st' pe'), BK st pe W → BK st' pe' (W.putObj w.heap.size (.loop (R st' pe'))) := fun st' pe' h =>
    World.putObj_heap_same (Array.getElem?_eq_some_iff.1 h).1
  have bk_kept : ∀ {st pe A C} {E : Nat → Prop}, BK st pe A → KE (Ed E w.heap.size) A C → BK st pe C := fun h k => (k.2 _ (.inr rfl)).trans h
  have bk_grown : ∀ {st pe A C row}, BK st pe A → A.grownBy C row → (∀ r, row = some r → r ≠ w.heap.size) → BK st pe C := fun h k hr =>
    (k.block _ (Array.getElem?_eq_some_iff.1 h).1 (fun e => hr _ e.symm rfl)).trans h
  obtain ⟨W1, hW1⟩ : ∃ W1, w.alloc (.loop (R .ready none)) = W1 := ⟨_, rfl⟩
  have hs1 : W1.heap.size = w.heap.size + 1 := by rw [← hW1]; simp
  have hg1 : w.grownBy W1 none := by
    rw [← hW1]
    exact ⟨rfl, rfl, rfl, by simp, fun i hi _ => Below.heap_alloc _ _ _ hi⟩
  have hBK1 : BK .ready none W1 := by
    rw [← hW1]
    exact World.alloc_heap_new w _
  -- E and the loop's own blocks
  let SD : (Nat → Prop) → Prop := fun E => (∀ i, E i → i ≠ w.heap.size) ∧ ∀ i, D i → E i
  have hSD : SD D := ⟨fun i hi => by have := hD i hi; omega, fun _ h => h⟩
  let JJ : Nat → (Nat → Prop) → World → Prop := fun k E W => ∃ E', (∀ i, E i → E' i) ∧ SD E' ∧ I k (Ed E' w.heap.size) W ∧ BK .ready none W ∧ ∀ i, E' i → i < W.heap.size
  let JX : Unit → (Nat → Prop) → World → Prop := fun _ E W => ∃ c E', (∀ i, E i → E' i) ∧ SD E' ∧ Ix c (Ed E' w.heap.size) W ∧ BK .done (some c) W ∧ ∀ i, E' i → i < W.heap.size
  have bks : ∀ {st pe W}, BK st pe W → w.heap.size < W.heap.size := fun h => (Array.getElem?_eq_some_iff.1 h).1
  have hJJ : JN JJ := ⟨fun k E X C ⟨E', h1, h2, h3, h4, h5⟩ hg => ⟨fun i => E' i ∨ (X.heap.size ≤ i ∧ i < C.heap.size), fun i hi => hi.imp (h1 i) id, ⟨fun i hi => by
      rcases hi with z | z
      · exact h2.1 i z
      · have := bks h4; omega, fun i hi => .inl (h2.2 i hi)⟩, hI.less _ _ _ _ (hI.more _ _ _ _ h3 hg) (fun i hi => by
      rcases hi with (z | z) | z
      · exact .inl (.inl z)
      · exact .inr z
      · exact .inl (.inr z)), bk_grown h4 hg (fun r e => by cases e), fun i hi => by
      rcases hi with z | z
      · exact Nat.lt_of_lt_of_le (h5 i z) hg.size
      · exact z.2⟩,
    fun k E X C r ⟨E', h1, h2, h3, h4, h5⟩ hr hg hs => ⟨E', h1, h2, hI.turn _ _ _ _ r h3 (.inl (h1 r hr)) hg hs, bk_grown h4 hg (fun q e => by cases e; exact h2.1 r (h1 r hr)), fun i hi => hs ▸ h5 i hi⟩,
    fun k E E2 X ⟨E', h1, h2, h3, h4, h5⟩ hl => ⟨E', fun i hi => h1 i (hl i hi), h2, h3, h4, h5⟩⟩
  have hJX : JN JX := ⟨fun k E X C ⟨c, E', h1, h2, h3, h4, h5⟩ hg => ⟨c, fun i => E' i ∨ (X.heap.size ≤ i ∧ i < C.heap.size), fun i hi => hi.imp (h1 i) id, ⟨fun i hi => by
      rcases hi with z | z
      · exact h2.1 i z
      · have := bks h4; omega, fun i hi => .inl (h2.2 i hi)⟩, hIx.less _ _ _ _ (hIx.more _ _ _ _ h3 hg) (fun i hi => by
      rcases hi with (z | z) | z
      · exact .inl (.inl z)
      · exact .inr z
      · exact .inl (.inr z)), bk_grown h4 hg (fun r e => by cases e), fun i hi => by
      rcases hi with z | z
      · exact Nat.lt_of_lt_of_le (h5 i z) hg.size
      · exact z.2⟩,
    fun k E X C r ⟨c, E', h1, h2, h3, h4, h5⟩ hr hg hs => ⟨c, E', h1, h2, hIx.turn _ _ _ _ r h3 (.inl (h1 r hr)) hg hs, bk_grown h4 hg (fun q e => by cases e; exact h2.1 r (h1 r hr)), fun i hi => hs ▸ h5 i hi⟩,
    fun k E E2 X ⟨c, E', h1, h2, h3, h4, h5⟩ hl => ⟨c, E', fun i hi => h1 i (hl i hi), h2, h3, h4, h5⟩⟩
  have hI1 : JJ 0 D W1 := ⟨D, fun _ h => h, hSD, hI.less _ _ _ _ (hI.more _ _ _ _ h0 hg1) (fun i hi => by
    rcases hi with z | z
    · exact .inl z
    · exact .inr (by omega)), hBK1, fun i hi => by have := hD i hi; omega⟩
  refine ⟨w.heap.size, [], W1, { target := .fn (.func gf) lb, args := #[.func (.yield w.heap.size) #[] #[]] }, W1, gf, #[.func (.yield w.heap.size) #[] #[]] ++ lb, W1, ?_, ?_, ?_, ?_, h1, ?_⟩
  · rw [← hW1]; exact run_enterLoop_inner hl0 _ _ _ _ _
  · simp only [resolve, hg]; simp [go_sem]
  · intro f' hf'; simp [Target.leads] at hf'; subst hf'; exact hFg
  · simp [invoke, go_sem, eg]
  · refine (hit w.heap.size JJ JX W1 (hw0.trans ⟨hg1.size, fun i hi => hg1.block i (hD i hi) (by simp)⟩) hJJ hJX ?_ hI1).mono ?_
    · rintro k v E A W ⟨E', hE, hS, hiA, hbA, hzA⟩ hgA hf hk hkd
      have hb := bk_grown hbA hgA (fun r e => by cases e)
      have hzwA : ∀ i, (Ed E' w.heap.size) i → i < A.heap.size := fun i h => by
        have hbs := bks hbA
        rcases h with h | h
        · exact hzA i h
        · omega
      have hzw : ∀ {A' : World}, A.heap.size ≤ A'.heap.size → ∀ i, (Ed E' w.heap.size) i → i < A'.heap.size := fun hA i h => Nat.lt_of_lt_of_le (hzwA i h) hA
      have hmem : (Ed E' w.heap.size) w.heap.size := .inr rfl
      have hDE : ∀ i, D i → (Ed E' w.heap.size) i := fun i hi => .inl (hS.2 i hi)
      have hnE : ¬ E w.heap.size := fun h => hS.1 _ (hE _ h) rfl
      have hb2 : BK .busy none (W.putObj w.heap.size (.loop (R .busy none))) := bk_put _ _ hb
      refine ⟨fn, _, assign, body, run_yield (P := P) (r := R .ready none) (args := enc k v) hb (hps k v), roundIn_of_wpIn hfn (hassign _ k v W _ ⟨_, run_beginRound hb rfl, ?_⟩)⟩
      refine wpIn_mono (hbody _ k v (Ed E' w.heap.size) A _ (by omega) hmem ⟨_, hb2⟩ hiA hzwA (fun Φ hΦ hA => JN.put hΦ (s := ()) _ (JN.grown hΦ (s := ()) hA hgA) hmem) (by simp; exact hgA.size) (hFit k v A.heap.size W _ _ hf (hzwA _ hmem)) hDE ((KE.trans ⟨hg1.size, fun i hi => hg1.block i (hD i hi) (by simp)⟩ hkd).trans (KE.put (fun q => by have := hD _ q; omega) _)) hk) ?_
      rintro e a3 W3 hp
      cases e with
      | normal =>
        obtain ⟨k2, k3⟩ := hp
        have hb3 := bk_kept hb2 k2
        exact ⟨_, _, run_endRound (P := P) none hb3, .inl ⟨rfl, ⟨E', hE, hS, hI.put _ k3 hmem, bk_put .ready none hb3, fun i hi => hzw (by have := hgA.size; have := k2.1; simp at this ⊢; omega) i (.inl hi)⟩, ((KE.put hnE _).trans (k2.mono fun i hi => .inl (hE i hi))).trans (KE.put hnE _)⟩⟩
      | ret =>
        have hb3 := bk_kept hb2 hp.1
        exact ⟨_, _, run_endRound (P := P) (some .ret) hb3, .inr ⟨rfl, ⟨.ret, E', hE, hS, hIx.put _ hp.2 hmem, bk_put .done (some .ret) hb3, fun i hi => hzw (by have := hgA.size; have := hp.1.1; simp at this ⊢; omega) i (.inl hi)⟩, ((KE.put hnE _).trans (hp.1.mono fun i hi => .inl (hE i hi))).trans (KE.put hnE _)⟩⟩
      | exit id =>
        have hb3 := bk_kept hb2 hp.1
        exact ⟨_, _, run_endRound (P := P) (some (.exit id)) hb3, .inr ⟨rfl, ⟨.exit id, E', hE, hS, hIx.put _ hp.2 hmem, bk_put .done (some (.exit id)) hb3, fun i hi => hzw (by have := hgA.size; have := hp.1.1; simp at this ⊢; omega) i (.inl hi)⟩, ((KE.put hnE _).trans (hp.1.mono fun i hi => .inl (hE i hi))).trans (KE.put hnE _)⟩⟩
      | goto t => exact hp.elim
      | panic ch => exact hp.elim
      | outgrown => exact hp.elim
    · rintro e W2 ⟨⟨v, rfl⟩, ⟨E', hE, hS, hi, hb, -⟩ | ⟨c, E', hE, hS, hc, hb, -⟩, hke⟩
      all_goals have hkf : ∀ o, KE D w (W2.putObj w.heap.size o) := fun o => (KE.trans ⟨hg1.size, fun i hi => hg1.block i (hD i hi) (by simp)⟩ hke).trans (KE.put (fun q => by have := hD _ q; omega) o)
      · exact ⟨none, _, run_endLoop (P := P) hb (by simp [R]), hdone _ (hI.less _ _ _ _ (hI.put _ hi (.inr rfl)) fun i hi => .inl (hE i hi)) (hkf _)⟩
      · exact ⟨some c, _, run_endLoop (P := P) hb (by simp [R]), hstop c _ (hIx.less _ _ _ _ (hIx.put _ hc (.inr rfl)) fun i hi => .inl (hE i hi)) (hkf _)⟩
end Go.Proofs.Ytjfebbhnjcnepaa
namespace Go.Proofs.Ytjfebbhnjcnepaa
open Go.RowKit
theorem run_append_byte (w : World) (base : Nat) (ty : TypeId) (v : Value) (n : Nat) (xs : List Value) (hown : w.ownsRow base 5 1 v n xs) (a : Addr) (c : Nat) (x : Int) (hx : w.cell? a = some (.int .u8 x)) (hn : n + 1 ≤ 140737488355328) (hbase : base ≤ w.heap.size) :
    ∃ v' w', (Builtin.append_ #[24, 24] ty #[v, .slice (some a) 1 c]).run Try.prog w = .ok v' w' ∧ w'.ownsRow base 5 1 v' (n + 1) (xs ++ [.int .u8 x]) ∧ w.grownBy w' v.ownBlock ∧
      (v'.ownBlock = v.ownBlock ∨ (v'.ownBlock = some w.heap.size ∧ w.grownBy w' none)) := by
  obtain ⟨i0, hi, hz0, hz1, hz2⟩ := info_parts info_u8
  have hnews : ∀ j u, [Value.int .u8 x][j]? = some u → w.cell? (a.add j) = some u := by
    intro j u hj
    match j, hj with
    | 0, hj => simp at hj; subst hj; simpa [Addr.add] using hx
  have h1 : ∀ u ∈ [Value.int .u8 x], u.oneCell' = true := by intro u hu; simp at hu; subst hu; rfl
  obtain ⟨v', w', hr, h2, h3, _⟩ := run_append_own (P := Try.prog) w base 24 ty 5 i0 (.int .u8 0) 1 1 Try.underlying24 hi hz0 hz1 hz2 rfl (by decide) v n xs hown a 1 c [.int .u8 x] rfl hnews h1 (by unfold maxLen; omega) (by omega) hbase
  refine ⟨v', w', hr, h2, h3, ?_⟩
  rcases hown.2 with ⟨rfl, rfl⟩ | ⟨g, cap, cur, rfl, hbg, hg, hnc, hcm, hcs, htake⟩
  · have hr2 := run_append_nil (P := Try.prog) w 24 ty 5 i0 (.int .u8 0) Try.underlying24 hi hz0 a 1 c [.int .u8 x] (by rw [hz1]; rfl) hnews (by omega) (by omega) (by rw [hz2]; omega)
    rw [hr] at hr2
    simp only [Result.ok.injEq] at hr2
    obtain ⟨rfl, rfl⟩ := hr2
    exact .inr ⟨rfl, ⟨rfl, rfl, rfl, by simp, fun k hk _ => heap_alloc_old w.drew _ hk⟩⟩
  · by_cases hroom : n + 1 ≤ cap
    · obtain ⟨w2, hr2, _⟩ := run_append_fits (P := Try.prog) w base 24 ty 5 i0 1 Try.underlying24 hi hz1 g n cap xs hown a 1 c [.int .u8 x] rfl hnews h1 hroom
      rw [hr] at hr2
      simp only [Result.ok.injEq] at hr2
      obtain ⟨rfl, rfl⟩ := hr2
      exact .inl rfl
    · have hr2 := run_append_grow (P := Try.prog) w 24 ty 5 i0 (.int .u8 0) Try.underlying24 hi hz0 ⟨g, 0, none⟩ n cap xs (by rw [hz1]; exact hown.1) (hown.cells (g := g) rfl) a 1 c [.int .u8 x] (by rw [hz1]; rfl) hnews (by omega) (by omega) (growslice_fits (by omega) (by rw [hz2]; omega))
      rw [hr] at hr2
      simp only [Result.ok.injEq] at hr2
      obtain ⟨rfl, rfl⟩ := hr2
      exact .inr ⟨rfl, ⟨rfl, rfl, rfl, by simp, fun k hk _ => heap_alloc_old w.drew _ hk⟩⟩
theorem wpList_append_byte {w : World} {ops : Array Oper} {rest : List Oper} {o : Oper} {a : Act} {Q : Exit → Act → World → Prop} (hgd : o.guard = none) (s x : Operand)
    (ho : o.op = .call { callee := .builtin .append, args := #[s, x], argTypes := #[24, 24] })
    (base : Nat) (v : Value) (n : Nat) (xs : List Value) (hs : a.eval s = v) (hown : w.ownsRow base 5 1 v n xs)
    (ad : Addr) (c : Nat) (y : Int) (hx : a.eval x = .slice (some ad) 1 c) (hy : w.cell? ad = some (.int .u8 y)) (hn : n + 1 ≤ 140737488355328) (hbase : base ≤ w.heap.size)
    (h : ∀ v' w', w'.ownsRow base 5 1 v' (n + 1) (xs ++ [.int .u8 y]) → w.grownBy w' v.ownBlock → (v'.ownBlock = v.ownBlock ∨ (v'.ownBlock = some w.heap.size ∧ w.grownBy w' none)) → wpList Try.prog ops Q rest (a.put o.dst v') w') : wpList Try.prog ops Q (o :: rest) a w := by
  refine wpList_plain hgd fun K hK => ?_
  obtain ⟨v', w', hr, h2, h3, h4⟩ := run_append_byte w base o.type v n xs hown ad c y hy hn hbase
  unfold Oper.wp execOp
  simp only [ho, resolve, invoke, builtin, Sem.run_bind, Sem.run_pure, Result.andThen_ok, List.map_toArray, List.map_cons, List.map_nil, hs, hx, hr]
  exact hK _ _ (h v' w' h2 h3 h4)
theorem take_eq_step (la lb : List Int) (k : Nat) (ha : k < la.length) (hb : k < lb.length) (h : la.take k = lb.take k) (e : la.getD k 0 = lb.getD k 0) : la.take (k + 1) = lb.take (k + 1) := by
  rw [List.take_succ_eq_append_getElem ha, List.take_succ_eq_append_getElem hb, h]
  have e1 : la.getD k 0 = la[k] := by simp [List.getD, List.getElem?_eq_getElem ha]
  have e2 : lb.getD k 0 = lb[k] := by simp [List.getD, List.getElem?_eq_getElem hb]
  rw [e1, e2] at e
  rw [e]
theorem take_ne (la lb : List Int) (k : Nat) (e : la.getD k 0 ≠ lb.getD k 0) : la ≠ lb := fun h => e (by rw [h])
set_option maxHeartbeats 400000 in
theorem sameBytes_any (w : World) (va vb : Value) (la lb : List Int) (ha : HB w va la) (hb : HB w vb lb) :
    Calls Try.prog 16 #[va, vb] w fun e w' => e = .returned (.bool (decide (la = lb))) ∧ Dr w w' := by
  by_cases hlen : la.length = lb.length
  · by_cases h0 : 0 < la.length
    · obtain ⟨b1, o1, c1, rfl, hc1, hm1, hk1⟩ := ha.ne h0
      obtain ⟨b2, o2, c2, rfl, hc2, hm2, hk2⟩ := hb.ne (by omega)
      unfold maxLen at hm1 hm2
      have hm : la.length ≤ 9223372036854775807 := by omega
      have HL : Hid (la.length = lb.length) := hlen
      rw [← hlen]
      have hcd : ∀ j, j < la.length → w.cell? ⟨b2, o2 + j, none⟩ = some (.int .u8 (lb.getD j 0)) := fun j hj => hk2 j (by omega)
      clear hlen hk2
      go_enter Try.func16, Try.ntmps16
      go_wp2
      go_loopw [5] (fun i wr => ∃ k : Nat, k ≤ la.length ∧ i = .int .i64 k ∧ la.take k = lb.take k ∧ Dr w wr) (fun i _ => la.length - (intOf i).toNat)
      case atStart => exact ⟨0, Nat.zero_le _, rfl, rfl, Dr.refl _⟩
      case round =>
        obtain ⟨k, hk, rfl, ht, q, rfl⟩ := hrel
        by_cases hlt : k < la.length
        · have g1 := hk1 k hlt
          have g2 := hcd k hlt
          obtain ⟨x, hx⟩ : ∃ x, la.getD k 0 = x := ⟨_, rfl⟩
          obtain ⟨y, hy⟩ : ∃ y, lb.getD k 0 = y := ⟨_, rfl⟩
          rw [hx] at g1
          rw [hy] at g2
          have HX := hid hx
          have HY := hid hy
          clear hx hy hk1 hcd
          by_cases he : x = y
          · have hne : (x != y) = false := by simpa using he
            have HE := hid he
            clear he
            go_wp2
            go_quiet (fail)
            go_wp2
            exact ⟨⟨k + 1, by omega, by go_num, take_eq_step la lb k hlt (by have := HL.out; omega) ht (by rw [HX.out, HY.out, HE.out]), Dr.one _ _⟩, by simp [intOf]; omega⟩
          · have hne : (x != y) = true := by simpa using he
            go_wp2
            go_quiet (fail)
            go_wp2
            go_ret
            exact ⟨by simp [take_ne la lb k (by rw [HX.out, HY.out]; exact he)], (Dr.one _ _).drewN _⟩
        · go_wp2
          go_ret
          have e : la = lb := by
            have h1 := List.take_of_length_le (show la.length ≤ k by omega)
            have h2 := List.take_of_length_le (show lb.length ≤ k by have := HL.out; omega)
            rw [← h1, ← h2, ht]
          exact ⟨by simp [e], Dr.one _ _⟩
    · obtain ⟨p1, c1, rfl, _, _⟩ := ha.open
      obtain ⟨p2, c2, rfl, _, _⟩ := hb.open
      have e1 : la = [] := List.length_eq_zero_iff.1 (by omega)
      have e2 : lb = [] := List.length_eq_zero_iff.1 (by omega)
      subst e1 e2
      go_enter Try.func16, Try.ntmps16
      go_wp2
      go_loop [5] (fun i => i = .int .i64 0) (fun _ => 0)
      case atStart => rfl
      case round =>
        subst hrel
        go_wp2
        go_ret
        exact ⟨rfl, Dr.refl _⟩
  · obtain ⟨p1, c1, rfl, _, _⟩ := ha.open
    obtain ⟨p2, c2, rfl, _, _⟩ := hb.open
    have hne : ((la.length : Int) != (lb.length : Int)) = true := by rw [bne_iff_ne]; omega
    go_enter Try.func16, Try.ntmps16
    go_wp2
    go_ret
    exact ⟨by simp [show la ≠ lb from fun e => hlen (by rw [e])], Dr.refl _⟩
def mkB (k i : Nat) : Int := ((151 * k + 7 * i + 1) % 256 : Nat)
theorem mkB_byt (k i : Nat) : 0 ≤ mkB k i ∧ mkB k i < 256 := by unfold mkB; omega
set_option maxHeartbeats 400000 in
theorem mark_any (w : World) (k i : Nat) (hk : k ≤ 1125899906842624) (hi : i ≤ 1125899906842624) : Calls Try.prog 11 #[.int .i64 k, .int .i64 i] w fun e w' => e = .returned (.int .u8 (mkB k i)) ∧ w' = w := by
  go_enter Try.func11, Try.ntmps11
  go_wp2
  go_ret
  exact ⟨by unfold mkB; first | rfl | (congr 2; done) | (congr 2; omega), rfl⟩
theorem mark_eq (w : World) (k i : Nat) (a b : Int) (ha : a = (k : Int)) (hb : b = (i : Int)) (hk : k ≤ 1125899906842624) (hi : i ≤ 1125899906842624) : Calls Try.prog 11 #[.int .i64 a, .int .i64 b] w fun e w' => e = .returned (.int .u8 (mkB k i)) ∧ w' = w := by
  subst ha hb
  exact mark_any w k i hk hi
theorem wrap_succ (k : Nat) (h : k ≤ 1125899906842624) : IntKind.i64.wrap ((k : Int) + 1) = ((k + 1 : Nat) : Int) := by rw [IntKind.wrap_i64]; omega
def lent (l : List Int) : List Int := l ++ (List.range 70).map fun i => mkB 0 (l.length + i)
def lentTo (l : List Int) (m : Nat) : List Int := l ++ (List.range m).map fun i => mkB 0 (l.length + i)
theorem lent_length (l : List Int) : (lent l).length = l.length + 70 := by simp [lent]
theorem lentTo_length (l : List Int) (m : Nat) : (lentTo l m).length = l.length + m := by simp [lentTo]
theorem lentTo_succ (l : List Int) (m : Nat) : lentTo l (m + 1) = lentTo l m ++ [mkB 0 (l.length + m)] := by simp [lentTo, List.range_succ]
theorem lent_byt {l : List Int} (h : ∀ x ∈ l, 0 ≤ x ∧ x < 256) : ∀ x ∈ lent l, 0 ≤ x ∧ x < 256 := by
  intro x hx
  unfold lent at hx
  rcases List.mem_append.1 hx with hx | hx
  · exact h x hx
  · obtain ⟨i, _, rfl⟩ := List.mem_map.1 hx
    exact mkB_byt _ _
theorem lent_take (l : List Int) : (lent l).take l.length = l := by simp [lent]
set_option maxHeartbeats 1000000 in
theorem lent_any (w : World) (v : Value) (l : List Int) (h : HB w v l) (hbig : l.length ≤ 140737488351232) :
    Calls Try.prog 4 #[v] w fun e w' => ∃ v', e = .returned v' ∧ w'.ownsRow w.heap.size 5 1 v' (lent l).length ((lent l).map (Value.int .u8)) ∧ Below w.heap.size w w' := by
  obtain ⟨p, c, e, hlc, hm⟩ := h.open
  unfold maxLen at hm
  have A : Hid (0 < l.length → ∃ b off, p = some ⟨b, off, none⟩ ∧ ∀ j, j < l.length → w.cell? ⟨b, off + j, none⟩ = some (.int .u8 (l.getD j 0))) := by
    intro h0
    obtain ⟨b, off, c', e', _, _, hh⟩ := h.ne h0
    rw [e] at e'
    simp only [Value.slice.injEq, true_and] at e'
    exact ⟨b, off, e'.1, hh⟩
  clear h
  subst e
  go_enter Try.func4, Try.ntmps4
  go_wp2
  go_loopw [3, 4] (fun o i wr => ∃ k : Nat, k ≤ l.length ∧ i = .int .i64 k ∧ Hid (wr.ownsRow w.heap.size 5 1 o k ((l.take k).map (Value.int .u8))) ∧ Hid (Below w.heap.size w wr)) (fun _ i _ => l.length - (intOf i).toNat)
  case atStart => exact ⟨0, Nat.zero_le _, rfl, World.ownsRow_nil _ _ _ _, Below.refl _ _⟩
  case round =>
    obtain ⟨k, hk, rfl, HO, HBw⟩ := hrel
    by_cases hlt : k < l.length
    · obtain ⟨b, off, rfl, hh⟩ := A.out (by omega)
      have hu0 := hh k hlt
      have hu := (HBw.out.cell (World.block_lt_of_cell? w _ hu0)).trans hu0
      have HS : Hid (l.take (k + 1) = l.take k ++ [l.getD k 0]) := by
        show _ = _
        rw [List.take_succ_eq_append_getElem hlt, getD_of_lt hlt]
      obtain ⟨x, HX⟩ : ∃ x, Hid (l.getD k 0 = x) := ⟨_, rfl⟩
      rw [HX.out] at hu HS
      clear hh hu0
      go_wp2_with (at_builtin; refine wpList_append_byte rfl _ _ rfl w.heap.size _ k _ rfl (HO.out.alloc _) ⟨wr.heap.size, 0, none⟩ 1 x rfl (by simp) ?q1 ?q2 ?_)
      case q1 => omega
      case q2 => have := HBw.out.size; simp; omega
      intro v' w2 hown2 hgr2 _
      have HO2 : Hid (w2.ownsRow w.heap.size 5 1 v' (k + 1) ((l.take (k + 1)).map (Value.int .u8))) := by
        rw [HS.out, List.map_append, List.map_take]
        exact hown2
      have HB2 := hid ((HBw.out.alloc HBw.out.size _).grown hgr2 (by have := HBw.out.size; simp; omega) (fun k e => (HO.out.lt k e).1))
      clear hown2 hgr2
      go_wp2
      exact ⟨⟨k + 1, by omega, by go_num, HO2, HB2⟩, by simp [intOf]; omega⟩
    · have hkl : k = l.length := by omega
      have HO' : Hid (wr.ownsRow w.heap.size 5 1 u3 (l.length + 0) ((lentTo l 0).map (Value.int .u8))) := by
        show World.ownsRow _ _ _ _ _ _ _
        have := HO.out
        rw [hkl, List.take_of_length_le (Nat.le_refl _)] at this
        simpa [lentTo] using this
      clear hkl
      go_wp2
      go_loopw [3, 5] (fun o i wz => ∃ m : Nat, m ≤ 70 ∧ i = .int .i64 m ∧ Hid (wz.ownsRow w.heap.size 5 1 o (l.length + m) ((lentTo l m).map (Value.int .u8))) ∧ Hid (Below w.heap.size w wz)) (fun _ i _ => 70 - (intOf i).toNat)
      case atStart => exact ⟨0, Nat.zero_le _, rfl, HO', HBw⟩
      case round =>
        clear HO' HBw HO
        obtain ⟨m, hm70, rfl, HO, HBw⟩ := hrel
        by_cases hlt2 : m < 70
        · have hlt3 : (m : Int) < 70 := by omega
          have HS := hid (lentTo_succ l m)
          go_wp2_with fail
          have e1 : ((l.length : Int) + (m : Int)) = ((l.length + m : Nat) : Int) := by omega
          rw [e1]
          refine (mark_any wr 0 (l.length + m) (by omega) (by omega)).mono ?_
          rintro e wz ⟨rfl, hw⟩
          have hw' := hw.symm
          subst hw'
          clear hw e1
          go_wp2_with (at_builtin; refine wpList_append_byte rfl _ _ rfl w.heap.size _ (l.length + m) _ rfl (HO.out.alloc _) ⟨wr.heap.size, 0, none⟩ 1 (mkB 0 (l.length + m)) rfl (by simp) ?q1 ?q2 ?_)
          case q1 => omega
          case q2 => have := HBw.out.size; simp; omega
          intro v' w2 hown2 hgr2 _
          have HO2 : Hid (w2.ownsRow w.heap.size 5 1 v' (l.length + (m + 1)) ((lentTo l (m + 1)).map (Value.int .u8))) := by
            rw [HS.out, List.map_append]
            exact hown2
          have HB2 := hid ((HBw.out.alloc HBw.out.size _).grown hgr2 (by have := HBw.out.size; simp; omega) (fun k e => (HO.out.lt k e).1))
          clear hown2 hgr2
          go_wp2
          exact ⟨⟨m + 1, by omega, by go_num, HO2, HB2⟩, by simp [intOf]; omega⟩
        · have e70 : m = 70 := by omega
          subst e70
          go_wp2
          go_ret
          refine ⟨_, rfl, ?_, HBw.out⟩
          rw [lent_length]
          exact HO.out
set_option maxHeartbeats 400000 in
theorem kept_any (w : World) (vf vl : Value) (fl l : List Int) (hf : HB w vf fl) (hl : HB w vl l) (hbig : l.length ≤ 140737488351232) :
    Calls Try.prog 6 #[vf, vl] w fun e w' => e = .returned (.bool (decide (fl = lent l))) ∧ Below w.heap.size w w' := by
  have HF := hid hf
  have HLl := hid hl
  obtain ⟨p1, c1, rfl, _, _⟩ := hf.open
  obtain ⟨p2, c2, rfl, _, _⟩ := hl.open
  clear hf hl
  go_enter Try.func6, Try.ntmps6
  go_wp2_with fail
  refine (lent_any w _ l HLl.out hbig).mono ?_
  rintro e w1 ⟨v1, rfl, hown, hB⟩
  have H1 := hid (HB.of_own hown (lent_byt HLl.out.2))
  have HF1 := hid (HF.out.below hB)
  have B1 := hid hB
  obtain ⟨p3, c3, e3, _, _⟩ := H1.out.open
  clear hown hB
  subst e3
  obtain ⟨ll, HLL⟩ : ∃ ll, Hid (lent l = ll) := ⟨_, rfl⟩
  rw [HLL.out] at H1 ⊢
  go_wp2_with fail
  refine (sameBytes_any w1 _ _ fl ll HF1.out H1.out).mono ?_
  rintro e w2 ⟨rfl, hD⟩
  have B2 := hid (B1.out.trans (hD.below _))
  obtain ⟨z, HZ⟩ : ∃ z, Hid (decide (fl = ll) = z) := ⟨_, rfl⟩
  rw [HZ.out]
  clear hD
  go_wp2
  go_ret
  exact ⟨by rw [HLL.out, HZ.out]; rfl, B2.out⟩
set_option maxHeartbeats 1000000 in
theorem over_any (w : World) (B : Nat) (v : Value) (n : Nat) (xs : List Value) (h : w.ownsRow B 5 1 v n xs) (hn : n ≤ 140737488355328) :
    Calls Try.prog 7 #[v] w fun e w' => e = .returned (.tuple #[]) ∧ (∃ ys, w'.ownsRow B 5 1 v n ys) ∧ w.grownBy w' v.ownBlock := by
  rcases h.2 with ⟨rfl, rfl⟩ | ⟨g, cap, cur, rfl, hbg, hg, hnc, hcm, hcs, htake⟩
  · go_enter Try.func7, Try.ntmps7
    go_wp2
    go_loop [2] (fun i => i = .int .i64 0) (fun _ => 0)
    case atStart => rfl
    case round =>
      subst hrel
      go_wp2
      go_end0
      exact ⟨rfl, ⟨xs, h⟩, ⟨rfl, rfl, rfl, Nat.le_refl _, fun _ _ _ => rfl⟩⟩
  · have HO := hid h
    clear h hg htake hcs hbg
    unfold maxLen at hcm
    go_enter Try.func7, Try.ntmps7
    go_wp2
    go_loopw [2] (fun i wr => ∃ k : Nat, k ≤ n ∧ i = .int .i64 k ∧ Hid (∃ ys, wr.ownsRow B 5 1 (.slice (some ⟨g, 0, none⟩) n cap) n ys) ∧ Hid (w.grownBy wr (some g))) (fun i _ => n - (intOf i).toNat)
    case atStart => exact ⟨0, Nat.zero_le _, rfl, ⟨_, HO.out⟩, ⟨rfl, rfl, rfl, Nat.le_refl _, fun _ _ _ => rfl⟩⟩
    case round =>
      obtain ⟨k, hk, rfl, HY, HG⟩ := hrel
      by_cases hlt : k < n
      · obtain ⟨ys, hy⟩ := HY.out
        have hc := hy.cellAt k (by omega)
        have hfz := hy.frozenAt k
        obtain ⟨z, hz⟩ : ∃ z, ys[k]? = some z := ⟨_, List.getElem?_eq_getElem (by have := hy.1; omega)⟩
        rw [hz] at hc
        have HYY := hid hy
        clear hz hy
        go_wp2_with fail
        have e1 : ((k : Int) + 3) = ((k + 3 : Nat) : Int) := by omega
        rw [e1]
        refine (mark_any wr 7 (k + 3) (by omega) (by omega)).mono ?_
        rintro e wz ⟨rfl, hw⟩
        have hw' := hw.symm
        subst hw'
        clear hw e1
        go_wp2
        exact ⟨⟨k + 1, by omega, by go_num, ⟨_, (HYY.out.stored k _).1⟩, ⟨HG.out.os, HG.out.tape, HG.out.output, by simpa using HG.out.size, fun i hi hne => by
          rw [heap_setCell_other _ _ _ _ (fun e => hne (by simp [e]))]
          exact HG.out.block i hi hne⟩⟩, by simp [intOf]; omega⟩
      · go_wp2
        go_end0
        exact ⟨rfl, HY.out, HG.out⟩
theorem info_bytes : (Try.prog.info? 24).map (fun i => (i.zero, i.size, i.bytes)) = some (some (.slice none 0 0), 1, 24) := by kernel_rfl
def BytI (l : List Int) : Prop := ∀ x ∈ l, 0 ≤ x ∧ x < 256
def EL (w0 w : World) (u : Value) (l : List Int) : Prop :=
  (w.ownsRow w0.heap.size 5 1 u l.length (l.map (Value.int .u8)) ∧ BytI l) ∨ HB w0 u l
def OWL (w0 w : World) (v : Value) (ls : List (List Int)) : Prop :=
  ∃ xs, w.ownsRow w0.heap.size 24 1 v ls.length xs ∧ ∀ j, j < ls.length → EL w0 w (xs.getD j undef) (ls.getD j [])
theorem EL.hb {w0 w : World} {u : Value} {l : List Int} (h : EL w0 w u l) (hb : Below w0.heap.size w0 w) : HB w u l := by
  rcases h with ⟨h, hx⟩ | h
  · exact HB.of_own h hx
  · exact h.below hb
theorem own_block_ne {w : World} {B e n : Nat} {v : Value} {xs : List Value} (h : w.ownsRow B e 1 v n xs) {g : Nat} {cur : Array Value} {e' : TypeId} {fz : Nat × Nat} (hg : w.heap[g]? = some (.cells cur e' fz)) (hne : e ≠ e') : v.ownBlock ≠ some g := by
  intro hv
  rcases h.2 with ⟨rfl, _⟩ | ⟨g', cap, cur', rfl, _, hh, _⟩
  · simp [Value.ownBlock] at hv
  · simp only [Value.ownBlock, Option.some.injEq] at hv
    subst hv
    rw [hh] at hg
    simp only [Option.some.injEq, Obj.cells.injEq] at hg
    exact hne hg.2.1
theorem EL.grown {w0 w w' : World} {u : Value} {l : List Int} {row : Option Nat} (h : EL w0 w u l) (hg : w.grownBy w' row) (hr : ∀ g, row = some g → ∃ cur e fz, w.heap[g]? = some (.cells cur e fz) ∧ 5 ≠ e) : EL w0 w' u l := by
  rcases h with ⟨h, hx⟩ | h
  · refine .inl ⟨h.kept hg ?_, hx⟩
    cases hrow : row with
    | none =>
      cases hv : u.ownBlock with
      | none => exact .inl rfl
      | some k => exact .inr (by simp)
    | some g =>
      obtain ⟨cur, e, fz, hh, hne⟩ := hr g hrow
      exact .inr (own_block_ne h hh hne)
  · exact .inr h
theorem OWL.grown {w0 w w' : World} {v : Value} {ls : List (List Int)} {row : Option Nat} (h : OWL w0 w v ls) (hg : w.grownBy w' row) (hr : ∀ g, row = some g → ∃ cur e fz, w.heap[g]? = some (.cells cur e fz) ∧ 5 ≠ e ∧ 24 ≠ e) : OWL w0 w' v ls := by
  obtain ⟨xs, h1, h2⟩ := h
  refine ⟨xs, h1.kept hg ?_, fun j hj => (h2 j hj).grown hg fun g e => ?_⟩
  · cases hrow : row with
    | none =>
      cases hv : v.ownBlock with
      | none => exact .inl rfl
      | some k => exact .inr (by simp)
    | some g =>
      obtain ⟨cur, e, fz, hh, _, hne⟩ := hr g hrow
      exact .inr (own_block_ne h1 hh hne)
  · obtain ⟨cur, e', fz, hh, hne, _⟩ := hr g e
    exact ⟨cur, e', fz, hh, hne⟩
theorem OWL.below {w0 w w' : World} {v : Value} {ls : List (List Int)} (h : OWL w0 w v ls) (hb : Below w.heap.size w w') : OWL w0 w' v ls :=
  h.grown (row := none) ⟨hb.os, hb.tape, hb.output, hb.size, fun k hk _ => hb.block k hk⟩ (fun g e => by cases e)
theorem OWL.hl {w0 w : World} {v : Value} {ls : List (List Int)} (h : OWL w0 w v ls) (hb : Below w0.heap.size w0 w) : HL w v ls := by
  obtain ⟨xs, h1, h2⟩ := h
  by_cases h0 : 0 < ls.length
  · obtain ⟨g, cap, rfl, _, hn, hm, hc⟩ := ownsRow_cells h1 h0
    refine ⟨_, cap, rfl, hn, hm, (fun e => by cases e), fun _ => ⟨g, 0, rfl, fun j hj => ⟨xs.getD j undef, ?_, (h2 j hj).hb hb⟩⟩⟩
    have hx : xs.length = ls.length := by have := h1.1; omega
    exact hc j _ (by simp [List.getD, List.getElem?_eq_getElem (show j < xs.length by omega)])
  · have e : ls = [] := List.length_eq_zero_iff.1 (by omega)
    subst e
    rcases h1.2 with ⟨rfl, _⟩ | ⟨g, cap, cur, rfl, _, _, hn, hm, _⟩
    · exact HL.nil _
    · exact ⟨_, cap, rfl, hn, hm, (fun e => by cases e), fun h => absurd rfl h⟩
theorem OWL.nil (w0 w : World) : OWL w0 w (.slice none 0 0) [] := ⟨[], World.ownsRow_nil _ _ _ _, fun j hj => by simp at hj⟩
theorem getD_app {α : Type} (l m : List α) (d : α) (j : Nat) : (l ++ m).getD j d = if j < l.length then l.getD j d else m.getD (j - l.length) d := by
  simp only [List.getD, List.getElem?_append]
  split <;> rfl
theorem wpList_append_OWL {w0 w : World} {ops : Array Oper} {rest : List Oper} {o : Oper} {a : Act} {Q : Exit → Act → World → Prop} (hgd : o.guard = none) (s x : Operand)
    (ho : o.op = .call { callee := .builtin .append, args := #[s, x], argTypes := #[32, 32] })
    (v : Value) (ls : List (List Int)) (hs : a.eval s = v) (hown : OWL w0 w v ls)
    (ad : Addr) (m c : Nat) (us : List Value) (ns : List (List Int)) (hx : a.eval x = .slice (some ad) m c) (hl : us.length = m) (hn : ns.length = m) (hcell : ∀ j u, us[j]? = some u → w.cell? (ad.add j) = some u)
    (hu : ∀ j, j < m → EL w0 w (us.getD j undef) (ns.getD j [])) (h1 : ∀ u ∈ us, u.oneCell' = true)
    (hbytes : (ls.length + m) * 24 ≤ 140737488355328) (hbase : w0.heap.size ≤ w.heap.size)
    (h : ∀ v' w', OWL w0 w' v' (ls ++ ns) → w.grownBy w' v.ownBlock → (∀ g, v.ownBlock = some g → w0.heap.size ≤ g ∧ BT w g 24) → wpList Try.prog ops Q rest (a.put o.dst v') w') : wpList Try.prog ops Q (o :: rest) a w := by
  obtain ⟨i0, hi, hz0, hz1, hz2⟩ := info_parts info_bytes
  obtain ⟨xs, hrow, hel⟩ := hown
  have hblk : ∀ g, v.ownBlock = some g → w0.heap.size ≤ g ∧ BT w g 24 := by
    intro g hg
    refine ⟨(hrow.lt g hg).1, ?_⟩
    rcases hrow.2 with ⟨rfl, _⟩ | ⟨g', cap, cur, rfl, _, hh, _⟩
    · simp [Value.ownBlock] at hg
    · simp only [Value.ownBlock, Option.some.injEq] at hg
      subst hg
      exact ⟨cur, _, hh⟩
  refine wpList_append_own w hgd s x 32 ho w0.heap.size 24 i0 (.slice none 0 0) 1 24 Try.underlying32 hi hz0 hz1 hz2 rfl (by decide) v ls.length xs hs hrow ad m c us hx (by omega) hcell h1 (by unfold maxLen; omega) hbytes hbase (fun v' w' h2 h3 _ => h v' w' ?_ h3 hblk)
  refine ⟨xs ++ us, by rw [List.length_append, hn]; exact h2, fun j hj => ?_⟩
  have key : ∀ u l, EL w0 w u l → EL w0 w' u l := fun u l he => he.grown h3 fun g hg => by
    obtain ⟨_, cur, fz, hh⟩ := hblk g hg
    exact ⟨cur, _, fz, hh, by decide⟩
  have hxl : xs.length = ls.length := by have := hrow.1; omega
  rw [getD_app, getD_app, hxl]
  rw [List.length_append] at hj
  split
  · exact key _ _ (hel j ‹_›)
  · exact key _ _ (hu _ (by omega))
theorem takel_eq_step (la lb : List (List Int)) (k : Nat) (ha : k < la.length) (hb : k < lb.length) (h : la.take k = lb.take k) (e : la.getD k [] = lb.getD k []) : la.take (k + 1) = lb.take (k + 1) := by
  rw [List.take_succ_eq_append_getElem ha, List.take_succ_eq_append_getElem hb, h]
  have e1 : la.getD k [] = la[k] := by simp [List.getD, List.getElem?_eq_getElem ha]
  have e2 : lb.getD k [] = lb[k] := by simp [List.getD, List.getElem?_eq_getElem hb]
  rw [e1, e2] at e
  rw [e]
set_option maxHeartbeats 1000000 in
theorem over_byt (w : World) (B : Nat) (v : Value) (l : List Int) (h : w.ownsRow B 5 1 v l.length (l.map (Value.int .u8))) (hl : ∀ x ∈ l, 0 ≤ x ∧ x < 256) (hn : l.length ≤ 140737488355328) :
    Calls Try.prog 7 #[v] w fun e w' => e = .returned (.tuple #[]) ∧ (∃ l' : List Int, l'.length = l.length ∧ (∀ x ∈ l', 0 ≤ x ∧ x < 256) ∧ w'.ownsRow B 5 1 v l.length (l'.map (Value.int .u8))) ∧ w.grownBy w' v.ownBlock := by
  obtain ⟨n, hnl⟩ : ∃ n, n = l.length := ⟨_, rfl⟩
  rw [← hnl] at h hn ⊢
  rcases h.2 with ⟨rfl, h0⟩ | ⟨g, cap, cur, rfl, hbg, hg, hnc, hcm, hcs, htake⟩
  · subst h0
    clear hnl h
    go_enter Try.func7, Try.ntmps7
    go_wp2
    go_loop [2] (fun i => i = .int .i64 0) (fun _ => 0)
    case atStart => rfl
    case round =>
      subst hrel
      go_wp2
      go_end0
      exact ⟨rfl, World.ownsRow_nil _ _ _ _, ⟨rfl, rfl, rfl, Nat.le_refl _, fun _ _ _ => rfl⟩⟩
  · have HO : Hid (∃ l' : List Int, l'.length = n ∧ (∀ x ∈ l', 0 ≤ x ∧ x < 256) ∧ w.ownsRow B 5 1 (.slice (some ⟨g, 0, none⟩) n cap) n (l'.map (Value.int .u8))) := ⟨l, hnl.symm, hl, h⟩
    clear h hg htake hcs hbg hl hnl
    unfold maxLen at hcm
    go_enter Try.func7, Try.ntmps7
    go_wp2
    go_loopw [2] (fun i wr => ∃ k : Nat, k ≤ n ∧ i = .int .i64 k ∧ Hid (∃ l' : List Int, l'.length = n ∧ (∀ x ∈ l', 0 ≤ x ∧ x < 256) ∧ wr.ownsRow B 5 1 (.slice (some ⟨g, 0, none⟩) n cap) n (l'.map (Value.int .u8))) ∧ Hid (w.grownBy wr (some g))) (fun i _ => n - (intOf i).toNat)
    case atStart => exact ⟨0, Nat.zero_le _, rfl, HO, ⟨rfl, rfl, rfl, Nat.le_refl _, fun _ _ _ => rfl⟩⟩
    case round =>
      clear HO
      obtain ⟨k, hk, rfl, HY, HG⟩ := hrel
      by_cases hlt : k < n
      · obtain ⟨l', hl', hby', hy⟩ := HY.out
        have hc := hy.cellAt k (by omega)
        have hfz := hy.frozenAt k
        obtain ⟨z, hz⟩ : ∃ z, (l'.map (Value.int .u8))[k]? = some z := ⟨_, List.getElem?_eq_getElem (by rw [List.length_map]; omega)⟩
        rw [hz] at hc
        have HYY := hid hy
        have HL' := hid hl'
        have HBY := hid hby'
        clear hz hy hl' hby' HY
        go_wp2_with fail
        have e1 : ((k : Int) + 3) = ((k + 3 : Nat) : Int) := by omega
        rw [e1]
        refine (mark_any wr 7 (k + 3) (by omega) (by omega)).mono ?_
        rintro e wz ⟨rfl, hw⟩
        have hw' := hw.symm
        subst hw'
        clear hw e1
        go_wp2
        refine ⟨⟨k + 1, by omega, by go_num, ⟨l'.set k (mkB 7 (k + 3)), by rw [List.length_set]; exact HL'.out, fun x hx => ?_, by rw [List.map_set]; exact (HYY.out.stored k _).1⟩, ⟨HG.out.os, HG.out.tape, HG.out.output, by simpa using HG.out.size, fun i hi hne => by
          rw [heap_setCell_other _ _ _ _ (fun e => hne (by simp [e]))]
          exact HG.out.block i hi hne⟩⟩, by simp [intOf]; omega⟩
        rcases List.mem_or_eq_of_mem_set hx with h1 | h1
        · exact HBY.out x h1
        · rw [h1]; exact mkB_byt _ _
      · go_wp2
        go_end0
        exact ⟨rfl, HY.out, HG.out⟩
def marksL (k n : Nat) : List Int := (List.range n).map (mkB k)
theorem marksL_length (k n : Nat) : (marksL k n).length = n := by simp [marksL]
theorem marksL_getD (k n i : Nat) (h : i < n) : (marksL k n).getD i 0 = mkB k i := by simp [marksL, List.getD, h]
theorem marksL_byt (k n : Nat) : ∀ x ∈ marksL k n, 0 ≤ x ∧ x < 256 := by
  intro x hx
  obtain ⟨i, _, rfl⟩ := List.mem_map.1 hx
  exact mkB_byt _ _
theorem marksL_succ (k n : Nat) : marksL k (n + 1) = marksL k n ++ [mkB k n] := by simp [marksL, List.range_succ]
theorem marksL_take (k n m : Nat) (h : n ≤ m) : (marksL k m).take n = marksL k n := by
  unfold marksL
  rw [← List.map_take, List.take_range]
  congr 2
  omega
def Apt (B : Nat) (w : World) (us : List Value) (ls : List (List Int)) : Prop :=
  us.length = ls.length ∧ (∀ k, k < us.length → w.ownsRow B 5 1 (us.getD k undef) (ls.getD k []).length ((ls.getD k []).map (Value.int .u8))) ∧
    ∀ i j, i < us.length → j < us.length → i ≠ j → (us.getD i undef).ownBlock = none ∨ (us.getD i undef).ownBlock ≠ (us.getD j undef).ownBlock
def HV (w : World) (v : Value) (us : List Value) : Prop :=
  ∃ (p : Option Addr) (c : Nat), v = .slice p us.length c ∧ us.length ≤ c ∧ c ≤ maxLen ∧
    (us ≠ [] → ∃ b off, p = some ⟨b, off, none⟩ ∧ BT w b 24 ∧ ∀ k, k < us.length → w.cell? ⟨b, off + k, none⟩ = some (us.getD k undef))
theorem BT.grown {w w' : World} {b : Nat} {T : TypeId} {row : Option Nat} (h : BT w b T) (hg : w.grownBy w' row) (hr : ∀ g, row = some g → ∃ e, BT w g e ∧ e ≠ T) : BT w' b T := by
  obtain ⟨cur, fz, hh⟩ := h
  refine ⟨cur, fz, ?_⟩
  rw [hg.block b (Array.getElem?_eq_some_iff.1 hh).1 ?_]
  · exact hh
  · intro e
    obtain ⟨e', ⟨cur', fz', hh'⟩, hne⟩ := hr b e.symm
    rw [hh] at hh'
    simp only [Option.some.injEq, Obj.cells.injEq] at hh'
    exact hne hh'.2.1.symm
theorem HV.grown {w w' : World} {v : Value} {us : List Value} {row : Option Nat} (h : HV w v us) (hg : w.grownBy w' row) (hr : ∀ g, row = some g → BT w g 5) : HV w' v us := by
  obtain ⟨p, c, h1, h2, h3, h4⟩ := h
  refine ⟨p, c, h1, h2, h3, fun hne => ?_⟩
  obtain ⟨b, off, e, hb, hc⟩ := h4 hne
  have hb' : BT w' b 24 := hb.grown hg (fun g e => ⟨_, hr g e, by decide⟩)
  refine ⟨b, off, e, hb', fun k hk => hg.cell (hc k hk) ?_⟩
  intro e
  obtain ⟨cur, fz, hh⟩ := hb
  obtain ⟨cur', fz', hh'⟩ := hr b e.symm
  rw [hh] at hh'
  simp at hh'
theorem own_BT {w : World} {B n : Nat} {v : Value} {xs : List Value} {e : TypeId} (h : w.ownsRow B e 1 v n xs) : ∀ g, v.ownBlock = some g → BT w g e := by
  intro g hg
  rcases h.2 with ⟨rfl, _⟩ | ⟨g', cap, cur, rfl, _, hh, _⟩
  · simp [Value.ownBlock] at hg
  · simp only [Value.ownBlock, Option.some.injEq] at hg
    subst hg
    exact ⟨cur, _, hh⟩
theorem BT.ne {w : World} {b g : Nat} {T U : TypeId} (h : BT w b T) (k : BT w g U) (hne : T ≠ U) : b ≠ g := by
  intro e
  subst e
  obtain ⟨cur, fz, hh⟩ := h
  obtain ⟨cur', fz', hh'⟩ := k
  rw [hh] at hh'
  simp only [Option.some.injEq, Obj.cells.injEq] at hh'
  exact hne hh'.2.1
theorem HV.block {w : World} {b off n c : Nat} {us : List Value} (h : HV w (.slice (some ⟨b, off, none⟩) n c) us) (h0 : 0 < us.length) : BT w b 24 := by
  obtain ⟨p, c', e, _, _, h4⟩ := h
  obtain ⟨b', off', e2, hb, _⟩ := h4 (by intro e; subst e; simp at h0)
  simp only [Value.slice.injEq] at e
  rw [← e.1] at e2
  simp only [Option.some.injEq, Addr.mk.injEq, and_true] at e2
  rw [e2.1]
  exact hb
theorem getD_set {α : Type} (l : List α) (d x : α) (k j : Nat) (hk : k < l.length) : (l.set k x).getD j d = if j = k then x else l.getD j d := by
  by_cases h : j = k
  · subst h
    simp [List.getD, hk]
  · rw [if_neg h]
    simp only [List.getD]
    rw [List.getElem?_set_ne (Ne.symm h)]
theorem Apt.store {B : Nat} {w : World} {us : List Value} {ls : List (List Int)} (h : Apt B w us ls) (k i : Nat) (x : Int) (hk : k < us.length) {g cap n : Nat} (hu : us.getD k undef = .slice (some ⟨g, 0, none⟩) n cap) :
    Apt B (w.setCell ⟨g, i, none⟩ (.int .u8 x)) us (ls.set k ((ls.getD k []).set i x)) ∧ w.grownBy (w.setCell ⟨g, i, none⟩ (.int .u8 x)) (some g) := by
  obtain ⟨h1, h2, h3⟩ := h
  have hok := h2 k hk
  rw [hu] at hok
  have hn : n = (ls.getD k []).length := by
    rcases hok.2 with ⟨e, _⟩ | ⟨_, _, _, e, _⟩
    · cases e
    · cases e; rfl
  subst hn
  have hst := hok.stored i (.int .u8 x)
  refine ⟨⟨by simpa using h1, fun j hj => ?_, h3⟩, hst.2⟩
  rw [getD_set ls [] _ k j (by omega)]
  by_cases hjk : j = k
  · subst hjk
    rw [if_pos rfl, hu, List.length_set, List.map_set]
    exact hst.1
  · rw [if_neg hjk]
    refine (h2 j hj).kept hst.2 ?_
    have := h3 j k hj hk hjk
    rw [hu] at this
    exact this
theorem Apt.slice {B : Nat} {w : World} {us : List Value} {ls : List (List Int)} (h : Apt B w us ls) (k : Nat) (hk : k < us.length) : ∃ p c, us.getD k undef = .slice p (ls.getD k []).length c := by
  rcases (h.2.1 k hk).2 with ⟨e, e2⟩ | ⟨g, cap, _, e, _⟩
  · exact ⟨none, 0, by rw [e, e2]⟩
  · exact ⟨_, _, e⟩
theorem Apt.some {B : Nat} {w : World} {us : List Value} {ls : List (List Int)} (h : Apt B w us ls) (k : Nat) (hk : k < us.length) (h0 : 0 < (ls.getD k []).length) : ∃ g c, us.getD k undef = .slice (Option.some ⟨g, 0, none⟩) (ls.getD k []).length c ∧ c ≤ maxLen ∧ (ls.getD k []).length ≤ c ∧ B ≤ g ∧ BT w g 5 := by
  rcases (h.2.1 k hk).2 with ⟨_, e2⟩ | ⟨g, cap, cur, e, hb, hh, h1, h2, _⟩
  · omega
  · exact ⟨g, cap, e, h2, h1, hb, cur, _, hh⟩
def Ph1 (B : Nat) (w : World) (us : List Value) (ls : List (List Int)) (K i : Nat) : Prop :=
  ∃ ms, Apt B w us ms ∧ (∀ j, (ms.getD j []).length = (ls.getD j []).length) ∧ (∀ j, j < K → ms.getD j [] = marksL (j + 1) (ls.getD j []).length) ∧ (ms.getD K []).take i = marksL (K + 1) i
theorem Ph1.start {B : Nat} {w : World} {us : List Value} {ls : List (List Int)} (h : Apt B w us ls) : Ph1 B w us ls 0 0 := ⟨ls, h, fun _ => rfl, fun j hj => by omega, by simp [marksL]⟩
theorem take_set_succ (l : List Int) (i : Nat) (x : Int) (hi : i < l.length) : (l.set i x).take (i + 1) = l.take i ++ [x] := by
  rw [List.take_succ_eq_append_getElem (by simpa using hi)]
  have e : (l.set i x).take i = l.take i := by
    apply List.ext_getElem?
    intro j
    simp only [List.getElem?_take]
    split
    · rw [List.getElem?_set_ne (by omega)]
    · rfl
  rw [e]
  simp
theorem Ph1.step {B : Nat} {w : World} {us : List Value} {ls : List (List Int)} {K i : Nat} (h : Ph1 B w us ls K i) (hK : K < us.length) (hi : i < (ls.getD K []).length) {g cap n : Nat} (hu : us.getD K undef = .slice (some ⟨g, 0, none⟩) n cap) :
    Ph1 B (w.setCell ⟨g, i, none⟩ (.int .u8 (mkB (K + 1) i))) us ls K (i + 1) ∧ w.grownBy (w.setCell ⟨g, i, none⟩ (.int .u8 (mkB (K + 1) i))) (some g) := by
  obtain ⟨ms, ha, hl, hd, ht⟩ := h
  have hs := ha.store K i (mkB (K + 1) i) hK hu
  have hKm : K < ms.length := by have := ha.1; omega
  refine ⟨⟨_, hs.1, fun j => ?_, fun j hj => ?_, ?_⟩, hs.2⟩
  · rw [getD_set ms [] _ K j hKm]
    split
    · rename_i e; subst e; rw [List.length_set]; exact hl _
    · exact hl j
  · rw [getD_set ms [] _ K j hKm, if_neg (by omega)]
    exact hd j hj
  · rw [getD_set ms [] _ K K hKm, if_pos rfl, take_set_succ _ _ _ (by rw [hl]; exact hi), ht, marksL_succ]
theorem Ph1.next {B : Nat} {w : World} {us : List Value} {ls : List (List Int)} {K i : Nat} (h : Ph1 B w us ls K i) (hi : (ls.getD K []).length ≤ i) : Ph1 B w us ls (K + 1) 0 := by
  obtain ⟨ms, ha, hl, hd, ht⟩ := h
  refine ⟨ms, ha, hl, fun j hj => ?_, by simp [marksL]⟩
  by_cases hj2 : j < K
  · exact hd j hj2
  · have e : j = K := by omega
    subst e
    have e1 := congrArg (List.take (ls.getD j []).length) ht
    rw [List.take_take, marksL_take _ _ _ hi] at e1
    rw [← e1, List.take_of_length_le]
    rw [hl]
    omega
theorem Ph1.slice {B : Nat} {w : World} {us : List Value} {ls : List (List Int)} {K i : Nat} (h : Ph1 B w us ls K i) (k : Nat) (hk : k < us.length) : ∃ p c, us.getD k undef = .slice p (ls.getD k []).length c := by
  obtain ⟨ms, ha, hl, _, _⟩ := h
  obtain ⟨p, c, e⟩ := ha.slice k hk
  rw [hl] at e
  exact ⟨p, c, e⟩
theorem Ph1.some {B : Nat} {w : World} {us : List Value} {ls : List (List Int)} {K i : Nat} (h : Ph1 B w us ls K i) (k : Nat) (hk : k < us.length) (h0 : 0 < (ls.getD k []).length) : ∃ g c, us.getD k undef = .slice (Option.some ⟨g, 0, none⟩) (ls.getD k []).length c ∧ c ≤ maxLen ∧ (ls.getD k []).length ≤ c ∧ B ≤ g ∧ BT w g 5 ∧ ∀ j, j < (ls.getD k []).length → (∃ z, w.cell? ⟨g, j, none⟩ = Option.some z) ∧ w.frozen? ⟨g, j, none⟩ = false := by
  obtain ⟨ms, ha, hl, _, _⟩ := h
  obtain ⟨g, c, e, h1, h2, h3, h4⟩ := ha.some k hk (by rw [hl]; exact h0)
  have hrow := ha.2.1 k hk
  rw [e] at hrow
  rw [hl] at e h2
  refine ⟨g, c, e, h1, h2, h3, h4, fun j hj => ⟨?_, hrow.frozenAt j⟩⟩
  have := hrow.cellAt j (by rw [hl]; omega)
  rw [this]
  exact ⟨_, List.getElem?_eq_getElem (by simp only [List.length_map]; rw [hl]; exact hj)⟩
theorem Ph1.drew {B : Nat} {w : World} {us : List Value} {ls : List (List Int)} {K i : Nat} (h : Ph1 B w us ls K i) : Ph1 B w.drew us ls K i := h
theorem HV.drew {w : World} {v : Value} {us : List Value} (h : HV w v us) : HV w.drew v us := h
theorem HB.away {w w' : World} {u : Value} {l : List Int} {row : Option Nat} (h : HB w u l) (hg : w.grownBy w' row) (hr : u.ownBlock = none ∨ u.ownBlock ≠ row) : HB w' u l := by
  obtain ⟨⟨p, c, rfl, h2, h3, h6, h4⟩, h5⟩ := h
  refine ⟨⟨p, c, rfl, h2, h3, h6, fun hl => ?_⟩, h5⟩
  obtain ⟨b, off, rfl, hh⟩ := h4 hl
  refine ⟨b, off, rfl, fun j hj => hg.cell (hh j hj) ?_⟩
  rcases hr with hr | hr
  · simp [Value.ownBlock] at hr
  · exact hr
def Usf (w : World) (us : List Value) (ls : List (List Int)) : Prop :=
  (∀ i j, i < us.length → j < us.length → i ≠ j → (us.getD i undef).ownBlock = none ∨ (us.getD i undef).ownBlock ≠ (us.getD j undef).ownBlock) ∧
  (∀ j b, j < us.length → (us.getD j undef).ownBlock = some b → b < w.heap.size ∧ ∃ c, us.getD j undef = .slice (some ⟨b, 0, none⟩) (ls.getD j []).length c ∧ (ls.getD j []).length ≤ c ∧ c ≤ maxLen) ∧
  (∀ j, j < us.length → ∃ p c, us.getD j undef = .slice p (ls.getD j []).length c)
theorem Usf.grown {w w' : World} {us : List Value} {ls : List (List Int)} (h : Usf w us ls) (hs : w.heap.size ≤ w'.heap.size) : Usf w' us ls :=
  ⟨h.1, fun j b hj hb => ⟨Nat.lt_of_lt_of_le (h.2.1 j b hj hb).1 hs, (h.2.1 j b hj hb).2⟩, h.2.2⟩
def Pool (B : Nat) (w : World) (us : List Value) (ls : List (List Int)) (K L : Nat) (gl : List Value) : Prop :=
  gl.length = K ∧ Usf w us ls ∧
  (∀ j, j < K → w.ownsRow B 5 1 (gl.getD j undef) ((ls.getD j []).length + 70) ((marksL (j + 1) ((ls.getD j []).length + 70)).map (Value.int .u8)) ∧ HB w (us.getD j undef) (marksL (j + 1) (ls.getD j []).length)) ∧
  (∀ j, L ≤ j → j < us.length → w.ownsRow B 5 1 (us.getD j undef) (ls.getD j []).length ((marksL (j + 1) (ls.getD j []).length).map (Value.int .u8))) ∧
  (∀ i j, i < K → K ≤ j → j < us.length → (gl.getD i undef).ownBlock ≠ (us.getD j undef).ownBlock)
theorem Pool.grown {B : Nat} {w w' : World} {us : List Value} {ls : List (List Int)} {K L : Nat} {gl : List Value} {row : Option Nat} (h : Pool B w us ls K L gl) (hg : w.grownBy w' row)
    (hr1 : ∀ i, i < K → (gl.getD i undef).ownBlock = none ∨ (gl.getD i undef).ownBlock ≠ row) (hr2 : ∀ j, j < us.length → (j < K ∨ L ≤ j) → (us.getD j undef).ownBlock = none ∨ (us.getD j undef).ownBlock ≠ row) (hKL : K ≤ us.length) : Pool B w' us ls K L gl := by
  obtain ⟨h1, h2, h3, h4, h5⟩ := h
  refine ⟨h1, h2.grown hg.size, fun j hj => ⟨(h3 j hj).1.kept hg (hr1 j hj), (h3 j hj).2.away hg (hr2 j (by omega) (.inl hj))⟩, fun j hj hj2 => (h4 j hj hj2).kept hg (hr2 j hj2 (.inr hj)), h5⟩
def Cur (B : Nat) (w : World) (us : List Value) (ls : List (List Int)) (K : Nat) (gl : List Value) (g : Value) (m : Nat) : Prop :=
  Pool B w us ls K (K + 1) gl ∧ w.ownsRow B 5 1 g ((ls.getD K []).length + m) ((marksL (K + 1) ((ls.getD K []).length + m)).map (Value.int .u8)) ∧ HB w (us.getD K undef) (marksL (K + 1) (ls.getD K []).length) ∧
  (∀ i, i < K → (gl.getD i undef).ownBlock ≠ g.ownBlock) ∧ ∀ j, j < us.length → j ≠ K → (us.getD j undef).ownBlock = none ∨ (us.getD j undef).ownBlock ≠ g.ownBlock
theorem Cur.start {B : Nat} {w : World} {us : List Value} {ls : List (List Int)} {K : Nat} {gl : List Value} (h : Pool B w us ls K K gl) (hK : K < us.length) : Cur B w us ls K gl (us.getD K undef) 0 := by
  obtain ⟨h1, h2, h3, h4, h5⟩ := h
  have hk := h4 K (Nat.le_refl _) hK
  refine ⟨⟨h1, h2, h3, fun j hj => h4 j (by omega), h5⟩, by simpa using hk, HB.of_own (by rw [marksL_length]; exact hk) (marksL_byt _ _), fun i hi => h5 i K hi (Nat.le_refl _) hK, fun j hj hne => h2.1 j K hj hK hne⟩
theorem Cur.finish {B : Nat} {w : World} {us : List Value} {ls : List (List Int)} {K : Nat} {gl : List Value} {g : Value} (h : Cur B w us ls K gl g 70) (hK : K < us.length) : Pool B w us ls (K + 1) (K + 1) (gl ++ [g]) := by
  obtain ⟨⟨h1, h2, h3, h4, h5⟩, hg, hu, hs1, hs2⟩ := h
  have gd : ∀ j, (gl ++ [g]).getD j undef = if j < K then gl.getD j undef else if j = K then g else undef := by
    intro j
    rw [getD_app, h1]
    split
    · rfl
    · split
      · rename_i e; subst e; simp
      · rename_i h6 h7
        have : 0 < j - K := by omega
        obtain ⟨t, ht⟩ : ∃ t, j - K = t + 1 := ⟨j - K - 1, by omega⟩
        rw [ht]; rfl
  refine ⟨by simp [h1], h2, fun j hj => ?_, h4, fun i j hi hj hj2 => ?_⟩
  · rw [gd]
    by_cases hjk : j < K
    · rw [if_pos hjk]; exact h3 j hjk
    · have e : j = K := by omega
      subst e
      rw [if_neg hjk, if_pos rfl]
      exact ⟨hg, hu⟩
  · rw [gd]
    by_cases hik : i < K
    · rw [if_pos hik]; exact h5 i j hik (by omega) hj2
    · have e : i = K := by omega
      subst e
      rw [if_neg hik, if_pos rfl]
      rcases hs2 j hj2 (by omega) with h | h
      · rw [h]
        intro e
        rcases hg.2 with ⟨_, e2⟩ | ⟨g', cap, cur, e2, _⟩
        · omega
        · rw [e2] at e; simp [Value.ownBlock] at e
      · exact Ne.symm h
theorem Cur.alloc {B : Nat} {w : World} {us : List Value} {ls : List (List Int)} {K : Nat} {gl : List Value} {g : Value} {m : Nat} (h : Cur B w us ls K gl g m) (hK : K < us.length) (o : Obj) : Cur B (w.alloc o) us ls K gl g m := by
  have hg := World.grownBy_alloc w o none
  have tr : ∀ x : Option Nat, x = none ∨ x ≠ none := fun x => by cases x <;> simp
  exact ⟨h.1.grown hg (fun i _ => tr _) (fun j _ _ => tr _) (by omega), h.2.1.kept hg (tr _), h.2.2.1.away hg (tr _), h.2.2.2⟩
theorem Cur.step {B : Nat} {w w' : World} {us : List Value} {ls : List (List Int)} {K : Nat} {gl : List Value} {g g' : Value} {m : Nat} (h : Cur B w us ls K gl g m) (hK : K < us.length)
    (hown : w'.ownsRow B 5 1 g' ((ls.getD K []).length + m + 1) ((marksL (K + 1) ((ls.getD K []).length + m)).map (Value.int .u8) ++ [.int .u8 (mkB (K + 1) ((ls.getD K []).length + m))])) (hgr : w.grownBy w' g.ownBlock)
    (hd : g'.ownBlock = g.ownBlock ∨ (g'.ownBlock = some w.heap.size ∧ w.grownBy w' none)) : Cur B w' us ls K gl g' (m + 1) := by
  obtain ⟨hp, hg, hu, hs1, hs2⟩ := h
  have hp2 := hp
  obtain ⟨h1, h2, h3, h4, h5⟩ := hp2
  have hown2 : w'.ownsRow B 5 1 g' ((ls.getD K []).length + (m + 1)) ((marksL (K + 1) ((ls.getD K []).length + (m + 1))).map (Value.int .u8)) := by
    rw [← Nat.add_assoc, marksL_succ, List.map_append]
    exact hown
  have tr : ∀ x : Option Nat, x = none ∨ x ≠ none := fun x => by cases x <;> simp
  have hpool : Pool B w' us ls K (K + 1) gl := hp.grown hgr (fun i hi => .inr (hs1 i hi)) (fun j hj hj2 => hs2 j hj (by omega)) (by omega)
  rcases hd with hd | ⟨hd, hgn⟩
  · refine ⟨hpool, hown2, ?_, fun i hi => by rw [hd]; exact hs1 i hi, fun j hj hne => by rw [hd]; exact hs2 j hj hne⟩
    by_cases hsame : (us.getD K undef).ownBlock = none ∨ (us.getD K undef).ownBlock ≠ g.ownBlock
    · exact hu.away hgr hsame
    · obtain ⟨b, hb⟩ : ∃ b, (us.getD K undef).ownBlock = some b := by
        cases hx : (us.getD K undef).ownBlock with
        | none => exact absurd (.inl hx) hsame
        | some b => exact ⟨b, rfl⟩
      have hbg : g.ownBlock = some b := by
        apply Classical.byContradiction
        intro hn
        exact hsame (.inr (by rw [hb]; exact Ne.symm hn))
      obtain ⟨_, c, e, hc1, hc2⟩ := h2.2.1 K b hK hb
      rw [e]
      refine ⟨⟨some ⟨b, 0, none⟩, c, by rw [marksL_length], by rw [marksL_length]; exact hc1, hc2, (fun e => by cases e), fun _ => ⟨b, 0, rfl, fun j hj => ?_⟩⟩, marksL_byt _ _⟩
      rw [marksL_length] at hj
      obtain ⟨g2, cap, e2, _, _, _, hcell⟩ := ownsRow_cells hown2 (by omega)
      rw [hbg, e2] at hd
      simp only [Value.ownBlock, Option.some.injEq] at hd
      subst hd
      have hjl : j < (marksL (K + 1) ((ls.getD K []).length + (m + 1))).length := by rw [marksL_length]; omega
      have := hcell j (.int .u8 (mkB (K + 1) j)) (by
        rw [List.getElem?_map, List.getElem?_eq_getElem hjl, ← getD_of_lt hjl, marksL_getD _ _ _ (by omega)]; rfl)
      rw [this, marksL_getD _ _ _ hj]
  · refine ⟨hpool, hown2, hu.away hgn (tr _), fun i hi => ?_, fun j hj hne => ?_⟩
    · rw [hd]
      intro e
      have := ((h3 i hi).1.lt _ e).2
      omega
    · rw [hd]
      right
      intro e
      have := (h2.2.1 j _ hj e).1
      omega
theorem Ph1.pool {B : Nat} {w : World} {us : List Value} {ls : List (List Int)} (h : Ph1 B w us ls us.length 0) : Pool B w us ls 0 0 [] := by
  obtain ⟨ms, ha, hl, hd, _⟩ := h
  refine ⟨rfl, ⟨ha.2.2, fun j b hj hb => ?_, fun j hj => ?_⟩, fun j hj => by omega, fun j _ hj => ?_, fun i j hi => by omega⟩
  · have hrow := ha.2.1 j hj
    refine ⟨(hrow.lt b hb).2, ?_⟩
    rcases hrow.2 with ⟨e, _⟩ | ⟨g, cap, cur, e, _, _, h1, h2, _⟩
    · rw [e] at hb; simp [Value.ownBlock] at hb
    · rw [e] at hb
      simp only [Value.ownBlock, Option.some.injEq] at hb
      subst hb
      rw [hl] at e h1
      exact ⟨cap, e, h1, h2⟩
  · obtain ⟨p, c, e⟩ := ha.slice j hj
    rw [hl] at e
    exact ⟨p, c, e⟩
  · have := ha.2.1 j hj
    rw [hd j hj, marksL_length] at this
    exact this
theorem HV.apart {w w' : World} {v : Value} {us : List Value} {row : Option Nat} {N : Nat} (h : HV w v us) (hg : w.grownBy w' row) (hr : ∀ g, row = some g → N ≤ g) (hv : ∀ b off n c, v = .slice (some ⟨b, off, none⟩) n c → 0 < us.length → b < N) : HV w' v us := by
  obtain ⟨p, c, h1, h2, h3, h4⟩ := h
  refine ⟨p, c, h1, h2, h3, fun hne => ?_⟩
  obtain ⟨b, off, e, ⟨cur, fz, hh⟩, hc⟩ := h4 hne
  have hb : b < N := hv b off us.length c (by rw [h1, e]) (by cases us with | nil => exact absurd rfl hne | cons _ _ => simp)
  have hne2 : some b ≠ row := fun e => by have := hr b e.symm; omega
  exact ⟨b, off, e, ⟨cur, fz, by rw [hg.block b (Array.getElem?_eq_some_iff.1 hh).1 hne2]; exact hh⟩, fun k hk => hg.cell (hc k hk) hne2⟩
theorem HV.cellAt {w : World} {b off n c : Nat} {us : List Value} (h : HV w (.slice (some ⟨b, off, none⟩) n c) us) (k : Nat) (hk : k < us.length) : w.cell? ⟨b, off + k, none⟩ = some (us.getD k undef) := by
  obtain ⟨p', c', e', _, _, h4⟩ := h
  obtain ⟨b', off', e2, _, hc⟩ := h4 (by intro e; subst e; simp at hk)
  simp only [Value.slice.injEq] at e'
  rw [← e'.1] at e2
  simp only [Option.some.injEq, Addr.mk.injEq, and_true] at e2
  obtain ⟨rfl, rfl⟩ := e2
  exact hc k hk
set_option maxHeartbeats 4000000 in
theorem apart_any (B : Nat) (w : World) (v : Value) (us : List Value) (ls : List (List Int)) (hv : HV w v us) (ha : Apt B w us ls) (hB : B ≤ w.heap.size) (hn : us.length ≤ 5864062014634) (hls : ∀ k, (ls.getD k []).length ≤ 140737488351232) :
    Calls Try.prog 9 #[v] w fun e w' => e = .returned (.bool true) ∧ Below B w w' := by
  obtain ⟨p, c, e, hlc, hm, hcell⟩ := id hv
  unfold maxLen at hm
  subst e
  have A : Hid (0 < us.length → ∃ b off, p = some ⟨b, off, none⟩) := fun h0 => by
    obtain ⟨b, off, e, _⟩ := hcell (by intro e; subst e; simp at h0)
    exact ⟨b, off, e⟩
  have HV0 := hid hv
  have HA0 := hid (Ph1.start ha)
  have HLS := hid hls
  clear hcell hv ha hls
  go_enter Try.func9, Try.ntmps9
  go_wp2
  go_loopw [3] (fun k wr => ∃ K : Nat, K ≤ us.length ∧ k = .int .i64 K ∧ Hid (Ph1 B wr us ls K 0) ∧ Hid (HV wr (.slice p us.length c) us) ∧ Hid (Below B w wr)) (fun k _ => us.length - (intOf k).toNat)
  case atStart => exact ⟨0, Nat.zero_le _, rfl, HA0, HV0, Below.refl _ _⟩
  case round =>
    clear HA0 HV0
    obtain ⟨K, hK, rfl, HP, HVr, HBr⟩ := hrel
    by_cases hlt : K < us.length
    · obtain ⟨b, off, rfl⟩ := A.out (by omega)
      have hcells : Hid (∀ wz, HV wz (.slice (some ⟨b, off, none⟩) us.length c) us → wz.cell? ⟨b, off + K, none⟩ = some (us.getD K undef)) := by
        intro wz hz
        obtain ⟨p', c', e', _, _, h4⟩ := hz
        obtain ⟨b', off', e2, _, hc⟩ := h4 (by intro e; subst e; simp at hlt)
        simp only [Value.slice.injEq, true_and] at e'
        rw [← e'.1] at e2
        simp only [Option.some.injEq, Addr.mk.injEq, and_true] at e2
        obtain ⟨rfl, rfl⟩ := e2
        exact hc K hlt
      obtain ⟨n, HN⟩ : ∃ n, Hid ((ls.getD K []).length = n) := ⟨_, rfl⟩
      have hn2 : n ≤ 140737488351232 := by rw [← HN.out]; exact HLS.out K
      obtain ⟨pk, ck, HU⟩ : ∃ pk ck, Hid (us.getD K undef = .slice pk n ck) := by
        obtain ⟨pk, ck, e⟩ := HP.out.slice K hlt
        rw [HN.out] at e
        exact ⟨pk, ck, e⟩
      go_wp2
      go_loopw [4] (fun i wz => ∃ I : Nat, I ≤ n ∧ i = .int .i64 I ∧ Hid (Ph1 B wz us ls K I) ∧ Hid (HV wz (.slice (some ⟨b, off, none⟩) us.length c) us) ∧ Hid (Below B w wz)) (fun i _ => n - (intOf i).toNat)
      case atStart => exact ⟨0, Nat.zero_le _, rfl, HP, HVr, HBr⟩
      case round =>
        clear HP HVr HBr
        obtain ⟨I, hI, rfl, HP, HVr, HBr⟩ := hrel
        have hc1 := hcells.out wr HVr.out
        rw [HU.out] at hc1
        by_cases hli : I < n
        · obtain ⟨g, ck', e, hck, hck2, hgB, hBT, hcc⟩ := HP.out.some K hlt (by rw [HN.out]; omega)
          rw [HU.out, HN.out] at e
          simp only [Value.slice.injEq, true_and] at e
          obtain ⟨rfl, rfl⟩ := e
          obtain ⟨⟨z, hz⟩, hfz⟩ := hcc I (by rw [HN.out]; exact hli)
          rw [HN.out] at hck2
          unfold maxLen at hck
          have HBT := hid hBT
          have hgb : b ≠ g := (HVr.out.block (by omega)).ne hBT (by decide)
          have hbg : g ≠ b := Ne.symm hgb
          clear hcc hBT
          go_wp2
          go_region_held3 (fun w' => w'.cell? ⟨b, off + K, none⟩ = some (.slice (some ⟨g, 0, none⟩) n ck)) (go_keep) ((go_at_call 11; refine (mark_eq _ (K + 1) I _ _ (wrap_succ K (by omega)) rfl (by omega) (by omega)).mono ?_; rintro e wz ⟨rfl, hw⟩; have hw' := hw.symm; subst hw'; clear hw))
          have hst := HP.out.step hlt (by rw [HN.out]; exact hli) HU.out
          have HP2 := hid hst.1.drew
          have HV2 := hid (HVr.out.grown hst.2 (fun g' e => by cases e; exact HBT.out)).drew
          have HB2 := hid (HBr.out.setCell (p := ⟨g, I, none⟩) hgB (.int .u8 (mkB (K + 1) I))).drew
          clear hst
          go_wp2
          exact ⟨⟨I + 1, by omega, by go_num, HP2, HV2, HB2⟩, by simp [intOf]; omega⟩
        · have HP2 := hid (HP.out.next (by rw [HN.out]; omega))
          go_wp2
          exact ⟨⟨K + 1, by omega, by go_num, HP2, HVr, HBr⟩, by simp [intOf]; omega⟩
    · have hKn : K = us.length := by omega
      have HPl : Hid (Pool B wr us ls 0 0 []) := by
        have := HP.out
        rw [hKn] at this
        exact this.pool
      obtain ⟨N, HN⟩ : ∃ N, Hid (wr.heap.size = N) := ⟨_, rfl⟩
      have HNu : Hid (∀ j b, j < us.length → (us.getD j undef).ownBlock = some b → b < N) := fun j b hj hb => by rw [← HN.out]; exact (HPl.out.2.1.2.1 j b hj hb).1
      have HNv : Hid (∀ b off n c', Value.slice p us.length c = .slice (some ⟨b, off, none⟩) n c' → 0 < us.length → b < N) := fun b off n c' e h0 => by
        rw [← HN.out]
        have h1 := HVr.out
        rw [e] at h1
        obtain ⟨cur, fz, hh⟩ := h1.block h0
        exact (Array.getElem?_eq_some_iff.1 hh).1
      have HNB : Hid (B ≤ N) := by rw [← HN.out]; exact Nat.le_trans hB HBr.out.size
      have HNs : Hid (N ≤ wr.heap.size) := by rw [HN.out]; exact Nat.le_refl N
      clear HP hKn HN
      go_wp2
      go_loopw [5, 6] (fun gs k wz => ∃ (K : Nat) (gl : List Value), K ≤ us.length ∧ k = .int .i64 K ∧ Hid (Pool B wz us ls K K gl) ∧ Hid (wz.ownsRow N 24 1 gs K gl) ∧ Hid (HV wz (.slice p us.length c) us) ∧ Hid (Below B w wz) ∧ Hid (N ≤ wz.heap.size)) (fun _ k _ => us.length - (intOf k).toNat)
      case atStart => exact ⟨0, [], Nat.zero_le _, rfl, HPl, World.ownsRow_nil _ _ _ _, HVr, HBr, HNs⟩
      case round =>
        clear HPl HVr HBr HNs hlt hK
        obtain ⟨K, gl, hK, rfl, HP, HG, HVr, HBr, HNs⟩ := hrel
        by_cases hlt : K < us.length
        · obtain ⟨b, off, rfl⟩ := A.out (by omega)
          obtain ⟨n, HNn⟩ : ∃ n, Hid ((ls.getD K []).length = n) := ⟨_, rfl⟩
          have hn2 : n ≤ 140737488351232 := by rw [← HNn.out]; exact HLS.out K
          obtain ⟨pk, ck, HU⟩ : ∃ pk ck, Hid (us.getD K undef = .slice pk n ck) := by
            obtain ⟨pk, ck, e⟩ := HP.out.2.1.2.2 K hlt
            rw [HNn.out] at e
            exact ⟨pk, ck, e⟩
          have hc1 := HVr.out.cellAt K hlt
          rw [HU.out] at hc1
          have HC := hid (Cur.start HP.out hlt)
          rw [HU.out] at HC
          go_wp2
          go_loopw [7, 8] (fun g i wz => ∃ m : Nat, m ≤ 70 ∧ i = .int .i64 m ∧ Hid (Cur B wz us ls K gl g m) ∧ Hid (wz.ownsRow N 24 1 u5 K gl) ∧ Hid (HV wz (.slice (some ⟨b, off, none⟩) us.length c) us) ∧ Hid (Below B w wz) ∧ Hid (N ≤ wz.heap.size)) (fun _ i _ => 70 - (intOf i).toNat)
          case atStart => exact ⟨0, Nat.zero_le _, rfl, HC, HG, HVr, HBr, HNs⟩
          case round =>
            clear HC HG HVr HBr HNs hc1
            obtain ⟨m, hm70, rfl, HC, HG, HVr, HBr, HNs⟩ := hrel
            have hc1 := HVr.out.cellAt K hlt
            rw [HU.out] at hc1
            by_cases hlm : m < 70
            · have hlm2 : (m : Int) < 70 := by omega
              go_wp2_with fail
              refine (mark_eq wr (K + 1) (n + m) _ _ (by omega) (by omega) (by omega) (by omega)).mono ?_
              rintro e wz ⟨rfl, hw⟩
              have hw' := hw.symm
              subst hw'
              clear hw
              have HCa := hid (HC.out.alloc hlt (.cells #[.int .u8 (mkB (K + 1) (n + m))] 5))
              have HO := HCa.out.2.1
              rw [HNn.out] at HO
              have HOh := hid HO
              clear HO
              go_wp2_with (at_builtin; refine wpList_append_byte rfl _ _ rfl B _ (n + m) _ rfl HOh.out ⟨wr.heap.size, 0, none⟩ 1 (mkB (K + 1) (n + m)) rfl (by simp) ?q1 ?q2 ?_)
              case q1 => omega
              case q2 => have := HBr.out.size; simp; omega
              intro g' w2 hown2 hgr2 hd2
              have hBT := own_BT HOh.out
              have hal := World.grownBy_alloc wr (.cells #[.int .u8 (mkB (K + 1) (n + m))] 5) none
              have HC2 := hid (HCa.out.step hlt (by rw [HNn.out]; exact hown2) hgr2 (by rw [World.size_alloc]; exact hd2))
              have HG2 : Hid (w2.ownsRow N 24 1 u5 K gl) := by
                have h1 := HG.out.alloc (.cells #[.int .u8 (mkB (K + 1) (n + m))] 5)
                refine h1.kept hgr2 ?_
                cases hx : u7.ownBlock with
                | none => cases hy : u5.ownBlock <;> simp
                | some q =>
                  obtain ⟨cur, fz, hh⟩ := hBT q hx
                  exact .inr (own_block_ne h1 hh (by decide))
              have HV2 := hid ((HVr.out.grown hal (fun g e => by cases e)).grown hgr2 hBT)
              have HB2 := hid ((HBr.out.alloc (Nat.le_trans hB HBr.out.size) (.cells #[.int .u8 (mkB (K + 1) (n + m))] 5)).grown hgr2 (by have := HBr.out.size; simp; omega) (fun k e => (HOh.out.lt k e).1))
              have HN2 : Hid (N ≤ w2.heap.size) := by have h1 := hgr2.size; have h2 := HNs.out; simp at h1; exact Nat.le_trans h2 (by omega)
              clear hown2 hgr2 hd2 hBT hal
              go_wp2
              exact ⟨⟨m + 1, by omega, by go_num, HC2, HG2, HV2, HB2, HN2⟩, by simp [intOf]; omega⟩
            · have e70 : m = 70 := by omega
              subst e70
              have HPn := hid (HC.out.finish hlt)
              have HOg := HC.out.2.1
              rw [HNn.out] at HOg
              obtain ⟨pg, cg, eg, _, _⟩ : ∃ pg cg, u7 = .slice pg (n + 70) cg ∧ True ∧ True := by
                rcases HOg.2 with ⟨_, e⟩ | ⟨g', cap, cur, e, _⟩
                · omega
                · exact ⟨_, _, e, trivial, trivial⟩
              subst eg
              obtain ⟨i0, hi, hz0, hz1, hz2⟩ := info_parts info_bytes
              have HGa := hid (HG.out.alloc (.cells #[.slice pg (n + 70) cg] 24))
              have hal := World.grownBy_alloc wr (.cells #[.slice pg (n + 70) cg] 24) none
              have tr : ∀ x : Option Nat, x = none ∨ x ≠ none := fun x => by cases x <;> simp
              have HPa := hid (HPn.out.grown hal (fun i _ => tr _) (fun j _ _ => tr _) (by omega))
              have HVa := hid (HVr.out.grown hal (fun g e => by cases e))
              have HBa := hid (HBr.out.alloc (Nat.le_trans hB HBr.out.size) (.cells #[.slice pg (n + 70) cg] 24))
              clear HOg tr hal
              go_wp2_with (at_builtin; refine wpList_append_own _ rfl _ _ 32 rfl N 24 i0 (.slice none 0 0) 1 24 Try.underlying32 hi hz0 hz1 hz2 rfl (by decide) _ K gl rfl HGa.out ⟨wr.heap.size, 0, none⟩ 1 1 [_] rfl rfl (cell_one_new _ _ _) ?q1 ?q2 ?q3 ?q4 ?_)
              case q1 => intro u hu; simp only [List.mem_singleton] at hu; subst hu; rfl
              case q2 => unfold maxLen; omega
              case q3 => omega
              case q4 => have := HNs.out; simp; omega
              intro gs' w2 hown2 hgr2 _
              have hlo : ∀ g, u5.ownBlock = some g → N ≤ g := fun g e => (HGa.out.lt g e).1
              have HP2 : Hid (Pool B w2 us ls (K + 1) (K + 1) (gl ++ [.slice pg (n + 70) cg])) := by
                refine HPa.out.grown hgr2 (fun i hi => ?_) (fun j hj _ => ?_) (by omega)
                · cases hx : u5.ownBlock with
                  | none => cases hy : ((gl ++ [Value.slice pg (n + 70) cg]).getD i undef).ownBlock <;> simp
                  | some q =>
                    obtain ⟨cur, fz, hh⟩ := own_BT HGa.out q hx
                    exact .inr (own_block_ne (HPa.out.2.2.1 i hi).1 hh (by decide))
                · cases hx : (us.getD j undef).ownBlock with
                  | none => exact .inl rfl
                  | some q =>
                    right
                    intro e
                    have h1 := HNu.out j q hj hx
                    have h2 := hlo q e.symm
                    omega
              have HV2 := hid (HVa.out.apart hgr2 hlo HNv.out)
              have HB2 := hid (HBa.out.grown hgr2 (by have := HBr.out.size; simp; omega) (fun k e => Nat.le_trans HNB.out (hlo k e)))
              have HG2 : Hid (w2.ownsRow N 24 1 gs' (K + 1) (gl ++ [.slice pg (n + 70) cg])) := hown2
              have HN2 : Hid (N ≤ w2.heap.size) := by have h1 := hgr2.size; have h2 := HNs.out; simp at h1; exact Nat.le_trans h2 (by omega)
              clear hown2 hgr2 hlo
              go_wp2
              exact ⟨⟨K + 1, _, by omega, by go_num, HP2, HG2, HV2, HB2, HN2⟩, by simp [intOf]; omega⟩
        · have hKn : K = us.length := by omega
          subst hKn
          obtain ⟨pg, cg, eg⟩ : ∃ pg cg, u5 = .slice pg us.length cg := by
            rcases HG.out.2 with ⟨e, e2⟩ | ⟨g', cap, cur, e, _⟩
            · exact ⟨none, 0, by rw [e, e2]⟩
            · exact ⟨_, _, e⟩
          subst eg
          go_wp2
          go_loop [9] (fun k => ∃ Q : Nat, Q ≤ us.length ∧ k = .int .i64 Q) (fun k => us.length - (intOf k).toNat)
          case atStart => exact ⟨0, Nat.zero_le _, rfl⟩
          case round =>
            obtain ⟨Q, hQ, rfl⟩ := hrel
            by_cases hlq : Q < us.length
            · obtain ⟨b, off, rfl⟩ := A.out (by omega)
              obtain ⟨n, HNn⟩ : ∃ n, Hid ((ls.getD Q []).length = n) := ⟨_, rfl⟩
              have hn2 : n ≤ 140737488351232 := by rw [← HNn.out]; exact HLS.out Q
              have hc1 := HVr.out.cellAt Q hlq
              obtain ⟨hrow, hu⟩ := HP.out.2.2.1 Q hlq
              rw [HNn.out] at hrow hu
              obtain ⟨pk, ck, HU⟩ : ∃ pk ck, Hid (us.getD Q undef = .slice pk n ck) := by
                obtain ⟨pk, ck, e⟩ := HP.out.2.1.2.2 Q hlq
                rw [HNn.out] at e
                exact ⟨pk, ck, e⟩
              rw [HU.out] at hc1 hu
              obtain ⟨gg, capg, eg, _, hcg1, hcg2, hgc⟩ := ownsRow_cells HG.out (by omega)
              simp only [Value.slice.injEq, true_and] at eg
              obtain ⟨rfl, rfl⟩ := eg
              have hgl : gl.length = us.length := HP.out.1
              have hc2 := hgc Q (gl.getD Q undef) (by simp [List.getD, List.getElem?_eq_getElem (show Q < gl.length by omega)])
              rw [Nat.zero_add] at hc2
              obtain ⟨gq, capq, eq, _, hq1, hq2, hqc⟩ := ownsRow_cells hrow (by omega)
              rw [eq] at hc2
              have HQ : Hid (∀ I, I < n + 70 → wr.cell? ⟨gq, I, none⟩ = some (.int .u8 (mkB (Q + 1) I))) := fun I hI => by
                have hjl : I < (marksL (Q + 1) (n + 70)).length := by rw [marksL_length]; exact hI
                have := hqc I (.int .u8 (mkB (Q + 1) I)) (by rw [List.getElem?_map, List.getElem?_eq_getElem hjl, ← getD_of_lt hjl, marksL_getD _ _ _ hI]; rfl)
                rwa [Nat.zero_add] at this
              have HUc : Hid (∀ I, I < n → ∃ b' off', pk = some ⟨b', off', none⟩ ∧ wr.cell? ⟨b', off' + I, none⟩ = some (.int .u8 (mkB (Q + 1) I)) ∧ n ≤ ck) := fun I hI => by
                obtain ⟨b', off', c', e, h1, h2, hh⟩ := hu.ne (by rw [marksL_length]; omega)
                rw [marksL_length] at e hh h1
                simp only [Value.slice.injEq, true_and] at e
                obtain ⟨rfl, rfl⟩ := e
                have := hh I hI
                rw [marksL_getD _ _ _ hI] at this
                exact ⟨b', off', rfl, this, h1⟩
              unfold maxLen at hcg2 hq2
              clear hrow hu hgc hqc eq hgl
              go_wp2
              go_loop [10] (fun i => ∃ I : Nat, I ≤ n + 70 ∧ i = .int .i64 I) (fun i => n + 70 - (intOf i).toNat)
              case atStart => exact ⟨0, Nat.zero_le _, rfl⟩
              case round =>
                obtain ⟨I, hI, rfl⟩ := hrel
                by_cases hli : I < n + 70
                · have hx1 := HQ.out I hli
                  have hli2 : (I : Int) < (n : Int) + 70 := by omega
                  go_wp2_with fail
                  refine (mark_eq wr (Q + 1) I _ _ (by omega) rfl (by omega) (by omega)).mono ?_
                  rintro e wz ⟨rfl, hw⟩
                  have hw' := hw.symm
                  subst hw'
                  clear hw
                  obtain ⟨x, HX⟩ : ∃ x, Hid (mkB (Q + 1) I = x) := ⟨_, rfl⟩
                  rw [HX.out] at hx1 ⊢
                  have hxx : (x != x) = false := by simp
                  by_cases hln : I < n
                  · have hdn : decide ((I : Int) < (n : Int)) = true := by simp; omega
                    have hln2 : (I : Int) < (n : Int) := by omega
                    obtain ⟨b', off', rfl, hx2, _⟩ := HUc.out I hln
                    rw [HX.out] at hx2
                    go_wp2
                    exact ⟨⟨I + 1, by omega, by go_num⟩, by simp [intOf]; omega⟩
                  · have hdn : decide ((I : Int) < (n : Int)) = false := by simp; omega
                    go_wp2
                    exact ⟨⟨I + 1, by omega, by go_num⟩, by simp [intOf]; omega⟩
                · have hli2 : ¬ ((I : Int) < (n : Int) + 70) := by omega
                  go_wp2
                  exact ⟨⟨Q + 1, by omega, by go_num⟩, by simp [intOf]; omega⟩
            · go_wp2
              go_ret
              exact ⟨rfl, HBr.out⟩
end Go.Proofs.Ytjfebbhnjcnepaa
namespace Go.Proofs.Ytjfebbhnjcnepaa
open Go Go.RowKit
theorem HV.three (w : World) (a b c : Value) : HV (w.alloc (.cells #[a, b, c] 24)) (.slice (some ⟨w.heap.size, 0, none⟩) 3 3) [a, b, c] := by
  refine ⟨_, _, rfl, by simp, by decide, fun _ => ⟨w.heap.size, 0, rfl, ⟨_, _, heap_alloc_new w _⟩, fun k hk => ?_⟩⟩
  match k, hk with
  | 0, _ => simp
  | 1, _ => simp
  | 2, _ => simp
theorem lent_part {w : World} {B : Nat} {v : Value} {l : List Int} (h : w.ownsRow B 5 1 v (lent l).length ((lent l).map (Value.int .u8))) (hby : ∀ x ∈ l, 0 ≤ x ∧ x < 256) :
    ∃ g c, v = .slice (some ⟨g, 0, none⟩) (l.length + 70) c ∧ B ≤ g ∧ g < w.heap.size ∧ l.length + 70 ≤ c ∧ c ≤ 9223372036854775807 ∧ HB w (.slice (some ⟨g, 0, none⟩) l.length c) l ∧ HB w (.slice (some ⟨g, 0, none⟩) (l.length + 70) c) (lent l) := by
  have hf := HB.of_own h (lent_byt hby)
  have hll := lent_length l
  rcases h.2 with ⟨_, e0⟩ | ⟨g, cap, cur, rfl, hb, hh, hn, hm, _⟩
  · omega
  · unfold maxLen at hm
    refine ⟨g, cap, by rw [hll], hb, (Array.getElem?_eq_some_iff.1 hh).1, by omega, hm, ?_, by rw [hll] at hf; exact hf⟩
    have h3 := hf.sliced 0 l.length cap (Nat.zero_le _) (by omega) (by omega) (Nat.le_refl _)
    rw [lent_take] at h3
    have e : (if cap = 0 then (some (⟨g, 0, none⟩ : Addr)) else (some (⟨g, 0, none⟩ : Addr)).map (·.add 0)) = some ⟨g, 0, none⟩ := by
      split
      · rfl
      · simp [Addr.add]
    rw [e] at h3
    simpa using h3
theorem own_pre {w : World} {B g n c : Nat} {l : List Int} (h : w.ownsRow B 5 1 (.slice (some ⟨g, 0, none⟩) n c) l.length (l.map (Value.int .u8))) (hl : ∀ x ∈ l, 0 ≤ x ∧ x < 256) (m : Nat) (hm : m ≤ l.length) (hmc : m ≤ c) : HB w (.slice (some ⟨g, 0, none⟩) m c) (l.take m) := by
  have hf := HB.of_own h hl
  obtain ⟨p, c', e, h1, h2⟩ := hf.open
  simp only [Value.slice.injEq] at e
  obtain ⟨rfl, rfl, rfl⟩ := e
  have h3 := hf.sliced 0 m c (Nat.zero_le _) hm (by omega) (Nat.le_refl _)
  have e : (if c = 0 then (some (⟨g, 0, none⟩ : Addr)) else (some (⟨g, 0, none⟩ : Addr)).map (·.add 0)) = some ⟨g, 0, none⟩ := by
    split
    · rfl
    · simp [Addr.add]
  rw [e] at h3
  simpa using h3
theorem own_other {w w' : World} {B n g : Nat} {e : TypeId} {v : Value} {xs : List Value} (h : w.ownsRow B e 1 v n xs) (hg : w.grownBy w' (some g)) (hb : g < B) : w'.ownsRow B e 1 v n xs :=
  h.kept hg (by
    rcases none_or v.ownBlock with q | q
    · exact .inl q
    · exact .inr fun e => by have := (h.lt g e).1; omega)
theorem HB.other {w w' : World} {u : Value} {l : List Int} {g : Nat} (h : HB w u l) (hg : w.grownBy w' (some g)) (hr : u.ownBlock = none ∨ u.ownBlock ≠ some g) : HB w' u l := h.away hg hr
end Go.Proofs.Ytjfebbhnjcnepaa
