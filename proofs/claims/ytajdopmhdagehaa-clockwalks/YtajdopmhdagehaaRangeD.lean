/- A range over a function whose variable is laid into a block of its own each round; a region that draws, within a round. -/
import Derived.Test.YtajdopmhdagehaaRangeN
import Derived.Test.YtajdopmhdagehaaEvIn
import Derived.OrdersHeld
set_option linter.unusedVariables false
namespace Go.Proofs.Ytajdopmhdagehaa
open Go.RowKit Go.Shelf Ev

/-- The activation of a round. -/
def dAct (a : Act) (ps : Array Tmp) (vs : Array Value) (ds db : Nat) : Act := { tmps := ((ps.zip vs).foldl (fun t (p, v) => t.setIfInBounds p v) a.tmps).setIfInBounds ds (.pointer (some ⟨db, 0, none⟩)), defers := [] }
theorem range_fitD {F : Fence} {n : Nat} {P : Program} {g : Operand} {ps : Array Tmp} {assign body : Code} {Q : Exit → Act → World → Prop} {a : Act} {w : World}
    (hro : F.round = none) (h1 : 1 ≤ n) {gf : Nat} {lb : Array Value} (hg : a.eval g = .func (.func gf) #[] lb) (hFg : F.fn gf) (eg : ∀ args w, (callFunc gf args).run P w = .ok (.enter gf args) w)
    {enc : Nat → Value → Array Value} {Fit : Nat → Value → Prop} {D : Nat → Prop} {N : Nat} {w0 : World} (hit : IterN F (n - 1) P gf lb enc Fit D N w0) (hw0 : KE D w0 w) (hD : ∀ i, D i → i < w.heap.size) (hps : ∀ k v, (enc k v).size = ps.size)
    (I : Nat → (Nat → Prop) → World → Prop) (Ix : Code → (Nat → Prop) → World → Prop) (hI : JN I) (hIx : JN Ix) (h0 : I 0 D w) (ds : Nat) (B : Nat → Value → Obj)
    (hassign : ∀ (l k : Nat) (v : Value) (W : World), Fit k v → k < N →
      assign.wpIn (F.inRound l) (n - 1 - 1) P (Exit.then (fun a₁ W₁ => a₁ = dAct a ps (enc k v) ds W.heap.size ∧ W₁ = W.alloc (B k v)) (fun _ _ _ => False)) { tmps := (ps.zip (enc k v)).foldl (fun t (p, v) => t.setIfInBounds p v) a.tmps, defers := [] } W)
    (hbody : ∀ (l k : Nat) (v : Value) (db : Nat) (E : Nat → Prop) (W : World), w.heap.size ≤ l → E l → (∃ r, W.heap[l]? = some (.loop r)) → I k (Ed E db) W → ¬ E db → W.heap[db]? = some (B k v) → (∀ i, D i → E i) → (∀ i, E i → i < W.heap.size) → Fit k v → k < N → body.wpIn (F.inRound l) (n - 1 - 1) P (OutN E I Ix k W) (dAct a ps (enc k v) ds db) W)
    (hdone : ∀ (d : Nat) (W : World), w.heap.size ≤ d → I N (fun i => D i ∨ i = d) W → W.heap[d]? = some (.deferred (some [])) → KE D w W → Q .normal { a with defers := { target := .collected d, args := #[] } :: a.defers } W)
    (hstop : ∀ (d : Nat) (c : Code) (W : World), w.heap.size ≤ d → Ix c (fun i => D i ∨ i = d) W → W.heap[d]? = some (.deferred (some [])) → KE D w W → c.wpIn F n P Q { a with defers := { target := .collected d, args := #[] } :: a.defers } W) :
    (Code.rangeFunc g ps assign body).wpIn F n P Q a w := by
  refine range_fitN hro h1 hg hFg eg hit hw0 hD hps I Ix hI hIx h0 (fun k v a₁ E W => ∃ db, a₁ = dAct a ps (enc k v) ds db ∧ Fit k v ∧ (I k (Ed E db) W ∧ ¬ E db ∧ W.heap[db]? = some (B k v)))
    (fun k v => ⟨fun s E A C ⟨db, q1, q2, q3⟩ hg => ⟨db, q1, q2, (jn_one hI db _).more k _ _ _ q3 hg⟩, fun s E A C r ⟨db, q1, q2, q3⟩ hr hg hs => ⟨db, q1, q2, (jn_one hI db _).turn k _ _ _ r q3 hr hg hs⟩, fun s E E' A ⟨db, q1, q2, q3⟩ hl => ⟨db, q1, q2, (jn_one hI db _).less k _ _ _ q3 hl⟩⟩) ?_ ?_ hdone hstop
  · intro l k v E W hl hi hDE hEl hf hk
    refine wpIn_mono (hassign l k v W hf hk) ?_
    rintro e a1 W1 hp
    have hn1 : e = .normal := by cases e <;> first | rfl | exact hp.elim
    subst hn1
    obtain ⟨rfl, rfl⟩ := hp
    have hs : (W.alloc (B k v)).heap.size = W.heap.size + 1 := by simp
    refine ⟨⟨by omega, fun i hi => Below.heap_alloc W _ i (hEl i hi)⟩, W.heap.size, rfl, hf, hI.less _ _ _ _ (hI.more k E W (W.alloc (B k v)) hi ⟨rfl, rfl, rfl, by omega, fun i hi _ => Below.heap_alloc W _ i hi⟩) (fun i hi => ?_), fun q => by have := hEl _ q; omega, World.alloc_heap_new W _⟩
    rcases hi with z | z
    · exact .inl z
    · exact .inr (by omega)
  · rintro l k v a1 E W hl hE hr ⟨db, rfl, hf, q1, q2, q3⟩ hDE hEl hk
    exact hbody l k v db E W hl hE hr q1 q2 q3 hDE hEl hf hk
/-- A region that draws, within a round, by the laws of no round. -/
theorem in_region_held {P : Program} {ops : Array Oper} {K : Act → World → Prop} {Qq : Exit → Act → World → Prop} {S : World → Prop} {l n id : Nat} {a : Act} {w : World} (hm : P.follows .mixedOrders = true) (hc : ops.all (fun o => calmO o && dstFree [] o) = true) (hS : S w.drew)
    (h : S w.drew → wpAnyH P .any ops (fun e a' w' => e = .normal ∧ Exit.then K Qq e a' w') S ops.size (Array.replicate ops.size false) a w.drew) : (Code.region id ops true).wpIn (Fence.wide.inRound l) n P (Exit.then K Qq) a w :=
  wpIn_mono (wpIn_region_any hm (any_in (ro := some l) (Y := []) (yv := undef) (Q := fun e a' w' => e = .normal ∧ Exit.then K Qq e a' w') (fun e a w q => q.1) hc _ _ _ _ (wpAny_of_held _ _ _ _ (h hS)) (fun y hy => by cases hy))) (fun e a' w' q => q.1.2)
end Go.Proofs.Ytajdopmhdagehaa
