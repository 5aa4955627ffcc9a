/- Of the road to rsAny_holds: Range, Clone, MtIt, GsUn, Join, GsCat, SameBytes, Lists, GsSv, GsIv, AppW. -/
import Derived.RangeFuncNested
import Derived.RangeFuncBound
import Derived.RangeFuncCalls
import Derived.RangeFuncBox
import Derived.RangeFuncLeaves
import Derived.Shelf.Abstract
import Derived.Shelf.RegionOpen
import Derived.WalkKit
import Derived.OwnWalkIn
import Derived.TacticsInMore
import Derived.LoopNIn
import Derived.LoopIn
import Derived.Test.YtbiplflejijbeaaG00
import Derived.Test.YtbiplflejijbeaaG04
import Derived.Test.YtbiplflejijbeaaG05
import Derived.Test.YtbiplflejijbeaaG03
import Derived.Laws.AppendOwnNone
import Derived.Lib.AppendZeros
import Derived.Test.YtbiplflejijbeaaChecked
set_option linter.unusedVariables false
set_option linter.unusedSimpArgs false
namespace Go.Proofs.Ytbiplflejijbeaa
open Go.RowKit Go.Shelf
def KD (D : Nat → Prop) (A C : World) : Prop := A.heap.size ≤ C.heap.size ∧ ∀ i, D i → C.heap[i]? = A.heap[i]?
theorem KD.refl (D : Nat → Prop) (A : World) : KD D A A := ⟨Nat.le_refl _, fun _ _ => rfl⟩
theorem KD.trans {D : Nat → Prop} {A B C : World} (h : KD D A B) (k : KD D B C) : KD D A C := ⟨Nat.le_trans h.1 k.1, fun i hi => (k.2 i hi).trans (h.2 i hi)⟩
theorem KD.put {D : Nat → Prop} {A : World} {l : Nat} (hl : ¬ D l) (o : Obj) : KD D A (A.putObj l o) := ⟨by simp, fun _ hi => World.putObj_heap_other (fun e => hl (e ▸ hi))⟩
def IterF (F : Fence) (n : Nat) (P : Program) (g : Nat) (lb : Array Value) (enc : Nat → Value → Array Value) (Fit : Nat → Value → World → Prop) (D : Nat → Prop) (N : Nat) (w0 : World) : Prop :=
  ∀ (l : Nat) (J : Nat → World → Prop) (Jx : World → Prop) (W : World), KD D w0 W → (∀ k A C, J k A → A.grownBy C none → J k C) →
    (∀ k v W1, J k W1 → Fit k v W1 → k < N → YieldAt F (n - 1) P l (enc k v) W1 fun e W' => (e = .returned (.bool true) ∧ J (k + 1) W' ∧ KD D W1 W') ∨ (e = .returned (.bool false) ∧ Jx W')) →
    J 0 W → CallsIn F n P g (#[.func (.yield l) #[] #[]] ++ lb) W fun e W' => (∃ v, e = .returned v) ∧ (J N W' ∨ Jx W')
def OutF (B : Nat) (D : Nat → Prop) (I : Nat → World → Prop) (Ix : Code → World → Prop) (k : Nat) (W : World) : Exit → Act → World → Prop
  | .normal, _, W' => KeepsFrom B W W' ∧ KD D W W' ∧ I (k + 1) W'
  | .ret, _, W' => KeepsFrom B W W' ∧ Ix .ret W'
  | .exit id, _, W' => KeepsFrom B W W' ∧ Ix (.exit id) W'
  | _, _, _ => False
theorem range_fit {F : Fence} {n : Nat} {P : Program} {g : Operand} {ps : Array Tmp} {assign body : Code} {Q : Exit → Act → World → Prop} {a : Act} {w : World}
    (hro : F.round = none) (h1 : 1 ≤ n) {gf : Nat} {lb : Array Value} (hg : a.eval g = .func (.func gf) #[] lb) (hFg : F.fn gf) (eg : ∀ args w, (callFunc gf args).run P w = .ok (.enter gf args) w)
    {enc : Nat → Value → Array Value} {Fit : Nat → Value → World → Prop} {D : Nat → Prop} {N : Nat} {w0 : World} (hit : IterF F (n - 1) P gf lb enc Fit D N w0) (hw0 : KD D w0 w) (hD : ∀ i, D i → i < w.heap.size) (hps : ∀ k v, (enc k v).size = ps.size)
    (I : Nat → World → Prop) (Ix : Code → World → Prop) (hI : OwnFrom w.heap.size I) (hIx : OwnFrom w.heap.size Ix) (hFit : ∀ k v, OwnFrom w.heap.size (fun (_ : Unit) W => Fit k v W)) (h0 : I 0 w) (a₁ : Nat → Value → Act)
    (hassign : ∀ (l k : Nat) (v : Value) (W : World) (K : Act → World → Prop), K (a₁ k v) W →
      assign.wpIn (F.inRound l) (n - 1 - 1) P (Exit.then K (fun _ _ _ => False)) { tmps := (ps.zip (enc k v)).foldl (fun t (p, v) => t.setIfInBounds p v) a.tmps, defers := [] } W)
    (hbody : ∀ (l k : Nat) (v : Value) (W : World), w.heap.size ≤ l → (∃ r, W.heap[l]? = some (.loop r)) → I k W → Fit k v W → k < N → body.wpIn (F.inRound l) (n - 1 - 1) P (OutF w.heap.size D I Ix k W) (a₁ k v) W)
    (hdone : ∀ (d : Nat) (W : World), w.heap.size ≤ d → I N W → W.heap[d]? = some (.deferred (some [])) → Q .normal { a with defers := { target := .collected d, args := #[] } :: a.defers } W)
    (hstop : ∀ (d : Nat) (c : Code) (W : World), w.heap.size ≤ d → Ix c W → W.heap[d]? = some (.deferred (some [])) → c.wpIn F n P Q { a with defers := { target := .collected d, args := #[] } :: a.defers } W) :
    (Code.rangeFunc g ps assign body).wpIn F n P Q a w := by
  refine wpIn_rangeFunc fun fn hfn => ?_
  rw [hro]
  let R : LoopState → Option Code → Loop := fun st pe => { state := st, pending := pe, fn, tmps := a.tmps, params := ps, assign, body, defers := w.heap.size }
  have hds : ∀ i, D i → i ≠ w.heap.size ∧ i ≠ w.heap.size + 1 := fun i hi => by have := hD i hi; omega
  have hnd : ¬ D (w.heap.size + 1) := fun h => (hds _ h).2 rfl
  -- what of the two blocks of book-keeping: the record at st, pe, and the block for deferred calls
  let BK : LoopState → Option Code → World → Prop := fun st pe W => W.heap[w.heap.size + 1]? = some (.loop (R st pe)) ∧ W.heap[w.heap.size]? = some (.deferred (some []))
  have bk_put : ∀ {st pe W} (st' pe'), BK st pe W → BK st' pe' (W.putObj (w.heap.size + 1) (.loop (R st' pe'))) := fun st' pe' h =>
    ⟨World.putObj_heap_same (Array.getElem?_eq_some_iff.1 h.1).1, (World.putObj_heap_other (by omega)).trans h.2⟩
  have bk_kept : ∀ {st pe A C}, BK st pe A → KeepsFrom w.heap.size A C → BK st pe C := fun h k => ⟨k.same _ _ (by omega) h.1 rfl, k.same _ _ (Nat.le_refl _) h.2 rfl⟩
  have bk_grown : ∀ {st pe A C}, BK st pe A → A.grownBy C none → BK st pe C := fun h k =>
    ⟨(k.block _ (Array.getElem?_eq_some_iff.1 h.1).1 (by simp)).trans h.1, (k.block _ (Array.getElem?_eq_some_iff.1 h.2).1 (by simp)).trans h.2⟩
  obtain ⟨W1, hW1⟩ : ∃ W1, (w.alloc (.deferred (some []))).alloc (.loop (R .ready none)) = W1 := ⟨_, rfl⟩
  have hg1 : w.grownBy W1 none := by
    rw [← hW1]
    exact ⟨rfl, rfl, rfl, by simp; omega, fun i hi _ => (Below.heap_alloc _ _ _ (by simp; omega)).trans (Below.heap_alloc _ _ _ hi)⟩
  have hBK1 : BK .ready none W1 := by
    rw [← hW1]
    refine ⟨?_, (Below.heap_alloc _ _ _ (by simp)).trans (World.alloc_heap_new w _)⟩
    have := World.alloc_heap_new (w.alloc (.deferred (some []))) (.loop (R .ready none))
    rwa [World.size_alloc] at this
  refine ⟨w.heap.size + 1, [{ target := .collected w.heap.size, args := #[] }], W1, { target := .fn (.func gf) lb, args := #[.func (.yield (w.heap.size + 1)) #[] #[]] }, W1, gf, #[.func (.yield (w.heap.size + 1)) #[] #[]] ++ lb, W1, ?_, ?_, ?_, ?_, fun _ => h1, ?_⟩
  · rw [← hW1]; exact run_enterLoop_outer _ _ _ _ _
  · simp only [resolve, hg]; simp [go_sem]
  · intro f' hf'; simp [Target.leads] at hf'; subst hf'; exact hFg
  · simp [invoke, go_sem, eg]
  · refine (hit (w.heap.size + 1) (fun k W => I k W ∧ BK .ready none W) (fun W => ∃ c, Ix c W ∧ BK .done (some c) W) W1 (hw0.trans ⟨hg1.size, fun i hi => hg1.block i (hD i hi) (by simp)⟩)
      (fun k A C h hg' => ⟨hI k A C none h.1 hg' (fun r e => by cases e), bk_grown h.2 hg'⟩) ?_ ⟨hI 0 w W1 none h0 hg1 (fun r e => by cases e), hBK1⟩).mono ?_
    · rintro k v W ⟨hi, hb⟩ hf hk
      refine ⟨fn, _, assign, body, run_yield (P := P) (r := R .ready none) (args := enc k v) hb.1 (hps k v), roundIn_of_wpIn hfn (hassign _ k v W _ ⟨_, run_beginRound hb.1 rfl, ?_⟩)⟩
      have hb2 : BK .busy none (W.putObj (w.heap.size + 1) (.loop (R .busy none))) := bk_put _ _ hb
      refine wpIn_mono (hbody _ k v _ (by omega) ⟨_, hb2.1⟩ (hI.putObj _ hi (by omega) hb.1 rfl) ((hFit k v).putObj (s := ()) _ hf (by omega) hb.1 rfl) hk) ?_
      rintro e a3 W3 hp
      cases e with
      | normal =>
        obtain ⟨k1, k2, k3⟩ := hp
        have hb3 := bk_kept hb2 k1
        exact ⟨_, _, run_endRound (P := P) none hb3.1, .inl ⟨rfl, ⟨hI.putObj _ k3 (by omega) hb3.1 rfl, bk_put .ready none hb3⟩, ((KD.put hnd _).trans k2).trans (KD.put hnd _)⟩⟩
      | ret =>
        have hb3 := bk_kept hb2 hp.1
        exact ⟨_, _, run_endRound (P := P) (some .ret) hb3.1, .inr ⟨rfl, .ret, hIx.putObj _ hp.2 (by omega) hb3.1 rfl, bk_put .done (some .ret) hb3⟩⟩
      | exit id =>
        have hb3 := bk_kept hb2 hp.1
        exact ⟨_, _, run_endRound (P := P) (some (.exit id)) hb3.1, .inr ⟨rfl, .exit id, hIx.putObj _ hp.2 (by omega) hb3.1 rfl, bk_put .done (some (.exit id)) hb3⟩⟩
      | goto t => exact hp.elim
      | panic ch => exact hp.elim
      | outgrown => exact hp.elim
    · rintro e W2 ⟨⟨v, rfl⟩, ⟨hi, hb⟩ | ⟨c, hc, hb⟩⟩
      · exact ⟨none, _, run_endLoop (P := P) hb.1 (by simp [R]), hdone _ _ (Nat.le_refl _) (hI.putObj _ hi (by omega) hb.1 rfl) ((World.putObj_heap_other (by omega)).trans hb.2)⟩
      · exact ⟨some c, _, run_endLoop (P := P) hb.1 (by simp [R]), hstop _ c _ (Nat.le_refl _) (hIx.putObj _ hc (by omega) hb.1 rfl) ((World.putObj_heap_other (by omega)).trans hb.2)⟩
def noDefer (o : Oper) : Bool := match o.op with | .defer _ => false | _ => true
theorem noDefer_spec {ops : Array Oper} (h : ops.all noDefer = true) (i : Nat) (o : Oper) (ho : ops[i]? = some o) : ∀ c, o.op ≠ .defer c := fun c e => by
  obtain ⟨hi, rfl⟩ := Array.getElem?_eq_some_iff.1 ho
  have := (Array.all_eq_true.1 h) i hi
  simp [noDefer, e] at this
theorem any_round {F : Fence} {n : Nat} {P : Program} {ops : Array Oper} {Q : Exit → Act → World → Prop} {md : Region.Mode} {l : Nat} (hro : F.round = none) (hd : ops.all noDefer = true) :
    ∀ (fuel : Nat) (listed : Array Bool) (a : Act) (w : World), wpAnyIn F n P md ops Q fuel listed a w → wpAnyIn (F.inRound l) n P md ops Q fuel listed a w
  | 0, _, _, _, h => h
  | fuel + 1, listed, a, w, h => by
    refine ⟨h.1, fun i hi => ?_⟩
    have h1 := wpOpIn_mono (fun a' w' h' => any_round (l := l) hro hd fuel (listed.setIfInBounds i true) a' w' h') (h.2 i hi)
    unfold wpOpIn at h1 ⊢
    cases ho : ops[i]? with
    | none => simpa only [ho] using h1
    | some o =>
      simp only [ho] at h1 ⊢
      by_cases hw : Region.wanted o (yielded ops a.tmps) = true
      · simp only [hw, if_true] at h1 ⊢
        unfold Oper.wpIn at h1 ⊢
        refine ⟨h1.1, ?_⟩
        have h2 := h1.2
        rw [Oper.semAt_eq _ _ _ (noDefer_spec hd i o ho)] at h2 ⊢
        exact h2
      · simp only [hw] at h1 ⊢
        exact h1
theorem box_from {A C : World} {row : Option Nat} {B n : Nat} {t : TypeId} {v : Value} (h : Boxed A B t v) (hg : A.grownBy C row) (hr : ∀ r, row = some r → n ≤ r ∧ ∃ o : Obj, A.heap[r]? = some o ∧ o.isCells = false) : Boxed C B t v :=
  h.kept hg fun e => by
    obtain ⟨_, o, ho, hc⟩ := hr B e.symm
    rw [show A.heap[B]? = _ from h] at ho
    cases ho
    cases hc
theorem row_from {A C : World} {row : Option Nat} {B n k size : Nat} {e : TypeId} {v : Value} {xs : List Value} (h : A.ownsRow B e size v k xs) (hg : A.grownBy C row) (hr : ∀ r, row = some r → n ≤ r ∧ ∃ o : Obj, A.heap[r]? = some o ∧ o.isCells = false) : C.ownsRow B e size v k xs := by
  refine h.kept hg ?_
  rcases h.2 with ⟨rfl, _⟩ | ⟨g, cap, cur, rfl, _, hgb, _⟩
  · exact .inl rfl
  · refine .inr fun e' => ?_
    obtain ⟨_, o, ho, hc⟩ := hr g (by simpa [Value.ownBlock] using e'.symm)
    rw [hgb] at ho
    cases ho
    cases hc
theorem below_from {w A C : World} {row : Option Nat} {B n : Nat} (h : Below B w A) (hB : B ≤ w.heap.size) (hg : A.grownBy C row) (hr : ∀ r, row = some r → n ≤ r ∧ ∃ o : Obj, A.heap[r]? = some o ∧ o.isCells = false) (hn : B ≤ n) : Below B w C :=
  h.grown hg (Nat.le_trans hB h.size) (fun k e => by have := (hr k e).1; omega)
end Go.Proofs.Ytbiplflejijbeaa
namespace Go.Proofs.Ytbiplflejijbeaa
open Go.RowKit
set_option maxHeartbeats 1000000 in
theorem sclone_any (w : World) (v : Value) (l : List Int) (h : HB w v l) (hbig : l.length ≤ 140737488355328) :
    Calls Try.prog 50 #[v] w fun e w' => ∃ v', e = .returned v' ∧ w'.ownsRow w.heap.size 5 1 v' l.length (l.map (Value.int .u8)) ∧ Below w.heap.size w w' := by
  obtain ⟨i0, hi, hz0, hz1, hz2⟩ := info_parts info_u8
  have q22 := eql_nil_bytes
  obtain ⟨⟨p, c, rfl, hlc, hm, _, hcell⟩, hby⟩ := h
  cases p with
  | none =>
    have e : l = [] := by
      apply Classical.byContradiction
      intro hne
      obtain ⟨b, off, e, _⟩ := hcell hne
      cases e
    subst e
    go_enter Try.func50, Try.ntmps50
    go_wp2
    go_ret
    exact ⟨_, rfl, World.ownsRow_nil _ _ _ _, Below.refl _ _⟩
  | some a =>
    have A : Hid (l ≠ [] → ∃ b off, some a = some ⟨b, off, none⟩ ∧ ∀ j, j < l.length → w.cell? ⟨b, off + j, none⟩ = some (.int .u8 (l.getD j 0))) := hcell
    clear hcell
    go_enter Try.func50, Try.ntmps50
    go_wp2_with (at_builtin; refine wpList_append_own _ rfl _ _ 22 rfl w.heap.size 5 i0 (.int .u8 0) 1 1 Try.underlying22 hi hz0 hz1 hz2 rfl (by decide) _ _ _ rfl (World.ownsRow_made w #[] 0 (Nat.le_refl _) (Nat.zero_le _) rfl) a l.length c (l.map (Value.int .u8)) rfl ?qc1 ?qc2 ?qc3 ?qc4 ?qc5 ?qc6 ?_)
    case qc1 => simp
    case qc2 =>
      intro j u hj
      have hjn : j < l.length := by
        have := (List.getElem?_eq_some_iff.1 hj).1
        simpa using this
      refine Lib.cell?_alloc_some _ ?_
      obtain ⟨b, off, e, hh⟩ := A.out (by intro e; subst e; simp at hjn)
      cases e
      rw [Go.WideShapes.add_plain, hh j hjn]
      have e : (l.map (Value.int .u8))[j]? = some (Value.int .u8 (l.getD j 0)) := by simp [List.getD, List.getElem?_eq_getElem hjn]
      rw [e] at hj
      exact hj
    case qc3 => intro u hu; obtain ⟨x, _, rfl⟩ := List.mem_map.1 hu; rfl
    case qc4 => unfold maxLen; omega
    case qc5 => omega
    case qc6 => simp
    intro v' w1 hown hgrow hnil
    go_wp2
    go_ret
    exact ⟨v', rfl, by simpa using hown, ((Below.refl _ w).alloc (Nat.le_refl _) _).grown hgrow (by simp) (by intro k hk; simp [Value.ownBlock] at hk; omega)⟩
end Go.Proofs.Ytbiplflejijbeaa
namespace Go.Proofs.Ytbiplflejijbeaa
open Go Go.RowKit Go.Shelf
attribute [local go_sem] Oper.semAt_some
def rwL (l : List Int) (c i : Nat) : List Int := (l.take (i * c + c)).drop (i * c)
theorem rwL_length {l : List Int} {r c i : Nat} (hl : l.length = r * c) (hi : i < r) : (rwL l c i).length = c := by
  have : (i + 1) * c ≤ r * c := Nat.mul_le_mul_right c hi
  rw [Nat.succ_mul] at this
  unfold rwL
  rw [List.length_drop, List.length_take]
  omega
theorem rwL_get {l : List Int} {r c i j : Nat} (hl : l.length = r * c) (hi : i < r) (hj : j < c) : (rwL l c i).getD j 0 = l.getD (i * c + j) 0 := by
  unfold rwL
  simp only [List.getD, List.getElem?_drop, List.getElem?_take]
  rw [if_pos (by omega)]
theorem HMt.open {w : World} {g r c : Nat} {l : List Int} (h : HMt w g r c l) (h1 : 1 ≤ r) (h2 : 1 ≤ c) : ∃ b o k, w.heap[g]? = some (.cells #[gfF, .int .i64 (r : Int), .int .i64 (c : Int), .slice (some ⟨b, o, none⟩) (r * c) k] 71 (0, 0)) ∧ r * c ≤ k ∧ k ≤ 9223372036854775807 ∧ HB w (.slice (some ⟨b, o, none⟩) (r * c) k) l := by
  obtain ⟨h0, v, hv, hb⟩ := h
  have hp : 0 < r * c := Nat.mul_pos h1 h2
  obtain ⟨b, o, k, e, hk, hm, _⟩ := hb.ne (by omega)
  rw [h0] at e hk
  subst e
  unfold maxLen at hm
  exact ⟨b, o, k, hv, hk, hm, hb⟩
set_option maxRecDepth 100000 in
set_option maxHeartbeats 4000000 in
theorem brow_any (w : World) (g r c : Nat) (l : List Int) (I : Nat) (h : HMt w g r c l) (hI : I < r) (hr : r ≤ 256) (hc1 : 1 ≤ c) (hc : c ≤ 256) :
    Calls Try.prog 43 #[.pointer (some ⟨g, 0, none⟩), .int .i64 (I : Int)] w fun e w' => ∃ v, e = .returned v ∧ HB w' v (rwL l c I) ∧ Dr w w' := by
  have hlen := h.1
  obtain ⟨b, o, k, hg, hk, hm, hb⟩ := h.open (by omega) hc1
  have h2 : w.cell? ⟨g, 2, none⟩ = some (.int .i64 (c : Int)) := (cell_of_row w g 2 _ _ _ hg).trans rfl
  have h3 : w.cell? ⟨g, 3, none⟩ = some (.slice (some ⟨b, o, none⟩) (r * c) k) := (cell_of_row w g 3 _ _ _ hg).trans rfl
  have hle : (I + 1) * c ≤ r * c := Nat.mul_le_mul_right c hI
  have hbig : (I + 1) * c ≤ 65536 := by
    have := Nat.mul_le_mul (show I + 1 ≤ 256 by omega) hc
    omega
  have e1 : (I + 1) * c = I * c + c := by rw [Nat.add_mul, Nat.one_mul]
  have HSL : Hid (HB w (.slice (some ⟨b, o + I * c, none⟩) c (k - I * c)) (rwL l c I)) := by
    have hb2 := hb
    rw [← hlen] at hb2
    have := hb2.sliced (I * c) (I * c + c) k (by omega) (by rw [hlen]; omega) (by omega) (Nat.le_refl _)
    rw [if_neg (by omega), Nat.add_sub_cancel_left] at this
    have e : ((some (⟨b, o, none⟩ : Addr)).map (·.add (I * c))) = some ⟨b, o + I * c, none⟩ := by
      simp only [Option.map_some, Addr.add]
      split
      · rename_i q; rw [q]; rfl
      · rfl
    rw [e] at this
    exact this
  obtain ⟨n, HN⟩ : ∃ n, Hid (r * c = n) := ⟨_, rfl⟩
  obtain ⟨m, hm2⟩ : ∃ m, I * c = m := ⟨_, rfl⟩
  rw [hm2] at e1 HSL
  have w1 : IntKind.i64.wrap ((I : Int) * (c : Int)) = (m : Int) := by rw [← Int.natCast_mul, hm2, IntKind.wrap_i64]; omega
  have w0 : IntKind.i64.wrap ((I : Int) + 1) = ((I + 1 : Nat) : Int) := by rw [IntKind.wrap_i64]; omega
  obtain ⟨q, hq⟩ : ∃ q, m + c = q := ⟨_, rfl⟩
  have w2 : IntKind.i64.wrap (((I : Int) + 1) * (c : Int)) = (q : Int) := by rw [show ((I : Int) + 1) * (c : Int) = (((I + 1) * c : Nat) : Int) by push_cast; rfl, e1, hq, IntKind.wrap_i64]; omega
  rw [e1, hq] at hle hbig
  rw [HN.out] at h3 hk hle
  have hmq : m ≤ q := by omega
  have hqk : q ≤ k := by omega
  have hcq : q - m = c := by omega
  have hkm : ¬ k = m := by omega
  have HSZ : ∀ w, Sem.run Try.prog (Go.sizeOf 5) w = .ok 1 w := size_u8
  clear hg hb h hlen
  go_enter Try.func43, Try.ntmps43
  go_wp2
  go_quiet (fail)
  go_wp2
  go_ret
  exact ⟨_, rfl, HSL.out.drewN _, (Dr.refl w).drewN _⟩
theorem bel_setRow' {B : Nat} {w W : World} {g : Nat} (h : Below B w W) (hg : B ≤ g) (cs : Array Value) : Below B w (W.setRow g cs) := ⟨h.os, h.tape, h.output, by simp [World.setRow]; exact h.size, fun k hk => by
  have := h.block k hk
  simp only [World.setRow, Array.getElem?_modify]
  rw [if_neg (by omega)]
  exact this⟩
theorem size_mat : (Try.prog.info? 71).map (·.size) = some 4 := by kernel_rfl
theorem zero_mat : (Try.prog.info? 71).map (·.zero) = some (some (.agg #[.nilIface, .int .i64 0, .int .i64 0, .slice none 0 0])) := by kernel_rfl
theorem bmade_any (w : World) (g r c : Nat) (l : List Int) (h : HMt w g r c l) : Calls Try.prog 41 #[.pointer (some ⟨g, 0, none⟩)] w fun e w' => e = .returned (.bool true) ∧ w' = w := by
  obtain ⟨_, v, hg, _⟩ := h
  have h0 : w.cell? ⟨g, 0, none⟩ = some (.iface 47 (.agg #[])) := (cell_of_row w g 0 _ _ _ hg).trans rfl
  go_enter Try.func41, Try.ntmps41
  go_wp2
  go_ret
  exact ⟨rfl, rfl⟩
set_option maxRecDepth 100000 in
set_option maxHeartbeats 4000000 in
theorem ball_any (w : World) (g r c : Nat) (l : List Int) (h : HMt w g r c l) :
    Calls Try.prog 29 #[.pointer (some ⟨g, 0, none⟩)] w fun e w' => ∃ b, e = .returned (.func (.func 49) #[] #[.pointer (some ⟨b, 0, none⟩)]) ∧ w.heap.size ≤ b ∧ b < w'.heap.size ∧ HMt w' b r c l ∧ w'.cell? ⟨b, 3, none⟩ = w.cell? ⟨g, 3, none⟩ ∧ Below w.heap.size w w' := by
  have CM := hid (bmade_any w g r c l h)
  obtain ⟨h0, v, hg, hb⟩ := h
  have HB0 := hid hb
  have HL0 := hid h0
  obtain ⟨p, k, rfl, _, _⟩ := hb.open
  obtain ⟨v, HV⟩ : ∃ x, Hid (Value.slice p l.length k = x) := ⟨_, rfl⟩
  have hone : ∀ a b : Value, a.oneCell' = true → b.oneCell' = true → (#[a, .int .i64 (r : Int), .int .i64 (c : Int), b] : Array Value).all (·.oneCell') = true := fun a b ha hb => by rw [Array.all_eq_true_iff_forall_mem]; intro x hx; simp at hx; rcases hx with rfl | rfl | rfl | rfl <;> first | assumption | rfl
  have hone2 := hone gfF (.slice p l.length k) rfl rfl
  rw [HV.out] at hg hb HB0 hone2
  obtain ⟨m, HM⟩ : ∃ x, Hid (#[gfF, .int .i64 (r : Int), .int .i64 (c : Int), v] = x) := ⟨_, rfl⟩
  rw [HM.out] at hg
  have HG := hid hg
  have HS : Hid ((Try.prog.info? 71).map (·.size) = some m.size) := by refine hid ?_; rw [← HM.out]; exact size_mat
  have HO : Hid (m.all (·.oneCell') = true) := by refine hid ?_; rw [← HM.out]; exact hone2
  obtain ⟨z, HZ⟩ : ∃ x : Array Value, Hid (#[.nilIface, .int .i64 0, .int .i64 0, .slice none 0 0] = x) := ⟨_, rfl⟩
  have HZS : Hid (z.size = m.size) := by refine hid ?_; rw [← HZ.out, ← HM.out]; rfl
  have ZA := hid (heap_alloc_new w (.cells z 71))
  clear hg hb h0 hone hone2
  go_enter Try.func29, Try.ntmps29
  go_wp2_with fail
  refine CM.out.mono ?_
  rintro e wq ⟨rfl, hwq⟩
  rw [hwq]
  clear hwq wq
  go_wp2_with (first | (refine wpList_load_row rfl 71 _ rfl g rfl 71 m (0, 0) _ HG.out Try.underlying71 rfl HS.out ?_) | (rw [HZ.out]; refine wpList_store_row rfl 71 _ _ rfl w.heap.size m rfl rfl 71 _ ZA.out HS.out HZS.out HO.out ?_) | fail)
  go_ret
  have bb : Below w.heap.size w ((w.alloc (.cells z 71)).setRow w.heap.size m) := bel_setRow' ((Below.refl _ w).alloc (Nat.le_refl _) _) (Nat.le_refl _) _
  have hh : ((w.alloc (.cells z 71)).setRow w.heap.size m).heap[w.heap.size]? = some (.cells m 71 (0, 0)) := setRow_heap _ _ _ _ _ _ ZA.out
  refine ⟨w.heap.size, rfl, Nat.le_refl _, by simp [World.setRow], ⟨HL0.out, v, ?_, HB0.out.below bb⟩, ?_, bb⟩
  · rw [HM.out]
    exact hh
  · rw [cell_of_row _ _ _ _ _ _ hh, cell_of_row _ _ _ _ _ _ HG.out]
def mtD (w0 : World) (g : Nat) (i : Nat) : Prop := i = g ∨ ∃ v, w0.cell? ⟨g, 3, none⟩ = some v ∧ v.ownBlock = some i
theorem HMt.kept {A C : World} {g r c : Nat} {l : List Int} (h : HMt A g r c l) {w0 : World} (hc : w0.cell? ⟨g, 3, none⟩ = A.cell? ⟨g, 3, none⟩) (k : KD (mtD w0 g) A C) : HMt C g r c l := by
  obtain ⟨h0, v, hg, hb⟩ := h
  have hv : A.cell? ⟨g, 3, none⟩ = some v := (cell_of_row A g 3 _ _ _ hg).trans rfl
  refine ⟨h0, v, (k.2 g (.inl rfl)).trans hg, ?_⟩
  obtain ⟨⟨p, q, rfl, h2, h3, h6, h4⟩, h5⟩ := hb
  refine ⟨⟨p, q, rfl, h2, h3, h6, fun hl => ?_⟩, h5⟩
  obtain ⟨b, off, rfl, hh⟩ := h4 hl
  refine ⟨b, off, rfl, fun j hj => ?_⟩
  have e : C.heap[b]? = A.heap[b]? := k.2 b (.inr ⟨_, hc.trans hv, rfl⟩)
  have e2 : C.cell? ⟨b, off + j, none⟩ = A.cell? ⟨b, off + j, none⟩ := by simp [World.cell?, e]
  exact e2.trans (hh j hj)
set_option maxRecDepth 100000 in
set_option maxHeartbeats 4000000 in
theorem ball_iter (n : Nat) (w0 : World) (g r c : Nat) (l : List Int) (h : HMt w0 g r c l) (hr1 : 1 ≤ r) (hr : r ≤ 256) (hc1 : 1 ≤ c) (hc : c ≤ 256) (hD : ∀ i, mtD w0 g i → i < w0.heap.size) :
    IterF Fence.wide n Try.prog 49 #[.pointer (some ⟨g, 0, none⟩)] (fun k v => #[.int .i64 (k : Int), v])
      (fun k v W => W.ownsRow w0.heap.size 5 1 v (rwL l c k).length ((rwL l c k).map (Value.int .u8))) (mtD w0 g) r w0 := fun l' J Jx W hK hJ hY h0 => by
  have HM0 := hid (h.kept rfl hK)
  have HK := hid hK
  have HJ := hid hJ
  have HY := hid hY
  have H0 := hid h0
  have HD := hid hD
  have HC3 : Hid (∀ C, KD (mtD w0 g) w0 C → w0.cell? ⟨g, 3, none⟩ = C.cell? ⟨g, 3, none⟩) := hid fun C hC => by
    have e := hC.2 g (.inl rfl)
    simp [World.cell?, e]
  have HLEN := hid h.1
  have HBYT : Hid (∀ k, ∀ x ∈ rwL l c k, 0 ≤ x ∧ x < 256) := hid fun k x hx => by
    obtain ⟨_, v, _, hb⟩ := h
    exact hb.2 x (List.mem_of_mem_take (List.mem_of_mem_drop hx))
  clear h hK hJ hY h0 hD
  obtain ⟨b, o, kk, hg, _, _, _⟩ := HM0.out.open hr1 hc1
  have hr0 : W.cell? ⟨g, 1, none⟩ = some (.int .i64 (r : Int)) := (cell_of_row W g 1 _ _ _ hg).trans rfl
  clear hg
  refine callsIn_of_wp Try.func49 rfl trivial ?_ rfl
  simp only [Try.ntmps49, List.size_toArray, List.length_cons, List.length_nil, Nat.reduceAdd, Nat.reduceSub, Array.replicate_succ, Array.replicate_zero, List.push_toArray, List.append_toArray, List.nil_append, List.cons_append]
  gi_wp2
  gi_loopw [6] (fun i wr => ∃ k : Nat, k ≤ r ∧ i = .int .i64 (k : Int) ∧ Hid (J k wr) ∧ Hid (KD (mtD w0 g) W wr)) (fun i _ => r - (intOf i).toNat)
  case atStart => exact ⟨0, Nat.zero_le _, rfl, H0, KD.refl _ _⟩
  case round =>
    obtain ⟨k, hk, rfl, HJk, HKk⟩ := hrel
    by_cases hlt : k < r
    · have hKw := HK.out.trans HKk.out
      have HMk := hid (HM0.out.kept (HC3.out _ HK.out) HKk.out)
      have CR := hid (brow_any wr g r c l k HMk.out hlt hr hc1 hc)
      gi_wp2
      refine ⟨trivial, fun h => absurd h (by simp [Fence.wide]), callsIn_wide.2 (CR.out.mono ?_)⟩
      rintro e w1 ⟨v1, rfl, hb1, hd1⟩
      have HB1 := hid hb1
      obtain ⟨p1, c1, e1, _, _⟩ := hb1.open
      subst e1
      have hB1 : Below wr.heap.size wr w1 := hd1.below _
      have HBL := hid hB1
      have HLn : Hid ((rwL l c k).length ≤ 140737488355328) := by refine hid ?_; rw [rwL_length HLEN.out hlt]; omega
      clear hb1 hd1 CR
      gi_wp2
      refine ⟨trivial, fun h => absurd h (by simp [Fence.wide]), callsIn_wide.2 ((sclone_any w1 _ _ HB1.out HLn.out).mono ?_)⟩
      rintro e w2 ⟨v2, rfl, hown, hB⟩
      have hB2 := HBL.out.trans (hB.mono HBL.out.size)
      have hJ1 := HJ.out k wr w2 HJk.out (grown_below hB2)
      have hsz : w0.heap.size ≤ w1.heap.size := Nat.le_trans hKw.1 HBL.out.size
      obtain ⟨fn, tmps, assign, body, hy, hR⟩ := HY.out k v2 w2 hJ1 (own_mono hown hsz) hlt
      have HRR := hid hR
      have HKD : Hid (KD (mtD w0 g) wr w2) := ⟨hB2.size, fun i hi => hB2.block i (Nat.lt_of_lt_of_le (HD.out i hi) hKw.1)⟩
      clear hown hB hJ1 hR hB2 hB1
      gi_wp2
      refine ⟨fun h => absurd h (by simp [Fence.wide]), HRR.out.mono ?_⟩
      rintro e W3 (⟨rfl, hJ3, hk3⟩ | ⟨rfl, hJx3⟩)
      · clear HRR hy
        have HF3 := hid (And.intro hk3 hJ3)
        clear hk3 hJ3
        gi_wp2
        go_roundw
        case rel => exact ⟨k + 1, hlt, by go_num, HF3.out.2, HKk.out.trans (HKD.out.trans HF3.out.1)⟩
        case measure => simp [intOf]; omega
      · clear HRR hy
        have HF3 := hid hJx3
        clear hJx3
        gi_wp2
        refine bodyPost_ret (results_none rfl _ _ _) rfl ?_
        exact ⟨⟨_, rfl⟩, .inr HF3.out⟩
    · have hk' : k = r := by omega
      subst hk'
      gi_wp2
      go_end0
      exact ⟨⟨_, rfl⟩, .inl HJk.out⟩
end Go.Proofs.Ytbiplflejijbeaa
namespace Go.Proofs.Ytbiplflejijbeaa
open Go Go.RowKit
def unI (n at' : Nat) : List Int := tbL n fun j => if j = at' then 1 else 0
set_option maxRecDepth 100000 in
set_option maxHeartbeats 8000000 in
theorem bunit_any (w : World) (n i : Nat) (hn : n ≤ 256) (hi : i < n) : Calls Try.prog 55 #[gfF, .int .i64 (n : Int), .int .i64 (i : Int)] w fun e w' => ∃ v, e = .returned v ∧ HB w' v (unI n i) ∧ Below w.heap.size w w' := by
  have CZ := hid (gfZero w)
  unfold gfF
  go_enter Try.func55, Try.ntmps55
  go_wp2_with fail
  refine CZ.out.mono ?_
  rintro e w1 ⟨rfl, hb1⟩
  obtain ⟨w2, HW2⟩ : ∃ x, Hid (w1.alloc (.cells #[.int .u8 0] 5) = x) := ⟨_, hid rfl⟩
  have B2 : Hid (Below w.heap.size w w2) := by rw [← HW2.out]; exact hid (hb1.alloc hb1.size _)
  have CR := hid (repeat_bytes w2 w1.heap.size n (by omega) (.int .u8 0) (by rw [← HW2.out]; exact heap_alloc_new w1 _) rfl)
  clear hb1 CZ
  go_wp2_with (first | rw [HW2.out] | fail)
  refine CR.out.mono ?_
  rintro e w3 ⟨rfl, hh3, hb3⟩
  have B3 := hid (B2.out.trans (hb3.mono B2.out.size))
  have HH3 := hid hh3
  have hg3 := (Array.getElem?_eq_some_iff.1 hh3).1
  have C1 := hid (bmOne w3)
  have W2 := hid B2.out.size
  clear hh3 hb3 CR
  obtain ⟨g, HG⟩ : ∃ x, Hid (w2.heap.size = x) := ⟨_, hid rfl⟩
  rw [HG.out] at HH3 hg3 W2
  rw [HG.out]
  clear HG
  go_wp2_with fail
  refine C1.out.mono ?_
  rintro e w4 ⟨rfl, hb4⟩
  have B4 := hid (B3.out.trans (hb4.mono B3.out.size))
  have HH4 : Hid (w4.heap[g]? = some (.cells (List.replicate n (Value.int .u8 0)).toArray 5 (0, 0))) := hid ((hb4.block g hg3).trans HH3.out)
  have c4 : w4.cell? ⟨g, i, none⟩ = some (.int .u8 0) := by rw [cell_of_row _ _ _ _ _ _ HH4.out]; simp [hi]
  have f4 : w4.frozen? ⟨g, i, none⟩ = false := by simp [World.frozen?, HH4.out]
  have O4 : Hid (w4.ownsRow w.heap.size 5 1 (.slice (some ⟨g, 0, none⟩) n n) n (List.replicate n (Value.int .u8 0))) := hid ⟨by simp, .inr ⟨g, n, _, rfl, W2.out, HH4.out, Nat.le_refl _, by unfold maxLen; omega, by simp, by simp⟩⟩
  clear hb4 C1
  go_wp2_with fail
  go_ret
  have O5 := (O4.out.stored i (.int .u8 1)).1
  have e5 : (List.replicate n (Value.int .u8 0)).set i (.int .u8 1) = (unI n i).map (Value.int .u8) := by
    refine List.ext_getElem (by simp [unI, tbL]) fun k h1 h2 => ?_
    simp only [List.getElem_set, List.getElem_replicate, unI, tbL, List.getElem_map, List.getElem_range]
    by_cases e : i = k
    · simp [e]
    · rw [if_neg e, if_neg (fun q => e q.symm)]; rfl
  rw [e5] at O5
  exact ⟨_, rfl, HB.of_own (by rw [show (unI n i).length = n by rw [unI, tbL_length]]; exact O5) (tbL_byt n fun j => by split <;> decide), B4.out.setCell (p := ⟨g, i, none⟩) W2.out _⟩
set_option maxRecDepth 100000 in
set_option maxHeartbeats 8000000 in
theorem binv1_any (w : World) (b g r c : Nat) (l : List Int) (i : Nat) (hb : w.cell? ⟨b, 0, none⟩ = some (.pointer (some ⟨g, 0, none⟩))) (h : HMt w g r c l) (hr : r ≤ 256) (hi : i < r) :
    Calls Try.prog 54 #[.int .i64 (i : Int), .pointer (some ⟨b, 0, none⟩)] w fun e w' => ∃ v, e = .returned v ∧ HB w' v (unI r i) ∧ Below w.heap.size w w' := by
  obtain ⟨hl, v0, hh, hv⟩ := h
  have C0 : Hid (w.cell? ⟨g, 0, none⟩ = some gfF) := hid (by rw [cell_of_row _ _ _ _ _ _ hh]; rfl)
  have C1 : Hid (w.cell? ⟨g, 1, none⟩ = some (.int .i64 (r : Int))) := hid (by rw [cell_of_row _ _ _ _ _ _ hh]; rfl)
  have CB := hid hb
  clear hv hh hb hl
  have CU := hid (bunit_any w.drew r i hr hi)
  unfold gfF at CU C0
  go_enter Try.func54, Try.ntmps54
  go_wp2_with fail
  refine wp_region_last (S := (fun W : World => W.cell? ⟨b, 0, none⟩ = some (.pointer (some ⟨g, 0, none⟩)) ∧ W.cell? ⟨g, 0, none⟩ = some (.iface 47 (.agg #[])) ∧ W.cell? ⟨g, 1, none⟩ = some (.int .i64 (r : Int)))) 10 (by kernel_rfl) ⟨CB.out, C0.out, C1.out⟩ (fun hHeld => ?_)
  have HS := hid hHeld
  clear hHeld
  change wpAnyL _ _ _ _ _ _ _ _ _ (World.drew _)
  refine wpAnyL_take (i := 0) (v := ?_) rfl (by kernel_rfl) (by kernel_rfl) (by kernel_rfl) (by kernel_rfl) (by kernel_rfl) (fun _ _ _ h => h) (Or.inl ⟨by rfl, ?q0⟩) HS.out ?_
  case q0 => intro w hSw; obtain ⟨hc0, hc1, hc2⟩ := hSw; go_simp; rfl
  simp only [Act.put, List.getElem_toArray, List.getElem_cons_zero, List.getElem_cons_succ, List.setIfInBounds_toArray, List.set_cons_zero, List.set_cons_succ]
  refine wpAnyL_take (i := 1) (v := ?_) rfl (by kernel_rfl) (by kernel_rfl) (by kernel_rfl) (by kernel_rfl) (by kernel_rfl) (fun _ _ _ h => h) (Or.inl ⟨by rfl, ?q1⟩) HS.out ?_
  case q1 => intro w hSw; obtain ⟨hc0, hc1, hc2⟩ := hSw; go_simp; rfl
  simp only [Act.put, List.getElem_toArray, List.getElem_cons_zero, List.getElem_cons_succ, List.setIfInBounds_toArray, List.set_cons_zero, List.set_cons_succ]
  refine wpAnyL_take (i := 2) (v := ?_) rfl (by kernel_rfl) (by kernel_rfl) (by kernel_rfl) (by kernel_rfl) (by kernel_rfl) (fun _ _ _ h => h) (Or.inl ⟨by rfl, ?q2⟩) HS.out ?_
  case q2 => intro w hSw; obtain ⟨hc0, hc1, hc2⟩ := hSw; go_simp; rfl
  simp only [Act.put, List.getElem_toArray, List.getElem_cons_zero, List.getElem_cons_succ, List.setIfInBounds_toArray, List.set_cons_zero, List.set_cons_succ]
  refine wpAnyL_take (i := 3) (v := ?_) rfl (by kernel_rfl) (by kernel_rfl) (by kernel_rfl) (by kernel_rfl) (by kernel_rfl) (fun _ _ _ h => h) (Or.inl ⟨by rfl, ?q3⟩) HS.out ?_
  case q3 => intro w hSw; obtain ⟨hc0, hc1, hc2⟩ := hSw; go_simp; rfl
  simp only [Act.put, List.getElem_toArray, List.getElem_cons_zero, List.getElem_cons_succ, List.setIfInBounds_toArray, List.set_cons_zero, List.set_cons_succ]
  refine wpAnyL_take (i := 4) (v := ?_) rfl (by kernel_rfl) (by kernel_rfl) (by kernel_rfl) (by kernel_rfl) (by kernel_rfl) (fun _ _ _ h => h) (Or.inl ⟨by rfl, ?q4⟩) HS.out ?_
  case q4 => intro w hSw; obtain ⟨hc0, hc1, hc2⟩ := hSw; go_simp; rfl
  simp only [Act.put, List.getElem_toArray, List.getElem_cons_zero, List.getElem_cons_succ, List.setIfInBounds_toArray, List.set_cons_zero, List.set_cons_succ]
  refine wpAnyL_take (i := 5) (v := ?_) rfl (by kernel_rfl) (by kernel_rfl) (by kernel_rfl) (by kernel_rfl) (by kernel_rfl) (fun _ _ _ h => h) (Or.inl ⟨by rfl, ?q5⟩) HS.out ?_
  case q5 => intro w hSw; obtain ⟨hc0, hc1, hc2⟩ := hSw; go_simp; rfl
  simp only [Act.put, List.getElem_toArray, List.getElem_cons_zero, List.getElem_cons_succ, List.setIfInBounds_toArray, List.set_cons_zero, List.set_cons_succ]
  refine wpAnyL_take (i := 6) (v := ?_) rfl (by kernel_rfl) (by kernel_rfl) (by kernel_rfl) (by kernel_rfl) (by kernel_rfl) (fun _ _ _ h => h) (Or.inl ⟨by rfl, ?q6⟩) HS.out ?_
  case q6 => intro w hSw; obtain ⟨hc0, hc1, hc2⟩ := hSw; go_simp; rfl
  simp only [Act.put, List.getElem_toArray, List.getElem_cons_zero, List.getElem_cons_succ, List.setIfInBounds_toArray, List.set_cons_zero, List.set_cons_succ]
  refine wpAnyL_take (i := 7) (v := ?_) rfl (by kernel_rfl) (by kernel_rfl) (by kernel_rfl) (by kernel_rfl) (by kernel_rfl) (fun _ _ _ h => h) (Or.inl ⟨by rfl, ?q7⟩) HS.out ?_
  case q7 => intro w hSw; obtain ⟨hc0, hc1, hc2⟩ := hSw; go_simp; rfl
  simp only [Act.put, List.getElem_toArray, List.getElem_cons_zero, List.getElem_cons_succ, List.setIfInBounds_toArray, List.set_cons_zero, List.set_cons_succ]
  refine wpAnyL_take (i := 8) (v := ?_) rfl (by kernel_rfl) (by kernel_rfl) (by kernel_rfl) (by kernel_rfl) (by kernel_rfl) (fun _ _ _ h => h) (Or.inl ⟨by rfl, ?q8⟩) HS.out ?_
  case q8 => intro w hSw; obtain ⟨hc0, hc1, hc2⟩ := hSw; go_simp; rfl
  simp only [Act.put, List.getElem_toArray, List.getElem_cons_zero, List.getElem_cons_succ, List.setIfInBounds_toArray, List.set_cons_zero, List.set_cons_succ]
  refine wpAnyL_one (i := 9) (by kernel_rfl) rfl (fun K hK => ?_)
  go_simp
  refine CU.out.mono ?_
  rintro e w5 ⟨v5, rfl, h5, hb5⟩
  have hb5w : Below w.heap.size w w5 := (Below.refl _ w).drew.trans hb5
  have H5 := hid h5
  have B5 := hid hb5w
  have S5 : Hid (w5.cell? ⟨b, 0, none⟩ = some (.pointer (some ⟨g, 0, none⟩)) ∧ w5.cell? ⟨g, 0, none⟩ = some (.iface 47 (.agg #[])) ∧ w5.cell? ⟨g, 1, none⟩ = some (.int .i64 (r : Int))) := hid ⟨(hb5w.cell (p := ⟨b, 0, none⟩) (World.block_lt_of_cell? w _ CB.out)).trans CB.out, (hb5w.cell (p := ⟨g, 0, none⟩) (World.block_lt_of_cell? w _ C0.out)).trans C0.out, (hb5w.cell (p := ⟨g, 1, none⟩) (World.block_lt_of_cell? w _ C1.out)).trans C1.out⟩
  refine hK.out _ _ (fun _ => S5.out) ?_
  clear hK K CU HS h5 hb5 hb5w S5
  try simp only [Act.put, List.getElem_toArray, List.getElem_cons_zero, List.getElem_cons_succ, List.setIfInBounds_toArray, List.set_cons_zero, List.set_cons_succ]
  refine wpAnyL_one (i := 10) (by kernel_rfl) rfl (fun K hK => ?_)
  go_simp
  refine hK.out _ _ (fun e => absurd rfl e) ?_
  clear hK K
  try simp only [Act.put, List.getElem_toArray, List.getElem_cons_zero, List.getElem_cons_succ, List.setIfInBounds_toArray, List.set_cons_zero, List.set_cons_succ]
  refine wpAnyL_done (by kernel_rfl) ?_ _
  go_wp2_with fail
  go_ret
  exact ⟨_, rfl, H5.out, B5.out⟩
end Go.Proofs.Ytbiplflejijbeaa
namespace Go.Proofs.Ytbiplflejijbeaa
open Go.RowKit
theorem wpList_append_HB {w : World} {ops : Array Oper} {rest : List Oper} {o : Oper} {a : Act} {Q : Exit → Act → World → Prop} (hgd : o.guard = none) (s x : Operand)
    (ho : o.op = .call { callee := .builtin .append, args := #[s, x], argTypes := #[22, 22] })
    (base : Nat) (v : Value) (n : Nat) (xs : List Value) (hs : a.eval s = v) (hown : w.ownsRow base 5 1 v n xs)
    (u : Value) (l : List Int) (hx : a.eval x = u) (hu : HB w u l) (hbytes : n + l.length ≤ 140737488355328) (hbase : base ≤ w.heap.size)
    (h : ∀ v' w', w'.ownsRow base 5 1 v' (n + l.length) (xs ++ l.map (Value.int .u8)) → w.grownBy w' v.ownBlock → wpList Try.prog ops Q rest (a.put o.dst v') w') : wpList Try.prog ops Q (o :: rest) a w := by
  obtain ⟨i0, hi, hz0, hz1, hz2⟩ := info_parts info_u8
  obtain ⟨⟨p, c, rfl, hlc, hm, hpc, hcell⟩, hby⟩ := hu
  cases p with
  | none =>
    have e : l = [] := by
      apply Classical.byContradiction
      intro hne
      obtain ⟨b, off, e, _⟩ := hcell hne
      cases e
    subst e
    have := hpc rfl
    subst this
    refine wpList_append_own_none hgd s x 22 ho base 5 i0 1 Try.underlying22 hi v n xs hs hown hx ?_
    exact h v w (by simpa using hown) ⟨rfl, rfl, rfl, Nat.le_refl _, fun _ _ _ => rfl⟩
  | some ad =>
    refine wpList_append_own w hgd s x 22 ho base 5 i0 (.int .u8 0) 1 1 Try.underlying22 hi hz0 hz1 hz2 rfl (by decide) v n xs hs hown ad l.length c (l.map (Value.int .u8)) hx (by simp) ?_ ?_ (by unfold maxLen; omega) (by omega) hbase (fun v' w' h1 h2 _ => h v' w' h1 h2)
    · intro j y hj
      have hjn : j < l.length := by
        have := (List.getElem?_eq_some_iff.1 hj).1
        simpa using this
      obtain ⟨b, off, e, hh⟩ := hcell (by intro e; subst e; simp at hjn)
      cases e
      rw [Go.WideShapes.add_plain, hh j hjn]
      have e : (l.map (Value.int .u8))[j]? = some (Value.int .u8 (l.getD j 0)) := by simp [List.getD, List.getElem?_eq_getElem hjn]
      rw [e] at hj
      exact hj
    · intro u hu; obtain ⟨x, _, rfl⟩ := List.mem_map.1 hu; rfl
theorem flat_snoc (ls : List (List Int)) (k : Nat) (hk : k < ls.length) : (ls.take (k + 1)).flatten = (ls.take k).flatten ++ ls.getD k [] := by
  rw [List.take_succ_eq_append_getElem hk, List.flatten_append]
  simp [List.getD, List.getElem?_eq_getElem hk]
theorem flat_take_le (ls : List (List Int)) (k : Nat) : (ls.take k).flatten.length ≤ ls.flatten.length := by
  conv => rhs; rw [← List.take_append_drop k ls, List.flatten_append, List.length_append]
  omega
def lensTo (ls : List (List Int)) (k : Nat) : Nat := (ls.take k).flatten.length
def flatTo (ls : List (List Int)) (k : Nat) : List Int := (ls.take k).flatten
end Go.Proofs.Ytbiplflejijbeaa
namespace Go.Proofs.Ytbiplflejijbeaa
open Go Go.RowKit
def catL (ls : Nat → List Int) : Nat → List Int
  | 0 => []
  | n + 1 => catL ls n ++ ls n
theorem catL_le (ls : Nat → List Int) (n : Nat) : ∀ k, k ≤ n → (catL ls k).length ≤ (catL ls n).length := by
  intro k hk
  obtain ⟨d, rfl⟩ := Nat.le.dest hk
  induction d with
  | zero => exact Nat.le_refl _
  | succ d ih => exact Nat.le_trans (ih (by omega)) (by show _ ≤ (catL ls (k + d) ++ ls (k + d)).length; rw [List.length_append]; omega)
theorem wpList_run_appN {w : World} {ops : Array Oper} {rest : List Oper} {o : Oper} {a : Act} {Q : Exit → Act → World → Prop} (hgd : o.guard = none) (s x : Operand)
    (ho : o.op = .call { callee := .builtin .append, args := #[s, x], argTypes := #[22, 3] }) {v u v' : Value} {w' : World} (hs : a.eval s = v) (hx : a.eval x = u)
    (hr : (Builtin.append_ #[22, 3] 22 #[v, u]).run Try.prog w = .ok v' w') (ht : o.type = 22)
    (h : wpList Try.prog ops Q rest (a.put o.dst v') w') : wpList Try.prog ops Q (o :: rest) a w := by
  refine wpList_plain hgd fun K hK => ?_
  unfold Oper.wp execOp
  simp only [ho, ht, resolve, invoke, builtin, Sem.run_bind, Sem.run_pure, Result.andThen_ok, List.map_toArray, List.map_cons, List.map_nil, hs, hx, hr]
  exact hK _ _ h
set_option maxRecDepth 100000 in
set_option maxHeartbeats 4000000 in
theorem bgrow_any (w : World) (n : Nat) (hn : n ≤ 140737488355328) : Calls Try.prog 62 #[.slice none 0 0, .int .i64 (n : Int)] w fun e w' => ∃ v, e = .returned v ∧ w'.ownsRow w.heap.size 5 1 v 0 [] ∧ Below w.heap.size w w' := by
  obtain ⟨i0, hi, hz0, hz1, hz2⟩ := info_parts info_u8
  have hw0 : IntKind.i64.wrap (n : Int) = (n : Int) := by rw [IntKind.wrap_i64]; omega
  by_cases h0 : n = 0
  · subst h0
    go_enter Try.func62, Try.ntmps62
    go_wp2
    go_ret
    exact ⟨_, rfl, World.ownsRow_nil _ _ _ _, Below.refl _ _⟩
  · have h1 : ¬ ((n : Int) < 0) := by omega
    have h4 : (n : Int) > 0 := by omega
    have hr : ∀ ty, (Builtin.append_ #[22, 3] ty #[.slice none 0 0, .int .i64 (n : Int)]).run Try.prog w = _ := fun ty =>
      Go.Lib.run_append_nil_zeros w 22 3 ty 5 i0 _ .i64 .i64 Try.underlying22 Try.underlying3 hi hz0 n (by omega) (by omega) (by omega) (by rw [hz2]; omega)
    obtain ⟨cp, HCP⟩ : ∃ x, Hid (grownCap w n 0 5 = x) := ⟨_, hid rfl⟩
    have hc1 : n ≤ cp := by rw [← HCP.out]; exact grownCap_ge _ _ _ _
    have hc2 : cp ≤ maxLen := by rw [← HCP.out]; exact grownCap_le_maxLen _ _ _ _ (by unfold maxLen; omega)
    rw [HCP.out] at hr
    obtain ⟨w1, HW1⟩ : ∃ x, Hid (w.drew.alloc (.cells (Builtin.zeroCells (Value.int .u8 0).cells n ++ Builtin.zeroCells (Value.int .u8 0).cells (cp - n)) 5) = x) := ⟨_, hid rfl⟩
    rw [HW1.out] at hr
    have HO : Hid (w1.ownsRow w.heap.size 5 1 (.slice (some ⟨w.heap.size, 0, none⟩) 0 cp) 0 []) := by
      rw [← HW1.out]
      refine hid ⟨rfl, .inr ⟨_, cp, _, rfl, Nat.le_refl _, heap_alloc_new w.drew _, Nat.zero_le _, hc2, ?_, rfl⟩⟩
      rw [Array.size_append, size_zeroCells, size_zeroCells]
      show n * 1 + (cp - n) * 1 = cp * 1
      omega
    have HBl : Hid (Below w.heap.size w w1) := by rw [← HW1.out]; exact hid ((Below.refl _ _).drew.alloc (Nat.le_refl _) _)
    unfold maxLen at hc2
    go_enter Try.func62, Try.ntmps62
    have HRR := hid (hr 22)
    clear hr
    go_wp2_with (first | rw [hw0] | (at_builtin; refine wpList_run_appN rfl _ _ rfl rfl rfl HRR.out rfl ?_) | fail)
    go_ret
    exact ⟨_, rfl, HO.out, HBl.out⟩
set_option maxRecDepth 100000 in
set_option maxHeartbeats 8000000 in
theorem bconcat_any (w : World) (g n c : Nat) (vs : Nat → Value) (ls : Nat → List Int) (hn : n ≤ 1048576) (hc : n ≤ c) (hc2 : c ≤ 9223372036854775807) (hv : ∀ i, i < n → w.cell? ⟨g, i, none⟩ = some (vs i)) (hb : ∀ i, i < n → HB w (vs i) (ls i)) (hT : (catL ls n).length ≤ 140737488355328) :
    Calls Try.prog 56 #[.slice (some ⟨g, 0, none⟩) n c] w fun e w' => ∃ v, e = .returned v ∧ w'.ownsRow w.heap.size 5 1 v (catL ls n).length ((catL ls n).map (Value.int .u8)) ∧ Below w.heap.size w w' := by
  have HV := hid hv
  have HBs := hid hb
  have CG := hid (bgrow_any w (catL ls n).length hT)
  obtain ⟨T, HT⟩ : ∃ x, Hid ((catL ls n).length = x) := ⟨_, hid rfl⟩
  rw [HT.out] at CG hT
  clear hv hb
  go_enter Try.func56, Try.ntmps56
  go_wp2_with fail
  go_loopw [3, 11] (fun s i wr => ∃ k : Nat, k ≤ n ∧ i = .int .i64 (k : Int) ∧ s = .int .i64 (((catL ls k).length : Nat) : Int) ∧ wr = w) (fun _ i _ => n - (intOf i).toNat)
  case atStart => exact ⟨0, Nat.zero_le _, rfl, rfl, rfl⟩
  case round =>
    obtain ⟨k, hk, rfl, rfl, hww⟩ := hrel
    have hww := hww.symm
    subst hww
    by_cases hkn : k < n
    · obtain ⟨p, c1, ev, hl1, hc1⟩ := (HBs.out k hkn).open
      have q1 : w.cell? ⟨g, k, none⟩ = some (.slice p (ls k).length c1) := by rw [HV.out k hkn, ev]
      have hS : (catL ls (k + 1)).length = (catL ls k).length + (ls k).length := by show (catL ls k ++ ls k).length = _; rw [List.length_append]
      have hle := catL_le ls n (k + 1) (by omega)
      rw [HT.out] at hle
      obtain ⟨A, HA⟩ : ∃ x, Hid ((catL ls k).length = x) := ⟨_, hid rfl⟩
      obtain ⟨L1, HL1⟩ : ∃ x, Hid ((ls k).length = x) := ⟨_, hid rfl⟩
      rw [HA.out, HL1.out] at hS
      rw [HL1.out] at q1 hl1
      rw [HA.out]
      have h1 : ¬ (((A + L1 : Nat) : Int) < 0) := by omega
      have HS := hid hS
      have hAL : A + L1 ≤ 140737488355328 := by omega
      have hw : IntKind.i64.wrap ((A : Int) + (L1 : Int)) = ((A + L1 : Nat) : Int) := by rw [IntKind.wrap_i64]; omega
      clear hS ev CG
      go_wp2_with (first | rw [hw] | fail)
      exact ⟨⟨k + 1, by omega, by go_num, by rw [HS.out]; go_num, by first | trivial | rfl⟩, by simp [intOf]; omega⟩
    · have hkn' : k = n := by omega
      subst hkn'
      rw [HT.out]
      go_wp2_with fail
      refine CG.out.mono ?_
      rintro e w1 ⟨v1, rfl, ho1, hb1⟩
      have O1 := hid ho1
      have B1 := hid hb1
      clear CG ho1 hb1
      go_wp2_with fail
      go_loopw [6, 27] (fun s i wx => ∃ j : Nat, j ≤ k ∧ i = .int .i64 (j : Int) ∧ Hid (wx.ownsRow w.heap.size 5 1 s (catL ls j).length ((catL ls j).map (Value.int .u8))) ∧ Hid (Below w.heap.size w wx)) (fun _ i _ => k - (intOf i).toNat)
      case atStart => exact ⟨0, Nat.zero_le _, rfl, O1, B1⟩
      case round =>
        clear O1 B1
        obtain ⟨j, hj, rfl, HO, HB1⟩ := hrel
        by_cases hjk : j < k
        · obtain ⟨p, c1, ev, hl1, hc1⟩ := (HBs.out j hjk).open
          have hlt := World.block_lt_of_cell? w _ (HV.out j hjk)
          have q1 : wr.cell? ⟨g, j, none⟩ = some (.slice p (ls j).length c1) := by rw [HB1.out.cell (p := ⟨g, j, none⟩) hlt, HV.out j hjk, ev]
          have HBu : Hid (HB wr (.slice p (ls j).length c1) (ls j)) := hid (by have := (HBs.out j hjk).below HB1.out; rwa [ev] at this)
          have hS : (catL ls (j + 1)).length = (catL ls j).length + (ls j).length := by show (catL ls j ++ ls j).length = _; rw [List.length_append]
          have HS := hid hS
          have hle := catL_le ls k (j + 1) (by omega)
          rw [HT.out, hS] at hle
          have HLE := hid hle
          have NW := hid HB1.out.size
          clear hS hle ev hl1
          go_wp2_with (at_builtin; refine wpList_append_HB rfl _ _ rfl w.heap.size _ _ _ rfl HO.out _ _ rfl HBu.out (Nat.le_trans HLE.out hT) NW.out ?_)
          intro v8 w8 ho8 hg8
          have HO8 : Hid (w8.ownsRow w.heap.size 5 1 v8 (catL ls (j + 1)).length ((catL ls (j + 1)).map (Value.int .u8))) := hid (by
            rw [HS.out]
            show w8.ownsRow w.heap.size 5 1 v8 _ ((catL ls j ++ ls j).map (Value.int .u8))
            rw [List.map_append]
            exact ho8)
          have HB8 : Hid (Below w.heap.size w w8) := hid (HB1.out.grown hg8 NW.out (fun k e => (HO.out.lt k e).1))
          clear ho8 hg8
          go_wp2
          exact ⟨⟨j + 1, by omega, by go_num, HO8, HB8⟩, by simp [intOf]; omega⟩
        · have hjk' : j = k := by omega
          subst hjk'
          go_wp2
          go_ret
          rw [HT.out] at HO
          refine ⟨_, rfl, ?_, HB1.out⟩
          rw [HT.out]
          exact HO.out
end Go.Proofs.Ytbiplflejijbeaa
namespace Go.Proofs.Ytbiplflejijbeaa
open Go.RowKit
theorem take_eq_step (la lb : List Int) (k : Nat) (ha : k < la.length) (hb : k < lb.length) (h : la.take k = lb.take k) (e : la.getD k 0 = lb.getD k 0) : la.take (k + 1) = lb.take (k + 1) := by
  rw [List.take_succ_eq_append_getElem ha, List.take_succ_eq_append_getElem hb, h]
  have e1 : la.getD k 0 = la[k] := by simp [List.getD, List.getElem?_eq_getElem ha]
  have e2 : lb.getD k 0 = lb[k] := by simp [List.getD, List.getElem?_eq_getElem hb]
  rw [e1, e2] at e
  rw [e]
theorem take_ne (la lb : List Int) (k : Nat) (e : la.getD k 0 ≠ lb.getD k 0) : la ≠ lb := fun h => e (by rw [h])
set_option maxHeartbeats 400000 in
theorem sameBytes_any (w : World) (va vb : Value) (la lb : List Int) (ha : HB w va la) (hb : HB w vb lb) :
    Calls Try.prog 14 #[va, vb] w fun e w' => e = .returned (.bool (decide (la = lb))) ∧ Dr w w' := by
  by_cases hlen : la.length = lb.length
  · by_cases h0 : 0 < la.length
    · obtain ⟨b1, o1, c1, rfl, hc1, hm1, hk1⟩ := ha.ne h0
      obtain ⟨b2, o2, c2, rfl, hc2, hm2, hk2⟩ := hb.ne (by omega)
      unfold maxLen at hm1 hm2
      have hm : la.length ≤ 9223372036854775807 := by omega
      have HL : Hid (la.length = lb.length) := hlen
      rw [← hlen]
      have hcd : ∀ j, j < la.length → w.cell? ⟨b2, o2 + j, none⟩ = some (.int .u8 (lb.getD j 0)) := fun j hj => hk2 j (by omega)
      clear hlen hk2
      go_enter Try.func14, Try.ntmps14
      go_wp2
      go_loopw [5] (fun i wr => ∃ k : Nat, k ≤ la.length ∧ i = .int .i64 k ∧ la.take k = lb.take k ∧ Dr w wr) (fun i _ => la.length - (intOf i).toNat)
      case atStart => exact ⟨0, Nat.zero_le _, rfl, rfl, Dr.refl _⟩
      case round =>
        obtain ⟨k, hk, rfl, ht, q, rfl⟩ := hrel
        by_cases hlt : k < la.length
        · have g1 := hk1 k hlt
          have g2 := hcd k hlt
          obtain ⟨x, hx⟩ : ∃ x, la.getD k 0 = x := ⟨_, rfl⟩
          obtain ⟨y, hy⟩ : ∃ y, lb.getD k 0 = y := ⟨_, rfl⟩
          rw [hx] at g1
          rw [hy] at g2
          have HX := hid hx
          have HY := hid hy
          clear hx hy hk1 hcd
          by_cases he : x = y
          · have hne : (x != y) = false := by simpa using he
            have HE := hid he
            clear he
            go_wp2
            go_quiet (fail)
            go_wp2
            exact ⟨⟨k + 1, by omega, by go_num, take_eq_step la lb k hlt (by have := HL.out; omega) ht (by rw [HX.out, HY.out, HE.out]), Dr.one _ _⟩, by simp [intOf]; omega⟩
          · have hne : (x != y) = true := by simpa using he
            go_wp2
            go_quiet (fail)
            go_wp2
            go_ret
            exact ⟨by simp [take_ne la lb k (by rw [HX.out, HY.out]; exact he)], (Dr.one _ _).drewN _⟩
        · go_wp2
          go_ret
          have e : la = lb := by
            have h1 := List.take_of_length_le (show la.length ≤ k by omega)
            have h2 := List.take_of_length_le (show lb.length ≤ k by have := HL.out; omega)
            rw [← h1, ← h2, ht]
          exact ⟨by simp [e], Dr.one _ _⟩
    · obtain ⟨p1, c1, rfl, _, _⟩ := ha.open
      obtain ⟨p2, c2, rfl, _, _⟩ := hb.open
      have e1 : la = [] := List.length_eq_zero_iff.1 (by omega)
      have e2 : lb = [] := List.length_eq_zero_iff.1 (by omega)
      subst e1 e2
      go_enter Try.func14, Try.ntmps14
      go_wp2
      go_loop [5] (fun i => i = .int .i64 0) (fun _ => 0)
      case atStart => rfl
      case round =>
        subst hrel
        go_wp2
        go_ret
        exact ⟨rfl, Dr.refl _⟩
  · obtain ⟨p1, c1, rfl, _, _⟩ := ha.open
    obtain ⟨p2, c2, rfl, _, _⟩ := hb.open
    have hne : ((la.length : Int) != (lb.length : Int)) = true := by rw [bne_iff_ne]; omega
    go_enter Try.func14, Try.ntmps14
    go_wp2
    go_ret
    exact ⟨by simp [show la ≠ lb from fun e => hlen (by rw [e])], Dr.refl _⟩
theorem info_bytes : (Try.prog.info? 22).map (fun i => (i.zero, i.size, i.bytes)) = some (some (.slice none 0 0), 1, 24) := by kernel_rfl
def BytI (l : List Int) : Prop := ∀ x ∈ l, 0 ≤ x ∧ x < 256
def EL (w0 w : World) (u : Value) (l : List Int) : Prop :=
  (w.ownsRow w0.heap.size 5 1 u l.length (l.map (Value.int .u8)) ∧ BytI l) ∨ HB w0 u l
def OWL (w0 w : World) (v : Value) (ls : List (List Int)) : Prop :=
  ∃ xs, w.ownsRow w0.heap.size 22 1 v ls.length xs ∧ ∀ j, j < ls.length → EL w0 w (xs.getD j undef) (ls.getD j [])
theorem EL.hb {w0 w : World} {u : Value} {l : List Int} (h : EL w0 w u l) (hb : Below w0.heap.size w0 w) : HB w u l := by
  rcases h with ⟨h, hx⟩ | h
  · exact HB.of_own h hx
  · exact h.below hb
theorem own_block_ne {w : World} {B e n : Nat} {v : Value} {xs : List Value} (h : w.ownsRow B e 1 v n xs) {g : Nat} {cur : Array Value} {e' : TypeId} {fz : Nat × Nat} (hg : w.heap[g]? = some (.cells cur e' fz)) (hne : e ≠ e') : v.ownBlock ≠ some g := by
  intro hv
  rcases h.2 with ⟨rfl, _⟩ | ⟨g', cap, cur', rfl, _, hh, _⟩
  · simp [Value.ownBlock] at hv
  · simp only [Value.ownBlock, Option.some.injEq] at hv
    subst hv
    rw [hh] at hg
    simp only [Option.some.injEq, Obj.cells.injEq] at hg
    exact hne hg.2.1
theorem EL.grown {w0 w w' : World} {u : Value} {l : List Int} {row : Option Nat} (h : EL w0 w u l) (hg : w.grownBy w' row) (hr : ∀ g, row = some g → ∃ cur e fz, w.heap[g]? = some (.cells cur e fz) ∧ 5 ≠ e) : EL w0 w' u l := by
  rcases h with ⟨h, hx⟩ | h
  · refine .inl ⟨h.kept hg ?_, hx⟩
    cases hrow : row with
    | none =>
      cases hv : u.ownBlock with
      | none => exact .inl rfl
      | some k => exact .inr (by simp)
    | some g =>
      obtain ⟨cur, e, fz, hh, hne⟩ := hr g hrow
      exact .inr (own_block_ne h hh hne)
  · exact .inr h
theorem OWL.grown {w0 w w' : World} {v : Value} {ls : List (List Int)} {row : Option Nat} (h : OWL w0 w v ls) (hg : w.grownBy w' row) (hr : ∀ g, row = some g → ∃ cur e fz, w.heap[g]? = some (.cells cur e fz) ∧ 5 ≠ e ∧ 22 ≠ e) : OWL w0 w' v ls := by
  obtain ⟨xs, h1, h2⟩ := h
  refine ⟨xs, h1.kept hg ?_, fun j hj => (h2 j hj).grown hg fun g e => ?_⟩
  · cases hrow : row with
    | none =>
      cases hv : v.ownBlock with
      | none => exact .inl rfl
      | some k => exact .inr (by simp)
    | some g =>
      obtain ⟨cur, e, fz, hh, _, hne⟩ := hr g hrow
      exact .inr (own_block_ne h1 hh hne)
  · obtain ⟨cur, e', fz, hh, hne, _⟩ := hr g e
    exact ⟨cur, e', fz, hh, hne⟩
theorem OWL.below {w0 w w' : World} {v : Value} {ls : List (List Int)} (h : OWL w0 w v ls) (hb : Below w.heap.size w w') : OWL w0 w' v ls :=
  h.grown (row := none) ⟨hb.os, hb.tape, hb.output, hb.size, fun k hk _ => hb.block k hk⟩ (fun g e => by cases e)
theorem OWL.hl {w0 w : World} {v : Value} {ls : List (List Int)} (h : OWL w0 w v ls) (hb : Below w0.heap.size w0 w) : HL w v ls := by
  obtain ⟨xs, h1, h2⟩ := h
  by_cases h0 : 0 < ls.length
  · obtain ⟨g, cap, rfl, _, hn, hm, hc⟩ := ownsRow_cells h1 h0
    refine ⟨_, cap, rfl, hn, hm, (fun e => by cases e), fun _ => ⟨g, 0, rfl, fun j hj => ⟨xs.getD j undef, ?_, (h2 j hj).hb hb⟩⟩⟩
    have hx : xs.length = ls.length := by have := h1.1; omega
    exact hc j _ (by simp [List.getD, List.getElem?_eq_getElem (show j < xs.length by omega)])
  · have e : ls = [] := List.length_eq_zero_iff.1 (by omega)
    subst e
    rcases h1.2 with ⟨rfl, _⟩ | ⟨g, cap, cur, rfl, _, _, hn, hm, _⟩
    · exact HL.nil _
    · exact ⟨_, cap, rfl, hn, hm, (fun e => by cases e), fun h => absurd rfl h⟩
theorem OWL.nil (w0 w : World) : OWL w0 w (.slice none 0 0) [] := ⟨[], World.ownsRow_nil _ _ _ _, fun j hj => by simp at hj⟩
theorem getD_app {α : Type} (l m : List α) (d : α) (j : Nat) : (l ++ m).getD j d = if j < l.length then l.getD j d else m.getD (j - l.length) d := by
  simp only [List.getD, List.getElem?_append]
  split <;> rfl
theorem wpList_append_OWL {w0 w : World} {ops : Array Oper} {rest : List Oper} {o : Oper} {a : Act} {Q : Exit → Act → World → Prop} (hgd : o.guard = none) (s x : Operand)
    (ho : o.op = .call { callee := .builtin .append, args := #[s, x], argTypes := #[29, 29] })
    (v : Value) (ls : List (List Int)) (hs : a.eval s = v) (hown : OWL w0 w v ls)
    (ad : Addr) (m c : Nat) (us : List Value) (ns : List (List Int)) (hx : a.eval x = .slice (some ad) m c) (hl : us.length = m) (hn : ns.length = m) (hcell : ∀ j u, us[j]? = some u → w.cell? (ad.add j) = some u)
    (hu : ∀ j, j < m → EL w0 w (us.getD j undef) (ns.getD j [])) (h1 : ∀ u ∈ us, u.oneCell' = true)
    (hbytes : (ls.length + m) * 24 ≤ 140737488355328) (hbase : w0.heap.size ≤ w.heap.size)
    (h : ∀ v' w', OWL w0 w' v' (ls ++ ns) → w.grownBy w' v.ownBlock → (∀ g, v.ownBlock = some g → w0.heap.size ≤ g ∧ BT w g 22) → wpList Try.prog ops Q rest (a.put o.dst v') w') : wpList Try.prog ops Q (o :: rest) a w := by
  obtain ⟨i0, hi, hz0, hz1, hz2⟩ := info_parts info_bytes
  obtain ⟨xs, hrow, hel⟩ := hown
  have hblk : ∀ g, v.ownBlock = some g → w0.heap.size ≤ g ∧ BT w g 22 := by
    intro g hg
    refine ⟨(hrow.lt g hg).1, ?_⟩
    rcases hrow.2 with ⟨rfl, _⟩ | ⟨g', cap, cur, rfl, _, hh, _⟩
    · simp [Value.ownBlock] at hg
    · simp only [Value.ownBlock, Option.some.injEq] at hg
      subst hg
      exact ⟨cur, _, hh⟩
  refine wpList_append_own w hgd s x 29 ho w0.heap.size 22 i0 (.slice none 0 0) 1 24 Try.underlying29 hi hz0 hz1 hz2 rfl (by decide) v ls.length xs hs hrow ad m c us hx (by omega) hcell h1 (by unfold maxLen; omega) hbytes hbase (fun v' w' h2 h3 _ => h v' w' ?_ h3 hblk)
  refine ⟨xs ++ us, by rw [List.length_append, hn]; exact h2, fun j hj => ?_⟩
  have key : ∀ u l, EL w0 w u l → EL w0 w' u l := fun u l he => he.grown h3 fun g hg => by
    obtain ⟨_, cur, fz, hh⟩ := hblk g hg
    exact ⟨cur, _, fz, hh, by decide⟩
  have hxl : xs.length = ls.length := by have := hrow.1; omega
  rw [getD_app, getD_app, hxl]
  rw [List.length_append] at hj
  split
  · exact key _ _ (hel j ‹_›)
  · exact key _ _ (hu _ (by omega))
theorem takel_eq_step (la lb : List (List Int)) (k : Nat) (ha : k < la.length) (hb : k < lb.length) (h : la.take k = lb.take k) (e : la.getD k [] = lb.getD k []) : la.take (k + 1) = lb.take (k + 1) := by
  rw [List.take_succ_eq_append_getElem ha, List.take_succ_eq_append_getElem hb, h]
  have e1 : la.getD k [] = la[k] := by simp [List.getD, List.getElem?_eq_getElem ha]
  have e2 : lb.getD k [] = lb[k] := by simp [List.getD, List.getElem?_eq_getElem hb]
  rw [e1, e2] at e
  rw [e]
set_option maxHeartbeats 400000 in
theorem sameLists_any (w : World) (va vb : Value) (la lb : List (List Int)) (ha : HL w va la) (hb : HL w vb lb) :
    Calls Try.prog 13 #[va, vb] w fun e w' => e = .returned (.bool (decide (la = lb))) ∧ Dr w w' := by
  by_cases hlen : la.length = lb.length
  · by_cases h0 : 0 < la.length
    · obtain ⟨b1, o1, c1, rfl, hc1, hm1, hk1⟩ := ha.ne h0
      obtain ⟨b2, o2, c2, rfl, hc2, hm2, hk2⟩ := hb.ne (by omega)
      unfold maxLen at hm1 hm2
      have hm : la.length ≤ 9223372036854775807 := by omega
      have HL : Hid (la.length = lb.length) := hlen
      rw [← hlen]
      have hcd : ∀ j, j < la.length → ∃ u, w.cell? ⟨b2, o2 + j, none⟩ = some u ∧ HB w u (lb.getD j []) := fun j hj => hk2 j (by omega)
      clear hlen hk2
      go_enter Try.func13, Try.ntmps13
      go_wp2
      go_loopw [5] (fun i wr => ∃ k : Nat, k ≤ la.length ∧ i = .int .i64 k ∧ la.take k = lb.take k ∧ Dr w wr) (fun i _ => la.length - (intOf i).toNat)
      case atStart => exact ⟨0, Nat.zero_le _, rfl, rfl, Dr.refl _⟩
      case round =>
        obtain ⟨k, hk, rfl, ht, hD⟩ := hrel
        have HD := hid hD
        clear hD
        by_cases hlt : k < la.length
        · obtain ⟨u1, g1, e1⟩ := hk1 k hlt
          obtain ⟨u2, g2, e2⟩ := hcd k hlt
          replace g1 := (HD.out.cell _).trans g1
          replace g2 := (HD.out.cell _).trans g2
          replace e1 := e1.dr HD.out
          replace e2 := e2.dr HD.out
          obtain ⟨x, HX⟩ : ∃ x, Hid (la.getD k [] = x) := ⟨_, rfl⟩
          obtain ⟨y, HY⟩ : ∃ y, Hid (lb.getD k [] = y) := ⟨_, rfl⟩
          rw [HX.out] at e1
          rw [HY.out] at e2
          obtain ⟨p1, c1', r1, _, _⟩ := e1.open
          obtain ⟨p2, c2', r2, _, _⟩ := e2.open
          subst r1 r2
          have E1 := hid e1
          have E2 := hid e2
          clear hk1 hcd e1 e2
          by_cases he : x = y
          · have hne : decide (x = y) = true := by simpa using he
            have HE := hid he
            clear he
            go_wp2
            go_quiet ((go_at_call 14; exact Calls.quiet_of (sameBytes_any _ _ _ x y (E1.out.later fun _ _ hx => hx) (E2.out.later fun _ _ hx => hx))))
            go_wp2
            exact ⟨⟨k + 1, by omega, by go_num, takel_eq_step la lb k hlt (by have := HL.out; omega) ht (by rw [HX.out, HY.out, HE.out]), HD.out.drewN _⟩, by simp [intOf]; omega⟩
          · have hne : decide (x = y) = false := by simpa using he
            go_wp2
            go_quiet ((go_at_call 14; exact Calls.quiet_of (sameBytes_any _ _ _ x y (E1.out.later fun _ _ hx => hx) (E2.out.later fun _ _ hx => hx))))
            go_wp2
            go_ret
            exact ⟨by rw [decide_eq_false (fun h => he ((HX.out.symm.trans (congrArg (fun z => List.getD z k []) h)).trans HY.out))]; rfl, HD.out.drewN _⟩
        · go_wp2
          go_ret
          have e : la = lb := by
            have h1 := List.take_of_length_le (show la.length ≤ k by omega)
            have h2 := List.take_of_length_le (show lb.length ≤ k by have := HL.out; omega)
            rw [← h1, ← h2, ht]
          exact ⟨by simp [e], HD.out⟩
    · obtain ⟨p1, c1, rfl, _, _⟩ := ha.open
      obtain ⟨p2, c2, rfl, _, _⟩ := hb.open
      have e1 : la = [] := List.length_eq_zero_iff.1 (by omega)
      have e2 : lb = [] := List.length_eq_zero_iff.1 (by omega)
      subst e1 e2
      go_enter Try.func13, Try.ntmps13
      go_wp2
      go_loop [5] (fun i => i = .int .i64 0) (fun _ => 0)
      case atStart => rfl
      case round =>
        subst hrel
        go_wp2
        go_ret
        exact ⟨rfl, Dr.refl _⟩
  · obtain ⟨p1, c1, rfl, _, _⟩ := ha.open
    obtain ⟨p2, c2, rfl, _, _⟩ := hb.open
    have hne : ((la.length : Int) != (lb.length : Int)) = true := by rw [bne_iff_ne]; omega
    go_enter Try.func13, Try.ntmps13
    go_wp2
    go_ret
    exact ⟨by simp [show la ≠ lb from fun e => hlen (by rw [e])], Dr.refl _⟩
end Go.Proofs.Ytbiplflejijbeaa
namespace Go.Proofs.Ytbiplflejijbeaa
open Go Go.RowKit
def mtN (l : List Int) (n : Nat) : Nat → Nat → Nat := fun i j => (l.getD (i * n + j) 0).toNat
theorem mtN_lt {l : List Int} (h : ∀ x ∈ l, 0 ≤ x ∧ x < 256) (n i j : Nat) : mtN l n i j < 256 := by
  unfold mtN
  simp only [List.getD]
  cases hq : l[i * n + j]? with
  | none => decide
  | some x =>
    have := h x (List.mem_of_getElem? hq)
    show x.toNat < 256
    omega
theorem rwL_tb {l : List Int} (h : ∀ x ∈ l, 0 ≤ x ∧ x < 256) {n i : Nat} (hl : l.length = n * n) (hi : i < n) : rwL l n i = tbL n (mtN l n i) := by
  have hle : (i + 1) * n ≤ n * n := Nat.mul_le_mul_right n hi
  rw [Nat.succ_mul] at hle
  refine List.ext_getElem (by rw [rwL_length hl hi, tbL_length]) fun k h1 h2 => ?_
  rw [tbL_length] at h2
  have hk : i * n + k < l.length := by omega
  simp only [rwL, tbL, List.getElem_map, List.getElem_range, List.getElem_drop, List.getElem_take, mtN]
  have := h l[i * n + k] (List.getElem_mem hk)
  rw [show l.getD (i * n + k) 0 = l[i * n + k] by simp [List.getD, hk]]
  omega
theorem bes_row (A : Nat → Nat → Nat) (n i : Nat) (hi : i < n) : tbL n (A i) ++ unI n i = tbL (n + n) (Fd.bes n A i) := by
  refine List.ext_getElem (by simp [unI, tbL]) fun k h1 h2 => ?_
  simp only [tbL, unI, List.getElem_append, List.getElem_map, List.getElem_range, List.length_map, List.length_range, Fd.bes]
  by_cases q : k < n
  · rw [dif_pos q, if_pos q]
  · rw [dif_neg q, if_neg q]
    by_cases e : k = n + i
    · rw [if_pos (by omega), if_pos e]
    · rw [if_neg (by omega), if_neg e]
structure RP (B : Nat) (w : World) (go co R L k : Nat) (rs : Nat → Value) (M : Nat → Nat → Nat) : Prop where
  o : w.ownsRow B 22 1 (.slice (some ⟨go, 0, none⟩) R co) R ((List.range R).map rs)
  r : ∀ i, i < k → w.ownsRow B 5 1 (rs i) L ((tbL L (M i)).map (Value.int .u8))
  d : ∀ i j, i < k → j < k → i ≠ j → (rs i).ownBlock = none ∨ (rs i).ownBlock ≠ (rs j).ownBlock
theorem RP.rm {B : Nat} {w : World} {go co R L : Nat} {rs : Nat → Value} {M : Nat → Nat → Nat} (h : RP B w go co R L R rs M) (hM : ∀ i j, M i j < 256) : RM B w (.slice (some ⟨go, 0, none⟩) R co) R L rs M := ⟨h.o, h.r, h.d, hM⟩
theorem RP.below {B : Nat} {w w' : World} {go co R L k : Nat} {rs : Nat → Value} {M : Nat → Nat → Nat} (h : RP B w go co R L k rs M) (hb : Below w.heap.size w w') : RP B w' go co R L k rs M :=
  ⟨own_blkR h.o fun k e => hb.block _ (h.o.lt k e).2, fun i hi => own_blkR (h.r i hi) fun k e => hb.block _ ((h.r i hi).lt k e).2, h.d⟩
theorem RP.put {B : Nat} {w w' : World} {go co R L k : Nat} {rs : Nat → Value} {M : Nat → Nat → Nat} {v : Value} (h : RP B w go co R L k rs M) (hk : k < R) (hb : Below w.heap.size w w') (hv : w'.ownsRow w.heap.size 5 1 v L ((tbL L (M k)).map (Value.int .u8))) (hB : B ≤ w.heap.size) :
    RP B (w'.setCell ⟨go, k, none⟩ v) go co R L (k + 1) (fun i => if i = k then v else rs i) M := by
  have h' := h.below hb
  have nb : ∀ i, i ≠ go → (w'.setCell ⟨go, k, none⟩ v).heap[i]? = w'.heap[i]? := fun i hi => heap_setCell_other _ _ _ _ (by simpa using hi)
  refine ⟨?_, fun i hi => ?_, fun i j hi hj hn => ?_⟩
  · have h1 := (h'.o.stored k v).1
    have e : ((List.range R).map rs).set k v = (List.range R).map fun i => if i = k then v else rs i := by
      refine List.ext_getElem (by simp) fun i h1 h2 => ?_
      simp only [List.getElem_set, List.getElem_map, List.getElem_range]
      by_cases e : k = i
      · rw [if_pos e, if_pos e.symm]
      · rw [if_neg e, if_neg (fun q => e q.symm)]
    rw [← e]
    exact h1
  · by_cases e : i = k
    · subst e
      rw [if_pos rfl]
      refine own_mono (own_blkR hv fun a q => nb a fun r => ?_) hB
      subst r
      exact own_nothR hv h'.o (by decide) q rfl
    · rw [if_neg e]
      refine own_blkR (h'.r i (by omega)) fun a q => nb a fun r => ?_
      subst r
      exact own_nothR (h'.r i (by omega)) h'.o (by decide) q rfl
  · by_cases e : i = k
    · subst e
      rw [if_pos rfl, if_neg (fun q => hn q.symm)]
      cases hq : v.ownBlock with
      | none => exact .inl rfl
      | some a =>
        refine .inr fun z => ?_
        have h1 := (hv.lt a hq).1
        have h2 := ((h.r j (by omega)).lt a z.symm).2
        omega
    · rw [if_neg e]
      by_cases e2 : j = k
      · subst e2
        rw [if_pos rfl]
        cases hq : (rs i).ownBlock with
        | none => exact .inl rfl
        | some a =>
          refine .inr fun z => ?_
          have h1 := (hv.lt a z.symm).1
          have h2 := ((h.r i (by omega)).lt a hq).2
          omega
      · rw [if_neg e2]
        exact h.d i j (by omega) (by omega) hn
theorem bconcat_two (w : World) (g : Nat) (v1 v2 : Value) (l1 l2 : List Int) (h1 : w.cell? ⟨g, 0, none⟩ = some v1) (h2 : w.cell? ⟨g, 1, none⟩ = some v2) (b1 : HB w v1 l1) (b2 : HB w v2 l2) (hT : l1.length + l2.length ≤ 140737488355328) :
    Calls Try.prog 56 #[.slice (some ⟨g, 0, none⟩) 2 2] w fun e w' => ∃ v, e = .returned v ∧ w'.ownsRow w.heap.size 5 1 v (l1 ++ l2).length ((l1 ++ l2).map (Value.int .u8)) ∧ Below w.heap.size w w' := by
  have := bconcat_any w g 2 2 (fun i => if i = 0 then v1 else v2) (fun i => if i = 0 then l1 else l2) (by decide) (by decide) (by decide) (fun i hi => by
    match i, hi with
    | 0, _ => exact h1
    | 1, _ => exact h2) (fun i hi => by
    match i, hi with
    | 0, _ => exact b1
    | 1, _ => exact b2) (by simpa [catL] using hT)
  simpa [catL] using this
def cutV (n : Nat) : Value → Value
  | .slice p m c => .slice (if c = n then p else p.map (·.add n)) (m - n) (c - n)
  | v => v
structure RX (B : Nat) (w : World) (go co n j : Nat) (rs : Nat → Value) (M : Nat → Nat → Nat) : Prop where
  o : w.ownsRow B 22 1 (.slice (some ⟨go, 0, none⟩) n co) n ((List.range n).map fun i => if i < j then cutV n (rs i) else rs i)
  r : ∀ i, i < n → w.ownsRow B 5 1 (rs i) (n + n) ((tbL (n + n) (M i)).map (Value.int .u8))
  b : ∀ i j, M i j < 256
theorem RX.start {B : Nat} {w : World} {go co n : Nat} {rs : Nat → Value} {M : Nat → Nat → Nat} (h : RM B w (.slice (some ⟨go, 0, none⟩) n co) n (n + n) rs M) : RX B w go co n 0 rs M :=
  ⟨by have := h.o; simpa using this, h.r, h.b⟩
theorem RX.all {B : Nat} {w : World} {go co n : Nat} {rs : Nat → Value} {M : Nat → Nat → Nat} (h : RX B w go co n n rs M) : ∀ i, i < n → w.cell? ⟨go, i, none⟩ = some (cutV n (rs i)) ∧ HB w (cutV n (rs i)) (tbL n fun j => M i (n + j)) := fun i hi => by
  refine ⟨?_, ?_⟩
  · have := h.o.cellAt i (by omega)
    rw [this, List.getElem?_map, List.getElem?_range hi, Option.map_some, if_pos hi]
  · have hb : HB w (rs i) (tbL (n + n) (M i)) := HB.of_own (by rw [tbL_length]; exact h.r i hi) (tbL_byt _ (h.b i))
    obtain ⟨p, c, e, _, _⟩ := hb.open
    rw [e] at hb ⊢
    have := hb.suf n (by rw [tbL_length]; omega)
    have e2 : (tbL (n + n) (M i)).drop n = tbL n fun j => M i (n + j) := by
      refine List.ext_getElem (by simp [tbL]) fun a h1 h2 => ?_
      simp [tbL]
    rw [e2] at this
    exact this
theorem RX.cut {B : Nat} {w : World} {go co n j : Nat} {rs : Nat → Value} {M : Nat → Nat → Nat} (h : RX B w go co n j rs M) (hj : j < n) : RX B (w.setCell ⟨go, j, none⟩ (cutV n (rs j))) go co n (j + 1) rs M := by
  refine ⟨?_, fun i hi => ?_, h.b⟩
  · have h1 := (h.o.stored j (cutV n (rs j))).1
    have e : ((List.range n).map fun i => if i < j then cutV n (rs i) else rs i).set j (cutV n (rs j)) = (List.range n).map fun i => if i < j + 1 then cutV n (rs i) else rs i := by
      refine List.ext_getElem (by simp) fun i h1 h2 => ?_
      simp only [List.getElem_set, List.getElem_map, List.getElem_range]
      by_cases e : j = i
      · rw [if_pos e, if_pos (by omega), e]
      · rw [if_neg e]
        by_cases q : i < j
        · rw [if_pos q, if_pos (by omega)]
        · rw [if_neg q, if_neg (by omega)]
    rw [← e]
    exact h1
  · refine own_blkR (h.r i hi) fun a q => heap_setCell_other _ _ _ _ ?_
    intro r
    have r : a = go := by simpa using r
    subst r
    exact own_nothR (h.r i hi) h.o (by decide) q rfl
set_option maxRecDepth 100000 in
set_option maxHeartbeats 8000000 in
theorem bsolved_any (w : World) (b g n : Nat) (l : List Int) (hb : w.cell? ⟨b, 0, none⟩ = some (.pointer (some ⟨g, 0, none⟩))) (h : HMt w g n n l) (hn1 : 1 ≤ n) (hn : n ≤ 256) :
    Calls Try.prog 53 #[.pointer (some ⟨g, 0, none⟩), .func (.func 54) #[] #[.pointer (some ⟨b, 0, none⟩)]] w fun e w' => Below w.heap.size w w' ∧
      (((FB.els n (Fd.bes n (mtN l n)) n).2 < n ∧ e = .returned (.tuple #[.slice none 0 0, .int .i64 71])) ∨ ((FB.els n (Fd.bes n (mtN l n)) n).2 = n ∧ ∃ (go co : Nat) (vs : Nat → Value), e = .returned (.tuple #[.slice (some ⟨go, 0, none⟩) n co, .int .i64 0]) ∧ n ≤ co ∧ co ≤ 9223372036854775807 ∧ ∀ i, i < n → w'.cell? ⟨go, i, none⟩ = some (vs i) ∧ HB w' (vs i) (tbL n fun j => (FB.els n (Fd.bes n (mtN l n)) n).1 i (n + j)))) := by
  have HMT := hid h
  have HCB := hid hb
  have h' := h
  obtain ⟨hl, v0, hh, hv⟩ := h'
  have HLn := hid hl
  have HBY := hid hv.2
  have C1 : w.cell? ⟨g, 1, none⟩ = some (.int .i64 (n : Int)) := by rw [cell_of_row _ _ _ _ _ _ hh]; rfl
  have hgw := (Array.getElem?_eq_some_iff.1 hh).1
  have HH := hid hh
  obtain ⟨i0, hi, hz0, hz1, hz2⟩ := info_parts info_bytes
  obtain ⟨w1, hmk, hown, hgr⟩ := run_make_full (P := Try.prog) w w.heap.size 29 22 i0 (.slice none 0 0) 1 Try.underlying29 hi hz0 hz1 .i64 .i64 n (by rw [hz2]; omega) (by unfold maxLen; omega) (Nat.le_refl _)
  have B1 : Hid (Below w.heap.size w w1) := hid ((Below.refl _ w).grown hgr (Nat.le_refl _) (fun k e => by cases e))
  have hown2 : w1.ownsRow w.heap.size 22 1 (.slice (some ⟨w.heap.size, 0, none⟩) n n) n ((List.range n).map fun _ => Value.slice none 0 0) := by
    have e : (madeCells (Value.slice none 0 0).cells (n * 1)).toList = (List.range n).map fun _ => Value.slice none 0 0 := by
      rw [show (Value.slice none 0 0).cells = #[Value.slice none 0 0] from rfl, toList_madeCells_one, Nat.mul_one]
      refine List.ext_getElem (by simp) fun i h1 h2 => by simp
    rw [← e]
    exact hown
  have R1 : Hid (RP w.heap.size w1 w.heap.size n n (n + n) 0 (fun _ => Value.slice none 0 0) (Fd.bes n (mtN l n))) := hid ⟨hown2, fun i hi => by omega, fun i j hi => by omega⟩
  have HMK : Hid ((Instr.makeSlice 29 (.int .i64 (n : Int)) (.int .i64 (n : Int))).run Try.prog w = .ok (.slice (some ⟨w.heap.size, 0, none⟩) n n) w1) := hid hmk
  clear hown hown2 hgr hmk hv hh hl hb
  go_enter Try.func53, Try.ntmps53
  have hmk := HMK.out
  go_wp2_with (first | rw [hmk] | fail)
  clear hmk HMK
  obtain ⟨go, HGO⟩ : ∃ x, Hid (w.heap.size = x) := ⟨_, hid rfl⟩
  have hgo : w.heap.size ≤ go := Nat.le_of_eq HGO.out
  rw [HGO.out]
  rw [show RP w.heap.size w1 w.heap.size n n (n + n) 0 (fun _ => Value.slice none 0 0) (Fd.bes n (mtN l n)) = RP w.heap.size w1 go n n (n + n) 0 (fun _ => Value.slice none 0 0) (Fd.bes n (mtN l n)) by rw [HGO.out]] at R1
  have HMT := hid h
  clear h
  go_loopw [17] (fun i wr => ∃ k : Nat, k ≤ n ∧ i = .int .i64 (k : Int) ∧ (∃ rs, Hid (RP w.heap.size wr go n n (n + n) k rs (Fd.bes n (mtN l n)))) ∧ Hid (Below w.heap.size w wr)) (fun i _ => n - (intOf i).toNat)
  case atStart => exact ⟨0, Nat.zero_le _, rfl, ⟨_, R1⟩, B1⟩
  case round =>
    clear R1 B1
    obtain ⟨k, hk, rfl, ⟨rs, HR⟩, HB1⟩ := hrel
    by_cases hkn : k < n
    · have M1 := hid (HMT.out.below HB1.out)
      have CR := hid (brow_any wr g n n l k M1.out hkn hn hn1 hn)
      go_wp2_with fail
      refine CR.out.mono ?_
      rintro e wa ⟨v1, rfl, hba, hda⟩
      have Ba := hid (hda.below wr.heap.size)
      have M2 := hid (M1.out.below Ba.out)
      have hbc := HCB.out
      have cb2 : wa.cell? ⟨b, 0, none⟩ = some (.pointer (some ⟨g, 0, none⟩)) := (Ba.out.cell (p := ⟨b, 0, none⟩) (Nat.lt_of_lt_of_le (World.block_lt_of_cell? w _ hbc) HB1.out.size)).trans ((HB1.out.cell (p := ⟨b, 0, none⟩) (World.block_lt_of_cell? w _ hbc)).trans hbc)
      have CU := hid (binv1_any wa b g n n l k cb2 M2.out hn hkn)
      have H1 := hid hba
      clear CR hba hda hbc cb2
      go_wp2_with fail
      refine CU.out.mono ?_
      rintro e wb ⟨v2, rfl, hbb, hbl⟩
      have H1b := hid (H1.out.below hbl)
      have H2b := hid hbb
      have Bb := hid (Ba.out.trans (hbl.mono Ba.out.size))
      clear CU hbb hbl
      obtain ⟨p1, c1, e1, _, _⟩ := H1b.out.open
      obtain ⟨p2, c2, e2, _, _⟩ := H2b.out.open
      rw [rwL_length HLn.out hkn] at e1
      rw [show (unI n k).length = n from tbL_length _ _] at e2
      subst e1
      subst e2
      obtain ⟨wc, HWC⟩ : ∃ x, Hid (wb.alloc (.cells #[.slice p1 n c1, .slice p2 n c2] 22) = x) := ⟨_, hid rfl⟩
      have Bc0 : Hid (Below wb.heap.size wb wc) := by rw [← HWC.out]; exact hid ((Below.refl _ _).alloc (Nat.le_refl _) _)
      have Bc := hid (Bb.out.trans (Bc0.out.mono Bb.out.size))
      have CC := hid (bconcat_two wc wb.heap.size (.slice p1 n c1) (.slice p2 n c2) _ _ (by rw [← HWC.out, cell_of_row _ _ _ _ _ _ (heap_alloc_new wb _)]; rfl) (by rw [← HWC.out, cell_of_row _ _ _ _ _ _ (heap_alloc_new wb _)]; rfl) (H1b.out.below Bc0.out) (H2b.out.below Bc0.out) (by rw [rwL_length HLn.out hkn, show (unI n k).length = n from tbL_length _ _]; omega))
      go_wp2_with (first | rw [HWC.out] | fail)
      refine CC.out.mono ?_
      rintro e wd ⟨v3, rfl, ho3, hb3⟩
      have Bd := hid (Bc.out.trans (hb3.mono Bc.out.size))
      have O3 : Hid (wd.ownsRow wr.heap.size 5 1 v3 (n + n) ((tbL (n + n) (Fd.bes n (mtN l n) k)).map (Value.int .u8))) := hid (by
        rw [rwL_tb HBY.out HLn.out hkn, bes_row _ _ _ hkn, tbL_length] at ho3
        exact own_mono ho3 Bc.out.size)
      obtain ⟨p3, c3, e3⟩ := own_slc O3.out
      subst e3
      have R4 := hid (HR.out.put hkn Bd.out O3.out HB1.out.size)
      have Rd := hid (HR.out.below Bd.out)
      have cd := Rd.out.o.cellAt k (by omega)
      have fd := Rd.out.o.frozenAt k
      rw [List.getElem?_map, List.getElem?_range hkn] at cd
      simp only [Option.map_some] at cd
      have B4 := hid (HB1.out.trans (Bd.out.mono HB1.out.size))
      have B5 : Hid (Below w.heap.size w (wd.setCell ⟨go, k, none⟩ (.slice p3 (n + n) c3))) := hid (B4.out.setCell (p := ⟨go, k, none⟩) hgo _)
      clear CC ho3 hb3 HR HB1
      go_wp2_with fail
      exact ⟨⟨k + 1, by omega, by go_num, ⟨_, R4⟩, B5⟩, by simp [intOf]; omega⟩
    · have hkn' : k = n := by omega
      subst hkn'
      have RMk := hid ((HR.out.rm (Fd.bes_ok (F := FB) (mtN_lt HBY.out k))).keep (w' := wr.drew) fun i => rfl)
      have CE := hid (eliminate_any wr.drew w.heap.size _ k (k + k) k rs _ RMk.out HB1.out.size (by omega) (by omega) (by omega) (by omega))
      have hblk := (HB1.out.block g hgw).trans HH.out
      have D0 : Hid (wr.drew.cell? ⟨g, 0, none⟩ = some gfF) := hid (by rw [cell_of_row _ _ _ _ _ _ (show wr.drew.heap[g]? = _ from hblk)]; rfl)
      have D2 : Hid (wr.drew.cell? ⟨g, 2, none⟩ = some (.int .i64 (k : Int))) := hid (by rw [cell_of_row _ _ _ _ _ _ (show wr.drew.heap[g]? = _ from hblk)]; rfl)
      have htn := (Fd.els_inv (L := k + k) (Fd.bes_ok (F := FB) (n := k) (mtN_lt HBY.out k)) (n := k) k).topn
      obtain ⟨tp, HTP⟩ : ∃ x, Hid ((FB.els k (Fd.bes k (mtN l k)) k).2 = x) := ⟨_, hid rfl⟩
      rw [HTP.out] at htn CE
      unfold gfF at CE D0
      clear hblk HR
      go_wp2_with fail
      refine wp_region_held_drew (S := (fun W : World => W.cell? ⟨g, 0, none⟩ = some (.iface 47 (.agg #[])) ∧ W.cell? ⟨g, 2, none⟩ = some (.int .i64 (k : Int)))) (by kernel_rfl) ⟨D0.out, D2.out⟩ (fun hHeld => ?_)
      have HS := hid hHeld
      clear hHeld
      change wpAnyH _ _ _ _ _ _ _ _ (World.drew _)
      refine wpAnyH_take (i := 0) (v := ?_) rfl (by kernel_rfl) (by kernel_rfl) (by kernel_rfl) (fun _ _ _ h => h) (Or.inl ⟨by rfl, ?q0⟩) HS.out ?_
      case q0 => intro w hSw; obtain ⟨hc0, hc1⟩ := hSw; go_simp; rfl
      simp only [Act.put, List.getElem_toArray, List.getElem_cons_zero, List.getElem_cons_succ, List.setIfInBounds_toArray, List.set_cons_zero, List.set_cons_succ]
      refine wpAnyH_take (i := 1) (v := ?_) rfl (by kernel_rfl) (by kernel_rfl) (by kernel_rfl) (fun _ _ _ h => h) (Or.inl ⟨by rfl, ?q1⟩) HS.out ?_
      case q1 => intro w hSw; obtain ⟨hc0, hc1⟩ := hSw; go_simp; rfl
      simp only [Act.put, List.getElem_toArray, List.getElem_cons_zero, List.getElem_cons_succ, List.setIfInBounds_toArray, List.set_cons_zero, List.set_cons_succ]
      refine wpAnyH_take (i := 2) (v := ?_) rfl (by kernel_rfl) (by kernel_rfl) (by kernel_rfl) (fun _ _ _ h => h) (Or.inl ⟨by rfl, ?q2⟩) HS.out ?_
      case q2 => intro w hSw; obtain ⟨hc0, hc1⟩ := hSw; go_simp; rfl
      simp only [Act.put, List.getElem_toArray, List.getElem_cons_zero, List.getElem_cons_succ, List.setIfInBounds_toArray, List.set_cons_zero, List.set_cons_succ]
      refine wpAnyH_take (i := 3) (v := ?_) rfl (by kernel_rfl) (by kernel_rfl) (by kernel_rfl) (fun _ _ _ h => h) (Or.inl ⟨by rfl, ?q3⟩) HS.out ?_
      case q3 => intro w hSw; obtain ⟨hc0, hc1⟩ := hSw; go_simp; rfl
      simp only [Act.put, List.getElem_toArray, List.getElem_cons_zero, List.getElem_cons_succ, List.setIfInBounds_toArray, List.set_cons_zero, List.set_cons_succ]
      refine wpAnyH_take (i := 4) (v := ?_) rfl (by kernel_rfl) (by kernel_rfl) (by kernel_rfl) (fun _ _ _ h => h) (Or.inl ⟨by rfl, ?q4⟩) HS.out ?_
      case q4 => intro w hSw; obtain ⟨hc0, hc1⟩ := hSw; go_simp; rfl
      simp only [Act.put, List.getElem_toArray, List.getElem_cons_zero, List.getElem_cons_succ, List.setIfInBounds_toArray, List.set_cons_zero, List.set_cons_succ]
      refine wpAnyH_take (i := 5) (v := ?_) rfl (by kernel_rfl) (by kernel_rfl) (by kernel_rfl) (fun _ _ _ h => h) (Or.inl ⟨by rfl, ?q5⟩) HS.out ?_
      case q5 => intro w hSw; obtain ⟨hc0, hc1⟩ := hSw; go_simp; rfl
      simp only [Act.put, List.getElem_toArray, List.getElem_cons_zero, List.getElem_cons_succ, List.setIfInBounds_toArray, List.set_cons_zero, List.set_cons_succ]
      refine wpAnyH_take (i := 6) (v := ?_) rfl (by kernel_rfl) (by kernel_rfl) (by kernel_rfl) (fun _ _ _ h => h) (Or.inl ⟨by rfl, ?q6⟩) HS.out ?_
      case q6 => intro w hSw; obtain ⟨hc0, hc1⟩ := hSw; go_simp; rfl
      simp only [Act.put, List.getElem_toArray, List.getElem_cons_zero, List.getElem_cons_succ, List.setIfInBounds_toArray, List.set_cons_zero, List.set_cons_succ]
      refine wpAnyH_take (i := 7) (v := ?_) rfl (by kernel_rfl) (by kernel_rfl) (by kernel_rfl) (fun _ _ _ h => h) (Or.inl ⟨by rfl, ?q7⟩) HS.out ?_
      case q7 => intro w hSw; obtain ⟨hc0, hc1⟩ := hSw; go_simp; rfl
      simp only [Act.put, List.getElem_toArray, List.getElem_cons_zero, List.getElem_cons_succ, List.setIfInBounds_toArray, List.set_cons_zero, List.set_cons_succ]
      refine wpAnyH_take (i := 8) (v := ?_) rfl (by kernel_rfl) (by kernel_rfl) (by kernel_rfl) (fun _ _ _ h => h) (Or.inl ⟨by rfl, ?q8⟩) HS.out ?_
      case q8 => intro w hSw; obtain ⟨hc0, hc1⟩ := hSw; go_simp; rfl
      simp only [Act.put, List.getElem_toArray, List.getElem_cons_zero, List.getElem_cons_succ, List.setIfInBounds_toArray, List.set_cons_zero, List.set_cons_succ]
      refine wpAnyH_take (i := 10) (v := ?_) rfl (by kernel_rfl) (by kernel_rfl) (by kernel_rfl) (fun _ _ _ h => h) (Or.inl ⟨by rfl, ?q10⟩) HS.out ?_
      case q10 => intro w hSw; obtain ⟨hc0, hc1⟩ := hSw; go_simp; rfl
      simp only [Act.put, List.getElem_toArray, List.getElem_cons_zero, List.getElem_cons_succ, List.setIfInBounds_toArray, List.set_cons_zero, List.set_cons_succ]
      refine wpAnyH_take (i := 11) (v := ?_) rfl (by kernel_rfl) (by kernel_rfl) (by kernel_rfl) (fun _ _ _ h => h) (Or.inl ⟨by rfl, ?q11⟩) HS.out ?_
      case q11 => intro w hSw; obtain ⟨hc0, hc1⟩ := hSw; go_simp; rfl
      simp only [Act.put, List.getElem_toArray, List.getElem_cons_zero, List.getElem_cons_succ, List.setIfInBounds_toArray, List.set_cons_zero, List.set_cons_succ]
      refine wpAnyH_take (i := 12) (v := ?_) rfl (by kernel_rfl) (by kernel_rfl) (by kernel_rfl) (fun _ _ _ h => h) (Or.inl ⟨by rfl, ?q12⟩) HS.out ?_
      case q12 => intro w hSw; obtain ⟨hc0, hc1⟩ := hSw; go_simp; rfl
      simp only [Act.put, List.getElem_toArray, List.getElem_cons_zero, List.getElem_cons_succ, List.setIfInBounds_toArray, List.set_cons_zero, List.set_cons_succ]
      refine wpAnyH_take (i := 13) (v := ?_) rfl (by kernel_rfl) (by kernel_rfl) (by kernel_rfl) (fun _ _ _ h => h) (Or.inl ⟨by rfl, ?q13⟩) HS.out ?_
      case q13 => intro w hSw; obtain ⟨hc0, hc1⟩ := hSw; go_simp; rfl
      simp only [Act.put, List.getElem_toArray, List.getElem_cons_zero, List.getElem_cons_succ, List.setIfInBounds_toArray, List.set_cons_zero, List.set_cons_succ]
      refine wpAnyH_ready (rs := [9]) (by kernel_rfl) (by simp) ?_
      refine AllReadyH.cons rfl (fun K hK => ?_) AllReadyH.nil
      replace hK := hid hK
      go_simp
      refine CE.out.mono ?_
      rintro e w5 ⟨rfl, ⟨rs5, hr5⟩, hb5⟩
      have R5 := hid hr5
      have B5 := hid (HB1.out.drew.trans hb5)
      have S5 : Hid (w5.cell? ⟨g, 0, none⟩ = some (.iface 47 (.agg #[])) ∧ w5.cell? ⟨g, 2, none⟩ = some (.int .i64 (k : Int))) := hid ⟨(hb5.cell (p := ⟨g, 0, none⟩) hgw).trans D0.out, (hb5.cell (p := ⟨g, 2, none⟩) hgw).trans D2.out⟩
      refine hK.out _ _ S5.out (fun _ => ?_)
      clear hK K CE HS hr5 hb5
      have HS := S5
      try simp only [Act.put, List.getElem_toArray, List.getElem_cons_zero, List.getElem_cons_succ, List.setIfInBounds_toArray, List.set_cons_zero, List.set_cons_succ]
      refine wpAnyH_take (i := 14) (v := ?_) rfl (by kernel_rfl) (by kernel_rfl) (by kernel_rfl) (fun _ _ _ h => h) (Or.inl ⟨by rfl, ?q14⟩) HS.out ?_
      case q14 => intro w hSw; obtain ⟨hc0, hc1⟩ := hSw; go_simp; rfl
      simp only [Act.put, List.getElem_toArray, List.getElem_cons_zero, List.getElem_cons_succ, List.setIfInBounds_toArray, List.set_cons_zero, List.set_cons_succ]
      refine wpAnyH_done (by kernel_rfl) ?_ _
      by_cases htk : tp < k
      · go_wp2_with fail
        go_ret2
        exact ⟨B5.out, .inl ⟨by rw [HTP.out]; exact htk, rfl⟩⟩
      · have htp : tp = k := by omega
        clear D0 RMk
        go_wp2_with fail
        go_loopw [49] (fun i wr => ∃ j : Nat, j ≤ k ∧ i = .int .i64 (j : Int) ∧ Hid (RX w.heap.size wr go k k j rs5 (FB.els k (Fd.bes k (mtN l k)) k).1) ∧ Hid (Below w.heap.size w wr)) (fun i _ => k - (intOf i).toNat)
        case atStart => exact ⟨0, Nat.zero_le _, rfl, hid (RX.start R5.out), B5⟩
        case round =>
          clear S5 B5 R5
          obtain ⟨j, hj, rfl, HX, HB5⟩ := hrel
          by_cases hjk : j < k
          · obtain ⟨gj, cj, hrj, hgj1, hgj2, hcj1, hcj2⟩ : ∃ g' c', rs5 j = .slice (some ⟨g', 0, none⟩) (k + k) c' ∧ w.heap.size ≤ g' ∧ g' < wr.heap.size ∧ k + k ≤ c' ∧ c' ≤ 9223372036854775807 := by
              rcases (HX.out.r j hjk).2 with ⟨_, h0⟩ | ⟨g', cap, cur, e, hB, hh, h3, h4, _⟩
              · omega
              · unfold maxLen at h4
                exact ⟨g', cap, e, hB, (Array.getElem?_eq_some_iff.1 hh).1, h3, h4⟩
            have HRJ := hid hrj
            have q1 : wr.cell? ⟨go, j, none⟩ = some (.slice (some ⟨gj, 0, none⟩) (k + k) cj) := by
              have := HX.out.o.cellAt j (by omega)
              rw [this, List.getElem?_map, List.getElem?_range hjk, Option.map_some, if_neg (Nat.lt_irrefl _), hrj]
            have qf := HX.out.o.frozenAt j
            have q2 : wr.cell? ⟨g, 2, none⟩ = some (.int .i64 (k : Int)) := by rw [cell_of_row _ _ _ _ _ _ ((HB5.out.block g hgw).trans HH.out)]; rfl
            have HX6 := hid (HX.out.cut hjk)
            have HB6 : Hid (Below w.heap.size w (wr.setCell ⟨go, j, none⟩ (cutV k (rs5 j)))) := hid (HB5.out.setCell (p := ⟨go, j, none⟩) hgo _)
            rw [hrj] at HX6 HB6
            have e9 : cutV k (.slice (some ⟨gj, 0, none⟩) (k + k) cj) = .slice (some ⟨gj, k, none⟩) k (cj - k) := by
              have hne : ¬ (cj = k) := by omega
              simp only [cutV, if_neg hne, Nat.add_sub_cancel, Option.map_some, Go.WideShapes.add_plain, Nat.zero_add]
            rw [e9] at HX6 HB6
            obtain ⟨k2, HK2⟩ : ∃ x, Hid (k + k = x) := ⟨_, hid rfl⟩
            rw [HK2.out] at q1 hcj1
            have hk2 : k ≤ k2 := by have := HK2.out; omega
            have hk3 : k < cj := by have := HK2.out; omega
            have hk4 : ¬ (cj = k) := by omega
            have hk5 : k2 - k = k := by have := HK2.out; omega
            clear hrj e9 HX HB5
            go_wp2_with fail
            exact ⟨⟨j + 1, by omega, by go_num, HX6, HB6⟩, by simp [intOf]; omega⟩
          · have hjk' : j = k := by omega
            subst hjk'
            go_wp2_with fail
            go_ret2
            exact ⟨HB5.out, .inr ⟨by rw [HTP.out]; exact htp, go, _, _, rfl, Nat.le_refl _, by omega, HX.out.all⟩⟩
def ivL (l : List Int) (n : Nat) : List Int := catL (fun i => tbL n fun j => (FB.els n (Fd.bes n (mtN l n)) n).1 i (n + j)) n
theorem catL_len {ls : Nat → List Int} {c : Nat} : ∀ {n : Nat}, (∀ i, i < n → (ls i).length = c) → (catL ls n).length = n * c
  | 0, _ => by simp [catL]
  | n + 1, h => by
    show (catL ls n ++ ls n).length = _
    rw [List.length_append, catL_len fun i hi => h i (by omega), h n (by omega), Nat.succ_mul]
theorem catL_byt {ls : Nat → List Int} : ∀ {n : Nat}, (∀ i, i < n → ∀ x ∈ ls i, 0 ≤ x ∧ x < 256) → ∀ x ∈ catL ls n, 0 ≤ x ∧ x < 256
  | 0, _, x, hx => by cases hx
  | n + 1, h, x, hx => by
    rcases List.mem_append.1 (show x ∈ catL ls n ++ ls n from hx) with q | q
    · exact catL_byt (fun i hi => h i (by omega)) x q
    · exact h n (by omega) x q
theorem ivL_len (l : List Int) (n : Nat) : (ivL l n).length = n * n := catL_len fun i _ => tbL_length _ _
set_option maxRecDepth 100000 in
set_option maxHeartbeats 8000000 in
theorem binverse_any (w : World) (g n : Nat) (l : List Int) (h : HMt w g n n l) (hn1 : 1 ≤ n) (hn : n ≤ 256) :
    Calls Try.prog 40 #[.pointer (some ⟨g, 0, none⟩)] w fun e w' => Below w.heap.size w w' ∧
      (((FB.els n (Fd.bes n (mtN l n)) n).2 < n ∧ e = .returned (.tuple #[.pointer none, .int .i64 71])) ∨ ((FB.els n (Fd.bes n (mtN l n)) n).2 = n ∧ ∃ g', e = .returned (.tuple #[.pointer (some ⟨g', 0, none⟩), .int .i64 0]) ∧ w.heap.size ≤ g' ∧ HMt w' g' n n (ivL l n))) := by
  obtain ⟨w1, HW1⟩ : ∃ x, Hid (w.alloc (.cells #[.pointer (some ⟨g, 0, none⟩)] 43) = x) := ⟨_, hid rfl⟩
  have B1 : Hid (Below w.heap.size w w1) := by rw [← HW1.out]; exact hid ((Below.refl _ _).alloc (Nat.le_refl _) _)
  have H1 := hid (h.below B1.out)
  have CB : Hid (w1.cell? ⟨w.heap.size, 0, none⟩ = some (.pointer (some ⟨g, 0, none⟩))) := by rw [← HW1.out, cell_of_row _ _ _ _ _ _ (heap_alloc_new w _)]; exact hid rfl
  obtain ⟨b, HBB⟩ : ∃ x, Hid (w.heap.size = x) := ⟨_, hid rfl⟩
  rw [HBB.out] at CB
  have HBY := hid h.2.choose_spec.2.2
  have HL := hid h.1
  have CM := hid (bmade_any w1 g n n l H1.out)
  have CS := hid (bsolved_any w1.drew b g n l CB.out (H1.out.below (Below.refl _ _).drew) hn1 hn)
  obtain ⟨_, v0, hh, _⟩ := H1.out
  have C0 : Hid (w1.cell? ⟨g, 0, none⟩ = some (.iface 47 (.agg #[]))) := hid (by rw [cell_of_row _ _ _ _ _ _ hh]; rfl)
  have C1 : Hid (w1.cell? ⟨g, 1, none⟩ = some (.int .i64 (n : Int))) := hid (by rw [cell_of_row _ _ _ _ _ _ hh]; rfl)
  have C2 : Hid (w1.cell? ⟨g, 2, none⟩ = some (.int .i64 (n : Int))) := hid (by rw [cell_of_row _ _ _ _ _ _ hh]; rfl)
  clear hh h
  have cb := CB.out
  go_enter Try.func40, Try.ntmps40
  go_wp2_with (first | rw [HW1.out] | rw [HBB.out] | fail)
  refine CM.out.mono ?_
  rintro e wq ⟨rfl, hwq⟩
  rw [hwq]
  clear hwq wq CM
  go_wp2_with fail
  refine wp_region_held_drew (S := (fun W : World => W.cell? ⟨b, 0, none⟩ = some (.pointer (some ⟨g, 0, none⟩)) ∧ W.cell? ⟨g, 1, none⟩ = some (.int .i64 (n : Int)) ∧ W.cell? ⟨g, 2, none⟩ = some (.int .i64 (n : Int)))) (by kernel_rfl) ⟨CB.out, C1.out, C2.out⟩ (fun hHeld => ?_)
  have HS := hid hHeld
  clear hHeld
  change wpAnyH _ _ _ _ _ _ _ _ (World.drew _)
  refine wpAnyH_take (i := 0) (v := ?_) rfl (by kernel_rfl) (by kernel_rfl) (by kernel_rfl) (fun _ _ _ h => h) (Or.inl ⟨by rfl, ?q0⟩) HS.out ?_
  case q0 => intro w hSw; obtain ⟨hc0, hc1, hc2⟩ := hSw; go_simp; rfl
  simp only [Act.put, List.getElem_toArray, List.getElem_cons_zero, List.getElem_cons_succ, List.setIfInBounds_toArray, List.set_cons_zero, List.set_cons_succ]
  refine wpAnyH_take (i := 1) (v := ?_) rfl (by kernel_rfl) (by kernel_rfl) (by kernel_rfl) (fun _ _ _ h => h) (Or.inl ⟨by rfl, ?q1⟩) HS.out ?_
  case q1 => intro w hSw; obtain ⟨hc0, hc1, hc2⟩ := hSw; go_simp; rfl
  simp only [Act.put, List.getElem_toArray, List.getElem_cons_zero, List.getElem_cons_succ, List.setIfInBounds_toArray, List.set_cons_zero, List.set_cons_succ]
  refine wpAnyH_take (i := 2) (v := ?_) rfl (by kernel_rfl) (by kernel_rfl) (by kernel_rfl) (fun _ _ _ h => h) (Or.inl ⟨by rfl, ?q2⟩) HS.out ?_
  case q2 => intro w hSw; obtain ⟨hc0, hc1, hc2⟩ := hSw; go_simp; rfl
  simp only [Act.put, List.getElem_toArray, List.getElem_cons_zero, List.getElem_cons_succ, List.setIfInBounds_toArray, List.set_cons_zero, List.set_cons_succ]
  refine wpAnyH_take (i := 3) (v := ?_) rfl (by kernel_rfl) (by kernel_rfl) (by kernel_rfl) (fun _ _ _ h => h) (Or.inl ⟨by rfl, ?q3⟩) HS.out ?_
  case q3 => intro w hSw; obtain ⟨hc0, hc1, hc2⟩ := hSw; go_simp; rfl
  simp only [Act.put, List.getElem_toArray, List.getElem_cons_zero, List.getElem_cons_succ, List.setIfInBounds_toArray, List.set_cons_zero, List.set_cons_succ]
  refine wpAnyH_take (i := 4) (v := ?_) rfl (by kernel_rfl) (by kernel_rfl) (by kernel_rfl) (fun _ _ _ h => h) (Or.inl ⟨by rfl, ?q4⟩) HS.out ?_
  case q4 => intro w hSw; obtain ⟨hc0, hc1, hc2⟩ := hSw; go_simp; rfl
  simp only [Act.put, List.getElem_toArray, List.getElem_cons_zero, List.getElem_cons_succ, List.setIfInBounds_toArray, List.set_cons_zero, List.set_cons_succ]
  refine wpAnyH_take (i := 5) (v := ?_) rfl (by kernel_rfl) (by kernel_rfl) (by kernel_rfl) (fun _ _ _ h => h) (Or.inl ⟨by rfl, ?q5⟩) HS.out ?_
  case q5 => intro w hSw; obtain ⟨hc0, hc1, hc2⟩ := hSw; go_simp; rfl
  simp only [Act.put, List.getElem_toArray, List.getElem_cons_zero, List.getElem_cons_succ, List.setIfInBounds_toArray, List.set_cons_zero, List.set_cons_succ]
  refine wpAnyH_take (i := 6) (v := ?_) rfl (by kernel_rfl) (by kernel_rfl) (by kernel_rfl) (fun _ _ _ h => h) (Or.inl ⟨by rfl, ?q6⟩) HS.out ?_
  case q6 => intro w hSw; obtain ⟨hc0, hc1, hc2⟩ := hSw; go_simp; rfl
  simp only [Act.put, List.getElem_toArray, List.getElem_cons_zero, List.getElem_cons_succ, List.setIfInBounds_toArray, List.set_cons_zero, List.set_cons_succ]
  refine wpAnyH_take (i := 7) (v := ?_) rfl (by kernel_rfl) (by kernel_rfl) (by kernel_rfl) (fun _ _ _ h => h) (Or.inl ⟨by rfl, ?q7⟩) HS.out ?_
  case q7 => intro w hSw; obtain ⟨hc0, hc1, hc2⟩ := hSw; go_simp; rfl
  simp only [Act.put, List.getElem_toArray, List.getElem_cons_zero, List.getElem_cons_succ, List.setIfInBounds_toArray, List.set_cons_zero, List.set_cons_succ]
  refine wpAnyH_take (i := 8) (v := ?_) rfl (by kernel_rfl) (by kernel_rfl) (by kernel_rfl) (fun _ _ _ h => h) (Or.inl ⟨by rfl, ?q8⟩) HS.out ?_
  case q8 => intro w hSw; obtain ⟨hc0, hc1, hc2⟩ := hSw; go_simp; rfl
  simp only [Act.put, List.getElem_toArray, List.getElem_cons_zero, List.getElem_cons_succ, List.setIfInBounds_toArray, List.set_cons_zero, List.set_cons_succ]
  refine wpAnyH_done (by kernel_rfl) ?_ _
  go_wp2_with fail
  refine CS.out.mono ?_
  rintro e w5 ⟨hb5, hcase⟩
  have B5 := hid (B1.out.trans ((Below.refl _ w1).drew.trans hb5 |>.mono B1.out.size))
  have hg1 := World.block_lt_of_cell? w1 _ C0.out
  have hb1 := World.block_lt_of_cell? w1 _ CB.out
  have Y0 := hid ((hb5.cell (p := ⟨g, 0, none⟩) hg1).trans C0.out)
  have Y1 := hid ((hb5.cell (p := ⟨g, 1, none⟩) hg1).trans C1.out)
  have Y2 := hid ((hb5.cell (p := ⟨g, 2, none⟩) hg1).trans C2.out)
  have YB := hid ((hb5.cell (p := ⟨b, 0, none⟩) hb1).trans CB.out)
  clear CS hb5 cb HS
  rcases hcase with ⟨hlt, rfl⟩ | ⟨heq, go, co, vs, rfl, hco1, hco2, hall⟩
  · have HLT := hid hlt
    clear hlt
    go_wp2_with fail
    go_ret2
    exact ⟨B5.out, .inl ⟨HLT.out, rfl⟩⟩
  · have HEQ := hid heq
    have hT : (ivL l n).length = n * n := ivL_len l n
    have hnn : n * n ≤ 65536 := Nat.mul_le_mul hn hn
    have CC := hid (bconcat_any w5.drew go n co vs (fun i => tbL n fun j => (FB.els n (Fd.bes n (mtN l n)) n).1 i (n + j)) (by omega) hco1 hco2 (fun i hi => (hall i hi).1) (fun i hi => (hall i hi).2.below (Below.refl _ _).drew) (by show (ivL l n).length ≤ _; rw [hT]; omega))
    have CC : Hid (Calls Try.prog 56 #[.slice (some ⟨go, 0, none⟩) n co] w5.drew fun e w' => ∃ v, e = .returned v ∧ w'.ownsRow w5.drew.heap.size 5 1 v (ivL l n).length ((ivL l n).map (Value.int .u8)) ∧ Below w5.drew.heap.size w5.drew w') := CC
    have HTT := hid hT
    have HNN := hid hnn
    have HBI : Hid (∀ x ∈ ivL l n, 0 ≤ x ∧ x < 256) := hid (catL_byt fun i hi => (hall i hi).2.2)
    clear heq hall hT hnn
    go_wp2_with fail
    refine wp_region_held_drew (S := (fun W : World => W.cell? ⟨b, 0, none⟩ = some (.pointer (some ⟨g, 0, none⟩)) ∧ W.cell? ⟨g, 0, none⟩ = some (.iface 47 (.agg #[])) ∧ W.cell? ⟨g, 1, none⟩ = some (.int .i64 (n : Int)) ∧ W.cell? ⟨g, 2, none⟩ = some (.int .i64 (n : Int)))) (by kernel_rfl) ⟨YB.out, Y0.out, Y1.out, Y2.out⟩ (fun hHeld => ?_)
    have HS := hid hHeld
    clear hHeld
    change wpAnyH _ _ _ _ _ _ _ _ (World.drew _)
    refine wpAnyH_take (i := 0) (v := ?_) rfl (by kernel_rfl) (by kernel_rfl) (by kernel_rfl) (fun _ _ _ h => h) (Or.inl ⟨by rfl, ?q0⟩) HS.out ?_
    case q0 => intro w hSw; obtain ⟨hc0, hc1, hc2, hc3⟩ := hSw; go_simp; rfl
    simp only [Act.put, List.getElem_toArray, List.getElem_cons_zero, List.getElem_cons_succ, List.setIfInBounds_toArray, List.set_cons_zero, List.set_cons_succ]
    refine wpAnyH_take (i := 1) (v := ?_) rfl (by kernel_rfl) (by kernel_rfl) (by kernel_rfl) (fun _ _ _ h => h) (Or.inl ⟨by rfl, ?q1⟩) HS.out ?_
    case q1 => intro w hSw; obtain ⟨hc0, hc1, hc2, hc3⟩ := hSw; go_simp; rfl
    simp only [Act.put, List.getElem_toArray, List.getElem_cons_zero, List.getElem_cons_succ, List.setIfInBounds_toArray, List.set_cons_zero, List.set_cons_succ]
    refine wpAnyH_take (i := 2) (v := ?_) rfl (by kernel_rfl) (by kernel_rfl) (by kernel_rfl) (fun _ _ _ h => h) (Or.inl ⟨by rfl, ?q2⟩) HS.out ?_
    case q2 => intro w hSw; obtain ⟨hc0, hc1, hc2, hc3⟩ := hSw; go_simp; rfl
    simp only [Act.put, List.getElem_toArray, List.getElem_cons_zero, List.getElem_cons_succ, List.setIfInBounds_toArray, List.set_cons_zero, List.set_cons_succ]
    refine wpAnyH_take (i := 3) (v := ?_) rfl (by kernel_rfl) (by kernel_rfl) (by kernel_rfl) (fun _ _ _ h => h) (Or.inl ⟨by rfl, ?q3⟩) HS.out ?_
    case q3 => intro w hSw; obtain ⟨hc0, hc1, hc2, hc3⟩ := hSw; go_simp; rfl
    simp only [Act.put, List.getElem_toArray, List.getElem_cons_zero, List.getElem_cons_succ, List.setIfInBounds_toArray, List.set_cons_zero, List.set_cons_succ]
    refine wpAnyH_take (i := 4) (v := ?_) rfl (by kernel_rfl) (by kernel_rfl) (by kernel_rfl) (fun _ _ _ h => h) (Or.inl ⟨by rfl, ?q4⟩) HS.out ?_
    case q4 => intro w hSw; obtain ⟨hc0, hc1, hc2, hc3⟩ := hSw; go_simp; rfl
    simp only [Act.put, List.getElem_toArray, List.getElem_cons_zero, List.getElem_cons_succ, List.setIfInBounds_toArray, List.set_cons_zero, List.set_cons_succ]
    refine wpAnyH_take (i := 5) (v := ?_) rfl (by kernel_rfl) (by kernel_rfl) (by kernel_rfl) (fun _ _ _ h => h) (Or.inl ⟨by rfl, ?q5⟩) HS.out ?_
    case q5 => intro w hSw; obtain ⟨hc0, hc1, hc2, hc3⟩ := hSw; go_simp; rfl
    simp only [Act.put, List.getElem_toArray, List.getElem_cons_zero, List.getElem_cons_succ, List.setIfInBounds_toArray, List.set_cons_zero, List.set_cons_succ]
    refine wpAnyH_take (i := 6) (v := ?_) rfl (by kernel_rfl) (by kernel_rfl) (by kernel_rfl) (fun _ _ _ h => h) (Or.inl ⟨by rfl, ?q6⟩) HS.out ?_
    case q6 => intro w hSw; obtain ⟨hc0, hc1, hc2, hc3⟩ := hSw; go_simp; rfl
    simp only [Act.put, List.getElem_toArray, List.getElem_cons_zero, List.getElem_cons_succ, List.setIfInBounds_toArray, List.set_cons_zero, List.set_cons_succ]
    refine wpAnyH_take (i := 7) (v := ?_) rfl (by kernel_rfl) (by kernel_rfl) (by kernel_rfl) (fun _ _ _ h => h) (Or.inl ⟨by rfl, ?q7⟩) HS.out ?_
    case q7 => intro w hSw; obtain ⟨hc0, hc1, hc2, hc3⟩ := hSw; go_simp; rfl
    simp only [Act.put, List.getElem_toArray, List.getElem_cons_zero, List.getElem_cons_succ, List.setIfInBounds_toArray, List.set_cons_zero, List.set_cons_succ]
    refine wpAnyH_take (i := 8) (v := ?_) rfl (by kernel_rfl) (by kernel_rfl) (by kernel_rfl) (fun _ _ _ h => h) (Or.inl ⟨by rfl, ?q8⟩) HS.out ?_
    case q8 => intro w hSw; obtain ⟨hc0, hc1, hc2, hc3⟩ := hSw; go_simp; rfl
    simp only [Act.put, List.getElem_toArray, List.getElem_cons_zero, List.getElem_cons_succ, List.setIfInBounds_toArray, List.set_cons_zero, List.set_cons_succ]
    refine wpAnyH_take (i := 9) (v := ?_) rfl (by kernel_rfl) (by kernel_rfl) (by kernel_rfl) (fun _ _ _ h => h) (Or.inl ⟨by rfl, ?q9⟩) HS.out ?_
    case q9 => intro w hSw; obtain ⟨hc0, hc1, hc2, hc3⟩ := hSw; go_simp; rfl
    simp only [Act.put, List.getElem_toArray, List.getElem_cons_zero, List.getElem_cons_succ, List.setIfInBounds_toArray, List.set_cons_zero, List.set_cons_succ]
    refine wpAnyH_take (i := 10) (v := ?_) rfl (by kernel_rfl) (by kernel_rfl) (by kernel_rfl) (fun _ _ _ h => h) (Or.inl ⟨by rfl, ?q10⟩) HS.out ?_
    case q10 => intro w hSw; obtain ⟨hc0, hc1, hc2, hc3⟩ := hSw; go_simp; rfl
    simp only [Act.put, List.getElem_toArray, List.getElem_cons_zero, List.getElem_cons_succ, List.setIfInBounds_toArray, List.set_cons_zero, List.set_cons_succ]
    refine wpAnyH_take (i := 11) (v := ?_) rfl (by kernel_rfl) (by kernel_rfl) (by kernel_rfl) (fun _ _ _ h => h) (Or.inl ⟨by rfl, ?q11⟩) HS.out ?_
    case q11 => intro w hSw; obtain ⟨hc0, hc1, hc2, hc3⟩ := hSw; go_simp; rfl
    simp only [Act.put, List.getElem_toArray, List.getElem_cons_zero, List.getElem_cons_succ, List.setIfInBounds_toArray, List.set_cons_zero, List.set_cons_succ]
    refine wpAnyH_take (i := 12) (v := ?_) rfl (by kernel_rfl) (by kernel_rfl) (by kernel_rfl) (fun _ _ _ h => h) (Or.inl ⟨by rfl, ?q12⟩) HS.out ?_
    case q12 => intro w hSw; obtain ⟨hc0, hc1, hc2, hc3⟩ := hSw; go_simp; rfl
    simp only [Act.put, List.getElem_toArray, List.getElem_cons_zero, List.getElem_cons_succ, List.setIfInBounds_toArray, List.set_cons_zero, List.set_cons_succ]
    refine wpAnyH_ready (rs := [13]) (by kernel_rfl) (by simp) ?_
    refine AllReadyH.cons rfl (fun K hK => ?_) AllReadyH.nil
    replace hK := hid hK
    go_simp
    refine CC.out.mono ?_
    rintro e w6 ⟨v6, rfl, ho6, hb6⟩
    have hb6w : Below w5.heap.size w5 w6 := (Below.refl _ w5).drew.trans hb6
    have B6 := hid (B5.out.trans (hb6w.mono B5.out.size))
    have S6 : Hid (w6.cell? ⟨b, 0, none⟩ = some (.pointer (some ⟨g, 0, none⟩)) ∧ w6.cell? ⟨g, 0, none⟩ = some (.iface 47 (.agg #[])) ∧ w6.cell? ⟨g, 1, none⟩ = some (.int .i64 (n : Int)) ∧ w6.cell? ⟨g, 2, none⟩ = some (.int .i64 (n : Int))) := hid ⟨(hb6w.cell (p := ⟨b, 0, none⟩) (World.block_lt_of_cell? w5 _ YB.out)).trans YB.out, (hb6w.cell (p := ⟨g, 0, none⟩) (World.block_lt_of_cell? w5 _ Y0.out)).trans Y0.out, (hb6w.cell (p := ⟨g, 1, none⟩) (World.block_lt_of_cell? w5 _ Y1.out)).trans Y1.out, (hb6w.cell (p := ⟨g, 2, none⟩) (World.block_lt_of_cell? w5 _ Y2.out)).trans Y2.out⟩
    have H6 : Hid (HB w6 v6 (ivL l n)) := hid (HB.of_own ho6 HBI.out)
    rw [HTT.out] at ho6
    obtain ⟨p6, c6, e6⟩ := own_slc ho6
    subst e6
    refine hK.out _ _ S6.out (fun _ => ?_)
    clear hK K CC HS ho6 hb6 hb6w
    have HS := S6
    try simp only [Act.put, List.getElem_toArray, List.getElem_cons_zero, List.getElem_cons_succ, List.setIfInBounds_toArray, List.set_cons_zero, List.set_cons_succ]
    refine wpAnyH_take (i := 14) (v := ?_) rfl (by kernel_rfl) (by kernel_rfl) (by kernel_rfl) (fun _ _ _ h => h) (Or.inl ⟨by rfl, ?q14⟩) HS.out ?_
    case q14 => intro w hSw; obtain ⟨hc0, hc1, hc2, hc3⟩ := hSw; go_simp; rfl
    simp only [Act.put, List.getElem_toArray, List.getElem_cons_zero, List.getElem_cons_succ, List.setIfInBounds_toArray, List.set_cons_zero, List.set_cons_succ]
    refine wpAnyH_ready (rs := [15]) (by kernel_rfl) (by simp) ?_
    refine AllReadyH.cons rfl (fun K hK => ?_) AllReadyH.nil
    replace hK := hid hK
    go_simp
    obtain ⟨w7, HW7⟩ : ∃ x, Hid (w6.alloc (.cells #[.iface 47 (.agg #[]), .int .i64 (n : Int), .int .i64 (n : Int), .slice p6 (n * n) c6] 71) = x) := ⟨_, hid rfl⟩
    have b67 : Below w6.heap.size w6 w7 := by rw [← HW7.out]; exact (Below.refl _ _).alloc (Nat.le_refl _) _
    have B7 := hid (B6.out.trans (b67.mono B6.out.size))
    have M7 : Hid (HMt w7 w6.heap.size n n (ivL l n)) := by rw [← HW7.out]; exact hid ⟨HTT.out, _, heap_alloc_new w6 _, H6.out.below ((Below.refl _ _).alloc (Nat.le_refl _) _)⟩
    have S7 : Hid (w7.cell? ⟨b, 0, none⟩ = some (.pointer (some ⟨g, 0, none⟩)) ∧ w7.cell? ⟨g, 0, none⟩ = some (.iface 47 (.agg #[])) ∧ w7.cell? ⟨g, 1, none⟩ = some (.int .i64 (n : Int)) ∧ w7.cell? ⟨g, 2, none⟩ = some (.int .i64 (n : Int))) := hid ⟨(b67.cell (p := ⟨b, 0, none⟩) (World.block_lt_of_cell? w6 _ S6.out.1)).trans S6.out.1, (b67.cell (p := ⟨g, 0, none⟩) (World.block_lt_of_cell? w6 _ S6.out.2.1)).trans S6.out.2.1, (b67.cell (p := ⟨g, 1, none⟩) (World.block_lt_of_cell? w6 _ S6.out.2.2.1)).trans S6.out.2.2.1, (b67.cell (p := ⟨g, 2, none⟩) (World.block_lt_of_cell? w6 _ S6.out.2.2.2)).trans S6.out.2.2.2⟩
    rw [HW7.out]
    refine hK.out _ _ S7.out (fun _ => ?_)
    clear hK K HS b67
    have HS := S7
    try simp only [Act.put, List.getElem_toArray, List.getElem_cons_zero, List.getElem_cons_succ, List.setIfInBounds_toArray, List.set_cons_zero, List.set_cons_succ]
    refine wpAnyH_take (i := 16) (v := ?_) rfl (by kernel_rfl) (by kernel_rfl) (by kernel_rfl) (fun _ _ _ h => h) (Or.inl ⟨by rfl, ?q16⟩) HS.out ?_
    case q16 => intro w hSw; obtain ⟨hc0, hc1, hc2, hc3⟩ := hSw; go_simp; rfl
    simp only [Act.put, List.getElem_toArray, List.getElem_cons_zero, List.getElem_cons_succ, List.setIfInBounds_toArray, List.set_cons_zero, List.set_cons_succ]
    refine wpAnyH_take (i := 17) (v := ?_) rfl (by kernel_rfl) (by kernel_rfl) (by kernel_rfl) (fun _ _ _ h => h) (Or.inl ⟨by rfl, ?q17⟩) HS.out ?_
    case q17 => intro w hSw; obtain ⟨hc0, hc1, hc2, hc3⟩ := hSw; go_simp; rfl
    simp only [Act.put, List.getElem_toArray, List.getElem_cons_zero, List.getElem_cons_succ, List.setIfInBounds_toArray, List.set_cons_zero, List.set_cons_succ]
    refine wpAnyH_done (by kernel_rfl) ?_ _
    go_wp2_with fail
    go_ret2
    exact ⟨B7.out, .inr ⟨HEQ.out, _, rfl, B6.out.size, M7.out⟩⟩
theorem run_append_bytesW (w : World) (base : Nat) (ty : TypeId) (v : Value) (n : Nat) (xs : List Value) (hown : w.ownsRow base 5 1 v n xs) (ad : Addr) (c : Nat) (l : List Int) (hnews : ∀ j u, (l.map (Value.int .u8))[j]? = some u → w.cell? (ad.add j) = some u) (hn : n + l.length ≤ 140737488355328) (hbase : base ≤ w.heap.size) :
    ∃ v' w', (Builtin.append_ #[22, 22] ty #[v, .slice (some ad) l.length c]).run Try.prog w = .ok v' w' ∧ w'.ownsRow base 5 1 v' (n + l.length) (xs ++ l.map (Value.int .u8)) ∧ w.grownBy w' v.ownBlock ∧
      (v'.ownBlock = v.ownBlock ∨ v'.ownBlock = some w.heap.size) := by
  obtain ⟨i0, hi, hz0, hz1, hz2⟩ := info_parts info_u8
  have h1 : ∀ u ∈ l.map (Value.int .u8), u.oneCell' = true := by intro u hu; obtain ⟨x, _, rfl⟩ := List.mem_map.1 hu; rfl
  have hl : (l.map (Value.int .u8)).length = l.length * 1 := by simp
  obtain ⟨v', w', hr, h2, h3, h4⟩ := run_append_own (P := Try.prog) w base 22 ty 5 i0 (.int .u8 0) 1 1 Try.underlying22 hi hz0 hz1 hz2 rfl (by decide) v n xs hown ad l.length c (l.map (Value.int .u8)) hl hnews h1 (by unfold maxLen; omega) (by omega) hbase
  refine ⟨v', w', hr, h2, h3, ?_⟩
  rcases hown.2 with ⟨rfl, rfl⟩ | ⟨g, cap, cur, rfl, hbg, hg, hnc, hcm, hcs, htake⟩
  · by_cases h0 : 0 < l.length
    · have hr2 := run_append_nil (P := Try.prog) w 22 ty 5 i0 (.int .u8 0) Try.underlying22 hi hz0 ad l.length c (l.map (Value.int .u8)) (by rw [hz1]; exact hl) hnews (by omega) (by omega) (by rw [hz2]; omega)
      rw [hr] at hr2
      simp only [Result.ok.injEq] at hr2
      obtain ⟨rfl, rfl⟩ := hr2
      exact .inr rfl
    · have := h4.2 ⟨rfl, by omega⟩
      rw [this]
      exact .inl rfl
  · by_cases hroom : n + l.length ≤ cap
    · obtain ⟨w2, hr2, _⟩ := run_append_fits (P := Try.prog) w base 22 ty 5 i0 1 Try.underlying22 hi hz1 g n cap xs hown ad l.length c (l.map (Value.int .u8)) hl hnews h1 hroom
      rw [hr] at hr2
      simp only [Result.ok.injEq] at hr2
      obtain ⟨rfl, rfl⟩ := hr2
      exact .inl rfl
    · have hr2 := run_append_grow (P := Try.prog) w 22 ty 5 i0 (.int .u8 0) Try.underlying22 hi hz0 ⟨g, 0, none⟩ n cap xs (by rw [hz1]; exact hown.1) (hown.cells (g := g) rfl) ad l.length c (l.map (Value.int .u8)) (by rw [hz1]; exact hl) hnews (by omega) (by omega) (growslice_fits (by omega) (by rw [hz2]; omega))
      rw [hr] at hr2
      simp only [Result.ok.injEq] at hr2
      obtain ⟨rfl, rfl⟩ := hr2
      exact .inr rfl
theorem wp_append_bytesW {w : World} {o : Oper} {a : Act} {K : Act → World → Prop} {Q : Exit → Act → World → Prop} (s x : Operand)
    (ho : o.op = .call { callee := .builtin .append, args := #[s, x], argTypes := #[22, 22] })
    (base : Nat) (v : Value) (n : Nat) (xs : List Value) (hs : a.eval s = v) (hown : w.ownsRow base 5 1 v n xs)
    (u : Value) (l : List Int) (hx : a.eval x = u) (hu : HB w u l) (hn : n + l.length ≤ 140737488355328) (hbase : base ≤ w.heap.size)
    (h : ∀ v' w', w'.ownsRow base 5 1 v' (n + l.length) (xs ++ l.map (Value.int .u8)) → w.grownBy w' v.ownBlock → (v'.ownBlock = v.ownBlock ∨ v'.ownBlock = some w.heap.size) → K (a.put o.dst v') w') : o.wp Try.prog a w K Q := by
  obtain ⟨i0, hi, hz0, hz1, hz2⟩ := info_parts info_u8
  obtain ⟨⟨p, c, rfl, hlc, hm, hpn, hcell⟩, hby⟩ := hu
  cases p with
  | none =>
    have e : l = [] := by
      apply Classical.byContradiction
      intro hne
      obtain ⟨b, off, e, _⟩ := hcell hne
      cases e
    subst e
    have hc0 := hpn rfl
    subst hc0
    have hrun := run_append_owned_none (P := Try.prog) (w := w) base 22 o.type 5 i0 1 Try.underlying22 hi v n xs hown
    have hx' : a.eval x = .slice none 0 0 := hx
    unfold Oper.wp
    simp [execOp, ho, resolve, invoke, builtin, hs, hx', hrun, Result.andThen]
    exact h v w (by simpa using hown) ⟨rfl, rfl, rfl, Nat.le_refl _, fun _ _ _ => rfl⟩ (.inl rfl)
  | some ad =>
    have hnews : ∀ j u, (l.map (Value.int .u8))[j]? = some u → w.cell? (ad.add j) = some u := by
      intro j q hj
      have hjn : j < l.length := by
        have := (List.getElem?_eq_some_iff.1 hj).1
        simpa using this
      obtain ⟨b, off, e, hc⟩ := hcell (fun e => by rw [e] at hjn; simp at hjn)
      have e := Option.some.inj e
      have e2 : (l.map (Value.int .u8))[j]? = some (Value.int .u8 (l.getD j 0)) := by simp [List.getD, List.getElem?_eq_getElem hjn]
      rw [e2] at hj
      rw [e, Go.WideShapes.add_plain, hc j hjn]
      exact hj
    obtain ⟨v', w', hr, h2, h3, h4⟩ := run_append_bytesW w base o.type v n xs hown ad c l hnews hn hbase
    unfold Oper.wp execOp
    simp only [ho, resolve, invoke, builtin, Sem.run_bind, Sem.run_pure, Result.andThen_ok, List.map_toArray, List.map_cons, List.map_nil, hs, hx, hr]
    exact h v' w' h2 h3 h4
end Go.Proofs.Ytbiplflejijbeaa
