/- ClockWalks: what a round keeps. -/
import Derived.Test.YtajdopmhdagehaaCkWkA
set_option linter.unusedVariables false
set_option linter.unusedSimpArgs false
namespace Go.Proofs.Ytajdopmhdagehaa.Rc
open Go.Proofs.Ytajdopmhdagehaa
open Go Go.RowKit Go.Shelf

section
variable {w w' : World} {c : Nat} {now : Int} {M : List (Rw Ds.Pr)} {nx : Nat} {S : Nat → Prop}
/-- What a call of the clock may come to: fewer things, another tick. -/
def Sm (w : World) (c nx : Nat) (S : Nat → Prop) (w' : World) : Prop := ∃ now' M' nx' S', Ds.CK w' c now' M' nx' S' ∧ nx' ≤ nx ∧ Ex S w w' ∧ ∀ k, S' k → S k ∨ w.heap.size ≤ k
theorem drop_an (h : Ds.CK w c now M nx S) (a : Int) : Calls Try.prog 23 #[ptr c, .int .i64 a] w fun e w' => (∃ v, e = .returned v) ∧ Sm w c nx S w' := by
  refine (Ds.cdrop_in h a).mono ?_
  rintro e w1 (⟨_, rfl, h1, h2⟩ | ⟨r, M2, _, _, rfl, h1, h2⟩)
  · exact ⟨⟨_, rfl⟩, now, M, nx, S, h1, Nat.le_refl _, h2, fun k hk => .inl hk⟩
  · exact ⟨⟨_, rfl⟩, now, M2, nx, S, h1, Nat.le_refl _, h2, fun k hk => .inl hk⟩
theorem take_an (h : Ds.CK w c now M nx S) : Calls Try.prog 24 #[ptr c] w fun e w' => (∃ v, e = .returned v) ∧ Sm w c nx S w' := by
  by_cases hM : M = []
  · subst hM
    refine (Ds.ctake_none h).mono ?_
    rintro e w1 ⟨rfl, h1, h2⟩
    exact ⟨⟨_, rfl⟩, now, [], nx, S, h1, Nat.le_refl _, h2, fun k hk => .inl hk⟩
  · obtain ⟨r, M2, hp, hr⟩ := Ds.first_of M hM h.one
    refine (Ds.ctake_some h hp hr).mono ?_
    rintro e w1 ⟨rfl, h1, h2⟩
    exact ⟨⟨_, rfl⟩, _, M2, nx, S, h1, Nat.le_refl _, h2, fun k hk => .inl hk⟩
theorem set_an (h : Ds.CK w c now M nx S) (hroom : nx < 17592186044416) (t : Int) (x : ByteArray) : Calls Try.prog 18 #[ptr c, .int .i64 t, .string x] w fun e w' => (∃ v, e = .returned v) ∧ Sm w c (nx + 1) S w' := by
  by_cases ht : rcE now t = 0
  · refine (Ds.cset_ok h t ht x hroom).mono ?_
    rintro e w1 ⟨rfl, b, S', h1, h2, h3⟩
    exact ⟨⟨_, rfl⟩, now, _, nx + 1, S', h1, Nat.le_refl _, h2, h3⟩
  · refine (Ds.cset_bad h t ht x).mono ?_
    rintro e w1 ⟨rfl, h1, h2⟩
    exact ⟨⟨_, rfl⟩, now, M, nx, S, h1, Nat.le_succ _, h2, fun k hk => .inl hk⟩
end
/-- Where things lie. -/
structure Pm where
  (B b7 b15 b17 c : Nat)
  (dv vo : Value)
  mo : Int
  R : List Tr
def wD (p : Pm) (i : Nat) : Prop := bxD p.B p.b7 i ∨ i = p.b15 ∨ i = p.b17 ∨ p.vo.ownBlock = some i
structure Wx (W : World) (p : Pm) (k : Nat) : Prop where
  bx : Bx W p.B p.b7 p.dv p.mo p.c
  x15 : W.heap[p.b15]? = some (.cells #[p.vo] 38 (0, 0))
  x17 : W.heap[p.b17]? = some (.cells #[.int .i64 (k : Int)] 3 (0, 0))
  own : W.ownsRow 0 59 3 p.vo p.R.length (flat p.R)
  sp : ¬ bxD p.B p.b7 p.b17 ∧ p.b17 ≠ p.b15 ∧ p.vo.ownBlock ≠ some p.b17
theorem Wx.of {W W' : World} {p : Pm} {k : Nat} (h : Wx W p k) (hk : ∀ i, wD p i → W'.heap[i]? = W.heap[i]?) : Wx W' p k :=
  ⟨h.bx.of fun i hi => hk i (.inl hi), (hk _ (.inr (.inl rfl))).trans h.x15, (hk _ (.inr (.inr (.inl rfl)))).trans h.x17, own3_keep h.own fun b hb => hk b (.inr (.inr (.inr hb))), h.sp⟩
theorem Wx.lt {W : World} {p : Pm} {k : Nat} (h : Wx W p k) : ∀ i, wD p i → i < W.heap.size := by
  rintro i (hi | hi | hi | hi)
  · exact h.bx.lt i hi
  · subst hi; exact (Array.getElem?_eq_some_iff.1 h.x15).1
  · subst hi; exact (Array.getElem?_eq_some_iff.1 h.x17).1
  · rcases h.own.2 with ⟨q, _⟩ | ⟨b, cap, cur, q, _, hw, _⟩
    · rw [q] at hi; cases hi
    · rw [q] at hi; cases hi
      exact (Array.getElem?_eq_some_iff.1 hw).1
/-- Within a round: E are the blocks that are foreign. -/
structure Wq (w : World) (E : Nat → Prop) (p : Pm) (k : Nat) (now : Int) (M : List (Rw Ds.Pr)) (nx : Nat) (S : Nat → Prop) (W0 W : World) : Prop where
  ck : Ds.CK W p.c now M nx S
  wx : Wx W p k
  s : ∀ i, S i → w.heap.size ≤ i ∧ ¬ wD p i ∧ ¬ E i
  d : ∀ i, wD p i → w.heap.size ≤ i ∧ ¬ E i
  el : ∀ i, E i → i < W0.heap.size ∧ w.heap.size ≤ i
  ke : KE E W0 W
  bel : Below w.heap.size w W
section
variable {w : World} {E : Nat → Prop} {p : Pm} {k : Nat} {now : Int} {M : List (Rw Ds.Pr)} {nx : Nat} {S : Nat → Prop} {W0 W W' : World}
theorem Wq.ex (h : Wq w E p k now M nx S W0 W) {now' : Int} {M' : List (Rw Ds.Pr)} {nx' : Nat} {S' : Nat → Prop} (hk : Ds.CK W' p.c now' M' nx' S') (he : Ex S W W') (hs : ∀ i, S' i → S i ∨ W.heap.size ≤ i) : Wq w E p k now' M' nx' S' W0 W' where
  ck := hk
  wx := h.wx.of fun i hi => he.block i (h.wx.lt i hi) fun q => (h.s i q).2.1 hi
  s := fun i hi => by
    rcases hs i hi with z | z
    · exact h.s i z
    · have := h.bel.size
      have := h.ke.1
      exact ⟨by omega, fun q => by have := h.wx.lt i q; omega, fun q => by have := h.el i q; omega⟩
  d := h.d
  el := h.el
  ke := h.ke.trans ⟨he.size, fun i hi => he.block i (by have := h.el i hi; have := h.ke.1; omega) fun q => (h.s i q).2.2 hi⟩
  bel := h.bel.trans (he.below h.bel.size fun i q => (h.s i q).1)
theorem Wq.below (h : Wq w E p k now M nx S W0 W) (hb : Below W.heap.size W W') : Wq w E p k now M nx S W0 W' where
  ck := h.ck.below hb
  wx := h.wx.of fun i hi => hb.block i (h.wx.lt i hi)
  s := h.s
  d := h.d
  el := h.el
  ke := h.ke.trans ⟨hb.size, fun i hi => hb.block i (by have := h.el i hi; have := h.ke.1; omega)⟩
  bel := h.bel.trans (hb.mono h.bel.size)
theorem Wq.num (h : Wq w E p k now M nx S W0 W) (k' : Nat) : Wq w E p k' now M nx S W0 (W.setCell ⟨p.b17, 0, none⟩ (.int .i64 (k' : Int))) := by
  have ho : ∀ i, i ≠ p.b17 → (W.setCell ⟨p.b17, 0, none⟩ (.int .i64 (k' : Int))).heap[i]? = W.heap[i]? := fun i hi => heap_setCell_other _ _ _ _ hi
  have h17 := (h.d p.b17 (.inr (.inr (.inl rfl))))
  refine ⟨h.ck.of fun i hi => ho i fun q => (h.s i hi).2.1 (.inr (.inr (.inl q))), ⟨h.wx.bx.of fun i hi => ho i fun q => h.wx.sp.1 (q ▸ hi), (ho _ fun q => h.wx.sp.2.1 q.symm).trans h.wx.x15, bk_set h.wx.x17 0 _, own3_keep h.wx.own fun b hb => ho b fun q => h.wx.sp.2.2 (q ▸ hb), h.wx.sp⟩, h.s, h.d, h.el, h.ke.trans ⟨Nat.le_of_eq (by simp [sz_set]), fun i hi => ho i fun q => h17.2 (q ▸ hi)⟩, h.bel.setCell h17.1 _⟩
/-- What hangs on Dp. -/
def Co (w : World) (p : Pm) (n0 : Nat) (k : Nat) (Dp : Nat → Prop) (W : World) : Prop := ∃ now M nx S, Ds.CK W p.c now M nx S ∧ nx ≤ n0 + k ∧ Wx W p k ∧ (∀ i, S i → w.heap.size ≤ i ∧ ¬ wD p i) ∧ (∀ i, wD p i → w.heap.size ≤ i) ∧ ∀ i, S i ∨ wD p i → Dp i
theorem co_jn (w : World) (p : Pm) (n0 : Nat) : JN (Dep w (Co w p n0)) := jn_dep fun k Dp W W' ⟨now, M, nx, S, h1, h2, h3, h4, h5, h6⟩ hk => ⟨now, M, nx, S, h1.of fun i hi => hk i (h6 i (.inl hi)), h2, h3.of fun i hi => hk i (h6 i (.inr hi)), h4, h5, h6⟩
theorem co_in {n0 : Nat} (h : Dep w (Co w p n0) k E W) (hE : ∀ i, E i → i < W.heap.size) : ∃ now M nx S, nx ≤ n0 + k ∧ Wq w E p k now M nx S W W := by
  obtain ⟨Dp, ⟨now, M, nx, S, h1, h2, h3, h4, h5, h6⟩, q2, q3, q4, q5⟩ := h
  exact ⟨now, M, nx, S, h2, h1, h3, fun i hi => ⟨(h4 i hi).1, (h4 i hi).2, q2 i (h6 i (.inl hi))⟩, fun i hi => ⟨h5 i hi, q2 i (h6 i (.inr hi))⟩, fun i hi => ⟨hE i hi, q4 i hi⟩, ⟨Nat.le_refl _, fun _ _ => rfl⟩, q5⟩
theorem co_out {n0 : Nat} (h : Wq w E p k now M nx S W0 W) (hn : nx ≤ n0 + k) : Dep w (Co w p n0) k E W :=
  ⟨fun i => S i ∨ wD p i, ⟨now, M, nx, S, h.ck, hn, h.wx, fun i hi => ⟨(h.s i hi).1, (h.s i hi).2.1⟩, fun i hi => (h.d i hi).1, fun i hi => hi⟩, fun i hi => hi.elim (fun z => (h.s i z).2.2) (fun z => (h.d i z).2), fun i hi => hi.elim (h.ck.lt i) (h.wx.lt i), fun i hi => (h.el i hi).2, h.bel⟩
/-- Where the first range begins. -/
theorem dep_start {b7 : Nat} {dv : Value} {mo : Int} {c y i lo : Nat} {A : List (Rw Ds.Pr)} {l R : List Tr} {v vo : Value} {w7 w9 : World} {D : Nat → Prop} (h : L1 w w.heap.size b7 dv mo c y i A l S v w7) (hb7 : w.heap.size ≤ b7) (hlw : w.heap.size ≤ lo) (hSl : ∀ k, S k → k < lo)
    (hown : w7.ownsRow lo 59 3 vo R.length (flat R)) (hb9 : Below (w7.heap.size + 1) (w7.alloc (.cells #[vo] 38)) w9) (hD : ∀ k, D k → w7.heap.size + 1 ≤ k ∧ k < w9.heap.size) :
    Dep w (Co w ⟨w.heap.size, b7, w7.heap.size, w9.heap.size, c, dv, vo, mo, R⟩ i) 0 D (w9.alloc (.cells #[.int .i64 0] 3)) := by
  have hs8 : (w7.alloc (.cells #[vo] 38)).heap.size = w7.heap.size + 1 := by simp
  have hs79 : w7.heap.size + 1 ≤ w9.heap.size := by have := hb9.size; rw [hs8] at this; exact this
  have hs10 : (w9.alloc (.cells #[.int .i64 0] 3)).heap.size = w9.heap.size + 1 := by simp
  have blk : ∀ k, k < w7.heap.size → (w9.alloc (.cells #[.int .i64 0] 3)).heap[k]? = w7.heap[k]? := fun k hk => (heap_alloc_old w9 _ (by omega)).trans ((hb9.block k (by omega)).trans (heap_alloc_old w7 _ hk))
  have hvo : ∀ k, vo.ownBlock = some k → lo ≤ k ∧ k < w7.heap.size := fun k hk => by
    rcases hown.2 with ⟨q, _⟩ | ⟨b, cap, cur, q, hb, hw, _⟩
    · rw [q] at hk; cases hk
    · rw [q] at hk; cases hk
      exact ⟨hb, (Array.getElem?_eq_some_iff.1 hw).1⟩
  have hown0 : w7.ownsRow 0 59 3 vo R.length (flat R) := by
    refine ⟨hown.1, ?_⟩
    rcases hown.2 with q | ⟨b, cap, cur, q, hb, r⟩
    · exact .inl q
    · exact .inr ⟨b, cap, cur, q, Nat.zero_le _, r⟩
  have hS7 := h.ck.lt
  have hB7 := h.bx.lt
  have hbel := h.bel.size
  have hwd : ∀ k, wD ⟨w.heap.size, b7, w7.heap.size, w9.heap.size, c, dv, vo, mo, R⟩ k → w.heap.size ≤ k ∧ (k < w7.heap.size + 1 ∨ k = w9.heap.size) := by
    rintro k (z | z | z | z)
    · have := hB7 k z
      have z' : bxD w.heap.size b7 k := z
      unfold bxD at z'
      omega
    · have z' : k = w7.heap.size := z
      omega
    · have z' : k = w9.heap.size := z
      omega
    · have := hvo k z
      omega
  refine ⟨fun k => S k ∨ wD ⟨w.heap.size, b7, w7.heap.size, w9.heap.size, c, dv, vo, mo, R⟩ k, ⟨0, A, i, S, h.ck.of fun k hk => blk k (hS7 k hk), by omega, ⟨h.bx.of fun k hk => blk k (hB7 k hk), (heap_alloc_old w9 _ (by show w7.heap.size < _; omega)).trans ((hb9.block _ (by show w7.heap.size < _; omega)).trans (heap_alloc_new w7 _)), heap_alloc_new w9 _, own3_keep hown0 fun b hb => blk b (hvo b hb).2, ?_, ?_, ?_⟩, ?_, ?_, fun k hk => hk⟩, ?_, ?_, ?_, ?_⟩
  · intro q
    have := hB7 _ q
    simp at this
    omega
  · show w9.heap.size ≠ w7.heap.size
    omega
  · intro q
    have := hvo _ q
    simp at this
    omega
  · intro k hk
    refine ⟨(h.s1 k hk).1, ?_⟩
    have h7 := hS7 k hk
    rintro (z | z | z | z)
    · exact (h.s1 k hk).2.1 z
    · have z' : k = w7.heap.size := z
      omega
    · have z' : k = w9.heap.size := z
      omega
    · have := hvo k z
      have := hSl k hk
      omega
  · exact fun k hk => (hwd k hk).1
  · rintro k (z | z) q
    · have := hS7 k z
      have := hD k q
      omega
    · have := hwd k z
      have := hD k q
      omega
  · rintro k (z | z)
    · have := hS7 k z
      omega
    · have := hwd k z
      omega
  · exact fun k hk => by have := hD k hk; omega
  · have b8 : Below w.heap.size w (w7.alloc (.cells #[vo] 38)) := h.bel.alloc hbel _
    have b9 := b8.trans (hb9.mono (by omega))
    exact b9.alloc (by omega) _
end
end Go.Proofs.Ytajdopmhdagehaa.Rc
