/- Of the road to uebPackCard_holds: UpA, UbSame, UpB, HpS0, UpC, BsShelfD, BsNum, UbApp, UbPack. -/
import Derived.Test.YtcbnlfghhcpkmaaDoorG01
import Derived.Test.YtcbnlfghhcpkmaaDoorG00
import Derived.Deep.RegionHeld3
import Derived.Shelf.Small.Strs
import Derived.Shelf.Strconv.Atoi
import Derived.Shelf.Strconv.Itoa0
import Derived.Shelf.Strconv.Itoa1
import Derived.Shelf.LaysM
import Derived.Shelf.Strconv.Itoa2
import Derived.Shelf.Strconv.Itoa3
import Derived.Shelf.Strconv.AtoiErrFast
import Derived.Shelf.Strconv.ParseIntEmpty
import Derived.Shelf.Strconv.AtoiFail
import Derived.Shelf.Strconv.Clone
import Derived.Shelf.Strconv.SyntaxError
import Derived.Shelf.LaysC
import Derived.Shelf.Strconv.ToError
import Derived.Shelf.Strconv.Lower
import Derived.Shelf.Strconv.ParseUint10
import Derived.Shelf.Strconv.ParseUint10Empty
import Derived.Shelf.Strconv.ParseUint10Any
import Derived.Shelf.Strconv.ParseInt10
import Derived.Shelf.Strconv.AtoiLong
import Derived.Shelf.Strconv.AtoiInnerAll
import Derived.Shelf.Strconv.RangeError
import Derived.Shelf.Strconv.ToErrorRange
import Derived.Shelf.Strconv.AtoiAll
import Derived.Shelf.Strconv.ErrVarAll
import Derived.Shelf.Strings.Search1
import Derived.Shelf.Bytes.SlIndexAt
import Derived.Shelf.Bytes.SlSearch0
import Derived.Shelf.Bytes.IndexByte
import Derived.Test.YtcbnlfghhcpkmaaDoorChecked
import Derived.Lib.AppendIntMem
import Derived.Lib.SmallJoins
import Derived.Lib.AtoiBound
import Derived.Lib.AtoiAllMem
import Derived.Lib.AppendStr
import Derived.Laws.AppendOwnNone
import Derived.Laws.BytesString
set_option linter.unusedVariables false
set_option linter.unusedSimpArgs false
namespace Go.Proofs.YtcbnlfghhcpkmaaDoor
open Go Go.RowKit
theorem own_noth {w : World} {B B' n n' sz sz' : Nat} {e e' : TypeId} {v v' : Value} {xs xs' : List Value} (h : w.ownsRow B e sz v n xs) (h' : w.ownsRow B' e' sz' v' n' xs') (he : e ≠ e') {b : Nat} (hb : v.ownBlock = some b) : v'.ownBlock ≠ some b := fun r => by
  obtain ⟨_, _, c1, h1⟩ := own_atS h hb
  obtain ⟨_, _, c2, h2⟩ := own_atS h' r
  rw [h1] at h2
  simp only [Option.some.injEq, Obj.cells.injEq] at h2
  exact he h2.2.1
structure LR (B : Nat) (W : World) (va ve : Value) (m : Nat) (rs : List Rw) (xs us : List Value) : Prop where
  all : W.ownsRow B TR 2 va m xs
  each : W.ownsRow B 27 1 ve rs.length us
  apt : Apt B W us (rs.map fun r => lent r.2)
  cel : ∀ i, i < rs.length → ∃ g c, us.getD i undef = .slice (some ⟨g, 0, none⟩) ((rs.getD i rw0).2.length + 70) c ∧ (rs.getD i rw0).2.length + 70 ≤ c ∧ xs[i * 2]? = some (.string (rs.getD i rw0).1) ∧ xs[i * 2 + 1]? = some (.slice (some ⟨g, 0, none⟩) (rs.getD i rw0).2.length c)
def lrB (va ve : Value) (us : List Value) (b : Nat) : Prop := va.ownBlock = some b ∨ ve.ownBlock = some b ∨ ∃ j, j < us.length ∧ (us.getD j undef).ownBlock = some b
def MK (B : Nat) (W : World) (xs : List Value) (n m : Nat) : Prop := ∀ j, j < m → ∃ mb, B ≤ mb ∧ xs[(n + j) * 2]? = some (.string ⟨#[109, 97, 114, 107]⟩) ∧ xs[(n + j) * 2 + 1]? = some (.slice (some ⟨mb, 0, none⟩) 1 1) ∧ W.heap[mb]? = some (.cells #[.int .u8 (j : Int)] 5 (0, 0))
theorem MK.keep {B n m : Nat} {W C : World} {xs : List Value} (h : MK B W xs n m) (hk : ∀ b cs, B ≤ b → W.heap[b]? = some (.cells cs 5 (0, 0)) → C.heap[b]? = W.heap[b]?) : MK B C xs n m := fun j hj => by
  obtain ⟨mb, h1, h2, h3, h4⟩ := h j hj
  exact ⟨mb, h1, h2, h3, (hk mb _ h1 h4).trans h4⟩
theorem MK.below {B n m : Nat} {W C : World} {xs : List Value} (h : MK B W xs n m) (hb : Below W.heap.size W C) : MK B C xs n m := h.keep fun b _ _ e => hb.block b (Array.getElem?_eq_some_iff.1 e).1
theorem MK.snoc {B n m mb : Nat} {W : World} {xs : List Value} (h : MK B W xs n m) (hx : xs.length = (n + m) * 2) (hB : B ≤ mb) (hb : W.heap[mb]? = some (.cells #[.int .u8 (m : Int)] 5 (0, 0))) : MK B W (xs ++ [.string ⟨#[109, 97, 114, 107]⟩, .slice (some ⟨mb, 0, none⟩) 1 1]) n (m + 1) := fun j hj => by
  by_cases q : j < m
  · obtain ⟨mb, h1, h2, h3, h4⟩ := h j q
    exact ⟨mb, h1, by rw [List.getElem?_append_left (by omega)]; exact h2, by rw [List.getElem?_append_left (by omega)]; exact h3, h4⟩
  · obtain rfl : j = m := by omega
    exact ⟨mb, hB, by rw [List.getElem?_append_right (by omega), hx, Nat.sub_self]; rfl, by rw [List.getElem?_append_right (by omega), hx, show (n + j) * 2 + 1 - (n + j) * 2 = 1 by omega]; rfl, hb⟩
structure LX (B : Nat) (W : World) (va ve : Value) (rs : List Rw) (xs us : List Value) : Prop where
  lr : LR B W va ve (rs.length + 70) rs xs us
  marks : MK B W xs rs.length 70
section
variable {B m : Nat} {W C : World} {va ve : Value} {rs : List Rw} {xs us : List Value}
theorem LR.keep (h : LR B W va ve m rs xs us) (hk : ∀ b, lrB va ve us b → C.heap[b]? = W.heap[b]?) : LR B C va ve m rs xs us :=
  ⟨own_ofS h.all fun b e => hk b (.inl e), own_ofS h.each fun b e => hk b (.inr (.inl e)), ⟨h.apt.1, fun j hj => own_ofS (h.apt.2.1 j hj) fun b e => hk b (.inr (.inr ⟨j, hj, e⟩)), h.apt.2.2⟩, h.cel⟩
theorem LR.at (h : LR B W va ve m rs xs us) {b : Nat} (hb : lrB va ve us b) : b < W.heap.size ∧ B ≤ b ∧ ∃ cs T, W.heap[b]? = some (.cells cs T (0, 0)) ∧ (T = TR ∨ T = 27 ∨ T = 5) := by
  rcases hb with e | e | ⟨j, hj, e⟩
  · obtain ⟨q1, q2, cs, q3⟩ := own_atS h.all e
    exact ⟨q1, q2, cs, _, q3, .inl rfl⟩
  · obtain ⟨q1, q2, cs, q3⟩ := own_atS h.each e
    exact ⟨q1, q2, cs, _, q3, .inr (.inl rfl)⟩
  · obtain ⟨q1, q2, cs, q3⟩ := own_atS (h.apt.2.1 j hj) e
    exact ⟨q1, q2, cs, _, q3, .inr (.inr rfl)⟩
theorem LR.below (h : LR B W va ve m rs xs us) (hb : Below W.heap.size W C) : LR B C va ve m rs xs us := h.keep fun b q => hb.block b (h.at q).1
theorem LR.start (B : Nat) (W : World) : LR B W (.slice none 0 0) (.slice none 0 0) 0 [] [] [] :=
  ⟨World.ownsRow_nil _ _ _ _, World.ownsRow_nil _ _ _ _, ⟨rfl, fun j hj => by simp at hj, fun i j hi => by simp at hi⟩, fun i hi => absurd hi (Nat.not_lt_zero _)⟩
end
theorem apt_snocU {B : Nat} {w : World} {us : List Value} {ls : List (List Int)} (h : Apt B w us ls) {u : Value} {l : List Int} (hu : w.ownsRow B 5 1 u l.length (l.map (Value.int .u8))) (hd : ∀ j b, j < us.length → u.ownBlock = some b → (us.getD j undef).ownBlock ≠ some b) : Apt B w (us ++ [u]) (ls ++ [l]) := by
  have hl := h.1
  refine ⟨by simp [hl], fun k hk => ?_, fun i j hi hj hne => ?_⟩
  · rw [getD_app, getD_app, ← hl]
    split
    · exact h.2.1 k ‹_›
    · rw [List.length_append, List.length_singleton] at hk
      have e : k - us.length = 0 := by omega
      rw [e]
      exact hu
  · rw [List.length_append, List.length_singleton] at hi hj
    rw [getD_app, getD_app]
    split <;> split
    · exact h.2.2 i j ‹_› ‹_› hne
    · rename_i q1 q2
      have e : j - us.length = 0 := by omega
      rw [e]
      cases e1 : (us.getD i undef).ownBlock with
      | none => exact .inl rfl
      | some b => exact .inr fun x => hd i b q1 x.symm e1
    · rename_i q1 q2
      have e : i - us.length = 0 := by omega
      rw [e]
      cases e1 : u.ownBlock with
      | none => exact .inl (by show u.ownBlock = none; exact e1)
      | some b => exact .inr fun x => hd j b q2 e1 ((show u.ownBlock = _ from x).symm.trans e1)
    · omega
theorem own_grT {W W' : World} {B n sz : Nat} {T : TypeId} {v : Value} {xs : List Value} {row : Option Nat} (ho : W.ownsRow B T sz v n xs) (hg : W.grownBy W' row) (hr : ∀ k, row = some k → ∃ cs T', W.heap[k]? = some (.cells cs T' (0, 0)) ∧ T' ≠ T) : W'.ownsRow B T sz v n xs :=
  own_ofS ho fun b e => by
    obtain ⟨q1, _, cs, q2⟩ := own_atS ho e
    refine hg.block b q1 fun z => ?_
    obtain ⟨cs', T', h1, h2⟩ := hr b z.symm
    rw [q2] at h1
    simp only [Option.some.injEq, Obj.cells.injEq] at h1
    exact h2 h1.2.1.symm
theorem blk_grT {W W' : World} {x : Nat} {cs : Array Value} {T : TypeId} {row : Option Nat} (h : W.heap[x]? = some (.cells cs T (0, 0))) (hg : W.grownBy W' row) (hr : ∀ k, row = some k → ∃ cs T', W.heap[k]? = some (.cells cs T' (0, 0)) ∧ T' ≠ T) : W'.heap[x]? = some (.cells cs T (0, 0)) := by
  refine (hg.block x (Array.getElem?_eq_some_iff.1 h).1 fun z => ?_).trans h
  obtain ⟨cs', T', h1, h2⟩ := hr x z.symm
  rw [h] at h1
  simp only [Option.some.injEq, Obj.cells.injEq] at h1
  exact h2 h1.2.1.symm
theorem bel_gr {W W' : World} {row : Option Nat} (h : Below W.heap.size W W') : W.grownBy W' row := ⟨h.os, h.tape, h.output, h.size, fun i hi _ => h.block i hi⟩
theorem bk_setU {w : World} {b : Nat} {cs : Array Value} {t : TypeId} (h : w.heap[b]? = some (.cells cs t (0, 0))) {i : Nat} {v : Value} : (w.setCell ⟨b, i, none⟩ v).heap[b]? = some (.cells (cs.setIfInBounds i v) t (0, 0)) := by
  simp [World.setCell, Array.getElem?_modify, h]
theorem LR.each1 {B m : Nat} {W : World} {va ve vx : Value} {rs : List Rw} {xs us : List Value} {l : List Int} (h : LR B W va ve m rs xs us) (hx : W.ownsRow B 5 1 vx (lent l).length ((lent l).map (Value.int .u8))) (hf : ∀ b, vx.ownBlock = some b → ¬ lrB va ve us b) : Apt B W (us ++ [vx]) ((rs.map fun r => lent r.2) ++ [lent l]) :=
  apt_snocU h.apt hx fun j b hj e => fun z => hf b e (.inr (.inr ⟨j, hj, z⟩))
theorem slice_hL (W : World) (b n c hi : Nat) (h1 : hi ≤ c) (h2 : 0 < c) : (Instr.slice 27 (.slice (some ⟨b, 0, none⟩) n c) none (some (.int .i64 (hi : Int))) none).run Tryd.prog W = .ok (.slice (some ⟨b, 0, none⟩) hi c) W := by
  have elm : Tryd.prog.elem 27 = 5 := by kernel_rfl
  have h := run_slice_h (P := Tryd.prog) W 27 (some ⟨b, 0, none⟩) n c (by rw [elm]; exact Tryd.underlying27) .i64 (hi : Int) (by omega) (by omega)
  rw [h, elm, size_u8, Result.andThen_ok, Int.toNat_natCast]
  unfold sliced
  rw [if_neg (by omega)]
  simp [Go.WideShapes.add_plain]
theorem yieldsIf_slU {P : Program} {ops : Array Oper} {S : World → Prop} {op : Oper} {a : Act} (hw : Region.wanted op (yielded ops a.tmps) = true) (t : TypeId) (x : Operand) (lo hi : Option Operand) (ht : P.underlying t = some (.slice (P.elem t))) (ho : op.op = .slice t x lo hi none) (vx : Value) (vl vh : Option Value) (hx : a.eval x = vx) (hl : lo.map a.eval = vl) (hh : hi.map a.eval = vh) (v : Value)
    (hr : ∀ w, S w → (Instr.slice t vx vl vh none).run P w = .ok v w) : YieldsIf P ops S op v a :=
  .inl ⟨hw, fun w hS => by
    unfold execOp
    simp only [ho, Sem.run_bind, Option.map_none, hx, hl, hh, run_sliceAt_slice w t _ _ _ _ ht, hr w hS, Result.andThen_ok]
    rfl⟩
theorem elmU : Tryd.prog.elem 27 = 5 := by kernel_rfl
theorem wp_appG {o : Oper} {a : Act} {w w' : World} {K : Act → World → Prop} {Q : Exit → Act → World → Prop} {t : TypeId} {v v' : Value} {p : Option Addr} {m c : Nat} (s x : Operand)
    (ho : o.op = .call { callee := .builtin .append, args := #[s, x], argTypes := #[t, t] }) (hs : a.eval s = v) (hx : a.eval x = .slice p m c)
    (hr : (Builtin.append_ #[t, t] o.type #[v, .slice p m c]).run Tryd.prog w = .ok v' w') (h : K (a.put o.dst v') w') : o.wp Tryd.prog a w K Q := by
  unfold Oper.wp
  simp [execOp, ho, resolve, invoke, builtin, hs, hx, hr, Result.andThen]
  exact h
theorem results_cellL {P : Program} {fn : Func} {p : Tmp} {ty : TypeId} (h : fn.results = #[.cell p ty]) (tmps : Array Value) (w : World) (g : Nat) (t : TypeId) (cs : Array Value) (fr : Nat × Nat) (d : TypeDesc)
    (hp : tmps.getD p undef = .pointer (some ⟨g, 0, none⟩)) (hg : w.heap[g]? = some (.cells cs t fr))
    (hu : P.underlying ty = some d) (hd : (match d with | .struct _ | .array _ _ => true | _ => false) = true) (hi : (P.info? ty).map (·.size) = some cs.size) :
    (results fn tmps).run P w = .ok (.agg cs) w := by
  have hp' : tmps[p]?.getD undef = .pointer (some ⟨g, 0, none⟩) := by simpa using hp
  simp [results, h, hp', asAddr, run_loadVar_row w g t ty cs fr d hg hu hd hi]
theorem take_mapL {rs : List Rw} {k : Nat} (h : k < rs.length) : (rs.take (k + 1)).map (fun r => lent r.2) = (rs.take k).map (fun r => lent r.2) ++ [lent (rs.getD k rw0).2] := by
  rw [take_snoc h, List.map_append]
  rfl
set_option maxRecDepth 100000 in
set_option maxHeartbeats 16000000 in
theorem lentRows_any (w : World) (v : Value) (rs : List Rw) (h : HRw w v rs) (hn : rs.length ≤ 3518437208780) (hv : ∀ r ∈ rs, r.2.length ≤ 140737488351232) :
    Calls Tryd.prog 4 #[v] w fun e w' => ∃ va ve xs us, e = .returned (.agg #[va, ve]) ∧ LX w.heap.size w' va ve rs xs us ∧ Below w.heap.size w w' := by
  obtain ⟨p, c, rfl, hlc, hcm, hrow⟩ := h.open
  have HR := hid hrow
  have HV := hid hv
  clear hrow h hv
  obtain ⟨n, HN⟩ : ∃ n, Hid (rs.length = n) := ⟨_, rfl⟩
  rw [HN.out] at hlc hn
  rw [HN.out]
  obtain ⟨bx, Hbx⟩ : ∃ x, Hid (w.heap.size + 1 = x) := ⟨_, rfl⟩
  obtain ⟨b0, Hb0⟩ : ∃ x, Hid (w.heap.size = x) := ⟨_, rfl⟩
  obtain ⟨W0, HW0⟩ : ∃ x, Hid ((w.alloc (.cells #[.slice none 0 0, .slice none 0 0] 25)).alloc (.cells #[.slice none 0 0, .slice none 0 0] 25) = x) := ⟨_, rfl⟩
  go_enter Tryd.func4, Tryd.ntmps4
  have X0 : Hid (W0.heap[b0]? = some (.cells #[.slice none 0 0, .slice none 0 0] 25 (0, 0))) := hid (by
    rw [← HW0.out, ← Hb0.out]
    exact (Below.heap_alloc _ _ _ (by simp)).trans (heap_alloc_new w _))
  have X1 : Hid (W0.heap[bx]? = some (.cells #[.slice none 0 0, .slice none 0 0] 25 (0, 0))) := hid (by
    rw [← HW0.out, ← Hbx.out]
    have := heap_alloc_new (w.alloc (.cells #[.slice none 0 0, .slice none 0 0] 25)) (.cells #[.slice none 0 0, .slice none 0 0] 25)
    rwa [show (w.alloc (.cells #[.slice none 0 0, .slice none 0 0] 25)).heap.size = w.heap.size + 1 by simp] at this)
  have B0 : Hid (Below w.heap.size w W0) := hid (by rw [← HW0.out]; exact ((Below.refl _ w).alloc (Nat.le_refl _) _).alloc (by simp) _)
  have SZ : Hid (w.heap.size = b0 ∧ bx = b0 + 1) := hid ⟨Hb0.out, by have := Hb0.out; have := Hbx.out; omega⟩
  go_wp2
  rw [Hbx.out, Hb0.out, HW0.out]
  go_loopw [4] (fun i wr => ∃ (k : Nat) (va ve : Value) (xs us : List Value), k ≤ n ∧ i = .int .i64 (k : Int) ∧ Hid (LR w.heap.size wr va ve k (rs.take k) xs us) ∧ Hid (wr.heap[bx]? = some (.cells #[va, ve] 25 (0, 0))) ∧ Hid (wr.heap[b0]? = some (.cells #[.slice none 0 0, .slice none 0 0] 25 (0, 0))) ∧ Hid (Below w.heap.size w wr)) (fun i _ => n - (intOf i).toNat)
  case atStart => exact ⟨0, _, _, [], [], Nat.zero_le _, rfl, hid (LR.start _ _), X1, X0, B0⟩
  case round =>
    obtain ⟨k, va, ve, xs, us, hk, rfl, HL, HX, H0, HB⟩ := hrel
    by_cases hlt : k < n
    · have hkr : k < rs.length := by have := HN.out; omega
      obtain ⟨b, off, rfl, hbl, hcell⟩ := HR.out (by omega)
      obtain ⟨u, hu, hvv⟩ := hcell k hkr
      obtain ⟨⟨sn, l⟩, Hx⟩ : ∃ x, Hid (rs.getD k rw0 = x) := ⟨_, rfl⟩
      rw [Hx.out] at hu hvv
      have hl64 : l.length ≤ 140737488351232 := by
        have := HV.out (rs.getD k rw0) (by rw [getD_get hkr]; exact List.getElem_mem hkr)
        rw [Hx.out] at this
        exact this
      obtain ⟨pu, cu, rfl, hlu, hcu⟩ := hvv.open
      obtain ⟨ll, HLL⟩ : ∃ x, Hid (l.length = x) := ⟨_, rfl⟩
      have hvr := hvv.below HB.out
      rw [HLL.out] at hu hvr hlu hl64
      have FC : Hid (∀ W, Below w.heap.size w W → W.cell? ⟨b, off + k * 2, none⟩ = some (.string sn) ∧ W.cell? ⟨b, off + k * 2 + 1, none⟩ = some (.slice pu ll cu)) := hid fun W hW => by
        have r1 := range_below2 hu hW hbl
        exact ⟨by have := r1 0 _ rfl; simpa using this, r1 1 _ rfl⟩
      have C1 := hid (lent_any wr _ l hvr (by rw [HLL.out]; omega))
      obtain ⟨d1, d2⟩ := FC.out wr HB.out
      have hk1 : (k : Int) < (n : Int) := by omega
      have hby0 := hvv.2
      clear hu hvv hcell hvr
      go_wp2_with fail
      refine C1.out.mono ?_
      rintro e1 W1 ⟨vx, rfl, hox, hB1⟩
      have hby : ∀ x ∈ l, 0 ≤ x ∧ x < 256 := hby0
      obtain ⟨gx, cx, ex, hgx, hgx1, hcx, hcx2, hx0, hfx⟩ := lent_part hox hby
      rw [HLL.out] at ex hcx
      subst ex
      have htk : (rs.take k).length = k := by rw [List.length_take]; omega
      have L1 := HL.out.below hB1
      obtain ⟨pa, ca, eva⟩ := own_slcS L1.all
      obtain ⟨pe, ce, eve⟩ := own_slcS L1.each
      rw [htk] at eve
      subst eva
      subst eve
      have X1' : W1.heap[bx]? = some (.cells #[.slice pa k ca, .slice pe k ce] 25 (0, 0)) := (hB1.block bx (Array.getElem?_eq_some_iff.1 HX.out).1).trans HX.out
      have Z1 : W1.heap[b0]? = some (.cells #[.slice none 0 0, .slice none 0 0] 25 (0, 0)) := (hB1.block b0 (Array.getElem?_eq_some_iff.1 H0.out).1).trans H0.out
      have BW1 : Below w.heap.size w W1 := HB.out.trans (hB1.mono HB.out.size)
      -- the value's whole memory is told
      obtain ⟨WL, HWL⟩ : ∃ x, Hid (W1.alloc (.cells #[.slice (some ⟨gx, 0, none⟩) (ll + 70) cx] 27) = x) := ⟨_, rfl⟩
      have BL : Below W1.heap.size W1 WL := by rw [← HWL.out]; exact (Below.refl _ _).alloc (Nat.le_refl _) _
      have LL1 := L1.below BL
      have eachL : WL.ownsRow w.heap.size 27 1 (.slice pe k ce) k us := by have := LL1.each; rwa [htk] at this
      have CL : WL.cell? ⟨W1.heap.size, 0, none⟩ = some (.slice (some ⟨gx, 0, none⟩) (ll + 70) cx) := by rw [cell_of_row _ _ _ _ _ _ (show WL.heap[W1.heap.size]? = some (.cells #[.slice (some ⟨gx, 0, none⟩) (ll + 70) cx] 27 (0, 0)) by rw [← HWL.out]; exact heap_alloc_new _ _)]; rfl
      have hsW1 : w.heap.size ≤ W1.heap.size := BW1.size
      obtain ⟨ve2, W2, hr1, ho1, hg1⟩ := app_oneS (c := 1) (ty := 23) eachL CL rfl (by omega) (Nat.le_trans hsW1 BL.size)
      obtain ⟨pe2, ce2, eve2⟩ := own_slcS ho1
      subst eve2
      have gE : ∀ q, (Value.slice pe k ce).ownBlock = some q → ∃ cs T', WL.heap[q]? = some (.cells cs T' (0, 0)) ∧ T' = 27 := fun q e => by obtain ⟨_, _, cs, h⟩ := own_atS eachL e; exact ⟨cs, _, h, rfl⟩
      have ntE : ∀ (T : TypeId), T ≠ 27 → ∀ q, (Value.slice pe k ce).ownBlock = some q → ∃ cs T', WL.heap[q]? = some (.cells cs T' (0, 0)) ∧ T' ≠ T := fun T hT q e => by obtain ⟨cs, T', h1, h2⟩ := gE q e; exact ⟨cs, T', h1, by rw [h2]; exact fun z => hT z.symm⟩
      have X2 : W2.heap[bx]? = some (.cells #[.slice pa k ca, .slice pe k ce] 25 (0, 0)) := blk_grT ((BL.block bx (Array.getElem?_eq_some_iff.1 X1').1).trans X1') hg1 (ntE _ (by decide))
      have Z2 : W2.heap[b0]? = some (.cells #[.slice none 0 0, .slice none 0 0] 25 (0, 0)) := blk_grT ((BL.block b0 (Array.getElem?_eq_some_iff.1 Z1).1).trans Z1) hg1 (ntE _ (by decide))
      have all2 : W2.ownsRow w.heap.size TR 2 (.slice pa k ca) k xs := own_grT LL1.all hg1 (ntE _ (by decide))
      have ox1 : W1.ownsRow w.heap.size 5 1 (.slice (some ⟨gx, 0, none⟩) (ll + 70) cx) (lent l).length ((lent l).map (Value.int .u8)) := ⟨hox.1, hox.2.elim .inl fun ⟨g', cap, cur, z1, z2, z3⟩ => .inr ⟨g', cap, cur, z1, Nat.le_trans HB.out.size z2, z3⟩⟩
      have apt1 := L1.each1 ox1 (fun q e hq => by
        have e : gx = q := Option.some.inj e
        have h1 := (HL.out.at hq).1
        omega)
      have aptL : Apt w.heap.size WL (us ++ [.slice (some ⟨gx, 0, none⟩) (ll + 70) cx]) (((rs.take k).map fun r => lent r.2) ++ [lent l]) := ⟨apt1.1, fun j hj => own_ofS (apt1.2.1 j hj) fun q e => BL.block q (own_atS (apt1.2.1 j hj) e).1, apt1.2.2⟩
      have apt2 : Apt w.heap.size W2 (us ++ [.slice (some ⟨gx, 0, none⟩) (ll + 70) cx]) (((rs.take k).map fun r => lent r.2) ++ [lent l]) := ⟨aptL.1, fun j hj => own_grT (aptL.2.1 j hj) hg1 (ntE _ (by decide)), aptL.2.2⟩
      have BW2 : Below w.heap.size w W2 := (BW1.trans (BL.mono hsW1)).grown hg1 (Nat.le_trans hsW1 BL.size) (fun q e => (own_atS eachL e).2.1)
      obtain ⟨W3, HW3⟩ : ∃ x, Hid (W2.setCell ⟨bx, 1, none⟩ (.slice pe2 (k + 1) ce2) = x) := ⟨_, rfl⟩
      have X3 : W3.heap[bx]? = some (.cells #[.slice pa k ca, .slice pe2 (k + 1) ce2] 25 (0, 0)) := by rw [← HW3.out]; exact (bk_setU X2).trans rfl
      have hbx : w.heap.size ≤ bx := by have := SZ.out; omega
      have hg3 : W2.grownBy W3 (some bx) := by rw [← HW3.out]; exact grown_set W2 bx 1 _
      have nt3 : ∀ (T : TypeId), T ≠ 25 → ∀ q, some bx = some q → ∃ cs T', W2.heap[q]? = some (.cells cs T' (0, 0)) ∧ T' ≠ T := fun T hT q e => by cases e; exact ⟨_, _, X2, fun z => hT z.symm⟩
      have Z3 : W3.heap[b0]? = some (.cells #[.slice none 0 0, .slice none 0 0] 25 (0, 0)) := (hg3.block b0 (Array.getElem?_eq_some_iff.1 Z2).1 (by intro z; cases z; have := SZ.out; omega)).trans Z2
      have all3 : W3.ownsRow w.heap.size TR 2 (.slice pa k ca) k xs := own_grT all2 hg3 (nt3 _ (by decide))
      have each3 : W3.ownsRow w.heap.size 27 1 (.slice pe2 (k + 1) ce2) (k + 1) (us ++ [.slice (some ⟨gx, 0, none⟩) (ll + 70) cx]) := own_grT ho1 hg3 (nt3 _ (by decide))
      have apt3 : Apt w.heap.size W3 (us ++ [.slice (some ⟨gx, 0, none⟩) (ll + 70) cx]) (((rs.take k).map fun r => lent r.2) ++ [lent l]) := ⟨apt2.1, fun j hj => own_grT (apt2.2.1 j hj) hg3 (nt3 _ (by decide)), apt2.2.2⟩
      have BW3 : Below w.heap.size w W3 := BW2.grown hg3 BW2.size (fun q e => by cases e; exact hbx)
      -- the row is told
      obtain ⟨WM, HWM⟩ : ∃ x, Hid (W3.drew.alloc (.cells #[.string sn, .slice (some ⟨gx, 0, none⟩) ll cx] TR) = x) := ⟨_, rfl⟩
      have BM : Below W3.heap.size W3 WM := by rw [← HWM.out]; exact ((Below.refl _ W3).drew).alloc (Nat.le_refl _) _
      have allM := own_ofS all3 (w' := WM) fun q e => BM.block q (own_atS all3 e).1
      have CM : WM.heap[W3.heap.size]? = some (.cells #[.string sn, .slice (some ⟨gx, 0, none⟩) ll cx] TR (0, 0)) := by rw [← HWM.out]; exact heap_alloc_new W3.drew _
      obtain ⟨va2, W4, hr2, ho2, hg2, -⟩ := app_rowS (c := 1) (ty := 22) allM CM rfl (by omega) (Nat.le_trans BW3.size BM.size)
      obtain ⟨pa2, ca2, eva2⟩ := own_slcS ho2
      subst eva2
      have ntA : ∀ (T : TypeId), T ≠ TR → ∀ q, (Value.slice pa k ca).ownBlock = some q → ∃ cs T', WM.heap[q]? = some (.cells cs T' (0, 0)) ∧ T' ≠ T := fun T hT q e => by obtain ⟨_, _, cs, h⟩ := own_atS allM e; exact ⟨cs, _, h, fun z => hT z.symm⟩
      have X4 : W4.heap[bx]? = some (.cells #[.slice pa k ca, .slice pe2 (k + 1) ce2] 25 (0, 0)) := blk_grT ((BM.block bx (Array.getElem?_eq_some_iff.1 X3).1).trans X3) hg2 (ntA _ (by decide))
      have Z4 : W4.heap[b0]? = some (.cells #[.slice none 0 0, .slice none 0 0] 25 (0, 0)) := blk_grT ((BM.block b0 (Array.getElem?_eq_some_iff.1 Z3).1).trans Z3) hg2 (ntA _ (by decide))
      have each4 : W4.ownsRow w.heap.size 27 1 (.slice pe2 (k + 1) ce2) (k + 1) (us ++ [.slice (some ⟨gx, 0, none⟩) (ll + 70) cx]) := own_grT (own_ofS each3 fun q e => BM.block q (own_atS each3 e).1) hg2 (ntA _ (by decide))
      have apt4 : Apt w.heap.size W4 (us ++ [.slice (some ⟨gx, 0, none⟩) (ll + 70) cx]) (((rs.take k).map fun r => lent r.2) ++ [lent l]) := ⟨apt3.1, fun j hj => own_grT (own_ofS (apt3.2.1 j hj) fun q e => BM.block q (own_atS (apt3.2.1 j hj) e).1) hg2 (ntA _ (by decide)), apt3.2.2⟩
      have BW4 : Below w.heap.size w W4 := (BW3.trans (BM.mono BW3.size)).grown hg2 (Nat.le_trans BW3.size BM.size) (fun q e => (own_atS allM e).2.1)
      obtain ⟨W5, HW5⟩ : ∃ x, Hid (W4.setCell ⟨bx, 0, none⟩ (.slice pa2 (k + 1) ca2) = x) := ⟨_, rfl⟩
      have X5 : Hid (W5.heap[bx]? = some (.cells #[.slice pa2 (k + 1) ca2, .slice pe2 (k + 1) ce2] 25 (0, 0))) := hid (by rw [← HW5.out]; exact (bk_setU X4).trans rfl)
      have hg5 : W4.grownBy W5 (some bx) := by rw [← HW5.out]; exact grown_set W4 bx 0 _
      have nt5 : ∀ (T : TypeId), T ≠ 25 → ∀ q, some bx = some q → ∃ cs T', W4.heap[q]? = some (.cells cs T' (0, 0)) ∧ T' ≠ T := fun T hT q e => by cases e; exact ⟨_, _, X4, fun z => hT z.symm⟩
      have Z5 : Hid (W5.heap[b0]? = some (.cells #[.slice none 0 0, .slice none 0 0] 25 (0, 0))) := hid ((hg5.block b0 (Array.getElem?_eq_some_iff.1 Z4).1 (by intro z; cases z; have := SZ.out; omega)).trans Z4)
      have BW5 : Hid (Below w.heap.size w W5) := hid (BW4.grown hg5 BW4.size (fun q e => by cases e; exact hbx))
      have hul : us.length = k := by have := LL1.each.1; omega
      have hxl : xs.length = k * 2 := L1.all.1
      have LR5 : Hid (LR w.heap.size W5 (.slice pa2 (k + 1) ca2) (.slice pe2 (k + 1) ce2) (k + 1) (rs.take (k + 1)) (xs ++ [.string sn, .slice (some ⟨gx, 0, none⟩) ll cx]) (us ++ [.slice (some ⟨gx, 0, none⟩) (ll + 70) cx])) := hid (by
        have ht1 : (rs.take (k + 1)).length = k + 1 := by rw [List.length_take]; omega
        refine ⟨own_grT ho2 hg5 (nt5 _ (by decide)), by rw [ht1]; exact own_grT each4 hg5 (nt5 _ (by decide)), ?_, fun i hi => ?_⟩
        · rw [take_mapL hkr, Hx.out]
          exact ⟨apt4.1, fun j hj => own_grT (apt4.2.1 j hj) hg5 (nt5 _ (by decide)), apt4.2.2⟩
        · rw [ht1] at hi
          by_cases hik : i < k
          · obtain ⟨g, c', q1, q2, q3, q4⟩ := L1.cel i (by rw [htk]; exact hik)
            have eg : (rs.take (k + 1)).getD i rw0 = (rs.take k).getD i rw0 := by simp [List.getD, List.getElem?_take, hik, show i < k + 1 by omega]
            rw [eg]
            refine ⟨g, c', ?_, q2, ?_, ?_⟩
            · rw [getD_app, if_pos (by omega)]; exact q1
            · rw [List.getElem?_append_left (by omega)]; exact q3
            · rw [List.getElem?_append_left (by omega)]; exact q4
          · obtain rfl : i = k := by omega
            have eg : (rs.take (i + 1)).getD i rw0 = (sn, l) := by rw [← Hx.out]; simp [List.getD, List.getElem?_take]
            rw [eg]
            refine ⟨gx, cx, ?_, by show l.length + 70 ≤ cx; have := HLL.out; omega, ?_, ?_⟩
            · rw [getD_app, if_neg (by omega), hul, Nat.sub_self]
              show _ = Value.slice _ (l.length + 70) cx
              rw [HLL.out]; rfl
            · rw [List.getElem?_append_right (by omega), hxl, Nat.sub_self]; rfl
            · rw [List.getElem?_append_right (by omega), hxl, show i * 2 + 1 - i * 2 = 1 by omega]
              show _ = some (Value.slice _ l.length cx)
              rw [HLL.out]; rfl)
      have S3 : Hid ((fun V : World => V.cell? ⟨bx, 0, none⟩ = some (.slice pa k ca) ∧ V.cell? ⟨b, off + k * 2, none⟩ = some (.string sn) ∧ V.cell? ⟨b, off + k * 2 + 1, none⟩ = some (.slice pu ll cu)) W3.drew) := hid ⟨(cell_of_row _ _ _ _ _ _ X3).trans rfl, FC.out W3.drew BW3.drew⟩
      have SM : Hid ((fun V : World => V.cell? ⟨bx, 0, none⟩ = some (.slice pa k ca) ∧ V.cell? ⟨b, off + k * 2, none⟩ = some (.string sn) ∧ V.cell? ⟨b, off + k * 2 + 1, none⟩ = some (.slice pu ll cu)) WM) := hid ⟨(cell_of_row _ _ _ _ _ _ ((BM.block bx (Array.getElem?_eq_some_iff.1 X3).1).trans X3)).trans rfl, FC.out WM (BW3.trans (BM.mono BW3.size))⟩
      have S4 : Hid ((fun V : World => V.cell? ⟨bx, 0, none⟩ = some (.slice pa k ca) ∧ V.cell? ⟨b, off + k * 2, none⟩ = some (.string sn) ∧ V.cell? ⟨b, off + k * 2 + 1, none⟩ = some (.slice pu ll cu)) W4) := hid ⟨(cell_of_row _ _ _ _ _ _ X4).trans rfl, FC.out W4 BW4⟩
      have HR1 := hid hr1
      have HR2 := hid hr2
      have H4 := hid X4
      have c11 : W1.cell? ⟨bx, 1, none⟩ = some (.slice pe k ce) := (cell_of_row _ _ _ _ _ _ X1').trans rfl
      have c21 : W2.cell? ⟨bx, 1, none⟩ = some (.slice pe k ce) := (cell_of_row _ _ _ _ _ _ X2).trans rfl
      have f21 : W2.frozen? ⟨bx, 1, none⟩ = false := by simp [World.frozen?, X2]
      have w9 : IntKind.i64.wrap ((k : Int) + 1) = ((k + 1 : Nat) : Int) := by rw [IntKind.wrap_i64]; omega
      have HSL := hid (fun W => slice_hL W gx (ll + 70) cx ll (by omega) (by omega))
      clear hox hgx hgx1 hcx2 hx0 hfx hB1 hby hby0 htk L1 X1' Z1 BW1 BL LL1 eachL CL hsW1 hr1 ho1 hg1 gE ntE X2 Z2 all2 ox1 apt1 aptL apt2 BW2 X3 hbx hg3 nt3 Z3 all3 each3 apt3 BW3 BM allM CM hr2 ho2 hg2 ntA X4 Z4 each4 apt4 BW4 hg5 nt5 hul hxl d1 d2 C1 HL HX H0 HB
      go_wp2_with (first | rw [HWL.out] | (at_builtin; refine wpList_appG (.tmp 20) (.tmp 22) rfl rfl rfl rfl HR1.out ?_) | fail)
      rw [HW3.out]
      clear c11 c21 f21
      have S3' := S3.out
      refine (Code.wp_mono (fun _ _ _ q => q.2) (wp_region_last (Q := fun e a' w' => e = .normal ∧ _) (S := (fun V : World => V.cell? ⟨bx, 0, none⟩ = some (.slice pa k ca) ∧ V.cell? ⟨b, off + k * 2, none⟩ = some (.string sn) ∧ V.cell? ⟨b, off + k * 2 + 1, none⟩ = some (.slice pu ll cu))) 19 (by kernel_rfl) S3.out (fun hHeld => ?_)))
      have HS := hid hHeld
      clear hHeld S3'
      change wpAnyL _ _ _ _ _ _ _ _ _ (World.drew _)
      refine wpAnyL_take (i := 0) (v := ?_) rfl (by kernel_rfl) (by kernel_rfl) (by kernel_rfl) (by kernel_rfl) (by kernel_rfl) (fun _ _ _ h => by cases h.1) (Or.inl ⟨by rfl, ?q0⟩) HS.out ?_
      case q0 => intro W hSw; obtain ⟨z0, z1, z2⟩ := hSw; go_simp; rfl
      simp only [Act.put, List.getElem_toArray, List.getElem_cons_zero, List.getElem_cons_succ, List.setIfInBounds_toArray, List.set_cons_zero, List.set_cons_succ]
      refine wpAnyL_take (i := 1) (v := ?_) rfl (by kernel_rfl) (by kernel_rfl) (by kernel_rfl) (by kernel_rfl) (by kernel_rfl) (fun _ _ _ h => by cases h.1) (Or.inl ⟨by rfl, ?q1⟩) HS.out ?_
      case q1 => intro W hSw; obtain ⟨z0, z1, z2⟩ := hSw; go_simp; rfl
      simp only [Act.put, List.getElem_toArray, List.getElem_cons_zero, List.getElem_cons_succ, List.setIfInBounds_toArray, List.set_cons_zero, List.set_cons_succ]
      refine wpAnyL_take (i := 2) (v := ?_) rfl (by kernel_rfl) (by kernel_rfl) (by kernel_rfl) (by kernel_rfl) (by kernel_rfl) (fun _ _ _ h => by cases h.1) (Or.inl ⟨by rfl, ?q2⟩) HS.out ?_
      case q2 => intro W hSw; obtain ⟨z0, z1, z2⟩ := hSw; go_simp; rfl
      simp only [Act.put, List.getElem_toArray, List.getElem_cons_zero, List.getElem_cons_succ, List.setIfInBounds_toArray, List.set_cons_zero, List.set_cons_succ]
      refine wpAnyL_take (i := 3) (v := ?_) rfl (by kernel_rfl) (by kernel_rfl) (by kernel_rfl) (by kernel_rfl) (by kernel_rfl) (fun _ _ _ h => by cases h.1) (Or.inl ⟨by rfl, ?q3⟩) HS.out ?_
      case q3 => intro W hSw; obtain ⟨z0, z1, z2⟩ := hSw; go_simp; rfl
      simp only [Act.put, List.getElem_toArray, List.getElem_cons_zero, List.getElem_cons_succ, List.setIfInBounds_toArray, List.set_cons_zero, List.set_cons_succ]
      refine wpAnyL_take (i := 4) (v := ?_) rfl (by kernel_rfl) (by kernel_rfl) (by kernel_rfl) (by kernel_rfl) (by kernel_rfl) (fun _ _ _ h => by cases h.1) (Or.inl ⟨by rfl, ?q4⟩) HS.out ?_
      case q4 => intro W hSw; obtain ⟨z0, z1, z2⟩ := hSw; go_simp; rfl
      simp only [Act.put, List.getElem_toArray, List.getElem_cons_zero, List.getElem_cons_succ, List.setIfInBounds_toArray, List.set_cons_zero, List.set_cons_succ]
      refine wpAnyL_take (i := 5) (v := ?_) rfl (by kernel_rfl) (by kernel_rfl) (by kernel_rfl) (by kernel_rfl) (by kernel_rfl) (fun _ _ _ h => by cases h.1) (Or.inl ⟨by rfl, ?q5⟩) HS.out ?_
      case q5 => intro W hSw; obtain ⟨z0, z1, z2⟩ := hSw; go_simp; rfl
      simp only [Act.put, List.getElem_toArray, List.getElem_cons_zero, List.getElem_cons_succ, List.setIfInBounds_toArray, List.set_cons_zero, List.set_cons_succ]
      refine wpAnyL_take (i := 6) (v := ?_) rfl (by kernel_rfl) (by kernel_rfl) (by kernel_rfl) (by kernel_rfl) (by kernel_rfl) (fun _ _ _ h => by cases h.1) (Or.inl ⟨by rfl, ?q6⟩) HS.out ?_
      case q6 => intro W hSw; obtain ⟨z0, z1, z2⟩ := hSw; go_simp; rfl
      simp only [Act.put, List.getElem_toArray, List.getElem_cons_zero, List.getElem_cons_succ, List.setIfInBounds_toArray, List.set_cons_zero, List.set_cons_succ]
      refine wpAnyL_take (i := 7) (v := ?_) rfl (by kernel_rfl) (by kernel_rfl) (by kernel_rfl) (by kernel_rfl) (by kernel_rfl) (fun _ _ _ h => by cases h.1) (Or.inl ⟨by rfl, ?q7⟩) HS.out ?_
      case q7 => intro W hSw; obtain ⟨z0, z1, z2⟩ := hSw; go_simp; rfl
      simp only [Act.put, List.getElem_toArray, List.getElem_cons_zero, List.getElem_cons_succ, List.setIfInBounds_toArray, List.set_cons_zero, List.set_cons_succ]
      refine wpAnyL_take (i := 8) (v := ?_) rfl (by kernel_rfl) (by kernel_rfl) (by kernel_rfl) (by kernel_rfl) (by kernel_rfl) (fun _ _ _ h => by cases h.1) (Or.inl ⟨by rfl, ?q8⟩) HS.out ?_
      case q8 => intro W hSw; obtain ⟨z0, z1, z2⟩ := hSw; go_simp; rfl
      simp only [Act.put, List.getElem_toArray, List.getElem_cons_zero, List.getElem_cons_succ, List.setIfInBounds_toArray, List.set_cons_zero, List.set_cons_succ]
      refine wpAnyL_take (i := 9) (v := ?_) rfl (by kernel_rfl) (by kernel_rfl) (by kernel_rfl) (by kernel_rfl) (by kernel_rfl) (fun _ _ _ h => by cases h.1) (Or.inl ⟨by rfl, ?q9⟩) HS.out ?_
      case q9 => intro W hSw; obtain ⟨z0, z1, z2⟩ := hSw; go_simp; rfl
      simp only [Act.put, List.getElem_toArray, List.getElem_cons_zero, List.getElem_cons_succ, List.setIfInBounds_toArray, List.set_cons_zero, List.set_cons_succ]
      refine wpAnyL_take (i := 10) (v := ?_) rfl (by kernel_rfl) (by kernel_rfl) (by kernel_rfl) (by kernel_rfl) (by kernel_rfl) (fun _ _ _ h => by cases h.1) (Or.inl ⟨by rfl, ?q10⟩) HS.out ?_
      case q10 => intro W hSw; obtain ⟨z0, z1, z2⟩ := hSw; go_simp; rfl
      simp only [Act.put, List.getElem_toArray, List.getElem_cons_zero, List.getElem_cons_succ, List.setIfInBounds_toArray, List.set_cons_zero, List.set_cons_succ]
      refine wpAnyL_take (i := 11) (v := ?_) rfl (by kernel_rfl) (by kernel_rfl) (by kernel_rfl) (by kernel_rfl) (by kernel_rfl) (fun _ _ _ h => by cases h.1) (Or.inl ⟨by rfl, ?q11⟩) HS.out ?_
      case q11 => intro W hSw; obtain ⟨z0, z1, z2⟩ := hSw; go_simp; rfl
      simp only [Act.put, List.getElem_toArray, List.getElem_cons_zero, List.getElem_cons_succ, List.setIfInBounds_toArray, List.set_cons_zero, List.set_cons_succ]
      refine wpAnyL_take (i := 12) (v := ?_) rfl (by kernel_rfl) (by kernel_rfl) (by kernel_rfl) (by kernel_rfl) (by kernel_rfl) (fun _ _ _ h => by cases h.1) (Or.inl ⟨by rfl, ?q12⟩) HS.out ?_
      case q12 => intro W hSw; obtain ⟨z0, z1, z2⟩ := hSw; go_simp; rfl
      simp only [Act.put, List.getElem_toArray, List.getElem_cons_zero, List.getElem_cons_succ, List.setIfInBounds_toArray, List.set_cons_zero, List.set_cons_succ]
      refine wpAnyL_take (i := 13) (v := ?_) rfl (by kernel_rfl) (by kernel_rfl) (by kernel_rfl) (by kernel_rfl) (by kernel_rfl) (fun _ _ _ h => by cases h.1) (Or.inl ⟨by rfl, ?q13⟩) HS.out ?_
      case q13 => intro W hSw; obtain ⟨z0, z1, z2⟩ := hSw; go_simp; rfl
      simp only [Act.put, List.getElem_toArray, List.getElem_cons_zero, List.getElem_cons_succ, List.setIfInBounds_toArray, List.set_cons_zero, List.set_cons_succ]
      refine wpAnyL_take (i := 14) rfl (by kernel_rfl) (by kernel_rfl) (by kernel_rfl) (by kernel_rfl) (by kernel_rfl) (fun _ _ _ h => by cases h.1) (yieldsIf_slU (by rfl) 27 _ _ _ (by rw [elmU]; exact Tryd.underlying27) rfl (.slice (some ⟨gx, 0, none⟩) (ll + 70) cx) none (some (.int .i64 (ll : Int))) rfl rfl rfl (.slice (some ⟨gx, 0, none⟩) ll cx) (fun W _ => HSL.out W)) HS.out ?_
      simp only [Act.put, List.getElem_toArray, List.getElem_cons_zero, List.getElem_cons_succ, List.setIfInBounds_toArray, List.set_cons_zero, List.set_cons_succ]
      refine wpAnyL_take (i := 15) (v := ?_) rfl (by kernel_rfl) (by kernel_rfl) (by kernel_rfl) (by kernel_rfl) (by kernel_rfl) (fun _ _ _ h => by cases h.1) (Or.inl ⟨by rfl, ?q15⟩) HS.out ?_
      case q15 => intro W hSw; obtain ⟨z0, z1, z2⟩ := hSw; go_simp; rfl
      simp only [Act.put, List.getElem_toArray, List.getElem_cons_zero, List.getElem_cons_succ, List.setIfInBounds_toArray, List.set_cons_zero, List.set_cons_succ]
      refine wpAnyL_one (i := 16) (by kernel_rfl) rfl (fun K hK => ?_)
      replace hK := hid hK
      go_simp
      rw [show (W3.alloc (.cells #[.string sn, .slice (some ⟨gx, 0, none⟩) ll cx] 37)).drew = WM from HWM.out]
      refine hK.out _ _ (fun _ => SM.out) ?_
      clear hK K HS
      try simp only [Act.put, List.getElem_toArray, List.getElem_cons_zero, List.getElem_cons_succ, List.setIfInBounds_toArray, List.set_cons_zero, List.set_cons_succ]
      refine wpAnyL_one (i := 17) (by kernel_rfl) rfl (fun K hK => ?_)
      rw [if_pos (by rfl)]
      refine wp_appG (.tmp 26) (.tmp 41) rfl rfl rfl HR2.out ?_
      refine hK _ _ (fun _ => S4.out) ?_
      clear hK K
      try simp only [Act.put, List.getElem_toArray, List.getElem_cons_zero, List.getElem_cons_succ, List.setIfInBounds_toArray, List.set_cons_zero, List.set_cons_succ]
      refine wpAnyL_one (i := 18) (by kernel_rfl) rfl (fun K hK => ?_)
      replace hK := hid hK
      go_simp
      refine hK.out _ _ (fun _ => S4.out) ?_
      clear hK K
      try simp only [Act.put, List.getElem_toArray, List.getElem_cons_zero, List.getElem_cons_succ, List.setIfInBounds_toArray, List.set_cons_zero, List.set_cons_succ]
      refine wpAnyL_one (i := 19) (by kernel_rfl) rfl (fun K hK => ?_)
      replace hK := hid hK
      have c4 : W4.cell? ⟨bx, 0, none⟩ = some (.slice pa k ca) := S4.out.1
      have f4 : W4.frozen? ⟨bx, 0, none⟩ = false := by simp [World.frozen?, H4.out]
      go_simp
      rw [HW5.out]
      refine hK.out _ _ (fun e => absurd rfl e) ?_
      clear hK K c4 f4
      try simp only [Act.put, List.getElem_toArray, List.getElem_cons_zero, List.getElem_cons_succ, List.setIfInBounds_toArray, List.set_cons_zero, List.set_cons_succ]
      refine wpAnyL_done (by kernel_rfl) ?_ _
      refine ⟨rfl, ?_⟩
      go_wp2
      exact ⟨⟨k + 1, _, _, _, _, by omega, by go_num, LR5, X5, Z5, BW5⟩, by simp [intOf]; omega⟩
    · have hkn : k = n := by omega
      subst hkn
      have L0 : Hid (LR w.heap.size wr va ve (k + 0) rs xs us) := hid (by have := HL.out; rwa [List.take_of_length_le (Nat.le_of_eq HN.out)] at this)
      have M0 : Hid (MK w.heap.size wr xs k 0) := hid fun j hj => absurd hj (Nat.not_lt_zero j)
      clear HL
      go_wp2
      go_loopw [6] (fun i wr => ∃ (j : Nat) (va ve : Value) (xs us : List Value), j ≤ 70 ∧ i = .int .i64 (j : Int) ∧ Hid (LR w.heap.size wr va ve (k + j) rs xs us) ∧ Hid (MK w.heap.size wr xs k j) ∧ Hid (wr.heap[bx]? = some (.cells #[va, ve] 25 (0, 0))) ∧ Hid (wr.heap[b0]? = some (.cells #[.slice none 0 0, .slice none 0 0] 25 (0, 0))) ∧ Hid (Below w.heap.size w wr)) (fun i _ => 70 - (intOf i).toNat)
      case atStart => exact ⟨0, _, _, _, _, by omega, rfl, L0, M0, HX, H0, HB⟩
      clear HX H0 HB L0 M0
      obtain ⟨j, va, ve, xs, us, hj, rfl, HL, HM, HX, H0, HB⟩ := hrel
      have htl := HN.out
      obtain ⟨pa, ca, eva⟩ := own_slcS HL.out.all
      obtain ⟨pe, ce, eve⟩ := own_slcS HL.out.each
      rw [htl] at eve
      subst eva
      subst eve
      by_cases hlt : j < 70
      · obtain ⟨WB, HWB⟩ : ∃ x, Hid ((wr.alloc (.cells #[.int .u8 (j : Int)] 5)).alloc (.cells #[.string ⟨#[109, 97, 114, 107]⟩, .slice (some ⟨wr.heap.size, 0, none⟩) 1 1] TR) = x) := ⟨_, rfl⟩
        have BB : Below wr.heap.size wr WB := by rw [← HWB.out]; exact ((Below.refl _ _).alloc (Nat.le_refl _) _).alloc (by simp) _
        have allB := own_ofS HL.out.all (w' := WB) fun q e => BB.block q (own_atS HL.out.all e).1
        have CB : WB.heap[wr.heap.size + 1]? = some (.cells #[.string ⟨#[109, 97, 114, 107]⟩, .slice (some ⟨wr.heap.size, 0, none⟩) 1 1] TR (0, 0)) := by
          rw [← HWB.out]
          have := heap_alloc_new (wr.alloc (.cells #[.int .u8 (j : Int)] 5)) (.cells #[.string ⟨#[109, 97, 114, 107]⟩, .slice (some ⟨wr.heap.size, 0, none⟩) 1 1] TR)
          rwa [show (wr.alloc (.cells #[.int .u8 (j : Int)] 5)).heap.size = wr.heap.size + 1 by simp] at this
        have CN : WB.heap[wr.heap.size]? = some (.cells #[.int .u8 (j : Int)] 5 (0, 0)) := by
          rw [← HWB.out]
          exact (Below.heap_alloc _ _ _ (by simp)).trans (heap_alloc_new wr _)
        obtain ⟨va2, W4, hr2, ho2, hg2, -⟩ := app_rowS (c := 1) (ty := 22) allB CB rfl (by omega) (Nat.le_trans HB.out.size BB.size)
        obtain ⟨pa2, ca2, eva2⟩ := own_slcS ho2
        subst eva2
        have ntA : ∀ (T : TypeId), T ≠ TR → ∀ q, (Value.slice pa (k + j) ca).ownBlock = some q → ∃ cs T', WB.heap[q]? = some (.cells cs T' (0, 0)) ∧ T' ≠ T := fun T hT q e => by obtain ⟨_, _, cs, h⟩ := own_atS allB e; exact ⟨cs, _, h, fun z => hT z.symm⟩
        have X4 : W4.heap[bx]? = some (.cells #[.slice pa (k + j) ca, .slice pe k ce] 25 (0, 0)) := blk_grT ((BB.block bx (Array.getElem?_eq_some_iff.1 HX.out).1).trans HX.out) hg2 (ntA _ (by decide))
        have Z4 : W4.heap[b0]? = some (.cells #[.slice none 0 0, .slice none 0 0] 25 (0, 0)) := blk_grT ((BB.block b0 (Array.getElem?_eq_some_iff.1 H0.out).1).trans H0.out) hg2 (ntA _ (by decide))
        have eachB := own_ofS HL.out.each (w' := WB) fun q e => BB.block q (own_atS HL.out.each e).1
        have each4 := own_grT eachB hg2 (ntA _ (by decide))
        have apt4 : Apt w.heap.size W4 us (rs.map fun r => lent r.2) := ⟨HL.out.apt.1, fun i hi => own_grT (own_ofS (HL.out.apt.2.1 i hi) fun q e => BB.block q (own_atS (HL.out.apt.2.1 i hi) e).1) hg2 (ntA _ (by decide)), HL.out.apt.2.2⟩
        have hsz : w.heap.size ≤ wr.heap.size := HB.out.size
        have BW4 : Below w.heap.size w W4 := (HB.out.trans (BB.mono hsz)).grown hg2 (Nat.le_trans hsz BB.size) (fun q e => (own_atS allB e).2.1)
        have M4 : MK w.heap.size W4 xs k j := (HM.out.below BB).keep fun b cs _ e => by rw [blk_grT e hg2 (ntA _ (by decide)), e]
        have N4 : W4.heap[wr.heap.size]? = some (.cells #[.int .u8 (j : Int)] 5 (0, 0)) := blk_grT CN hg2 (ntA _ (by decide))
        obtain ⟨W5, HW5⟩ : ∃ x, Hid (W4.setCell ⟨bx, 0, none⟩ (.slice pa2 (k + j + 1) ca2) = x) := ⟨_, rfl⟩
        have X5 : Hid (W5.heap[bx]? = some (.cells #[.slice pa2 (k + j + 1) ca2, .slice pe k ce] 25 (0, 0))) := hid (by rw [← HW5.out]; exact (bk_setU X4).trans rfl)
        have hg5 : W4.grownBy W5 (some bx) := by rw [← HW5.out]; exact grown_set W4 bx 0 _
        have hbx : w.heap.size ≤ bx := by have := SZ.out; omega
        have nt5 : ∀ (T : TypeId), T ≠ 25 → ∀ q, some bx = some q → ∃ cs T', W4.heap[q]? = some (.cells cs T' (0, 0)) ∧ T' ≠ T := fun T hT q e => by cases e; exact ⟨_, _, X4, fun z => hT z.symm⟩
        have Z5 : Hid (W5.heap[b0]? = some (.cells #[.slice none 0 0, .slice none 0 0] 25 (0, 0))) := hid ((hg5.block b0 (Array.getElem?_eq_some_iff.1 Z4).1 (by intro z; cases z; have := SZ.out; omega)).trans Z4)
        have BW5 : Hid (Below w.heap.size w W5) := hid (BW4.grown hg5 BW4.size (fun q e => by cases e; exact hbx))
        have hxl : xs.length = (k + j) * 2 := HL.out.all.1
        have LR5 : Hid (LR w.heap.size W5 (.slice pa2 (k + (j + 1)) ca2) (.slice pe k ce) (k + (j + 1)) rs (xs ++ [.string ⟨#[109, 97, 114, 107]⟩, .slice (some ⟨wr.heap.size, 0, none⟩) 1 1]) us) := hid (by
          refine ⟨own_grT ho2 hg5 (nt5 _ (by decide)), by rw [htl]; rw [htl] at each4; exact own_grT each4 hg5 (nt5 _ (by decide)), ⟨apt4.1, fun i hi => own_grT (apt4.2.1 i hi) hg5 (nt5 _ (by decide)), apt4.2.2⟩, fun i hi => ?_⟩
          obtain ⟨g, c', q1, q2, q3, q4⟩ := HL.out.cel i hi
          exact ⟨g, c', q1, q2, by rw [List.getElem?_append_left (by omega)]; exact q3, by rw [List.getElem?_append_left (by omega)]; exact q4⟩)
        have M5 : Hid (MK w.heap.size W5 (xs ++ [.string ⟨#[109, 97, 114, 107]⟩, .slice (some ⟨wr.heap.size, 0, none⟩) 1 1]) k (j + 1)) := hid ((M4.keep fun b cs _ e => by rw [blk_grT e hg5 (nt5 _ (by decide)), e]).snoc hxl hsz (blk_grT N4 hg5 (nt5 _ (by decide))))
        have HR2 := hid hr2
        have c0 : wr.cell? ⟨bx, 0, none⟩ = some (.slice pa (k + j) ca) := (cell_of_row _ _ _ _ _ _ HX.out).trans rfl
        have c4 : W4.cell? ⟨bx, 0, none⟩ = some (.slice pa (k + j) ca) := (cell_of_row _ _ _ _ _ _ X4).trans rfl
        have f4 : W4.frozen? ⟨bx, 0, none⟩ = false := by simp [World.frozen?, X4]
        have w8 : IntKind.u8.wrap (j : Int) = (j : Int) := by rw [IntKind.wrap_u8]; omega
        have w9 : IntKind.i64.wrap ((j : Int) + 1) = ((j + 1 : Nat) : Int) := by rw [IntKind.wrap_i64]; omega
        clear hr2 ho2 hg2 ntA X4 Z4 eachB each4 apt4 hsz BW4 M4 N4 hg5 hbx nt5 hxl BB allB CB CN HL HM HX H0 HB htl
        go_wp2_with (first | rw [show (wr.alloc (.cells #[.int .u8 (j : Int)] 5)).alloc (.cells #[.string ⟨#[109, 97, 114, 107]⟩, .slice (some ⟨wr.heap.size, 0, none⟩) 1 1] 37) = WB from HWB.out] | (at_builtin; refine wpList_appG (.tmp 49) (.tmp 54) rfl rfl rfl rfl HR2.out ?_) | fail)
        rw [HW5.out]
        exact ⟨⟨j + 1, _, _, _, _, by omega, by go_num, LR5, M5, X5, Z5, BW5⟩, by simp [intOf]; omega⟩
      · have hj70 : j = 70 := by omega
        subst hj70
        obtain ⟨W9, HW9⟩ : ∃ x, Hid ((wr.setCell ⟨b0, 0, none⟩ (.slice pa (k + 70) ca)).setCell ⟨b0, 1, none⟩ (.slice pe k ce) = x) := ⟨_, rfl⟩
        have c0 : wr.cell? ⟨bx, 0, none⟩ = some (.slice pa (k + 70) ca) := (cell_of_row _ _ _ _ _ _ HX.out).trans rfl
        have c1 : wr.cell? ⟨bx, 1, none⟩ = some (.slice pe k ce) := (cell_of_row _ _ _ _ _ _ HX.out).trans rfl
        have f0 : ∀ i, wr.frozen? ⟨b0, i, none⟩ = false := fun i => by have := H0.out; simp [World.frozen?, this]
        have f1 : ∀ i v, (wr.setCell ⟨b0, 0, none⟩ v).frozen? ⟨b0, i, none⟩ = false := fun i v => by have := H0.out; simp [World.frozen?, World.setCell, Array.getElem?_modify, this]
        have z0 : wr.cell? ⟨b0, 0, none⟩ = some (.slice none 0 0) := (cell_of_row _ _ _ _ _ _ H0.out).trans rfl
        have z1 : ∀ v, (wr.setCell ⟨b0, 0, none⟩ v).cell? ⟨b0, 1, none⟩ = some (.slice none 0 0) := fun v => by
          rw [cell_of_row _ _ _ _ _ _ (bk_setU H0.out (i := 0) (v := v))]
          rfl
        have Z9 : W9.heap[b0]? = some (.cells #[.slice pa (k + 70) ca, .slice pe k ce] 25 (0, 0)) := by
          rw [← HW9.out]
          exact (bk_setU ((bk_setU H0.out).trans rfl)).trans rfl
        have r0 : W9.cell? ⟨b0, 0, none⟩ = some (.slice pa (k + 70) ca) := (cell_of_row _ _ _ _ _ _ Z9).trans rfl
        have r1 : W9.cell? ⟨b0, 1, none⟩ = some (.slice pe k ce) := (cell_of_row _ _ _ _ _ _ Z9).trans rfl
        go_wp2_with (first | rw [HW9.out] | fail)
        have ne9 : ∀ q, q ≠ b0 → W9.heap[q]? = wr.heap[q]? := fun q hq => by rw [← HW9.out]; simp [World.setCell, Array.getElem?_modify, Ne.symm hq]
        have hb0 : w.heap.size ≤ b0 := by have := SZ.out; omega
        have B9 : Below w.heap.size w W9 := by
          rw [← HW9.out]
          have g1 : Below w.heap.size w (wr.setCell ⟨b0, 0, none⟩ (.slice pa (k + 70) ca)) := HB.out.grown (grown_set wr b0 0 _) HB.out.size (fun q e => by cases e; exact hb0)
          exact g1.grown (grown_set _ b0 1 _) g1.size (fun q e => by cases e; exact hb0)
        have L9 : LR w.heap.size W9 (.slice pa (k + 70) ca) (.slice pe k ce) (k + 70) rs xs us := HL.out.keep fun q hq => ne9 q (fun z => by
          obtain ⟨_, _, cs, T, h1, h2⟩ := HL.out.at hq
          rw [z, H0.out] at h1
          simp only [Option.some.injEq, Obj.cells.injEq] at h1
          rw [← h1.2.1] at h2
          rcases h2 with h2 | h2 | h2 <;> exact absurd h2 (by decide))
        have M9 : MK w.heap.size W9 xs k 70 := HM.out.keep fun q cs _ e => ne9 q (fun z => by
          rw [z, H0.out] at e
          simp at e)
        refine bodyPost_ret (v := .agg #[.slice pa (k + 70) ca, .slice pe k ce]) (results_cellL (p := 2) (ty := 25) rfl _ _ b0 25 _ (0, 0) _ rfl Z9 Tryd.underlying25 rfl (by kernel_rfl)) rfl ?_
        exact ⟨_, _, xs, us, rfl, ⟨by rw [htl]; exact L9, by rw [htl]; exact M9⟩, B9⟩
end Go.Proofs.YtcbnlfghhcpkmaaDoor
namespace Go.Proofs.YtcbnlfghhcpkmaaDoor
open Go Go.RowKit
theorem take_stepR {la lb : List Rw} {k : Nat} (ha : k < la.length) (hb : k < lb.length) (h : la.take k = lb.take k) (e : la.getD k rw0 = lb.getD k rw0) : la.take (k + 1) = lb.take (k + 1) := by
  rw [List.take_succ_eq_append_getElem ha, List.take_succ_eq_append_getElem hb, h]
  have e1 : la.getD k rw0 = la[k] := by simp [List.getD, List.getElem?_eq_getElem ha]
  have e2 : lb.getD k rw0 = lb[k] := by simp [List.getD, List.getElem?_eq_getElem hb]
  rw [e1, e2] at e
  rw [e]
set_option maxRecDepth 100000 in
set_option maxHeartbeats 2000000 in
theorem sameRows_any (w : World) (va vb : Value) (la lb : List Rw) (ha : HRw w va la) (hb : HRw w vb lb) :
    Calls Tryd.prog 14 #[va, vb] w fun e w' => e = .returned (.bool (decide (la = lb))) ∧ Dr w w' := by
  obtain ⟨p1, c1, rfl, hc1, hm1, hk1⟩ := ha.open
  obtain ⟨p2, c2, rfl, hc2, hm2, hk2⟩ := hb.open
  unfold maxLen at hm1 hm2
  by_cases hlen : la.length = lb.length
  · have HLN : Hid (la.length = lb.length) := hlen
    rw [← hlen]
    have H1 := hid hk1
    have H2 := hid hk2
    obtain ⟨n, HN⟩ : ∃ n, Hid (la.length = n) := ⟨_, rfl⟩
    have hm63 : n ≤ 9223372036854775807 := by rw [← HN.out]; omega
    rw [HN.out]
    clear hlen hk1 hk2 ha hb hc1 hc2
    go_enter Tryd.func14, Tryd.ntmps14
    go_wp2
    go_loopw [5] (fun i wr => ∃ k : Nat, k ≤ n ∧ i = .int .i64 (k : Int) ∧ Hid (la.take k = lb.take k) ∧ Hid (Dr w wr)) (fun i _ => n - (intOf i).toNat)
    case atStart => exact ⟨0, Nat.zero_le _, rfl, rfl, Dr.refl _⟩
    case round =>
      obtain ⟨k, hk, rfl, HT, HD⟩ := hrel
      by_cases hlt : k < n
      · obtain ⟨b1, o1, rfl, _, h1⟩ := H1.out (by have := HN.out; omega)
        obtain ⟨b2, o2, rfl, _, h2⟩ := H2.out (by have := HN.out; have := HLN.out; omega)
        obtain ⟨u1, r1, e1⟩ := h1 k (by have := HN.out; omega)
        obtain ⟨u2, r2, e2⟩ := h2 k (by have := HN.out; have := HLN.out; omega)
        obtain ⟨⟨s, x⟩, HX⟩ : ∃ x, Hid (la.getD k rw0 = x) := ⟨_, rfl⟩
        obtain ⟨⟨t, y⟩, HY⟩ : ∃ x, Hid (lb.getD k rw0 = x) := ⟨_, rfl⟩
        rw [HX.out] at r1 e1
        rw [HY.out] at r2 e2
        have g1 := (HD.out.cell _).trans (r1 0 _ rfl)
        have g2 := (HD.out.cell _).trans (r2 0 _ rfl)
        have g3 := (HD.out.cell _).trans (r1 1 _ rfl)
        have g4 := (HD.out.cell _).trans (r2 1 _ rfl)
        rw [Nat.add_zero] at g1 g2
        replace e1 := e1.dr HD.out
        replace e2 := e2.dr HD.out
        obtain ⟨q1, d1, z1, _, _⟩ := e1.open
        obtain ⟨q2, d2, z2, _, _⟩ := e2.open
        subst z1 z2
        have E1 := hid e1
        have E2 := hid e2
        clear e1 e2 h1 h2 r1 r2
        have NO : Hid (la.getD k rw0 ≠ lb.getD k rw0 → decide (la = lb) = false) := hid fun q => decide_eq_false (fun h => q (by rw [h]))
        by_cases hst : s = t
        · subst hst
          have hne : (s.toList == s.toList) = true := by simp
          by_cases he : x = y
          · have hd : decide (x = y) = true := by simpa using he
            have HE := hid he
            clear he
            go_wp2
            go_quiet ((go_at_call 9; exact Calls.quiet_of (sameBytes_any _ _ _ x y (E1.out.later fun _ _ hx => hx) (E2.out.later fun _ _ hx => hx))))
            go_wp2
            exact ⟨⟨k + 1, by omega, by go_num, take_stepR (by have := HN.out; omega) (by have := HN.out; have := HLN.out; omega) HT.out (by rw [HX.out, HY.out, HE.out]), HD.out.drewN _⟩, by simp [intOf]; omega⟩
          · have hd : decide (x = y) = false := by simpa using he
            have F := hid (NO.out (by rw [HX.out, HY.out]; intro q; exact he (congrArg Prod.snd q)))
            clear he
            go_wp2
            go_quiet ((go_at_call 9; exact Calls.quiet_of (sameBytes_any _ _ _ x y (E1.out.later fun _ _ hx => hx) (E2.out.later fun _ _ hx => hx))))
            go_wp2
            go_ret
            exact ⟨by rw [F.out]; rfl, HD.out.drewN _⟩
        · have hne : (s.toList == t.toList) = false := by rw [eq_iff_sB]; exact decide_eq_false (fun e => hst (sB_inj e))
          have F := hid (NO.out (by rw [HX.out, HY.out]; intro q; exact hst (congrArg Prod.fst q)))
          clear hst
          go_wp2
          go_quiet (fail)
          go_wp2
          go_ret
          exact ⟨by rw [F.out]; rfl, HD.out.drewN _⟩
      · have e : la = lb := by
          have h1 := List.take_of_length_le (show la.length ≤ k by have := HN.out; omega)
          have h2 := List.take_of_length_le (show lb.length ≤ k by have := HN.out; have := HLN.out; omega)
          rw [← h1, ← h2, HT.out]
        have F : Hid (decide (la = lb) = true) := by simp [e, Hid]
        go_wp2
        go_ret
        exact ⟨by rw [F.out]; rfl, HD.out⟩
  · have hne : ((la.length : Int) != (lb.length : Int)) = true := by rw [bne_iff_ne]; omega
    have F : Hid (decide (la = lb) = false) := decide_eq_false (fun e => hlen (by rw [e]))
    clear hlen hk1 hk2 ha hb
    go_enter Tryd.func14, Tryd.ntmps14
    go_wp2
    go_ret
    exact ⟨by rw [F.out]; rfl, Dr.refl _⟩
theorem size_rowU : ∀ w, Sem.run Tryd.prog (Go.sizeOf TR) w = .ok 2 w := fun w => by
  obtain ⟨i0, hi, h2⟩ : ∃ i0, Tryd.prog.info? TR = some i0 ∧ i0.size = 2 := by
    have h := size_row
    cases h' : Tryd.prog.info? TR with
    | none => rw [show (37 : TypeId) = TR from rfl, h'] at h; cases h
    | some i0 => exact ⟨i0, rfl, by rw [show (37 : TypeId) = TR from rfl, h'] at h; simpa using h⟩
  simp [Go.sizeOf, typeInfo, hi, h2]
theorem slice_hR (W : World) (b n c hi : Nat) (h1 : hi ≤ c) (h2 : 0 < c) : (Instr.slice 22 (.slice (some ⟨b, 0, none⟩) n c) none (some (.int .i64 (hi : Int))) none).run Tryd.prog W = .ok (.slice (some ⟨b, 0, none⟩) hi c) W := by
  have elm : Tryd.prog.elem 22 = TR := by kernel_rfl
  have h := run_slice_h (P := Tryd.prog) W 22 (some ⟨b, 0, none⟩) n c (by rw [elm]; exact Tryd.underlying22) .i64 (hi : Int) (by omega) (by omega)
  rw [h, elm, size_rowU, Result.andThen_ok, Int.toNat_natCast]
  unfold sliced
  rw [if_neg (by omega)]
  simp [Go.WideShapes.add_plain]
section
variable {B m c g : Nat} {W : World} {va ve : Value} {rs : List Rw} {xs us : List Value}
theorem LR.part (h : LR B W va ve m rs xs us) (hb : ∀ r ∈ rs, Byt8 r.2) {i : Nat} (hi : i < rs.length) : ∃ g c, us.getD i undef = .slice (some ⟨g, 0, none⟩) ((rs.getD i rw0).2.length + 70) c ∧ xs[i * 2]? = some (.string (rs.getD i rw0).1) ∧ xs[i * 2 + 1]? = some (.slice (some ⟨g, 0, none⟩) (rs.getD i rw0).2.length c) ∧ HB W (.slice (some ⟨g, 0, none⟩) (rs.getD i rw0).2.length c) (rs.getD i rw0).2 ∧ HB W (.slice (some ⟨g, 0, none⟩) ((rs.getD i rw0).2.length + 70) c) (lent (rs.getD i rw0).2) := by
  obtain ⟨gu, cu, q1, q2, q3, q4⟩ := h.cel i hi
  have hu : us.length = rs.length := by have := h.apt.1; simpa using this
  have ho := h.apt.2.1 i (by omega)
  have e : (rs.map fun r => lent r.2).getD i [] = lent (rs.getD i rw0).2 := by simp [List.getD, List.getElem?_map, List.getElem?_eq_getElem hi]
  rw [e] at ho
  obtain ⟨g', c', e1, _, _, _, _, h1, h2⟩ := lent_part ho (hb _ (by rw [getD_get hi]; exact List.getElem_mem hi))
  rw [q1] at e1
  simp only [Value.slice.injEq, Option.some.injEq, Addr.mk.injEq, and_true, true_and] at e1
  obtain ⟨rfl, rfl⟩ := e1
  exact ⟨_, _, q1, q3, q4, h1, h2⟩
theorem LX.below {C : World} (h : LX B W va ve rs xs us) (hb : Below W.heap.size W C) : LX B C va ve rs xs us := ⟨h.lr.below hb, h.marks.below hb⟩
theorem LX.hrw (h : LX B W (.slice (some ⟨g, 0, none⟩) m c) ve rs xs us) (hb : ∀ r ∈ rs, Byt8 r.2) : HRw W (.slice (some ⟨g, 0, none⟩) rs.length c) rs := by
  obtain ⟨q1, c', q2⟩ := own_slcS h.lr.all
  simp only [Value.slice.injEq] at q2
  obtain ⟨rfl, rfl, rfl⟩ := q2
  have hcell := fun j u hj => own_cellS (j := j) (u := u) h.lr.all hj
  rcases h.lr.all.2 with ⟨e, _⟩ | ⟨g', cap, cur, e, hbg, hg, hnc, hcm, _, _⟩
  · cases e
  · simp only [Value.slice.injEq, Option.some.injEq, Addr.mk.injEq, and_true] at e
    obtain ⟨rfl, -, rfl⟩ := e
    refine ⟨_, c, rfl, by omega, hcm, fun _ => ⟨g, 0, rfl, fun i hi => ?_⟩⟩
    obtain ⟨gu, cu, _, q3, q4, q5, _⟩ := h.lr.part hb hi
    refine ⟨_, fun j u hj => ?_, q5⟩
    match j, hj with
    | 0, hj =>
      simp only [List.getElem?_cons_zero, Option.some.injEq] at hj
      subst hj
      obtain ⟨_, e, r⟩ := hcell _ _ q3
      cases e
      simpa using r
    | 1, hj =>
      simp only [List.getElem?_cons_succ, List.getElem?_cons_zero, Option.some.injEq] at hj
      subst hj
      obtain ⟨_, e, r⟩ := hcell _ _ q4
      cases e
      simpa using r
end
set_option maxRecDepth 100000 in
set_option maxHeartbeats 8000000 in
theorem keptRows_any (B : Nat) (w : World) (va ve v : Value) (rs : List Rw) (xs us : List Value) (h : LX B w va ve rs xs us) (hr : HRw w v rs) (hn : rs.length ≤ 3518437208780) (hv : ∀ r ∈ rs, r.2.length ≤ 140737488351232) :
    Calls Tryd.prog 6 #[.agg #[va, ve], v] w fun e w' => e = .returned (.bool true) ∧ Below w.heap.size w w' := by
  have HBY := hid hr.byt
  obtain ⟨pa, ca, eva⟩ := own_slcS h.lr.all
  obtain ⟨pe, ce, eve⟩ := own_slcS h.lr.each
  subst eva
  subst eve
  have hga : ∃ g, pa = some ⟨g, 0, none⟩ ∧ rs.length + 70 ≤ ca := by
    rcases h.lr.all.2 with ⟨_, e⟩ | ⟨g', cap, cur, e, hbg, hg, hnc, hcm, _, _⟩
    · omega
    · simp only [Value.slice.injEq] at e
      exact ⟨g', e.1, by rw [e.2.2]; exact hnc⟩
  obtain ⟨g, rfl, hca⟩ := hga
  obtain ⟨p, c, rfl, hlc, hcm, hrow⟩ := hr.open
  have HX := hid h
  have HR := hid hr
  have HV := hid hv
  clear hrow h hv hr
  obtain ⟨n, HN⟩ : ∃ n, Hid (rs.length = n) := ⟨_, rfl⟩
  rw [HN.out] at hlc hn hca
  rw [HN.out]
  have hsl := fun W => slice_hR W g (n + 70) ca n (by omega) (by omega)
  have w7 : IntKind.i64.wrap ((n : Int) + 70) = ((n + 70 : Nat) : Int) := by rw [IntKind.wrap_i64]; omega
  obtain ⟨W0, HW0⟩ : ∃ x, Hid (w.alloc (.cells #[.slice (some ⟨g, 0, none⟩) (n + 70) ca, .slice pe n ce] 25) = x) := ⟨_, rfl⟩
  have B0 : Below w.heap.size w W0 := by rw [← HW0.out]; exact (Below.refl _ w).alloc (Nat.le_refl _) _
  have X0 : W0.heap[w.heap.size]? = some (.cells #[.slice (some ⟨g, 0, none⟩) (n + 70) ca, .slice pe n ce] 25 (0, 0)) := by rw [← HW0.out]; exact heap_alloc_new w _
  have c0 : W0.cell? ⟨w.heap.size, 0, none⟩ = some (.slice (some ⟨g, 0, none⟩) (n + 70) ca) := (cell_of_row _ _ _ _ _ _ X0).trans rfl
  go_enter Tryd.func6, Tryd.ntmps6
  have CS := hid (sameRows_any W0 _ _ rs rs ((HX.out.hrw HBY.out).below B0) (HR.out.below B0))
  rw [HN.out, show decide (rs = rs) = true from decide_eq_true rfl] at CS
  have BW0 := hid B0
  have Y0 := hid X0
  go_wp2_with (first | rw [HW0.out] | fail)
  refine CS.out.mono ?_
  rintro e w1 ⟨rfl, hd⟩
  have BW1 : Hid (Below w.heap.size w w1) := hid (BW0.out.trans ((hd.below _).mono BW0.out.size))
  have Y1 : Hid (w1.heap[w.heap.size]? = _) := (congrArg (·[w.heap.size]?) hd.heap).trans Y0.out
  clear hd CS Y0 BW0 B0 X0 c0 hsl
  go_wp2_with fail
  go_loopw [5] (fun i wr => ∃ I : Nat, I ≤ n ∧ i = .int .i64 I ∧ Hid (Below w1.heap.size w1 wr)) (fun i _ => n - (intOf i).toNat)
  case atStart => exact ⟨0, Nat.zero_le _, rfl, Below.refl _ _⟩
  case round =>
    obtain ⟨I, hI, rfl, HBr⟩ := hrel
    have BWr : Hid (Below w.heap.size w wr) := hid (BW1.out.trans (HBr.out.mono BW1.out.size))
    have hYr : wr.heap[w.heap.size]? = _ := (HBr.out.block _ (Array.getElem?_eq_some_iff.1 Y1.out).1).trans Y1.out
    have y1 : wr.cell? ⟨w.heap.size, 1, none⟩ = some (.slice pe n ce) := (cell_of_row _ _ _ _ _ _ hYr).trans rfl
    have HXr := hid (HX.out.below BWr.out)
    by_cases hlt : I < n
    · have hIr : I < rs.length := by have := HN.out; omega
      obtain ⟨gu, cu, qu, q3, q4, q5, q6⟩ := HXr.out.lr.part HBY.out hIr
      have hul : us.length = rs.length := by have := HXr.out.lr.apt.1; simpa using this
      have hE0 := own_cellS (j := I) (u := us.getD I undef) HXr.out.lr.each (by simp [List.getD, List.getElem?_eq_getElem (show I < us.length by omega)])
      rw [qu] at hE0
      obtain ⟨ge, rfl, hE⟩ := hE0
      obtain ⟨p', c', e2, _, _, hcl⟩ := HR.out.open
      simp only [Value.slice.injEq] at e2
      obtain ⟨rfl, -, rfl⟩ := e2
      obtain ⟨b, off, rfl, hbl, hcl⟩ := hcl (by omega)
      obtain ⟨u, hu, hvv⟩ := hcl I hIr
      obtain ⟨⟨sn, l⟩, Hx⟩ : ∃ x, Hid (rs.getD I rw0 = x) := ⟨_, rfl⟩
      have hl64 : l.length ≤ 140737488351232 := by
        have := HV.out (rs.getD I rw0) (by rw [getD_get hIr]; exact List.getElem_mem hIr)
        rw [Hx.out] at this
        exact this
      rw [Hx.out] at q6 hu hvv hE
      have hcu := range_below2 hu BWr.out hbl 1 _ rfl
      replace hvv := hvv.below BWr.out
      obtain ⟨pu, cu', eu, _, _⟩ := hvv.open
      subst eu
      have HE := hid q6
      have HU := hid hvv
      have z0 : (0 : Int) ≤ (I : Int) := Int.natCast_nonneg _
      have z1 : (I : Int) < (n : Int) := by omega
      have KC : Hid (∀ q, Calls Tryd.prog 15 #[.slice (some ⟨gu, 0, none⟩) (l.length + 70) cu, .slice pu l.length cu'] (wr.drewN q) fun e w' => e = .returned (.bool true) ∧ Hid (Below wr.heap.size wr w')) := by
        intro q
        refine (kept_any (wr.drewN q) _ _ (lent l) l (HE.out.dr ⟨q, rfl⟩) (HU.out.dr ⟨q, rfl⟩) (by omega)).mono ?_
        rintro e w' ⟨rfl, hb⟩
        rw [decide_eq_true rfl]
        exact ⟨rfl, ((Dr.below ⟨q, rfl⟩ _).trans hb)⟩
      have lX := World.block_lt_of_cell? wr _ y1
      have lE := World.block_lt_of_cell? wr _ hE
      have lu := World.block_lt_of_cell? wr _ hcu
      clear hu hvv hcl q3 q4 q5 q6 qu hul
      go_wp2_with fail
      go_region_held3 (fun w' => w'.cell? ⟨w.heap.size, 1, none⟩ = some (.slice (some ⟨ge, 0, none⟩) n ce) ∧ w'.cell? ⟨ge, I, none⟩ = some (.slice (some ⟨gu, 0, none⟩) (l.length + 70) cu) ∧ w'.cell? ⟨b, off + I * 2 + 1, none⟩ = some (.slice pu l.length cu'))
        (first
          | go_keep
          | (refine ⟨(hBk.out.cell (p := ⟨w.heap.size, 1, none⟩) lX).trans y1, (hBk.out.cell (p := ⟨ge, I, none⟩) lE).trans hE, (hBk.out.cell (p := ⟨b, off + I * 2 + 1, none⟩) lu).trans hcu⟩))
        ((go_at_call 15; refine (KC.out 1).mono ?_; rintro e wz ⟨rfl, hBk⟩))
      have HBr2 := hid (HBr.out.trans (hBk.out.mono HBr.out.size))
      go_wp2
      exact ⟨⟨I + 1, by omega, by go_num, HBr2⟩, by simp [intOf]; omega⟩
    · go_wp2_with fail
      clear hYr y1 HXr hlt
      go_loopw [6] (fun i wq => ∃ J : Nat, J ≤ 70 ∧ i = .int .i64 J ∧ Hid (Below w1.heap.size w1 wq)) (fun i _ => 70 - (intOf i).toNat)
      case atStart => exact ⟨0, Nat.zero_le _, rfl, HBr⟩
      case round =>
        clear HBr BWr
        obtain ⟨J, hJ, rfl, HBr⟩ := hrel
        have BWr : Hid (Below w.heap.size w wr) := hid (BW1.out.trans (HBr.out.mono BW1.out.size))
        by_cases hlt : J < 70
        · have hYr : wr.heap[w.heap.size]? = _ := (HBr.out.block _ (Array.getElem?_eq_some_iff.1 Y1.out).1).trans Y1.out
          have y0 : wr.cell? ⟨w.heap.size, 0, none⟩ = some (.slice (some ⟨g, 0, none⟩) (n + 70) ca) := (cell_of_row _ _ _ _ _ _ hYr).trans rfl
          have HXr := hid (HX.out.below BWr.out)
          obtain ⟨mb, hmB, hm1, hm2, hm3⟩ := HXr.out.marks J hlt
          obtain ⟨_, e1, h1⟩ := own_cellS HXr.out.lr.all hm1
          cases e1
          obtain ⟨_, e1, h2⟩ := own_cellS HXr.out.lr.all hm2
          cases e1
          rw [HN.out] at h1 h2
          have hml := (Array.getElem?_eq_some_iff.1 hm3).1
          obtain ⟨WA, HWA⟩ : ∃ x, Hid (wr.alloc (.cells #[.string ⟨#[109, 97, 114, 107]⟩, .slice (some ⟨mb, 0, none⟩) 1 1] 37) = x) := ⟨_, rfl⟩
          have A0 : WA.heap[wr.heap.size]? = some (.cells #[.string ⟨#[109, 97, 114, 107]⟩, .slice (some ⟨mb, 0, none⟩) 1 1] 37 (0, 0)) := by
            rw [← HWA.out]
            exact heap_alloc_new wr _
          have AB : Below wr.heap.size wr WA := by
            rw [← HWA.out]
            exact (Below.refl _ wr).alloc (Nat.le_refl _) _
          have a0 : WA.cell? ⟨wr.heap.size, 0, none⟩ = some (.string ⟨#[109, 97, 114, 107]⟩) := (cell_of_row _ _ _ _ _ _ A0).trans rfl
          have a1 : WA.cell? ⟨wr.heap.size, 1, none⟩ = some (.slice (some ⟨mb, 0, none⟩) 1 1) := (cell_of_row _ _ _ _ _ _ A0).trans rfl
          have am : WA.cell? ⟨mb, 0, none⟩ = some (.int .u8 (J : Int)) := (cell_of_row _ _ _ _ _ _ ((AB.block mb hml).trans hm3)).trans rfl
          have HBq : Hid (Below w1.heap.size w1 WA) := hid (HBr.out.trans (AB.mono HBr.out.size))
          have hJw : IntKind.u8.wrap (J : Int) = J := by rw [IntKind.wrap_u8]; omega
          have hww : IntKind.i64.wrap ((n : Int) + (J : Int)) = ((n + J : Nat) : Int) := by
            rw [IntKind.wrap_i64]; omega
          have k1 : (0 : Int) ≤ ((n + J : Nat) : Int) := by omega
          have k2 : ((n + J : Nat) : Int) < ((n + 70 : Nat) : Int) := by omega
          clear hYr hm1 hm2 hm3 hmB A0 AB
          go_wp2_with (first | rw [HWA.out] | fail)
          exact ⟨⟨J + 1, by omega, by go_num, HBq⟩, by simp [intOf]; omega⟩
        · go_wp2
          go_ret
          exact ⟨rfl, BWr.out⟩
end Go.Proofs.YtcbnlfghhcpkmaaDoor
namespace Go.Proofs.YtcbnlfghhcpkmaaDoor
open Go Go.RowKit
structure Ex (S : Nat → Prop) (w w' : World) : Prop where
  os : w'.os = w.os
  tape : w'.tape = w.tape
  output : w'.output = w.output
  size : w.heap.size ≤ w'.heap.size
  block : ∀ k, k < w.heap.size → ¬ S k → w'.heap[k]? = w.heap[k]?
theorem Ex.refl (S : Nat → Prop) (w : World) : Ex S w w := ⟨rfl, rfl, rfl, Nat.le_refl _, fun _ _ _ => rfl⟩
theorem Ex.trans {S S' : Nat → Prop} {a b c : World} (h : Ex S a b) (k : Ex S' b c) (hs : ∀ k, S' k → S k ∨ a.heap.size ≤ k) : Ex S a c :=
  ⟨k.os.trans h.os, k.tape.trans h.tape, k.output.trans h.output, Nat.le_trans h.size k.size, fun i hi hn => by
    rw [k.block i (Nat.lt_of_lt_of_le hi h.size) (fun q => by rcases hs i q with q | q; exact hn q; omega), h.block i hi hn]⟩
theorem Ex.mono {S S' : Nat → Prop} {a b : World} (h : Ex S a b) (hs : ∀ k, S k → S' k) : Ex S' a b := ⟨h.os, h.tape, h.output, h.size, fun k hk hn => h.block k hk fun q => hn (hs k q)⟩
theorem Ex.of_below {S : Nat → Prop} {a b : World} (h : Below a.heap.size a b) : Ex S a b := ⟨h.os, h.tape, h.output, h.size, fun k hk _ => h.block k hk⟩
theorem Ex.below {S : Nat → Prop} {a b : World} (h : Ex S a b) {B : Nat} (hB : B ≤ a.heap.size) (hs : ∀ k, S k → B ≤ k) : Below B a b := ⟨h.os, h.tape, h.output, h.size, fun k hk => h.block k (by omega) fun q => by have := hs k q; omega⟩
theorem Ex.drewN {S : Nat → Prop} {a b : World} (h : Ex S a b) (q : Nat) : Ex S a (b.drewN q) := ⟨h.os, h.tape, h.output, h.size, h.block⟩
theorem Ex.drew {S : Nat → Prop} {a b : World} (h : Ex S a b) : Ex S a b.drew := ⟨h.os, h.tape, h.output, h.size, h.block⟩
theorem Ex.grown {S : Nat → Prop} {a b : World} {r : Option Nat} (h : a.grownBy b r) (hs : ∀ k, r = some k → S k) : Ex S a b := ⟨h.os, h.tape, h.output, h.size, fun k hk hn => h.block k hk fun q => hn (hs k q.symm)⟩
theorem Ex.setCell {S : Nat → Prop} {a b : World} (h : Ex S a b) {x o : Nat} (hx : S x) (v : Value) : Ex S a (b.setCell ⟨x, o, none⟩ v) := by
  refine ⟨h.os, h.tape, h.output, by simpa [World.setCell] using h.size, fun k hk hn => ?_⟩
  rw [← h.block k hk hn]
  have : x ≠ k := fun q => hn (q ▸ hx)
  simp [World.setCell, Array.getElem?_modify, this]
theorem Ex.alloc {S : Nat → Prop} {a b : World} (h : Ex S a b) (o : Obj) : Ex S a (b.alloc o) :=
  ⟨h.os, h.tape, h.output, by have := h.size; show a.heap.size ≤ (b.heap.push o).size; rw [Array.size_push]; omega, fun k hk hn => by
    rw [← h.block k hk hn]
    have := h.size
    show (b.heap.push o)[k]? = _
    rw [Array.getElem?_push, if_neg (by omega)]⟩
theorem free_of {w : World} {b : Nat} {cs : Array Value} {T : TypeId} (h : w.heap[b]? = some (.cells cs T (0, 0))) (i : Nat) : w.frozen? ⟨b, i, none⟩ = false := by simp [World.frozen?, h]
structure OV (B n : Nat) (W : World) (va ve : Value) (us : List Value) : Prop where
  a : ∃ ys, W.ownsRow B TR 2 va (n + 70) ys
  e : W.ownsRow B 27 1 ve n us
  u : ∀ j, j < n → ∃ m ys, m ≤ 140737488351302 ∧ W.ownsRow B 5 1 (us.getD j undef) m ys
  d : ∀ i j, i < n → j < n → i ≠ j → (us.getD i undef).ownBlock = none ∨ (us.getD i undef).ownBlock ≠ (us.getD j undef).ownBlock
section
variable {B n g ca : Nat} {W C : World} {va ve : Value} {us : List Value}
theorem OV.keep (h : OV B n W va ve us) (hk : ∀ b, lrB va ve us b → C.heap[b]? = W.heap[b]?) : OV B n C va ve us :=
  ⟨by obtain ⟨ys, q⟩ := h.a; exact ⟨ys, own_ofS q fun b e => hk b (.inl e)⟩, own_ofS h.e fun b e => hk b (.inr (.inl e)),
   fun j hj => by obtain ⟨m, ys, q1, q2⟩ := h.u j hj; exact ⟨m, ys, q1, own_ofS q2 fun b e => hk b (.inr (.inr ⟨j, by have := h.e.1; omega, e⟩))⟩, h.d⟩
theorem OV.at (h : OV B n W va ve us) {b : Nat} (hb : lrB va ve us b) : b < W.heap.size ∧ B ≤ b ∧ ∃ cs T, W.heap[b]? = some (.cells cs T (0, 0)) ∧ (T = TR ∨ T = 27 ∨ T = 5) := by
  rcases hb with e | e | ⟨j, hj, e⟩
  · obtain ⟨ys, q⟩ := h.a
    obtain ⟨q1, q2, cs, q3⟩ := own_atS q e
    exact ⟨q1, q2, cs, _, q3, .inl rfl⟩
  · obtain ⟨q1, q2, cs, q3⟩ := own_atS h.e e
    exact ⟨q1, q2, cs, _, q3, .inr (.inl rfl)⟩
  · obtain ⟨m, ys, _, q⟩ := h.u j (by have := h.e.1; omega)
    obtain ⟨q1, q2, cs, q3⟩ := own_atS q e
    exact ⟨q1, q2, cs, _, q3, .inr (.inr rfl)⟩
theorem OV.of {rs : List Rw} {xs : List Value} (h : LX B W va ve rs xs us) (hv : ∀ r ∈ rs, r.2.length ≤ 140737488351232) : OV B rs.length W va ve us := by
  have hu : us.length = rs.length := by have := h.lr.apt.1; simpa using this
  refine ⟨⟨xs, h.lr.all⟩, h.lr.each, fun j hj => ?_, fun i j hi hj => h.lr.apt.2.2 i j (by omega) (by omega)⟩
  have ho := h.lr.apt.2.1 j (by omega)
  have e : (rs.map fun r => lent r.2).getD j [] = lent (rs.getD j rw0).2 := by simp [List.getD, List.getElem?_map, List.getElem?_eq_getElem hj]
  rw [e] at ho
  have := hv _ (show rs.getD j rw0 ∈ rs by rw [getD_get hj]; exact List.getElem_mem hj)
  exact ⟨_, _, by rw [lent_length]; omega, ho⟩
theorem OV.byte (h : OV B n W va ve us) {I m : Nat} {ys : List Value} (hI : I < n) (hg : W.grownBy C (us.getD I undef).ownBlock) (hm : m ≤ 140737488351302) (hy : C.ownsRow B 5 1 (us.getD I undef) m ys) : OV B n C va ve us := by
  have nt : ∀ T, T ≠ 5 → ∀ q, (us.getD I undef).ownBlock = some q → ∃ cs T', W.heap[q]? = some (.cells cs T' (0, 0)) ∧ T' ≠ T := fun T hT q e => by
    obtain ⟨m', ys', _, q2⟩ := h.u I hI
    obtain ⟨_, _, cs, z⟩ := own_atS q2 e
    exact ⟨cs, _, z, fun x => hT x.symm⟩
  refine ⟨?_, own_grT h.e hg (nt _ (by decide)), fun j hj => ?_, h.d⟩
  · obtain ⟨zs, q⟩ := h.a
    exact ⟨zs, own_grT q hg (nt _ (by decide))⟩
  · by_cases q : j = I
    · subst q
      exact ⟨m, ys, hm, hy⟩
    · obtain ⟨m', ys', q1, q2⟩ := h.u j hj
      refine ⟨m', ys', q1, own_ofS q2 fun b e => hg.block b (own_atS q2 e).1 fun z => ?_⟩
      rcases h.d j I hj hI q with r | r
      · rw [r] at e; cases e
      · exact r (by rw [e, z])
theorem OV.row (h : OV B n W (.slice (some ⟨g, 0, none⟩) (n + 70) ca) ve us) (i : Nat) (u : Value) : OV B n (W.setCell ⟨g, i, none⟩ u) (.slice (some ⟨g, 0, none⟩) (n + 70) ca) ve us := by
  obtain ⟨ys, q⟩ := h.a
  obtain ⟨s1, s2⟩ := q.stored i u
  have nt : ∀ T, T ≠ TR → ∀ q, some g = some q → ∃ cs T', W.heap[q]? = some (.cells cs T' (0, 0)) ∧ T' ≠ T := fun T hT b e => by
    cases e
    obtain ⟨_, _, cs, z⟩ := own_atS q (b := g) rfl
    exact ⟨cs, _, z, fun x => hT x.symm⟩
  exact ⟨⟨_, s1⟩, own_grT h.e s2 (nt _ (by decide)), fun j hj => by obtain ⟨m, ys, q1, q2⟩ := h.u j hj; exact ⟨m, ys, q1, own_grT q2 s2 (nt _ (by decide))⟩, h.d⟩
end
set_option maxRecDepth 100000 in
set_option maxHeartbeats 8000000 in
theorem overRows_any (B n : Nat) (w : World) (va ve : Value) (us : List Value) (h : OV B n w va ve us) (hn : n ≤ 3518437208780) :
    Calls Tryd.prog 7 #[.agg #[va, ve]] w fun e w' => e = .returned (.tuple #[]) ∧ Ex (lrB va ve us) w w' := by
  obtain ⟨xs0, ha⟩ := h.a
  obtain ⟨pa, ca, eva⟩ := own_slcS ha
  obtain ⟨pe, ce, eve⟩ := own_slcS h.e
  subst eva
  subst eve
  have hga : ∃ g, pa = some ⟨g, 0, none⟩ := by
    rcases ha.2 with ⟨_, e⟩ | ⟨g', cap, cur, e, hbg, hg, hnc, hcm, _, _⟩
    · omega
    · simp only [Value.slice.injEq] at e
      exact ⟨g', e.1⟩
  obtain ⟨g, rfl⟩ := hga
  have HO := hid h
  clear h ha xs0
  obtain ⟨W0, HW0⟩ : ∃ x, Hid (w.alloc (.cells #[.slice (some ⟨g, 0, none⟩) (n + 70) ca, .slice pe n ce] 25) = x) := ⟨_, rfl⟩
  have E0 : Hid (Ex (lrB (.slice (some ⟨g, 0, none⟩) (n + 70) ca) (.slice pe n ce) us) w W0) := hid (by rw [← HW0.out]; exact (Ex.refl _ _).alloc _)
  have X0 : Hid (W0.heap[w.heap.size]? = some (.cells #[.slice (some ⟨g, 0, none⟩) (n + 70) ca, .slice pe n ce] 25 (0, 0))) := hid (by rw [← HW0.out]; exact heap_alloc_new w _)
  have O0 : Hid (OV B n W0 (.slice (some ⟨g, 0, none⟩) (n + 70) ca) (.slice pe n ce) us) := hid (by
    rw [← HW0.out]
    exact HO.out.keep fun b hb => ((Below.refl _ w).alloc (Nat.le_refl _) _).block b (HO.out.at hb).1)
  go_enter Tryd.func7, Tryd.ntmps7
  go_wp2_with (first | rw [HW0.out] | fail)
  go_loopw [2] (fun i wr => ∃ I : Nat, I ≤ n ∧ i = .int .i64 I ∧ Hid (OV B n wr (.slice (some ⟨g, 0, none⟩) (n + 70) ca) (.slice pe n ce) us) ∧ Hid (wr.heap[w.heap.size]? = some (.cells #[.slice (some ⟨g, 0, none⟩) (n + 70) ca, .slice pe n ce] 25 (0, 0))) ∧ Hid (Ex (lrB (.slice (some ⟨g, 0, none⟩) (n + 70) ca) (.slice pe n ce) us) w wr)) (fun i _ => n - (intOf i).toNat)
  case atStart => exact ⟨0, Nat.zero_le _, rfl, O0, X0, E0⟩
  case round =>
    obtain ⟨I, hI, rfl, HOr, HXr, HEr⟩ := hrel
    have y0 : wr.cell? ⟨w.heap.size, 0, none⟩ = some (.slice (some ⟨g, 0, none⟩) (n + 70) ca) := (cell_of_row _ _ _ _ _ _ HXr.out).trans rfl
    have y1 : wr.cell? ⟨w.heap.size, 1, none⟩ = some (.slice pe n ce) := (cell_of_row _ _ _ _ _ _ HXr.out).trans rfl
    by_cases hlt : I < n
    · obtain ⟨m, ys, hm, hy⟩ := HOr.out.u I hlt
      obtain ⟨pt, ct, et⟩ := own_slcS hy
      have hul : us.length = n := by have := HOr.out.e.1; omega
      have hE0 := own_cellS (j := I) (u := us.getD I undef) HOr.out.e (by simp [List.getD, List.getElem?_eq_getElem (show I < us.length by omega)])
      obtain ⟨ge, rfl, hE⟩ := hE0
      rw [et] at hE hy
      have HET := hid et
      have CO := hid (over_any wr B _ m ys hy (by omega))
      have z1 : (I : Int) < (n : Int) := by omega
      have z2 : (I : Int) < ((n + 70 : Nat) : Int) := by omega
      clear hy et hul
      go_wp2_with fail
      refine CO.out.mono ?_
      rintro e w1 ⟨rfl, ⟨zs, hz⟩, hg⟩
      have O1 := hid (HOr.out.byte hlt (by rw [HET.out]; exact hg) hm (by rw [HET.out]; exact hz))
      have hx1 : w1.heap[w.heap.size]? = some (.cells #[.slice (some ⟨g, 0, none⟩) (n + 70) ca, .slice (some ⟨ge, 0, none⟩) n ce] 25 (0, 0)) := by
        obtain ⟨m', ys', _, q2⟩ := HOr.out.u I hlt
        rw [HET.out] at q2
        exact blk_grT HXr.out hg fun q e => by obtain ⟨_, _, cs, z⟩ := own_atS q2 e; exact ⟨cs, _, z, by decide⟩
      have E1 : Hid (Ex (lrB (.slice (some ⟨g, 0, none⟩) (n + 70) ca) (.slice (some ⟨ge, 0, none⟩) n ce) us) w w1) := hid (HEr.out.trans (Ex.grown (S := lrB (.slice (some ⟨g, 0, none⟩) (n + 70) ca) (.slice (some ⟨ge, 0, none⟩) n ce) us) hg (fun k e => .inr (.inr ⟨I, by have := HOr.out.e.1; omega, by rw [HET.out]; exact e⟩))) (fun k q => .inl q))
      obtain ⟨ys1, qa⟩ := O1.out.a
      have hf := qa.frozenAt (I * 2)
      have hc := qa.cellAt (I * 2) (by omega)
      obtain ⟨z, hzz⟩ : ∃ z, ys1[I * 2]? = some z := ⟨_, List.getElem?_eq_getElem (by have := qa.1; omega)⟩
      rw [hzz] at hc
      have y0 : w1.cell? ⟨w.heap.size, 0, none⟩ = some (.slice (some ⟨g, 0, none⟩) (n + 70) ca) := (cell_of_row _ _ _ _ _ _ hx1).trans rfl
      obtain ⟨W2, HW2⟩ : ∃ x, Hid (w1.setCell ⟨g, I * 2, none⟩ (.string ⟨#[111, 118, 101, 114]⟩) = x) := ⟨_, rfl⟩
      have O2 : Hid (OV B n W2 (.slice (some ⟨g, 0, none⟩) (n + 70) ca) (.slice (some ⟨ge, 0, none⟩) n ce) us) := hid (by rw [← HW2.out]; exact O1.out.row _ _)
      have E2 : Hid (Ex (lrB (.slice (some ⟨g, 0, none⟩) (n + 70) ca) (.slice (some ⟨ge, 0, none⟩) n ce) us) w W2) := hid (by rw [← HW2.out]; exact E1.out.setCell (.inl rfl) _)
      have X2 : Hid (W2.heap[w.heap.size]? = some (.cells #[.slice (some ⟨g, 0, none⟩) (n + 70) ca, .slice (some ⟨ge, 0, none⟩) n ce] 25 (0, 0))) := hid (by
        rw [← HW2.out]
        exact blk_grT hx1 (qa.stored (I * 2) (.string ⟨#[111, 118, 101, 114]⟩)).2 fun q e => by obtain ⟨_, _, cs, z⟩ := own_atS qa e; exact ⟨cs, _, z, by decide⟩)
      clear qa hzz hx1 hz hg CO y1 hE HEr HOr HXr E1 O1
      go_wp2_with (first | rw [HW2.out] | fail)
      exact ⟨⟨I + 1, by omega, by go_num, O2, X2, E2⟩, by simp [intOf]; omega⟩
    · go_wp2
      go_end0
      exact ⟨rfl, HEr.out⟩
end Go.Proofs.YtcbnlfghhcpkmaaDoor
namespace Go.Proofs
open Go.Shelf
def Tryd.laysM171_ren : Go.Shelf.Ren := ⟨fun | 171 => 22 | 243 => 23 | 246 => 24 | 283 => 25 | 284 => 26 | 285 => 27 | 286 => 28 | 129 => 30 | 317 => 29 | 318 => 31 | 319 => 32 | 320 => 33 | 337 => 34 | 338 => 35 | n => n, fun | 3 => 3 | 9 => 9 | 2 => 2 | 4 => 4 | 171 => 45 | 0 => 0 | 53 => 46 | 37 => 27 | 5 => 5 | 173 => 49 | 212 => 53 | 51 => 54 | 20 => 20 | 213 => 55 | 46 => 57 | 232 => 60 | 233 => 61 | n => n, fun | 17 => 0 | 18 => 1 | 19 => 2 | n => n⟩
theorem Tryd.laysM171 : Go.Proofs.LaysM.n171 Tryd.prog Tryd.laysM171_ren := {
  mixed := by kernel_rfl
  f129 := Tryd.func30.trans (congrArg some (by kernel_rfl))
  f171 := Tryd.func22.trans (congrArg some (by kernel_rfl))
  f243 := Tryd.func23.trans (congrArg some (by kernel_rfl))
  f246 := Tryd.func24.trans (congrArg some (by kernel_rfl))
  f283 := Tryd.func25.trans (congrArg some (by kernel_rfl))
  f284 := Tryd.func26.trans (congrArg some (by kernel_rfl))
  f285 := Tryd.func27.trans (congrArg some (by kernel_rfl))
  f286 := Tryd.func28.trans (congrArg some (by kernel_rfl))
  f317 := Tryd.func29.trans (congrArg some (by kernel_rfl))
  f318 := Tryd.func31.trans (congrArg some (by kernel_rfl))
  f319 := Tryd.func32.trans (congrArg some (by kernel_rfl))
  f320 := Tryd.func33.trans (congrArg some (by kernel_rfl))
  f337 := Tryd.func34.trans (congrArg some (by kernel_rfl))
  f338 := Tryd.func35.trans (congrArg some (by kernel_rfl))
  t0 := Tryd.underlying0
  a0 := Tryd.isAgg0
  z0 := Tryd.sizeOf0
  v0 := Tryd.zeroValue0
  t2 := Tryd.underlying2
  a2 := Tryd.isAgg2
  z2 := Tryd.sizeOf2
  v2 := Tryd.zeroValue2
  t3 := Tryd.underlying3
  a3 := Tryd.isAgg3
  z3 := Tryd.sizeOf3
  v3 := Tryd.zeroValue3
  t4 := Tryd.underlying4
  a4 := Tryd.isAgg4
  z4 := Tryd.sizeOf4
  v4 := Tryd.zeroValue4
  t5 := Tryd.underlying5
  a5 := Tryd.isAgg5
  z5 := Tryd.sizeOf5
  v5 := Tryd.zeroValue5
  t9 := Tryd.underlying9
  a9 := Tryd.isAgg9
  z9 := Tryd.sizeOf9
  v9 := Tryd.zeroValue9
  t20 := Tryd.underlying20
  a20 := Tryd.isAgg20
  z20 := Tryd.sizeOf20
  v20 := Tryd.zeroValue20
  t37 := Tryd.underlying27
  a37 := Tryd.isAgg27
  z37 := Tryd.sizeOf27
  v37 := Tryd.zeroValue27
  t46 := Tryd.underlying57
  a46 := Tryd.isAgg57
  z46 := Tryd.sizeOf57
  v46 := Tryd.zeroValue57
  t51 := Tryd.underlying54
  a51 := Tryd.isAgg54
  z51 := Tryd.sizeOf54
  v51 := Tryd.zeroValue54
  t53 := Tryd.underlying46
  a53 := Tryd.isAgg46
  z53 := Tryd.sizeOf46
  v53 := Tryd.zeroValue46
  t171 := Tryd.underlying45
  a171 := Tryd.isAgg45
  z171 := Tryd.sizeOf45
  v171 := Tryd.zeroValue45
  t173 := Tryd.underlying49
  a173 := Tryd.isAgg49
  z173 := Tryd.sizeOf49
  v173 := Tryd.zeroValue49
  t212 := Tryd.underlying53
  a212 := Tryd.isAgg53
  z212 := Tryd.sizeOf53
  v212 := Tryd.zeroValue53
  t213 := Tryd.underlying55
  a213 := Tryd.isAgg55
  z213 := Tryd.sizeOf55
  t232 := Tryd.underlying60
  a232 := Tryd.isAgg60
  z232 := Tryd.sizeOf60
  v232 := Tryd.zeroValue60
  t233 := Tryd.underlying61
  a233 := Tryd.isAgg61
  z233 := Tryd.sizeOf61
  v233 := Tryd.zeroValue61
  g17 := by kernel_rfl
  g18 := by kernel_rfl
  g19 := by kernel_rfl
  i0 := by kernel_rfl
  i2 := by kernel_rfl
  i3 := by kernel_rfl
  i4 := by kernel_rfl
  i5 := by kernel_rfl
  i9 := by kernel_rfl
  i20 := by kernel_rfl
  i37 := by kernel_rfl
  i46 := by kernel_rfl
  i51 := by kernel_rfl
  i53 := by kernel_rfl
  i171 := by kernel_rfl
  i173 := by kernel_rfl
  i212 := by kernel_rfl
  i232 := by kernel_rfl
  i233 := by kernel_rfl
  m17 := by kernel_rfl
  m18 := by kernel_rfl
  m19 := by kernel_rfl }
open Go.RowKit Go.Sort Go.Lib in
theorem Tryd.strconv_Itoa (n : Int) (h0 : -9223372036854775808 ≤ n) (h1 : n ≤ 9223372036854775807) (w : World) (htab : Lib.TabIs Tryd.prog w "internal/strconv.uint64pow10" .u64 Lib.pow10Tab) :
    Calls Tryd.prog 22 #[.int .i64 n] w fun e w' => e = .returned (.string ⟨(Lib.itoa n).toArray⟩) ∧ ∃ k os, w' = grow (w.drewN k) os := Any.strconv_Itoa Tryd.laysM171 n h0 h1 w htab
end Go.Proofs
namespace Go.Proofs.YtcbnlfghhcpkmaaDoor
open Go Go.RowKit Go.Sort Go.Lib
def nS (x : Int) : ByteArray := if x < 0 then ⟨#[]⟩ else ⟨(Lib.decDigits x.toNat).toArray⟩
def nE (x : Int) : Int := if x < 0 then 102 else 0
def KP (w : World) : Prop := Lib.TabIs Tryd.prog w "internal/strconv.uint64pow10" .u64 Lib.pow10Tab
theorem KP.below {w w' : World} (h : KP w) (hb : Below w.heap.size w w') : KP w' := Lib.tabBelow_of_tabIs h w' hb
set_option maxHeartbeats 1000000 in
theorem number_tab (w : World) (x : Int) (h0 : -9223372036854775808 ≤ x) (h1 : x ≤ 9223372036854775807) (hk : KP w) :
    Calls Tryd.prog 20 #[.int .i64 x] w fun e w' => e = .returned (.tuple #[.string (nS x), .int .i64 (nE x)]) ∧ Below w.heap.size w w' := by
  by_cases h : x < 0
  · have e1 := hid (show nS x = ⟨#[]⟩ by unfold nS; rw [if_pos h])
    have e2 := hid (show nE x = 102 by unfold nE; rw [if_pos h])
    go_enter Tryd.func20, Tryd.ntmps20
    go_wp2
    go_ret2
    exact ⟨by rw [e1.out, e2.out]; rfl, Below.refl _ _⟩
  · have e1 := hid (show nS x = ⟨(Lib.decDigits x.toNat).toArray⟩ by unfold nS; rw [if_neg h])
    have e2 := hid (show nE x = 0 by unfold nE; rw [if_neg h])
    have C := Tryd.strconv_Itoa x h0 h1 w hk
    have ei : Lib.itoa x = Lib.decDigits x.toNat := by unfold Lib.itoa; rw [if_neg h]
    rw [ei] at C
    obtain ⟨D, HD⟩ : ∃ D : ByteArray, Hid (⟨(Lib.decDigits x.toNat).toArray⟩ = D) := ⟨_, rfl⟩
    rw [HD.out] at C e1
    have C := hid C
    have hk0 := hid hk
    clear hk ei
    go_enter Tryd.func20, Tryd.ntmps20
    go_wp2_with fail
    refine C.out.mono ?_
    rintro e w' ⟨rfl, k, os, rfl⟩
    clear C
    have B := hid (below_grow w.heap.size w (Nat.le_refl _) k os)
    obtain ⟨w1, hw1⟩ : ∃ w1, grow (w.drewN k) os = w1 := ⟨_, rfl⟩
    rw [hw1] at B
    rw [hw1]
    clear hw1
    go_wp2
    go_ret2
    exact ⟨by rw [e1.out, e2.out]; rfl, B.out⟩
theorem below_bytesWorld (w : World) (e : TypeId) (t : ByteArray) : Below w.heap.size w (Lib.bytesWorld w e t) := ⟨rfl, rfl, rfl, by rw [Lib.bytesWorld_size]; omega, fun k hk => Lib.bytesWorld_at_old w e t k hk⟩
theorem rd_atoi {l : List UInt8} {most : Int} (h : rdOk l most) (hm : most ≤ 9223372036854775807) : Lib.atoiAll l = .ok (valD l) := atoi_canon l h.1 (by have := h.2; omega)
theorem rd_dec {l : List UInt8} {v : Int} {most : Int} (h0 : 0 ≤ v) (hm : v ≤ most) (h : Lib.decDigits v.toNat = l) : rdV l most = v ∧ rdE l most = 0 := by
  obtain ⟨h1, h2, _⟩ := dec_canon v.toNat
  rw [h] at h1 h2
  have hok : rdOk l most := ⟨h1, by omega⟩
  obtain ⟨e1, e2⟩ := rd_ok hok
  exact ⟨by rw [e1, h2]; omega, e2⟩
theorem mk_eq (l : List UInt8) (s : ByteArray) : ((⟨l.toArray⟩ : ByteArray).toList == s.toList) = decide (l = s.data.toList) := by
  rw [ByteArray.toList_eq, ByteArray.toList_eq]
  by_cases h : l = s.data.toList
  · rw [← h]; simp
  · simp [h]
end Go.Proofs.YtcbnlfghhcpkmaaDoor
namespace Go.Proofs.YtcbnlfghhcpkmaaDoor
open Go Go.RowKit
theorem HB.grownD {w w' : World} {v : Value} {l : List Int} {ob : Option Nat} (h : HB w v l) (hg : w.grownBy w' ob) (hne : ∀ b o n c, v = .slice (some ⟨b, o, none⟩) n c → 0 < l.length → ob ≠ some b) : HB w' v l := by
  obtain ⟨⟨p, c, h1, h2, h3, h6, h4⟩, h5⟩ := h
  refine ⟨⟨p, c, h1, h2, h3, h6, fun hl => ?_⟩, h5⟩
  obtain ⟨b, off, e, hh⟩ := h4 hl
  exact ⟨b, off, e, fun j hj => hg.cell (hh j hj) (by intro q; subst e; exact hne _ _ _ _ h1 (List.length_pos_iff.2 hl) q.symm)⟩
theorem HB.lt {w : World} {v : Value} {l : List Int} (h : HB w v l) (h0 : 0 < l.length) {b o n c : Nat} (hv : v = .slice (some ⟨b, o, none⟩) n c) : b < w.heap.size := by
  obtain ⟨b', off, c', e, _, _, hc⟩ := h.ne h0
  rw [e] at hv
  injection hv with e1 e2 e3
  injection e1 with e1
  injection e1 with e1 e4
  subst e1
  exact World.block_lt_of_cell? w _ (hc 0 h0)
theorem strCells_nS (n : Nat) : Lib.strCells (nS (n : Int)) = (dgL n).map (Value.int .u8) := by
  unfold nS Lib.strCells dgL
  rw [if_neg (by omega), List.map_map]
  rfl
theorem nS_size (n : Nat) : (nS (n : Int)).size = (dgL n).length := by
  rw [← Lib.strCells_length, strCells_nS, List.length_map]
theorem dec_len_small : ∀ (n : Nat), n ≤ 99999 → (dgL n).length ≤ 5 := by
  intro n hn
  have := dec_len_mono 99999 n hn
  rw [dgL_length]
  have h2 : (Lib.decDigits 99999).length = 5 := by decide +kernel
  omega
theorem run_append_text (w : World) (base : Nat) (ty : TypeId) (v : Value) (n : Nat) (xs : List Value) (hown : w.ownsRow base 5 1 v n xs) (s : ByteArray) (h0 : 0 < s.size) (hn : n + s.size ≤ 140737488355328) (hbase : base ≤ w.heap.size) :
    ∃ v' w', (Builtin.append_ #[27, 9] ty #[v, .string s]).run Tryd.prog w = .ok v' w' ∧ w'.ownsRow base 5 1 v' (n + s.size) (xs ++ Lib.strCells s) ∧ w.grownBy w' v.ownBlock ∧
      (v'.ownBlock = v.ownBlock ∨ v'.ownBlock = some w.heap.size) := by
  obtain ⟨i0, hi, hz0, hz1, hz2⟩ := info_parts info_u8
  obtain ⟨v', w', hr, h2, h3, _⟩ := Lib.run_append_own_string (P := Tryd.prog) w base 27 9 ty 5 i0 Tryd.underlying27 Tryd.underlying9 hi hz0 hz1 hz2 v n xs hown s (by unfold maxLen; omega) hn hbase
  refine ⟨v', w', hr, h2, h3, ?_⟩
  rcases hown.2 with ⟨rfl, rfl⟩ | ⟨g, cap, cur, rfl, hbg, hg, hnc, hcm, hcs, htake⟩
  · have hr2 := run_append_nil_string (P := Tryd.prog) w 27 9 ty 5 i0 (.int .u8 0) Tryd.underlying27 Tryd.underlying9 hi hz0 s h0 (by omega) (by rw [hz2]; omega)
    rw [hr] at hr2
    simp only [Result.ok.injEq] at hr2
    obtain ⟨rfl, rfl⟩ := hr2
    exact .inr rfl
  · by_cases hroom : n + s.size ≤ cap
    · have hr2 := Lib.run_append_room_string (P := Tryd.prog) w 27 9 ty 5 i0 Tryd.underlying27 Tryd.underlying9 hi hz1 g n cap cur hg s hroom (by omega)
      rw [hr] at hr2
      simp only [Result.ok.injEq] at hr2
      obtain ⟨rfl, rfl⟩ := hr2
      exact .inl rfl
    · have hr2 := Lib.run_append_grow_string (P := Tryd.prog) w 27 9 ty 5 i0 (.int .u8 0) Tryd.underlying27 Tryd.underlying9 hi hz0 ⟨g, 0, none⟩ n cap xs (by rw [hz1]; exact hown.1) (hown.cells (g := g) rfl) s (by omega) (by omega) (growslice_fits (by omega) (by rw [hz2]; omega))
      rw [hr] at hr2
      simp only [Result.ok.injEq] at hr2
      obtain ⟨rfl, rfl⟩ := hr2
      exact .inr rfl
theorem wpList_append_text {w : World} {ops : Array Oper} {rest : List Oper} {o : Oper} {a : Act} {Q : Exit → Act → World → Prop} (hgd : o.guard = none) (s x : Operand)
    (ho : o.op = .call { callee := .builtin .append, args := #[s, x], argTypes := #[27, 9] })
    (base : Nat) (v : Value) (n : Nat) (xs : List Value) (hs : a.eval s = v) (hown : w.ownsRow base 5 1 v n xs)
    (t : ByteArray) (hx : a.eval x = .string t) (h0 : 0 < t.size) (hn : n + t.size ≤ 140737488355328) (hbase : base ≤ w.heap.size)
    (h : ∀ v' w', w'.ownsRow base 5 1 v' (n + t.size) (xs ++ Lib.strCells t) → w.grownBy w' v.ownBlock → (v'.ownBlock = v.ownBlock ∨ v'.ownBlock = some w.heap.size) → wpList Tryd.prog ops Q rest (a.put o.dst v') w') : wpList Tryd.prog ops Q (o :: rest) a w := by
  refine wpList_plain hgd fun K hK => ?_
  obtain ⟨v', w', hr, h2, h3, h4⟩ := run_append_text w base o.type v n xs hown t h0 hn hbase
  unfold Oper.wp execOp
  simp only [ho, resolve, invoke, builtin, Sem.run_bind, Sem.run_pure, Result.andThen_ok, List.map_toArray, List.map_cons, List.map_nil, hs, hx, hr]
  exact hK _ _ (h v' w' h2 h3 h4)
theorem run_append_bytesD (w : World) (base : Nat) (ty : TypeId) (v : Value) (n : Nat) (xs : List Value) (hown : w.ownsRow base 5 1 v n xs) (ad : Addr) (c : Nat) (l : List Int) (hnews : ∀ j u, (l.map (Value.int .u8))[j]? = some u → w.cell? (ad.add j) = some u) (hn : n + l.length ≤ 140737488355328) (hbase : base ≤ w.heap.size) :
    ∃ v' w', (Builtin.append_ #[27, 27] ty #[v, .slice (some ad) l.length c]).run Tryd.prog w = .ok v' w' ∧ w'.ownsRow base 5 1 v' (n + l.length) (xs ++ l.map (Value.int .u8)) ∧ w.grownBy w' v.ownBlock ∧
      (v'.ownBlock = v.ownBlock ∨ v'.ownBlock = some w.heap.size) := by
  obtain ⟨i0, hi, hz0, hz1, hz2⟩ := info_parts info_u8
  have h1 : ∀ u ∈ l.map (Value.int .u8), u.oneCell' = true := by intro u hu; obtain ⟨x, _, rfl⟩ := List.mem_map.1 hu; rfl
  have hl : (l.map (Value.int .u8)).length = l.length * 1 := by simp
  obtain ⟨v', w', hr, h2, h3, h4⟩ := run_append_own (P := Tryd.prog) w base 27 ty 5 i0 (.int .u8 0) 1 1 Tryd.underlying27 hi hz0 hz1 hz2 rfl (by decide) v n xs hown ad l.length c (l.map (Value.int .u8)) hl hnews h1 (by unfold maxLen; omega) (by omega) hbase
  refine ⟨v', w', hr, h2, h3, ?_⟩
  rcases hown.2 with ⟨rfl, rfl⟩ | ⟨g, cap, cur, rfl, hbg, hg, hnc, hcm, hcs, htake⟩
  · by_cases h0 : 0 < l.length
    · have hr2 := run_append_nil (P := Tryd.prog) w 27 ty 5 i0 (.int .u8 0) Tryd.underlying27 hi hz0 ad l.length c (l.map (Value.int .u8)) (by rw [hz1]; exact hl) hnews (by omega) (by omega) (by rw [hz2]; omega)
      rw [hr] at hr2
      simp only [Result.ok.injEq] at hr2
      obtain ⟨rfl, rfl⟩ := hr2
      exact .inr rfl
    · have := h4.2 ⟨rfl, by omega⟩
      rw [this]
      exact .inl rfl
  · by_cases hroom : n + l.length ≤ cap
    · obtain ⟨w2, hr2, _⟩ := run_append_fits (P := Tryd.prog) w base 27 ty 5 i0 1 Tryd.underlying27 hi hz1 g n cap xs hown ad l.length c (l.map (Value.int .u8)) hl hnews h1 hroom
      rw [hr] at hr2
      simp only [Result.ok.injEq] at hr2
      obtain ⟨rfl, rfl⟩ := hr2
      exact .inl rfl
    · have hr2 := run_append_grow (P := Tryd.prog) w 27 ty 5 i0 (.int .u8 0) Tryd.underlying27 hi hz0 ⟨g, 0, none⟩ n cap xs (by rw [hz1]; exact hown.1) (hown.cells (g := g) rfl) ad l.length c (l.map (Value.int .u8)) (by rw [hz1]; exact hl) hnews (by omega) (by omega) (growslice_fits (by omega) (by rw [hz2]; omega))
      rw [hr] at hr2
      simp only [Result.ok.injEq] at hr2
      obtain ⟨rfl, rfl⟩ := hr2
      exact .inr rfl
theorem wpList_append_bytes {w : World} {ops : Array Oper} {rest : List Oper} {o : Oper} {a : Act} {Q : Exit → Act → World → Prop} (hgd : o.guard = none) (s x : Operand)
    (ho : o.op = .call { callee := .builtin .append, args := #[s, x], argTypes := #[27, 27] })
    (base : Nat) (v : Value) (n : Nat) (xs : List Value) (hs : a.eval s = v) (hown : w.ownsRow base 5 1 v n xs)
    (u : Value) (l : List Int) (hx : a.eval x = u) (hu : HB w u l) (hn : n + l.length ≤ 140737488355328) (hbase : base ≤ w.heap.size)
    (h : ∀ v' w', w'.ownsRow base 5 1 v' (n + l.length) (xs ++ l.map (Value.int .u8)) → w.grownBy w' v.ownBlock → (v'.ownBlock = v.ownBlock ∨ v'.ownBlock = some w.heap.size) → wpList Tryd.prog ops Q rest (a.put o.dst v') w') : wpList Tryd.prog ops Q (o :: rest) a w := by
  obtain ⟨i0, hi, hz0, hz1, hz2⟩ := info_parts info_u8
  obtain ⟨⟨p, c, rfl, hlc, hm, hpn, hcell⟩, hby⟩ := hu
  cases p with
  | none =>
    have e : l = [] := by
      apply Classical.byContradiction
      intro hne
      obtain ⟨b, off, e, _⟩ := hcell hne
      cases e
    subst e
    have hc0 := hpn rfl
    subst hc0
    exact wpList_append_own_none hgd s x 27 ho base 5 i0 1 Tryd.underlying27 hi v n xs hs hown hx (h v w (by simpa using hown) ⟨rfl, rfl, rfl, Nat.le_refl _, fun _ _ _ => rfl⟩ (.inl rfl))
  | some ad =>
    have hnews : ∀ j u, (l.map (Value.int .u8))[j]? = some u → w.cell? (ad.add j) = some u := by
      intro j q hj
      have hjn : j < l.length := by
        have := (List.getElem?_eq_some_iff.1 hj).1
        simpa using this
      obtain ⟨b, off, e, hc⟩ := hcell (fun e => by rw [e] at hjn; simp at hjn)
      have e := Option.some.inj e
      have e2 : (l.map (Value.int .u8))[j]? = some (Value.int .u8 (l.getD j 0)) := by simp [List.getD, List.getElem?_eq_getElem hjn]
      rw [e2] at hj
      rw [e, Go.WideShapes.add_plain, hc j hjn]
      exact hj
    refine wpList_plain hgd fun K hK => ?_
    obtain ⟨v', w', hr, h2, h3, h4⟩ := run_append_bytesD w base o.type v n xs hown ad c l hnews hn hbase
    unfold Oper.wp execOp
    simp only [ho, resolve, invoke, builtin, Sem.run_bind, Sem.run_pure, Result.andThen_ok, List.map_toArray, List.map_cons, List.map_nil, hs, hx, hr]
    exact hK _ _ (h v' w' h2 h3 h4)
theorem grown_trU {w w1 w2 : World} {ob ob1 : Option Nat} (h1 : w.grownBy w1 ob) (h2 : w1.grownBy w2 ob1) (ho : ∀ k, ob1 = some k → k < w.heap.size → ob = some k) : w.grownBy w2 ob :=
  ⟨h2.os.trans h1.os, h2.tape.trans h1.tape, h2.output.trans h1.output, Nat.le_trans h1.size h2.size, fun k hk hn => (h2.block k (Nat.lt_of_lt_of_le hk h1.size) (fun e => hn (ho k e.symm hk).symm)).trans (h1.block k hk hn)⟩
theorem bel_grown {w w' : World} (h : Below w.heap.size w w') (ob : Option Nat) : w.grownBy w' ob := ⟨h.os, h.tape, h.output, h.size, fun k hk _ => h.block k hk⟩
set_option maxRecDepth 100000 in
set_option maxHeartbeats 2000000 in
theorem appendField_any (w : World) (base : Nat) (vo vf : Value) (lo lf : List Int) (hown : w.ownsRow base 5 1 vo lo.length (lo.map (Value.int .u8))) (hf : HB w vf lf) (hap : ∀ b o n c, vf = .slice (some ⟨b, o, none⟩) n c → 0 < lf.length → vo.ownBlock ≠ some b) (hlf : lf.length ≤ 65536) (hlo : lo.length ≤ 100000000) (hbase : base ≤ w.heap.size) (hk : KP w) :
    Calls Tryd.prog 13 #[vo, vf] w fun e w' => ∃ v', e = .returned v' ∧ w'.ownsRow base 5 1 v' (lo ++ fld lf).length ((lo ++ fld lf).map (Value.int .u8)) ∧ Below base w w' ∧ w.grownBy w' vo.ownBlock := by
  have C := hid (number_tab w lf.length (by omega) (by omega) hk)
  have e2 : nE (lf.length : Int) = 0 := by unfold nE; rw [if_neg (by omega)]
  have hsz := nS_size lf.length
  have hsc := strCells_nS lf.length
  have hd5 := dec_len_small lf.length (by omega)
  have hdp := dgL_pos lf.length
  obtain ⟨D, HD⟩ : ∃ D, Hid (nS (lf.length : Int) = D) := ⟨_, rfl⟩
  obtain ⟨dl, HDL⟩ : ∃ dl, Hid (dgL lf.length = dl) := ⟨_, rfl⟩
  rw [HD.out, e2] at C
  rw [HD.out, HDL.out] at hsz hsc
  rw [HDL.out] at hd5 hdp
  have HF := hid hf
  have HO := hid hown
  have HAP := hid hap
  have HSC := hid hsc
  have HSZ := hid hsz
  obtain ⟨p, c, rfl, hlc, hcm⟩ := hf.open
  clear hf hown hap e2 hsc hsz
  go_enter Tryd.func13, Tryd.ntmps13
  go_wp2_with fail
  refine C.out.mono ?_
  rintro e w1 ⟨rfl, hb1⟩
  have B1 := hid hb1
  have hs1 := hb1.size
  have HO1 := hid (own_below HO.out hb1)
  have HF1 := hid (HF.out.below hb1)
  clear hb1 C
  go_wp2_with (at_builtin; refine wpList_append_text rfl _ _ rfl base _ lo.length _ rfl HO1.out D rfl ?q1 ?q2 ?q3 ?_)
  case q1 => have := HSZ.out; omega
  case q2 => have := HSZ.out; omega
  case q3 => omega
  intro v2 w2 hown2 hg2 hp2
  obtain ⟨l2, Hl2⟩ : ∃ l2, Hid (lo ++ dl = l2) := ⟨_, rfl⟩
  have hlen2 : l2.length = lo.length + dl.length := by rw [← Hl2.out]; exact List.length_append
  have HO2 : Hid (w2.ownsRow base 5 1 v2 l2.length (l2.map (Value.int .u8))) := by
    refine hid ?_
    rw [HSC.out, HSZ.out, ← List.map_append, Hl2.out, ← hlen2] at hown2
    exact hown2
  have B2 := hid (((B1.out.mono hbase).grown hg2 (by omega) (fun k e => (HO1.out.lt k e).1)))
  have HAP2 : Hid (∀ b o n c', Value.slice p lf.length c = .slice (some ⟨b, o, none⟩) n c' → 0 < lf.length → v2.ownBlock ≠ some b) := by
    refine hid fun b o n c' hv h0 he => ?_
    rcases hp2 with q | q
    · exact HAP.out b o n c' hv h0 (by rw [← q]; exact he)
    · rw [q] at he
      have := HF1.out.lt h0 hv
      injection he with he
      omega
  have HF2 := hid (HF1.out.grownD hg2 HAP.out)
  have hs2 : w1.heap.size ≤ w2.heap.size := hg2.size
  have H2 := hid hp2
  have HG2 := hid hg2
  have HS2 := hid hlen2
  clear hown2 hp2 hg2 hlen2
  go_wp2_with (at_builtin; refine wpList_append_byte rfl _ _ rfl base _ l2.length _ rfl (HO2.out.alloc _) ⟨w2.heap.size, 0, none⟩ 1 58 rfl (by simp) ?q1 ?q2 ?_)
  case q1 => have := HS2.out; omega
  case q2 => simp; omega
  intro v3 w3 hown3 hg3 hp3
  obtain ⟨l3, Hl3⟩ : ∃ l3 : List Int, Hid (l2 ++ [58] = l3) := ⟨l2 ++ [58], hid rfl⟩
  have hlen3 : l3.length = l2.length + 1 := by rw [← Hl3.out]; simp
  have HO3 : Hid (w3.ownsRow base 5 1 v3 l3.length (l3.map (Value.int .u8))) := by
    refine hid ?_
    rw [hlen3, ← Hl3.out, List.map_append]
    exact hown3
  have HF3 := hid ((HF2.out.below ((Below.refl _ w2).alloc (Nat.le_refl _) _)).grownD hg3 HAP2.out)
  have B3 := hid ((B2.out.alloc (by omega) _).grown hg3 (by simp; omega) (fun k e => (HO2.out.lt k e).1))
  have G3 : Hid (w.grownBy w3 vo.ownBlock) := by
    refine hid ?_
    have g1 := grown_trU (bel_grown B1.out vo.ownBlock) HG2.out (fun k e _ => e)
    refine grown_trU (grown_trU g1 (bel_grown ((Below.refl w2.heap.size w2).alloc (Nat.le_refl _) _) none) (fun k e _ => by cases e)) hg3 (fun k e hk => ?_)
    rcases H2.out with q | q
    · rw [← q]; exact e
    · rw [q] at e; injection e with e; omega
  have hs3 : w2.heap.size ≤ w3.heap.size := by have := hg3.size; simp at this; omega
  have HP3 : Hid (∀ k, v3.ownBlock = some k → k < w.heap.size → vo.ownBlock = some k) := by
    refine hid fun k e hk => ?_
    rcases hp3 with q | ⟨q, _⟩
    · rw [q] at e
      rcases H2.out with q2 | q2
      · rw [← q2]; exact e
      · rw [q2] at e; injection e with e; omega
    · rw [q] at e; injection e with e; omega
  have HS3 := hid hlen3
  clear hown3 hg3 hp3 HF2 HO2 hlen3 HAP2
  go_wp2_with (at_builtin; refine wpList_append_bytes rfl _ _ rfl base _ l3.length _ rfl HO3.out _ lf rfl HF3.out ?q1 ?q2 ?_)
  case q1 => have := HS2.out; have := HS3.out; omega
  case q2 => omega
  intro v4 w4 hown4 hg4 hp4
  obtain ⟨l4, Hl4⟩ : ∃ l4 : List Int, Hid (l3 ++ lf = l4) := ⟨l3 ++ lf, hid rfl⟩
  have hlen4 : l4.length = l3.length + lf.length := by rw [← Hl4.out]; simp
  have HO4 : Hid (w4.ownsRow base 5 1 v4 l4.length (l4.map (Value.int .u8))) := by
    refine hid ?_
    rw [hlen4, ← Hl4.out, List.map_append]
    exact hown4
  have B4 := hid (B3.out.grown hg4 (by omega) (fun k e => (HO3.out.lt k e).1))
  have hs4 : w3.heap.size ≤ w4.heap.size := hg4.size
  have G4 := hid (grown_trU G3.out hg4 HP3.out)
  have HP4 : Hid (∀ k, v4.ownBlock = some k → k < w.heap.size → vo.ownBlock = some k) := by
    refine hid fun k e hk => ?_
    rcases hp4 with q | q
    · exact HP3.out k (by rw [← q]; exact e) hk
    · rw [q] at e; injection e with e; omega
  have HS4 := hid hlen4
  clear hown4 hg4 hp4 HO3 hlen4 HF3
  go_wp2_with (at_builtin; refine wpList_append_byte rfl _ _ rfl base _ l4.length _ rfl (HO4.out.alloc _) ⟨w4.heap.size, 0, none⟩ 1 44 rfl (by simp) ?q1 ?q2 ?_)
  case q1 => have := HS2.out; have := HS3.out; have := HS4.out; omega
  case q2 => simp; omega
  intro v5 w5 hown5 hg5 hp5
  have B5 := hid ((B4.out.alloc (by omega) _).grown hg5 (by simp; omega) (fun k e => (HO4.out.lt k e).1))
  have G5 := hid (grown_trU (grown_trU G4.out (bel_grown ((Below.refl w4.heap.size w4).alloc (Nat.le_refl _) _) none) (fun k e _ => by cases e)) hg5 HP4.out)
  have HE : Hid (lo ++ fld lf = l4 ++ [44]) := by
    refine hid ?_
    rw [← Hl4.out, ← Hl3.out, ← Hl2.out, ← HDL.out]
    unfold fld
    simp
  have HO5 : Hid (w5.ownsRow base 5 1 v5 (lo ++ fld lf).length ((lo ++ fld lf).map (Value.int .u8))) := by
    refine hid ?_
    rw [HE.out, List.length_append, List.map_append]
    exact hown5
  clear hown5 hg5 hp5
  go_wp2
  go_ret
  exact ⟨_, rfl, HO5.out, B5.out, G5.out⟩
theorem wpList_bytes_strD {ops : Array Oper} {rest : List Oper} {o : Oper} {a : Act} {w : World} {Q : Exit → Act → World → Prop} (hgd : o.guard = none) (x : Operand) (ho : o.op = .convert 9 27 x) (s : ByteArray) (hx : a.eval x = .string s) (hs : s.size ≤ 140737488355328)
    (h : ∀ c w', HB w' (.slice (some ⟨w.heap.size, 0, none⟩) s.size c) (sB s) → Below w.heap.size w w' → w'.heap.size = w.heap.size + 1 → wpList Tryd.prog ops Q rest (a.put o.dst (.slice (some ⟨w.heap.size, 0, none⟩) s.size c)) w') : wpList Tryd.prog ops Q (o :: rest) a w :=
  wpList_plain hgd fun _ hK => by
    have hr := run_bytes_of_string (P := Tryd.prog) w 9 27 5 s Tryd.underlying9 Tryd.underlying27 Tryd.underlying5
    unfold Oper.wp
    simp only [execOp, ho, hx, Sem.run_bind, hr, Result.andThen_ok]
    have hge := grownCap_ge w s.size 0 5
    have hle := grownCap_le_maxLen w s.size 0 5 (by unfold maxLen; omega)
    refine hK _ _ (h _ _ ⟨⟨_, _, by rw [sB_length], by rw [sB_length]; exact hge, hle, (fun e => by cases e), fun _ => ⟨w.heap.size, 0, rfl, fun j hj => ?_⟩⟩, sB_byt s⟩ ((Below.refl _ w).drew.alloc (Nat.le_refl _) _) (by simp))
    have hb : (w.drew.alloc (.cells (bytesRow s (grownCap w s.size 0 5)) 5 ((bytesRow s (grownCap w s.size 0 5)).size, (bytesRow s (grownCap w s.size 0 5)).size + 1))).heap[w.heap.size]? = some (.cells (bytesRow s (grownCap w s.size 0 5)) 5 ((bytesRow s (grownCap w s.size 0 5)).size, (bytesRow s (grownCap w s.size 0 5)).size + 1)) := heap_alloc_new w.drew _
    rw [cell_of_row _ _ _ _ _ _ hb]
    have hj2 : j < s.data.size := by rw [sB_length] at hj; exact hj
    have hj3 : j < s.size := hj2
    simp [bytesRow, Array.getElem?_append, hj3, sB, List.getD, Array.getElem?_eq_getElem hj2]
theorem row_len_le {r : Rw} {last : ByteArray} (h : okRow last r) : (rowL r).length ≤ 70000 := by
  obtain ⟨_, h1, h2⟩ := h
  unfold rowL
  rw [List.length_append, fld_len, fld_len, sB_length]
  have := dec_len_small r.1.size (by omega)
  have := dec_len_small r.2.length (by omega)
  omega
theorem pack_len_le : ∀ (rs : List Rw) (last : ByteArray), okRows last rs → (packL rs).length ≤ rs.length * 70000
  | [], _, _ => by simp [packL]
  | r :: t, last, h => by
    rw [packL, List.length_append, List.length_cons]
    have := row_len_le h.1
    have := pack_len_le t r.1 h.2
    omega
def pkL (rs : List Rw) : List Int := if mayT rs then packL rs else []
def pkE (rs : List Rw) : Int := if mayT rs then 0 else 130
theorem okRows_get {rs : List Rw} {k : Nat} (h : k < rs.length) (hm : mayT rs) : okRow (lastN noS (rs.take k)) (rs.getD k rw0) := by
  have := okRows_take hm.2 (k + 1)
  rw [take_snoc h, okRows_snoc] at this
  exact this.2
set_option maxRecDepth 100000 in
set_option maxHeartbeats 4000000 in
theorem pack_any (w : World) (v : Value) (rs : List Rw) (h : HRw w v rs) (hk : KP w) :
    Calls Tryd.prog 5 #[v] w fun e w' => ∃ v', e = .returned (.tuple #[v', .int .i64 (pkE rs)]) ∧ w'.ownsRow w.heap.size 5 1 v' (pkL rs).length ((pkL rs).map (Value.int .u8)) ∧ Below w.heap.size w w' := by
  have C := hid (mayBe_any w v rs h)
  obtain ⟨p, c, rfl, hlc, hcm, hrow⟩ := h.open
  have HR := hid hrow
  have HK := hid hk
  clear hrow h hk
  have hm63 : rs.length ≤ 9223372036854775807 := by unfold maxLen at hcm; omega
  obtain ⟨n, HN⟩ : ∃ n, Hid (rs.length = n) := ⟨_, rfl⟩
  rw [HN.out] at hlc hm63 C
  rw [HN.out]
  by_cases hm : mayT rs
  · have e1 : pkE rs = 0 := by unfold pkE; rw [if_pos hm]
    have e2 : pkL rs = packL rs := by unfold pkL; rw [if_pos hm]
    have HM := hid hm
    rw [decide_eq_true hm] at C
    rw [e1, e2]
    have h64 : n ≤ 64 := by have := hm.1; have := HN.out; omega
    clear e1 e2 hm
    go_enter Tryd.func5, Tryd.ntmps5
    go_wp2_with fail
    refine C.out.mono ?_
    rintro e w1 ⟨rfl, hb1⟩
    have B1 := hid hb1
    clear hb1 C
    go_wp2
    go_loopw [4, 12] (fun o i wr => ∃ k : Nat, k ≤ n ∧ i = .int .i64 (k : Int) ∧ Hid (wr.ownsRow w.heap.size 5 1 o (packL (rs.take k)).length ((packL (rs.take k)).map (Value.int .u8))) ∧ Hid (Below w.heap.size w wr)) (fun _ i _ => n - (intOf i).toNat)
    case atStart => exact ⟨0, Nat.zero_le _, rfl, by simp [packL]; exact World.ownsRow_nil _ _ _ _, B1.out⟩
    case round =>
      obtain ⟨k, hk, rfl, HO, HB0⟩ := hrel
      have hsz := HB0.out.size
      obtain ⟨lo, HL⟩ : ∃ x, Hid (packL (rs.take k) = x) := ⟨_, rfl⟩
      rw [HL.out] at HO
      have hll : lo.length ≤ 5000000 := by
        rw [← HL.out]
        have := pack_len_le _ _ (okRows_take HM.out.2 k)
        have h2 : (rs.take k).length ≤ 64 := by rw [List.length_take]; omega
        omega
      by_cases hlt : k < n
      · obtain ⟨b, off, rfl, hbl, hcell⟩ := HR.out (by have := HN.out; omega)
        obtain ⟨u, hu, hv⟩ := hcell k (by have := HN.out; omega)
        have hok := okRows_get (k := k) (by have := HN.out; omega) HM.out
        obtain ⟨⟨s, l⟩, Hx⟩ : ∃ x, Hid (rs.getD k rw0 = x) := ⟨_, rfl⟩
        rw [Hx.out] at hu hv hok
        have HU := hid (range_below2 hu HB0.out hbl)
        have hs64 : s.size ≤ 64 := hok.2.1
        have hl6 : l.length ≤ 65536 := hok.2.2
        obtain ⟨pu, cu, rfl, hlu, hcu⟩ := hv.open
        have HV0 := hid hv
        have HV := hid (hv.below HB0.out)
        clear hu hv hcell hok
        have HSZ := hid size_row
        have hs47 : s.size ≤ 140737488355328 := by omega
        go_wp2_with (first | (refine wpList_load_mid rfl 37 _ rfl b (off + k * 2) rfl [.string s, .slice pu l.length cu] _ HU.out Tryd.underlying37 rfl HSZ.out ?_) | (refine wpList_bytes_strD rfl _ rfl s rfl hs47 ?_))
        intro c2 w2 hf2 hb2 hz2
        have hA := (Below.refl wr.heap.size wr).alloc (Nat.le_refl _) (.cells #[.string s, .slice pu l.length cu] 37)
        have B2 := hid ((HB0.out.alloc hsz (.cells #[.string s, .slice pu l.length cu] 37)).trans (hb2.mono (by omega)))
        have hzz : (wr.alloc (.cells #[.string s, .slice pu l.length cu] 37)).heap.size = wr.heap.size + 1 := by simp
        rw [← hzz] at hb2
        have HO2 := hid (own_below (own_below HO.out hA) hb2)
        have hs2 : w2.heap.size = wr.heap.size + 2 := by omega
        have hc2 : w2.cell? ⟨wr.heap.size, 1, none⟩ = some (.slice pu l.length cu) := by
          rw [hb2.cell (by simp)]
          simp
        have HL0 : Hid (∀ q, u4.ownBlock = some q → w.heap.size ≤ q ∧ q < wr.heap.size) := hid fun q e => HO.out.lt q e
        have HV2 := hid ((HV.out.below hA).below hb2)
        have C1 := appendField_any w2 w.heap.size u4 _ lo (sB s) HO2.out hf2 (by
          intro b' o' n' c' hv' _ he
          have := HL0.out _ he
          injection hv' with hv'
          injection hv' with hv'
          injection hv' with hv'
          omega) (by rw [sB_length]; omega) (by omega) (by omega) (HK.out.below B2.out)
        have C1 := hid C1
        clear hf2 hb2 hA hz2 hzz
        go_wp2_with fail
        refine C1.out.mono ?_
        rintro e w3 ⟨v3, rfl, hown3, hb3, hg3⟩
        have B3 := hid (B2.out.trans (hb3.mono (Nat.le_refl _)))
        have hc3 : w3.cell? ⟨wr.heap.size, 1, none⟩ = some (.slice pu l.length cu) := hg3.cell hc2 (by
          intro q
          have := HL0.out wr.heap.size q.symm
          omega)
        obtain ⟨l3, H3⟩ : ∃ x : List Int, Hid (lo ++ fld (sB s) = x) := ⟨_, hid rfl⟩
        rw [H3.out] at hown3
        have HO3 := hid hown3
        have hl3 : l3.length ≤ 5000100 := by
          rw [← H3.out, List.length_append, fld_len, sB_length]
          have := dec_len_small s.size (by omega)
          omega
        have hs3 := hb3.size
        have HV3 := hid (HV0.out.below B3.out)
        have C2 := appendField_any w3 w.heap.size v3 (.slice pu l.length cu) l3 l HO3.out HV3.out (by
          intro b' o' n' c' hv' h0 he
          have h1 := HO3.out.lt _ he
          have h2 := HV0.out.lt h0 hv'
          omega) (by omega) (by omega) (by omega) (HK.out.below B3.out)
        have C2 := hid C2
        clear hown3 hb3 hg3 C1 hc2
        go_wp2_with fail
        refine C2.out.mono ?_
        rintro e w4 ⟨v4, rfl, hown4, hb4, hg4⟩
        have B4 := hid (B3.out.trans (hb4.mono (Nat.le_refl _)))
        have HO4 : Hid (w4.ownsRow w.heap.size 5 1 v4 (packL (rs.take (k + 1))).length ((packL (rs.take (k + 1))).map (Value.int .u8))) := by
          refine hid ?_
          have e : packL (rs.take (k + 1)) = l3 ++ fld l := by
            rw [take_snoc (by have := HN.out; omega), packL_snoc, Hx.out, HL.out, ← H3.out]
            unfold rowL
            simp
          rw [e]
          exact hown4
        clear hown4 hb4 hg4 C2 hc3
        go_wp2
        exact ⟨⟨k + 1, by omega, by go_num, HO4, B4⟩, by simp [intOf]; omega⟩
      · have e : rs.take k = rs := List.take_of_length_le (by have := HN.out; omega)
        have HO' : Hid (wr.ownsRow w.heap.size 5 1 u4 (packL rs).length ((packL rs).map (Value.int .u8))) := by
          refine hid ?_
          have := HL.out
          rw [e] at this
          rw [this]
          exact HO.out
        go_wp2
        go_ret2
        exact ⟨_, rfl, HO'.out, HB0.out⟩
  · have e1 : pkE rs = 130 := by unfold pkE; rw [if_neg hm]
    have e2 : pkL rs = [] := by unfold pkL; rw [if_neg hm]
    rw [decide_eq_false hm] at C
    rw [e1, e2]
    clear e1 e2 hm
    go_enter Tryd.func5, Tryd.ntmps5
    go_wp2_with fail
    refine C.out.mono ?_
    rintro e w1 ⟨rfl, hb1⟩
    have B1 := hid hb1
    clear hb1 C
    go_wp2
    go_ret2
    exact ⟨_, rfl, World.ownsRow_nil _ _ _ _, B1.out⟩
end Go.Proofs.YtcbnlfghhcpkmaaDoor
