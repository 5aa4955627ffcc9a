/- Of the road to uebWriteCard_holds: SameBytes, UbAwake, UbLen, RegInv, RegRel, UbRCut. -/
import Derived.Test.YtklklldmhoofnaaDoorG00
import Derived.Test.YtklklldmhoofnaaDoorChecked
import Derived.Test.YtklklldmhoofnaaDoorG03
import Derived.Lib.SlBytesConst
import Derived.RegionTactic
import Derived.Orders
set_option linter.unusedVariables false
set_option linter.unusedSimpArgs false
namespace Go.Proofs.YtklklldmhoofnaaDoor
open Go.RowKit
theorem take_eq_step (la lb : List Int) (k : Nat) (ha : k < la.length) (hb : k < lb.length) (h : la.take k = lb.take k) (e : la.getD k 0 = lb.getD k 0) : la.take (k + 1) = lb.take (k + 1) := by
  rw [List.take_succ_eq_append_getElem ha, List.take_succ_eq_append_getElem hb, h]
  have e1 : la.getD k 0 = la[k] := by simp [List.getD, List.getElem?_eq_getElem ha]
  have e2 : lb.getD k 0 = lb[k] := by simp [List.getD, List.getElem?_eq_getElem hb]
  rw [e1, e2] at e
  rw [e]
theorem take_ne (la lb : List Int) (k : Nat) (e : la.getD k 0 ≠ lb.getD k 0) : la ≠ lb := fun h => e (by rw [h])
set_option maxHeartbeats 400000 in
theorem sameBytes_any (w : World) (va vb : Value) (la lb : List Int) (ha : HB w va la) (hb : HB w vb lb) :
    Calls Tryd.prog 11 #[va, vb] w fun e w' => e = .returned (.bool (decide (la = lb))) ∧ Dr w w' := by
  by_cases hlen : la.length = lb.length
  · by_cases h0 : 0 < la.length
    · obtain ⟨b1, o1, c1, rfl, hc1, hm1, hk1⟩ := ha.ne h0
      obtain ⟨b2, o2, c2, rfl, hc2, hm2, hk2⟩ := hb.ne (by omega)
      unfold maxLen at hm1 hm2
      have hm : la.length ≤ 9223372036854775807 := by omega
      have HL : Hid (la.length = lb.length) := hlen
      rw [← hlen]
      have hcd : ∀ j, j < la.length → w.cell? ⟨b2, o2 + j, none⟩ = some (.int .u8 (lb.getD j 0)) := fun j hj => hk2 j (by omega)
      clear hlen hk2
      go_enter Tryd.func11, Tryd.ntmps11
      go_wp2
      go_loopw [5] (fun i wr => ∃ k : Nat, k ≤ la.length ∧ i = .int .i64 k ∧ la.take k = lb.take k ∧ Dr w wr) (fun i _ => la.length - (intOf i).toNat)
      case atStart => exact ⟨0, Nat.zero_le _, rfl, rfl, Dr.refl _⟩
      case round =>
        obtain ⟨k, hk, rfl, ht, q, rfl⟩ := hrel
        by_cases hlt : k < la.length
        · have g1 := hk1 k hlt
          have g2 := hcd k hlt
          obtain ⟨x, hx⟩ : ∃ x, la.getD k 0 = x := ⟨_, rfl⟩
          obtain ⟨y, hy⟩ : ∃ y, lb.getD k 0 = y := ⟨_, rfl⟩
          rw [hx] at g1
          rw [hy] at g2
          have HX := hid hx
          have HY := hid hy
          clear hx hy hk1 hcd
          by_cases he : x = y
          · have hne : (x != y) = false := by simpa using he
            have HE := hid he
            clear he
            go_wp2
            go_quiet (fail)
            go_wp2
            exact ⟨⟨k + 1, by omega, by go_num, take_eq_step la lb k hlt (by have := HL.out; omega) ht (by rw [HX.out, HY.out, HE.out]), Dr.one _ _⟩, by simp [intOf]; omega⟩
          · have hne : (x != y) = true := by simpa using he
            go_wp2
            go_quiet (fail)
            go_wp2
            go_ret
            exact ⟨by simp [take_ne la lb k (by rw [HX.out, HY.out]; exact he)], (Dr.one _ _).drewN _⟩
        · go_wp2
          go_ret
          have e : la = lb := by
            have h1 := List.take_of_length_le (show la.length ≤ k by omega)
            have h2 := List.take_of_length_le (show lb.length ≤ k by have := HL.out; omega)
            rw [← h1, ← h2, ht]
          exact ⟨by simp [e], Dr.one _ _⟩
    · obtain ⟨p1, c1, rfl, _, _⟩ := ha.open
      obtain ⟨p2, c2, rfl, _, _⟩ := hb.open
      have e1 : la = [] := List.length_eq_zero_iff.1 (by omega)
      have e2 : lb = [] := List.length_eq_zero_iff.1 (by omega)
      subst e1 e2
      go_enter Tryd.func11, Tryd.ntmps11
      go_wp2
      go_loop [5] (fun i => i = .int .i64 0) (fun _ => 0)
      case atStart => rfl
      case round =>
        subst hrel
        go_wp2
        go_ret
        exact ⟨rfl, Dr.refl _⟩
  · obtain ⟨p1, c1, rfl, _, _⟩ := ha.open
    obtain ⟨p2, c2, rfl, _, _⟩ := hb.open
    have hne : ((la.length : Int) != (lb.length : Int)) = true := by rw [bne_iff_ne]; omega
    go_enter Tryd.func11, Tryd.ntmps11
    go_wp2
    go_ret
    exact ⟨by simp [show la ≠ lb from fun e => hlen (by rw [e])], Dr.refl _⟩
end Go.Proofs.YtklklldmhoofnaaDoor
namespace Go.Proofs.YtklklldmhoofnaaDoor
open Go Go.RowKit
set_option maxRecDepth 100000 in
set_option maxHeartbeats 4000000 in
theorem length_any (w : World) (u : Ub) (hu : u.ok) (hkp : KP w) : Calls Tryd.prog 8 #[.agg (ubA u)] w fun e w' => e = .returned (.tuple #[.int .i64 ((wrL u).length : Nat), .int .i64 (chE u)]) ∧ Below w.heap.size w w' := by
  have HS := hid (size_ub hu)
  have hbA := (Below.refl w.heap.size w).alloc (Nat.le_refl _) (.cells (ubA u) 25)
  have C := hid (uwrite_any (w.alloc (.cells (ubA u) 25)) u hu (hkp.below hbA))
  obtain ⟨m, HM⟩ : ∃ x, Hid (ubA u = x) := ⟨_, rfl⟩
  obtain ⟨ll, HL⟩ : ∃ x, Hid (wrL u = x) := ⟨_, rfl⟩
  obtain ⟨ee, HE⟩ : ∃ x, Hid (chE u = x) := ⟨_, rfl⟩
  rw [HM.out, HL.out, HE.out] at C
  rw [HM.out] at HS hbA
  rw [HM.out, HL.out, HE.out]
  have HBA := hid hbA
  clear hbA hkp hu
  go_enter Tryd.func8, Tryd.ntmps8
  go_wp2_with (first | (refine wpList_load_row rfl 25 _ rfl w.heap.size rfl 25 m (0, 0) _ (heap_alloc_new w _) Tryd.underlying25 rfl HS.out ?_) | fail)
  refine C.out.mono ?_
  rintro e w1 ⟨v', rfl, hown, hb1⟩
  have B1 := hid (HBA.out.trans (hb1.mono (by simp)))
  obtain ⟨p, c, rfl⟩ := own_slc hown
  clear hown hb1 C
  go_wp2
  go_ret2
  exact ⟨rfl, B1.out⟩
theorem zc_ueb : Tryd.zeroCells25 = ubA ub0 := by kernel_rfl
theorem HB_lit {w : World} {blk : Nat} {T : TypeId} {fr : Nat × Nat} {l : List Int} (hb : w.heap[blk]? = some (.cells (l.map (Value.int .u8)).toArray T fr)) (hn : l.length ≤ 1000) (hy : Byt8 l) : HB w (.slice (some ⟨blk, 0, none⟩) l.length l.length) l := by
  refine ⟨⟨_, l.length, rfl, Nat.le_refl _, by unfold maxLen; omega, (fun e => by cases e), fun _ => ⟨blk, 0, rfl, fun j hj => ?_⟩⟩, hy⟩
  rw [cell_of_row _ _ _ _ _ _ hb]
  simp [List.getD, List.getElem?_eq_getElem hj]
def ubZ (k n g z : Int) : Ub := ⟨k, n, g, z, zeros32', zeros32'⟩
theorem ubZ_ok (k n g z : Int) : (ubZ k n g z).ok := ub0_ok
def uL (k n g z : Int) : Nat := (wrL (ubZ k n g z)).length
theorem wrL_len {u : Ub} (hu : u.ok) : (wrL u).length = uL u.k u.n u.g u.z := by
  unfold uL wrL
  have : chE (ubZ u.k u.n u.g u.z) = chE u := rfl
  rw [this]
  split
  · have e1 : (packL (ubRows u)).length = (packL (ubRows (ubZ u.k u.n u.g u.z))).length := by
      simp [ubRows, packL, rowL, fld_len, hu.1.1, hu.2.1, ubZ, show zeros32'.length = 32 from rfl]
    exact e1
  · rfl
theorem dg_len10 (x : Int) (h : x ≤ 2147483647) : (dgL x.toNat).length ≤ 10 := by
  rw [dgL_length]
  have := dec_len_mono 2147483647 x.toNat (by omega)
  have h2 : (Lib.decDigits 2147483647).length = 10 := by decide +kernel
  omega
theorem dg_len2 (x : Nat) (h : x ≤ 99) : (dgL x).length ≤ 2 := by
  rw [dgL_length]
  have := dec_len_mono 99 x (by omega)
  have h2 : (Lib.decDigits 99).length = 2 := by decide +kernel
  omega
theorem fld_le (l : List Int) (a : Nat) (h : l.length ≤ a) (ha : a ≤ 90) : (fld l).length ≤ a + 4 := by
  rw [fld_len]
  have := dg_len2 l.length (by omega)
  omega
theorem rowL_le (nm : ByteArray) (v : List Int) (a b : Nat) (h1 : (sB nm).length ≤ a) (h2 : v.length ≤ b) (ha : a ≤ 90) (hb : b ≤ 90) : (rowL (nm, v)).length ≤ a + b + 8 := by
  unfold rowL
  rw [List.length_append]
  have q1 := fld_le (sB nm) a h1 ha
  have q2 := fld_le v b h2 hb
  exact Nat.le_trans (Nat.add_le_add q1 q2) (by omega)
theorem six_le {x1 x2 x3 x4 x5 x6 a1 a2 a3 a4 a5 a6 : Nat} (h1 : x1 ≤ a1) (h2 : x2 ≤ a2) (h3 : x3 ≤ a3) (h4 : x4 ≤ a4) (h5 : x5 ≤ a5) (h6 : x6 ≤ a6) (h : a1 + a2 + a3 + a4 + a5 + a6 ≤ 1000) : x1 + (x2 + (x3 + (x4 + (x5 + (x6 + 0))))) ≤ 1000 := by omega
theorem packL_six (r1 r2 r3 r4 r5 r6 : Rw) : (packL [r1, r2, r3, r4, r5, r6]).length = (rowL r1).length + ((rowL r2).length + ((rowL r3).length + ((rowL r4).length + ((rowL r5).length + ((rowL r6).length + 0))))) := by
  simp only [packL, List.length_append, List.length_nil]
theorem uL_le (k n g z : Int) : uL k n g z ≤ 1000 := by
  unfold uL wrL
  split
  · rename_i h
    obtain ⟨q1, q2, q3, q4⟩ := (ch_ok h).le
    rw [ubRows, packL_six]
    exact six_le (rowL_le nmK _ 1 10 (by decide +kernel) (dg_len10 _ q1.2) (by omega) (by omega)) (rowL_le nmN _ 1 10 (by decide +kernel) (dg_len10 _ q2.2) (by omega) (by omega)) (rowL_le nmSeg _ 3 10 (by decide +kernel) (dg_len10 _ q3.2) (by omega) (by omega)) (rowL_le nmSegs _ 8 32 (by decide +kernel) (Nat.le_refl _) (by omega) (by omega)) (rowL_le nmShares _ 6 32 (by decide +kernel) (Nat.le_refl _) (by omega) (by omega)) (rowL_le nmSize _ 4 10 (by decide +kernel) (dg_len10 _ q4.2) (by omega) (by omega)) (by omega)
  · exact Nat.zero_le _
def undone (L : Array Bool) : Nat := (L.toList.filter fun b => !b).length
theorem undone_set {L : Array Bool} {i : Nat} (h : L[i]? = some false) : undone L = undone (L.setIfInBounds i true) + 1 := by
  obtain ⟨l⟩ := L
  unfold undone
  simp only [List.getElem?_toArray, List.setIfInBounds_toArray] at h ⊢
  induction l generalizing i with
  | nil => simp at h
  | cons x l ih =>
    cases i with
    | zero =>
      simp at h
      subst h
      simp
    | succ i =>
      have := ih (by simpa using h)
      rw [List.set_cons_succ, List.filter_cons, List.filter_cons]
      split <;> simp [this]
theorem undone_ex {L : Array Bool} (h : undone L ≠ 0) : ∃ i : Nat, L[i]? = some false ∧ ∀ j : Nat, j < i → L[j]? = some true := by
  obtain ⟨l⟩ := L
  unfold undone at h
  simp only [List.getElem?_toArray] at h ⊢
  induction l with
  | nil => exact absurd rfl h
  | cons x l ih =>
    cases x with
    | false => exact ⟨0, rfl, fun j hj => absurd hj (Nat.not_lt_zero _)⟩
    | true =>
      obtain ⟨i, h1, h2⟩ := ih (by simpa using h)
      refine ⟨i + 1, by simpa using h1, fun j hj => ?_⟩
      cases j with
      | zero => rfl
      | succ j => simpa using h2 j (by omega)
theorem undone_none {L : Array Bool} (h : undone L = 0) (i : Nat) (hi : i < L.size) : L[i]? = some true := by
  obtain ⟨l⟩ := L
  unfold undone at h
  simp only [List.getElem?_toArray, List.size_toArray] at h hi ⊢
  have hn := List.filter_eq_nil_iff.1 (List.length_eq_zero_iff.1 h)
  have := hn l[i] (List.getElem_mem hi)
  rw [List.getElem?_eq_getElem hi]
  cases hx : l[i] with
  | true => rfl
  | false => rw [hx] at this; simp at this
theorem wpAny_inv {P : Program} {ops : Array Oper} {Q : Exit → Act → World → Prop} (hg : ∀ (i : Nat) (o : Oper), ops[i]? = some o → o.guard = none ∧ ∀ e ∈ o.after, e.on < i)
    (I : Array Bool → Act → World → Prop)
    (hstep : ∀ (L : Array Bool) (i : Nat) (o : Oper) (a : Act) (w : World) (K : Act → World → Prop), ops[i]? = some o → L.size = ops.size → L[i]? = some false → (∀ e ∈ o.after, Region.binds .any e = true → L[e.on]? = some true) → I L a w → (∀ a' w', I (L.setIfInBounds i true) a' w' → K a' w') → o.wp P a w K Q)
    (hend : ∀ (L : Array Bool) (a : Act) (w : World), L.size = ops.size → (∀ i, i < ops.size → L[i]? = some true) → I L a w → Q .normal a w) :
    ∀ (n : Nat) (L : Array Bool) (a : Act) (w : World), L.size = ops.size → undone L = n → I L a w → wpAny P .any ops Q n L a w := by
  intro n
  induction n with
  | zero =>
    intro L a w hs hu hI
    have hall : ∀ i, i < ops.size → L[i]? = some true := fun i hi => undone_none hu i (by omega)
    refine wpAny_done ?_ (hend L a w hs hall hI) 0
    refine List.eq_nil_iff_forall_not_mem.2 fun i hi => ?_
    obtain ⟨h1, o, h2, _⟩ := mem_ready.1 hi
    have hlt := (Array.getElem?_eq_some_iff.1 h2).1
    have := hall i hlt
    simp [Array.getD_eq_getD_getElem?, this] at h1
  | succ n ih =>
    intro L a w hs hu hI
    obtain ⟨i0, q1, q2⟩ := undone_ex (L := L) (by omega)
    have hne : i0 ∈ Region.ready .any ops L := by
      have hlt := (Array.getElem?_eq_some_iff.1 q1).1
      obtain ⟨o, ho⟩ : ∃ o, ops[i0]? = some o := ⟨_, Array.getElem?_eq_getElem (by omega)⟩
      refine mem_ready.2 ⟨by simp [Array.getD_eq_getD_getElem?, q1], o, ho, fun e he _ => ?_⟩
      have := q2 e.on ((hg i0 o ho).2 e he)
      simp [Array.getD_eq_getD_getElem?, this]
    refine ⟨fun h => by rw [h] at hne; exact absurd hne List.not_mem_nil, fun i hi => ?_⟩
    obtain ⟨h1, o, h2, h3⟩ := mem_ready.1 hi
    have hlt := (Array.getElem?_eq_some_iff.1 h2).1
    have hLi : L[i]? = some false := by
      rw [Array.getElem?_eq_getElem (by omega)]
      have : L.getD i true = L[i]'(by omega) := by simp [Array.getD, show i < L.size by omega]
      rw [this] at h1
      rw [h1]
    refine wpOp_step h2 fun K hK => ?_
    have hw : Region.wanted o (yielded ops a.tmps) = true := by unfold Region.wanted; rw [(hg i o h2).1]
    rw [if_pos hw]
    refine hstep L i o a w K h2 hs hLi (fun e he hb => ?_) hI fun a' w' hI' => hK _ _ (ih _ a' w' (by simpa using hs) (by have := undone_set hLi; omega) hI')
    have := h3 e he hb
    cases hx : L[e.on]? with
    | none => simp [Array.getD_eq_getD_getElem?, hx] at this
    | some x => simp [Array.getD_eq_getD_getElem?, hx] at this; rw [this]
structure RelI (N : Nat) (dst : Nat → Nat) (a0 : Act) (w0 : World) (L0 : Array Bool) (Φ : Nat → World → Value → Prop) (L : Array Bool) (a : Act) (w : World) (vals : Nat → Value) : Prop where
  size : a.tmps.size = a0.tmps.size
  defers : a.defers = a0.defers
  ge : ∀ i : Nat, L0[i]? = some true → L[i]? = some true
  done : ∀ i, i < N → L0[i]? = some false → L[i]? = some true → a.tmps[dst i]? = some (vals i) ∧ Φ i w (vals i)
  rest : ∀ s, (∀ i, i < N → L0[i]? = some false → dst i ≠ s) → a.tmps[s]? = a0.tmps[s]?
  bel : Below w0.heap.size w0 w
theorem wpAny_rel {P : Program} {ops : Array Oper} {Q : Exit → Act → World → Prop} (hg : ∀ (i : Nat) (o : Oper), ops[i]? = some o → o.guard = none ∧ ∀ e ∈ o.after, e.on < i)
    {dst : Nat → Nat} {a0 : Act} {w0 : World} {Φ : Nat → World → Value → Prop} (L0 : Array Bool) (hL0 : L0.size = ops.size)
    (hdst : ∀ i j, i < ops.size → j < ops.size → L0[i]? = some false → L0[j]? = some false → dst i = dst j → i = j)
    (hops : ∀ i o, ops[i]? = some o → L0[i]? = some false → o.dst = some (dst i)) (hin : ∀ i, i < ops.size → L0[i]? = some false → dst i < a0.tmps.size)
    (hΦ : ∀ i w w' v, Φ i w v → Below w.heap.size w w' → Φ i w' v)
    (hstep : ∀ i o, ops[i]? = some o → L0[i]? = some false → ∀ (a : Act) (w : World) (K : Act → World → Prop) (vals : Nat → Value) (L : Array Bool), RelI ops.size dst a0 w0 L0 Φ L a w vals → (∀ e ∈ o.after, Region.binds .any e = true → L[e.on]? = some true) →
      (∀ v w', Φ i w' v → Below w.heap.size w w' → K (a.put o.dst v) w') → o.wp P a w K Q)
    (hend : ∀ (a : Act) (w : World) (vals : Nat → Value), a.defers = a0.defers ∧ a.tmps.size = a0.tmps.size ∧ (∀ s, (∀ i, i < ops.size → L0[i]? = some false → dst i ≠ s) → a.tmps[s]? = a0.tmps[s]?) → (∀ i, i < ops.size → L0[i]? = some false → a.tmps[dst i]? = some (vals i) ∧ Φ i w (vals i)) → Below w0.heap.size w0 w → Q .normal a w) :
    ∀ n, undone L0 = n → wpAny P .any ops Q n L0 a0 w0 := by
  intro n hu
  refine wpAny_inv hg (fun L a w => ∃ vals, RelI ops.size dst a0 w0 L0 Φ L a w vals) ?_ ?_ n L0 a0 w0 hL0 hu ⟨fun _ => undef, rfl, rfl, (fun i h => h), (fun i _ h1 h2 => by rw [h1] at h2; cases h2), (fun s _ => rfl), Below.refl _ _⟩
  · intro L i o a w K ho hs hL hd hI hK
    obtain ⟨vals, hR⟩ := hI
    have hi : i < ops.size := (Array.getElem?_eq_some_iff.1 ho).1
    have hL0i : L0[i]? = some false := by
      cases h : L0[i]? with
      | none => rw [Array.getElem?_eq_none_iff] at h; omega
      | some b =>
        cases b with
        | false => rfl
        | true => rw [hR.ge i h] at hL; cases hL
    refine hstep i o ho hL0i a w K vals L hR hd fun v w' q1 q2 => hK _ _ ⟨fun j => if j = i then v else vals j, ?_⟩
    rw [hops i o ho hL0i]
    have hds : dst i < a.tmps.size := by rw [hR.size]; exact hin i hi hL0i
    refine ⟨by show (a.tmps.setIfInBounds (dst i) v).size = _; rw [Array.size_setIfInBounds]; exact hR.size, hR.defers, fun j hj => ?_, fun j hj h0 h1 => ?_, fun s hs' => ?_, hR.bel.trans (q2.mono hR.bel.size)⟩
    · by_cases e : i = j
      · subst e; simp [show i < L.size by omega]
      · rw [Array.getElem?_setIfInBounds_ne e]; exact hR.ge j hj
    · show (a.tmps.setIfInBounds (dst i) v)[dst j]? = _ ∧ _
      by_cases e : j = i
      · subst e
        simp only [if_pos]
        exact ⟨by simp [hds], q1⟩
      · rw [Array.getElem?_setIfInBounds_ne (fun h => e (hdst i j hi hj hL0i h0 h).symm), if_neg e]
        rw [Array.getElem?_setIfInBounds_ne (fun h => e h.symm)] at h1
        obtain ⟨r1, r2⟩ := hR.done j hj h0 h1
        exact ⟨r1, hΦ j w w' _ r2 q2⟩
    · show (a.tmps.setIfInBounds (dst i) v)[s]? = _
      rw [Array.getElem?_setIfInBounds_ne (hs' i hi hL0i)]
      exact hR.rest s hs'
  · intro L a w hs hall hI
    obtain ⟨vals, hR⟩ := hI
    exact hend a w vals ⟨hR.defers, hR.size, hR.rest⟩ (fun i hi h0 => hR.done i hi h0 (hall i hi)) hR.bel
theorem tmps_lay {a a0 : Act} {N base : Nat} {vals : Nat → Value} (hs0 : a0.tmps.size = base + N) (hs : a.tmps.size = a0.tmps.size) (h1 : ∀ s, s < base → a.tmps[s]? = a0.tmps[s]?) (h2 : ∀ i, i < N → a.tmps[base + i]? = some (vals i)) : a.tmps = (a0.tmps.toList.take base ++ (List.range N).map vals).toArray := by
  have hl0 : a0.tmps.toList.length = base + N := by rw [Array.length_toList]; exact hs0
  have key : a.tmps.toList = a0.tmps.toList.take base ++ (List.range N).map vals := by
    refine List.ext_getElem? fun s => ?_
    rw [Array.getElem?_toList]
    by_cases hb : s < base
    · rw [List.getElem?_append_left (by rw [List.length_take]; omega), List.getElem?_take, if_pos hb, h1 s hb, Array.getElem?_toList]
    · by_cases hn : s < base + N
      · have e := h2 (s - base) (by omega)
        rw [show base + (s - base) = s by omega] at e
        rw [e, List.getElem?_append_right (by rw [List.length_take]; omega), List.length_take, Nat.min_eq_left (by omega), List.getElem?_map, List.getElem?_range (by omega)]
        rfl
      · rw [Array.getElem?_eq_none (by omega), List.getElem?_eq_none (by rw [List.length_append, List.length_take, List.length_map, List.length_range]; omega)]
  rw [← key]
set_option maxRecDepth 100000 in
set_option maxHeartbeats 4000000 in
theorem rup_hand (w : World) (x y : Int) (hx : 1 ≤ x) (hx2 : x ≤ 4611686018427387904) (hy : 1 ≤ y) (hy2 : y ≤ 1073741824) : Calls Tryd.prog 62 #[.int .i64 x, .int .i64 y] w fun e w' => e = .returned (.int .i64 (upI x y)) ∧ Dr w w' := by
  have E := hid (rup_tdiv (x := x) (y := y) (by omega) hy)
  have h2 := Int.emod_nonneg x (show y ≠ 0 by omega)
  have h3 := Int.emod_lt_of_pos x (show 0 < y by omega)
  have q1 := Int.ediv_nonneg (show 0 ≤ x by omega) (show 0 ≤ y by omega)
  have q2 := Int.ediv_le_self y (show 0 ≤ x by omega)
  have q3 := Int.ediv_nonneg (show 0 ≤ x % y + y - 1 by omega) (show 0 ≤ y by omega)
  have q4 := Int.ediv_le_self y (show 0 ≤ x % y + y - 1 by omega)
  have e1 : x.tmod y = x % y := Int.tmod_eq_emod_of_nonneg (by omega)
  have e2 : x.tdiv y = x / y := Int.tdiv_eq_ediv_of_nonneg (by omega)
  have e3 : (x % y + y - 1).tdiv y = (x % y + y - 1) / y := Int.tdiv_eq_ediv_of_nonneg (by omega)
  rw [e1, e2, e3] at E
  obtain ⟨D, HD⟩ : ∃ d, Hid (x / y = d) := ⟨_, rfl⟩
  obtain ⟨M, HM⟩ : ∃ d, Hid (x % y = d) := ⟨_, rfl⟩
  rw [HM.out] at h2 h3 q3 q4 e1 e3 E
  rw [HD.out] at q1 q2 e2 E
  obtain ⟨U, HU⟩ : ∃ d, Hid ((M + y - 1) / y = d) := ⟨_, rfl⟩
  rw [HU.out] at q3 q4 e3 E
  have k1 : IntKind.i64.wrap (M + y) = M + y := by rw [IntKind.wrap_i64]; omega
  have k2 : IntKind.i64.wrap (M + y - 1) = M + y - 1 := by rw [IntKind.wrap_i64]; omega
  have k3 : IntKind.i64.wrap D = D := by rw [IntKind.wrap_i64]; omega
  have k4 : IntKind.i64.wrap U = U := by rw [IntKind.wrap_i64]; omega
  have k5 : IntKind.i64.wrap M = M := by rw [IntKind.wrap_i64]; omega
  have k6 : IntKind.i64.wrap (D + U) = D + U := by rw [IntKind.wrap_i64]; omega
  have hy0 : ¬ y = 0 := by omega
  rw [← E.out]
  clear h2 h3 q1 q2 q3 q4
  go_enter Tryd.func62, Tryd.ntmps62
  go_wp2
  go_quiet (fail)
  go_wp2
  go_ret
  exact ⟨rfl, Dr.one _ _⟩
set_option maxRecDepth 100000 in
set_option maxHeartbeats 8000000 in
theorem rcheckH_any (w : World) (k n g h : Int) (p : Option Addr) (l c : Nat) : Calls Tryd.prog 60 #[prV k n g h (.slice p l c)] w fun e w' => e = .returned (.int .i64 (chkE k n g l)) ∧ Below w.heap.size w w' := by
  unfold prV
  go_enter Tryd.func60, Tryd.ntmps60
  by_cases h1 : n < 1
  · have F : Hid (chkE k n g l = 3) := if_neg fun h => by have := h.1; have := h.2.1; omega
    go_wp2; go_ret; rw [F.out]; exact ⟨rfl, below_alloc _ _⟩
  by_cases h2 : 255 < n
  · have F : Hid (chkE k n g l = 3) := if_neg fun h => by have := h.2.2.1; omega
    go_wp2; go_ret; rw [F.out]; exact ⟨rfl, below_alloc _ _⟩
  by_cases h3 : k < 1
  · have F : Hid (chkE k n g l = 3) := if_neg fun h => by have := h.1; omega
    go_wp2; go_ret; rw [F.out]; exact ⟨rfl, below_alloc _ _⟩
  by_cases h4 : n < k
  · have F : Hid (chkE k n g l = 3) := if_neg fun h => by have := h.2.1; omega
    go_wp2; go_ret; rw [F.out]; exact ⟨rfl, below_alloc _ _⟩
  by_cases h5 : g < 1
  · have F : Hid (chkE k n g l = 3) := if_neg fun h => by have := h.2.2.2.1; omega
    go_wp2; go_ret; rw [F.out]; exact ⟨rfl, below_alloc _ _⟩
  by_cases h6 : 65536 < g
  · have F : Hid (chkE k n g l = 3) := if_neg fun h => by have := h.2.2.2.2.1; omega
    go_wp2; go_ret; rw [F.out]; exact ⟨rfl, below_alloc _ _⟩
  by_cases h7 : (64 : Int) < (l : Int)
  · have F : Hid (chkE k n g l = 3) := if_neg fun h => by have := h.2.2.2.2.2; omega
    go_wp2; go_ret; rw [F.out]; exact ⟨rfl, below_alloc _ _⟩
  · have F : Hid (chkE k n g l = 0) := if_pos ⟨by omega, by omega, by omega, by omega, by omega, by omega⟩
    go_wp2; go_ret; rw [F.out]; exact ⟨rfl, below_alloc _ _⟩
theorem bel_drewN9 {B : Nat} {w W : World} (h : Below B w W) (q : Nat) : Below B w (W.drewN q) := h.trans ((Dr.one _ _).below _)
set_option maxRecDepth 100000 in
set_option maxHeartbeats 8000000 in
theorem rlaid_hand (w : World) (k n g z : Int) (h1 : 1 ≤ k) (h2 : k ≤ 255) (hg : 1 ≤ g) (hg2 : g ≤ 65790) (hz : 1 ≤ z) (hz2 : z ≤ 16777216) : Calls Tryd.prog 61 #[.int .i64 k, .int .i64 n, .int .i64 g, .int .i64 z] w fun e w' => e = .returned (.agg (shA (shR k n g z))) ∧ Below w.heap.size w w' := by
  have C1 := hid fun w => rup_hand w z g hz (by omega) hg (by omega)
  have t1 := tlI_pos (x := z) hg
  have t2 := tlI_le (x := z) hg
  have u1 := upI_pos hz hg
  have u2 := upI_le hz hg
  have hsp := up_split z g
  have C2 := hid fun w => rup_hand w (tlI z g) k t1 (by omega) h1 (by omega)
  have hq : g.tdiv k = g / k := Int.tdiv_eq_ediv_of_nonneg (by omega)
  have hq2 : 0 ≤ g / k ∧ g / k ≤ g := ⟨Int.ediv_nonneg (by omega) (by omega), Int.ediv_le_self _ (by omega)⟩
  have HR : Hid (shR k n g z = [k, n, g, z, upI z g, tlI z g, g / k, upI (tlI z g) k]) := rfl
  rw [HR.out]
  obtain ⟨U, HU⟩ : ∃ x, Hid (upI z g = x) := ⟨_, rfl⟩
  obtain ⟨T, HT⟩ : ∃ x, Hid (tlI z g = x) := ⟨_, rfl⟩
  rw [HT.out] at C2 t1 t2 hsp ⊢
  obtain ⟨V, HV⟩ : ∃ x, Hid (upI T k = x) := ⟨_, rfl⟩
  obtain ⟨D, HD⟩ : ∃ x, Hid (g / k = x) := ⟨_, rfl⟩
  rw [HU.out] at C1 u1 u2 hsp ⊢
  rw [HV.out] at C2 ⊢
  rw [HD.out] at hq hq2 ⊢
  have k1 : IntKind.i64.wrap (U - 1) = U - 1 := by rw [IntKind.wrap_i64]; omega
  have hp : (U - 1) * g = z - T := by omega
  have k2 : IntKind.i64.wrap (z - T) = z - T := by rw [IntKind.wrap_i64]; omega
  have k3 : IntKind.i64.wrap (z - (z - T)) = T := by rw [IntKind.wrap_i64]; omega
  have k4 : IntKind.i64.wrap D = D := by rw [IntKind.wrap_i64]; omega
  have hk0 : ¬ k = 0 := by omega
  clear HR hsp
  go_enter Tryd.func61, Tryd.ntmps61
  go_wp2_with fail
  refine (C1.out _).mono ?_
  rintro e w1 ⟨rfl, hd1⟩
  have hz8 : (shA sh0) = #[.int .i64 0, .int .i64 0, .int .i64 0, .int .i64 0, .int .i64 0, .int .i64 0, .int .i64 0, .int .i64 0] := rfl
  have hh1 := hd1.heap
  have KA : Bk w1 w.heap.size (shA sh0) 51 := by
    show w1.heap[w.heap.size]? = _
    rw [hh1, heap_alloc_old _ _ (by simp)]
    exact heap_alloc_new w _
  have KB : Bk w1 (w.heap.size + 1) (shA [k, n, g, z, 0, 0, 0, 0]) 51 := by
    show w1.heap[w.heap.size + 1]? = _
    rw [hh1]
    have := heap_alloc_new (w.alloc (.cells (shA sh0) 51)) (.cells (shA [k, n, g, z, 0, 0, 0, 0]) 51)
    rw [show (w.alloc (.cells (shA sh0) 51)).heap.size = w.heap.size + 1 by simp] at this
    exact this
  have B1 : Below w.heap.size w w1 := ((((Below.refl _ w).alloc (Nat.le_refl _) (.cells (shA sh0) 51)).alloc (by simp) (.cells (shA [k, n, g, z, 0, 0, 0, 0]) 51))).trans (hd1.below _)
  have HKA := hid KA
  have HKB := hid KB
  have HB1 := hid B1
  have c4 := KB.cell 4 (.int .i64 0) rfl
  have f4 := KB.free 4
  have c5 := KB.cell 5 (.int .i64 0) rfl
  have f5 := KB.free 5
  have c6 := KB.cell 6 (.int .i64 0) rfl
  have f6 := KB.free 6
  clear hd1 hz8 hh1 KA KB B1
  go_wp2_with fail
  refine (C2.out _).mono ?_
  rintro e w2 ⟨rfl, hd2⟩
  have KB2 : Bk w2 (w.heap.size + 1) (shA [k, n, g, z, U, T, D, 0]) 51 := by
    have := ((HKB.out.set 4 (.int .i64 U)).set 5 (.int .i64 T)).set 6 (.int .i64 D)
    show w2.heap[w.heap.size + 1]? = _
    rw [hd2.heap]
    exact this
  have KA2 : Bk w2 w.heap.size (shA sh0) 51 := by
    have := ((HKA.out.setOther (y := w.heap.size + 1) (by omega) 4 (.int .i64 U)).setOther (y := w.heap.size + 1) (by omega) 5 (.int .i64 T)).setOther (y := w.heap.size + 1) (by omega) 6 (.int .i64 D)
    show w2.heap[w.heap.size]? = _
    rw [hd2.heap]
    exact this
  have HB2 := hid ((((HB1.out.setCell (p := ⟨w.heap.size + 1, 4, none⟩) (by simp) (.int .i64 U)).setCell (p := ⟨w.heap.size + 1, 5, none⟩) (by simp) (.int .i64 T)).setCell (p := ⟨w.heap.size + 1, 6, none⟩) (by simp) (.int .i64 D)).trans (hd2.below _))
  have c7 := KB2.cell 7 (.int .i64 0) rfl
  have f7 := KB2.free 7
  have HKB3 := hid (KB2.set 7 (.int .i64 V))
  have HKA3 := hid (KA2.setOther (y := w.heap.size + 1) (by omega) 7 (.int .i64 V))
  have HB3 := hid (HB2.out.setCell (p := ⟨w.heap.size + 1, 7, none⟩) (by simp) (.int .i64 V))
  have E8 : Hid ((shA [k, n, g, z, U, T, D, 0]).setIfInBounds 7 (.int .i64 V) = shA [k, n, g, z, U, T, D, V]) := rfl
  rw [E8.out] at HKB3
  obtain ⟨m, HM⟩ : ∃ x, Hid (shA [k, n, g, z, U, T, D, V] = x) := ⟨_, rfl⟩
  have HS8 : Hid (m.size = 8) := by rw [← HM.out]; exact rfl
  have HO8 : Hid (m.all (·.oneCell') = true) := by refine hid ?_; rw [← HM.out]; simp [shA, Value.oneCell']
  have HI8 : Hid ((Tryd.prog.info? 51).map (·.size) = some m.size) := by refine hid ?_; rw [HS8.out]; exact size_shape
  have HZ8 : Hid ((shA sh0).size = m.size) := by refine hid ?_; rw [HS8.out]; rfl
  rw [HM.out] at HKB3
  clear hd2 KA2 KB2
  go_wp2_with (first | (refine wpList_load_row rfl 51 _ rfl (w.heap.size + 1) rfl 51 m (0, 0) _ HKB3.out Tryd.underlying51 rfl HI8.out ?_) | (refine wpList_store_row rfl 51 _ _ rfl w.heap.size m rfl rfl 51 (shA sh0) HKA3.out HI8.out HZ8.out HO8.out ?_))
  refine bodyPost_ret (v := .agg m) (results_cell_row (p := 8) (ty := 51) rfl _ _ w.heap.size 51 m (0, 0) _ rfl (setRow_heap _ _ _ _ _ _ HKA3.out) Tryd.underlying51 rfl HI8.out) rfl ?_
  exact ⟨by rw [HM.out], bel_setRow HB3.out (Nat.le_refl _) _⟩
end Go.Proofs.YtklklldmhoofnaaDoor
