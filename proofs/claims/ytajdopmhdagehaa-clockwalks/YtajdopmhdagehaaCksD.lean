/- Until of a clock; append of a thing that is due. -/
import Derived.Test.YtajdopmhdagehaaCksC
import Derived.Laws.AppendOwn
set_option linter.unusedVariables false
set_option linter.unusedSimpArgs false
namespace Go.Proofs.Ytajdopmhdagehaa.Ds
open Go.Proofs.Ytajdopmhdagehaa
open Go Go.RowKit

/-- The cells of a thing that is due. -/
def dcL (x : Pr) : List Value := [.int .i64 x.1, .int .i64 x.2.1, .string x.2.2]
theorem info_due : (Try.prog.info? 56).map (fun i => (i.zero, i.size, i.bytes)) = some (some (Value.agg prZ), 3, 32) := by kernel_rfl
theorem wpList_append_due {w : World} {ops : Array Oper} {rest : List Oper} {o : Oper} {a : Act} {Q : Exit → Act → World → Prop} (hgd : o.guard = none) (s x : Operand)
    (ho : o.op = .call { callee := .builtin .append, args := #[s, x], argTypes := #[67, 67] })
    (base : Nat) (v : Value) (n : Nat) (xs : List Value) (hs : a.eval s = v) (hown : w.ownsRow base 56 3 v n xs)
    (b c : Nat) (y : Pr) (hx : a.eval x = .slice (some ⟨b, 0, none⟩) 1 c) (hy : w.heap[b]? = some (.cells #[.int .i64 y.1, .int .i64 y.2.1, .string y.2.2] 56 (0, 0)))
    (hn : n + 1 ≤ 4398046511104) (hbase : base ≤ w.heap.size)
    (h : ∀ v' w', w'.ownsRow base 56 3 v' (n + 1) (xs ++ dcL y) → w.grownBy w' v.ownBlock → wpList Try.prog ops Q rest (a.put o.dst v') w') : wpList Try.prog ops Q (o :: rest) a w := by
  obtain ⟨i0, hi, hz0, hz1, hz2⟩ := info_parts info_due
  refine wpList_append_own w hgd s x 67 ho base 56 i0 _ 3 32 Try.underlying67 hi hz0 hz1 hz2 rfl (by decide) v n xs hs hown ⟨b, 0, none⟩ 1 c (dcL y) hx rfl ?_ ?_ (by unfold maxLen; omega) (by omega) hbase ?_
  · intro j u hj
    rw [Go.WideShapes.add_plain, cell_of_row _ _ _ _ _ _ hy]
    simpa [dcL] using hj
  · intro u hu
    simp [dcL] at hu
    rcases hu with rfl | rfl | rfl <;> rfl
  · intro v' w' h1 h2 _
    exact h v' w' h1 h2
section
variable {w w' : World} {c : Nat} {now : Int} {M : List (Rw Pr)} {nx : Nat} {S : Nat → Prop} {g m : Nat} {L : List (Rw Pr)} {v : Value} {S0 : Nat → Prop}
/-- What Next tells of things. -/
def NxQ (M : List (Rw Pr)) (nv : Int) (ib : Bool) : Prop := (M = [] ∧ nv = 0 ∧ ib = false) ∨ ∃ r M3, M.Perm (r :: M3) ∧ (∀ q ∈ M3, ahd keyD r q) ∧ nv = r.x.2.1 ∧ ib = true
theorem cnext_any (h : CK w c now M nx S) : Calls Try.prog 45 #[ptr c] w fun e w' => ∃ nv ib, e = .returned (.tuple #[.int .i64 nv, .bool ib]) ∧ NxQ M nv ib ∧ CK w' c now M nx S ∧ Ex S w w' := by
  by_cases hM : M = []
  · subst hM
    exact (cnext_none h).mono fun e w' ⟨q1, q2, q3⟩ => ⟨0, false, q1, .inl ⟨rfl, rfl, rfl⟩, q2, q3⟩
  · obtain ⟨r, M3, hP, hr⟩ := first_of M hM h.one
    exact (cnext_some h hP hr).mono fun e w' ⟨q1, q2, q3⟩ => ⟨_, true, q1, .inr ⟨r, M3, hP, hr, rfl, rfl⟩, q2, q3⟩
def slN (v : Value) : Nat := match v with | .slice _ n _ => n | _ => 0
/-- What is out so far, and what still waits. -/
structure UnI (w : World) (c : Nat) (t : Int) (M : List (Rw Pr)) (nx : Nat) (S : Nat → Prop) (R M2 : List (Rw Pr)) (now2 : Int) (vo : Value) (w' : World) : Prop where
  ck : CK w' c now2 M2 nx S
  ex : Ex S w w'
  perm : M.Perm (R ++ M2)
  own : w'.ownsRow w.heap.size 56 3 vo R.length (R.flatMap fun r => dcL r.x)
  pw : R.Pairwise (ahd keyD)
  fst : ∀ r ∈ R, ∀ q ∈ M2, ahd keyD r q
  due : ∀ r ∈ R, r.x.2.1 ≤ t
  nw : now2 ≤ t
/-- What Until has come to. -/
def UnQ (w : World) (c : Nat) (t : Int) (M : List (Rw Pr)) (nx : Nat) (S : Nat → Prop) (vo : Value) (w' : World) : Prop :=
  ∃ R M2, CK w' c t M2 nx S ∧ Ex S w w' ∧ M.Perm (R ++ M2) ∧ w'.ownsRow w.heap.size 56 3 vo R.length (R.flatMap fun r => dcL r.x) ∧ R.Pairwise (ahd keyD) ∧ (∀ r ∈ R, r.x.2.1 ≤ t) ∧ (∀ q ∈ M2, t < q.x.2.1)
theorem own_keep {w w' : World} {base n : Nat} {v : Value} {xs : List Value} (h : w.ownsRow base 56 3 v n xs) (hk : ∀ b, v.ownBlock = some b → w'.heap[b]? = w.heap[b]?) : w'.ownsRow base 56 3 v n xs := by
  refine ⟨h.1, ?_⟩
  rcases h.2 with q | ⟨b, cap, cur, hv, hb, hw, q⟩
  · exact .inl q
  · exact .inr ⟨b, cap, cur, hv, hb, (hk b (by rw [hv]; rfl)).trans hw, q⟩
theorem own_base {w : World} {base n : Nat} {v : Value} {xs : List Value} (h : w.ownsRow base 56 3 v n xs) : ∀ b, v.ownBlock = some b → base ≤ b ∧ b < w.heap.size := fun b hb => by
  rcases h.2 with ⟨q, _⟩ | ⟨b', cap, cur, hv, hb', hw, q⟩
  · rw [q] at hb; cases hb
  · rw [hv] at hb; cases hb; exact ⟨hb', (Array.getElem?_eq_some_iff.1 hw).1⟩
theorem own_slN {w : World} {base n : Nat} {v : Value} {xs : List Value} (h : w.ownsRow base 56 3 v n xs) : slN v = n := by
  rcases h.2 with ⟨q, e⟩ | ⟨b', cap, cur, hv, _⟩
  · rw [q, e]; rfl
  · rw [hv]; rfl
theorem CK.setNow (h : CK w c now M nx S) {t : Int} (h0 : now ≤ t) (h1 : t ≤ 1099511627776) (hM : ∀ q ∈ M, t ≤ q.x.2.1) : CK (w.setCell ⟨c, 1, none⟩ (.int .i64 t)) c t M nx S := by
  obtain ⟨g, m, L, v, S0, h⟩ := h
  refine ⟨g, m, L, v, S0, ?_, ⟨h.lv.hp.of (fun k hk => bk_other (Ne.symm (h.s0 k hk).2) _ _), trivial, h.lv.ap, h.lv.dm⟩, h.hp, h.perm, h.sc, h.s0, fun k hk => by rw [sz_set]; exact h.lt k hk, h.num, by have := h.lo; omega, h1, fun q hq => ⟨hM q hq, (h.tk q hq).2⟩⟩
  have := bk_set h.top 1 (.int .i64 t)
  simpa using this
theorem CK.c1 (h : CK w c now M nx S) : w.cell? ⟨c, 1, none⟩ = some (.int .i64 now) ∧ w.frozen? ⟨c, 1, none⟩ = false := by
  obtain ⟨g, m, L, v, S0, h⟩ := h
  exact ⟨h.cc.2.1, free_of h.top 1⟩
theorem UnI.fin {t : Int} {R M2 : List (Rw Pr)} {now2 : Int} {vo : Value} (h : UnI w c t M nx S R M2 now2 vo w') (ht : t ≤ 1099511627776) (hl : ∀ q ∈ M2, t < q.x.2.1) (hlt : ∀ k, S k → k < w.heap.size) : UnQ w c t M nx S vo (w'.setCell ⟨c, 1, none⟩ (.int .i64 t)) := by
  refine ⟨R, M2, h.ck.setNow h.nw ht (fun q hq => by have := hl q hq; omega), h.ex.setCell h.ck.sc _, h.perm, own_keep h.own fun b hb => bk_other (fun e => ?_) _ _, h.pw, h.due, hl⟩
  have := (own_base h.own b hb).1
  have := hlt c h.ck.sc
  omega
set_option maxRecDepth 100000 in
set_option maxHeartbeats 8000000 in
theorem cuntil_ok (h : CK w c now M nx S) (t : Int) (ht : rcE now t = 0) (hroom : M.length ≤ 4398046511104) :
    Calls Try.prog 25 #[ptr c, .int .i64 t] w fun e w' => ∃ vo, e = .returned (.tuple #[vo, .int .i64 0]) ∧ UnQ w c t M nx S vo w' := by
  have CR := hid (creach_ok h t)
  rw [ht] at CR
  have HT := hid (rcE_zero ht)
  have HLT := hid h.lt
  have CN := hid (cnext_any h)
  have HK := hid h
  clear ht h
  go_enter Try.func25, Try.ntmps25
  go_wp2_with fail
  refine CR.out.mono ?_
  rintro e w1 ⟨rfl, hw⟩
  rw [hw]
  clear hw CR
  go_wp2_with fail
  refine CN.out.mono ?_
  rintro e w2 ⟨nv0, ib0, rfl, hnx, hk2, he2⟩
  have I0 : Hid (UnI w c t M nx S [] M now (.slice none 0 0) w2) := hid ⟨hk2, he2, List.Perm.refl _, ⟨rfl, .inl ⟨rfl, rfl⟩⟩, List.Pairwise.nil, (fun r hr => by cases hr), (fun r hr => by cases hr), HT.out.1⟩
  have NX0 := hid hnx
  clear hnx hk2 he2 CN HK
  go_wp2_with fail
  go_loopw [7, 8, 9] (fun vo v8 v9 wr => ∃ (R M2 : List (Rw Pr)) (now2 nv : Int) (ib : Bool), v8 = .int .i64 nv ∧ v9 = .bool ib ∧ Hid (NxQ M2 nv ib) ∧ Hid (UnI w c t M nx S R M2 now2 vo wr)) (fun vo _ _ _ => M.length - slN vo)
  case atStart => exact ⟨[], M, now, nv0, ib0, rfl, rfl, NX0, I0⟩
  case round =>
    clear I0 NX0
    obtain ⟨R, M2, now2, nv, ib, rfl, rfl, HNX, HI⟩ := hrel
    have hlen : R.length + M2.length = M.length := by rw [HI.out.perm.length_eq, List.length_append]
    have HSN := hid (own_slN HI.out.own)
    rcases HNX.out with ⟨hM2, hnv, hib⟩ | ⟨r, M3, hP, hr, hnv, hib⟩
    · subst hM2
      subst hib
      obtain ⟨d1, g1⟩ := HI.out.ck.c1
      clear hnv
      go_wp2_with fail
      go_ret2
      exact ⟨_, rfl, HI.out.fin HT.out.2 (fun q hq => by cases hq) HLT.out⟩
    · subst hib
      by_cases hle : nv ≤ t
      · have CT := hid (ctake_some HI.out.ck hP hr)
        go_wp2_with fail
        refine CT.out.mono ?_
        rintro e w3 ⟨rfl, hk3, he3⟩
        have hl1 : R.length + 1 ≤ M.length := by have := hP.length_eq; simp at this; omega
        have hown3 : (w3.alloc (.cells #[.int .i64 r.x.1, .int .i64 r.x.2.1, .string r.x.2.2] 56)).ownsRow w.heap.size 56 3 u7 R.length (R.flatMap fun r => dcL r.x) := own_keep HI.out.own fun b hb => by
          obtain ⟨z1, z2⟩ := own_base HI.out.own b hb
          have z3 := he3.size
          refine (heap_alloc_old _ _ (by omega)).trans (he3.block b z2 (fun q => ?_))
          have := HLT.out b q
          omega
        have hown4 : ((w3.alloc (.cells #[.int .i64 r.x.1, .int .i64 r.x.2.1, .string r.x.2.2] 56)).alloc (.cells #[.int .i64 r.x.1, .int .i64 r.x.2.1, .string r.x.2.2] 56)).ownsRow w.heap.size 56 3 u7 R.length (R.flatMap fun r => dcL r.x) := own_keep hown3 fun b hb => heap_alloc_old _ _ (own_base hown3 b hb).2
        have hk4 : CK ((w3.alloc (.cells #[.int .i64 r.x.1, .int .i64 r.x.2.1, .string r.x.2.2] 56)).alloc (.cells #[.int .i64 r.x.1, .int .i64 r.x.2.1, .string r.x.2.2] 56)) c r.x.2.1 M3 nx S := hk3.below (((Below.refl _ _).alloc (Nat.le_refl _) _).alloc (by simp) _)
        have he4 : Ex S w ((w3.alloc (.cells #[.int .i64 r.x.1, .int .i64 r.x.2.1, .string r.x.2.2] 56)).alloc (.cells #[.int .i64 r.x.1, .int .i64 r.x.2.1, .string r.x.2.2] 56)) := ((HI.out.ex.trans he3 (fun k q => .inl q)).alloc _).alloc _
        have hb4 := heap_alloc_new (w3.alloc (.cells #[.int .i64 r.x.1, .int .i64 r.x.2.1, .string r.x.2.2] 56)) (.cells #[.int .i64 r.x.1, .int .i64 r.x.2.1, .string r.x.2.2] 56)
        rw [show (w3.alloc (.cells #[.int .i64 r.x.1, .int .i64 r.x.2.1, .string r.x.2.2] 56)).heap.size = w3.heap.size + 1 by simp] at hb4
        have HO4 := hid hown4
        have HK4 := hid hk4
        have HE4 := hid he4
        have HB4 := hid hb4
        obtain ⟨n, HN⟩ : ∃ n, Hid (R.length = n) := ⟨_, rfl⟩
        rw [HN.out] at HO4
        have hn : n + 1 ≤ 4398046511104 := by have := HN.out; omega
        have hS4 : w.heap.size ≤ ((w3.alloc (.cells #[.int .i64 r.x.1, .int .i64 r.x.2.1, .string r.x.2.2] 56)).alloc (.cells #[.int .i64 r.x.1, .int .i64 r.x.2.1, .string r.x.2.2] 56)).heap.size := he4.size
        have HS4 := hid hS4
        clear CT hown3 hown4 hk4 he4 hb4 hk3 he3 hS4
        go_wp2_with (at_builtin; refine wpList_append_due rfl _ _ rfl w.heap.size _ n _ rfl HO4.out _ 1 r.x rfl HB4.out ?q1 HS4.out ?_)
        case q1 => omega
        intro v5 w5 hown5 hgr5
        have hk5 : CK w5 c r.x.2.1 M3 nx S := HK4.out.of fun k hk => hgr5.block k (HK4.out.lt k hk) (fun e => by
          have z1 := (own_base HO4.out k e.symm).1
          have z2 := HLT.out k hk
          omega)
        have he5 : Ex S w w5 := ⟨hgr5.os.trans HE4.out.os, hgr5.tape.trans HE4.out.tape, hgr5.output.trans HE4.out.output, Nat.le_trans HE4.out.size hgr5.size, fun k hk hn => (hgr5.block k (by have := HE4.out.size; omega) (fun e => by
          have z1 := (own_base HO4.out k e.symm).1
          omega)).trans (HE4.out.block k hk hn)⟩
        have I5 : Hid (UnI w c t M nx S (R ++ [r]) M3 r.x.2.1 v5 w5) := hid ⟨hk5, he5, HI.out.perm.trans (by rw [List.append_assoc]; exact List.Perm.append_left R hP), (by rw [List.length_append, List.flatMap_append, List.length_singleton, HN.out]; simpa using hown5), List.pairwise_append.2 ⟨HI.out.pw, List.pairwise_singleton _ _, fun a ha b hb => by rw [List.mem_singleton.1 hb]; exact HI.out.fst a ha r (hP.symm.subset List.mem_cons_self)⟩, fun a ha q hq => by
          rcases List.mem_append.1 ha with z | z
          · exact HI.out.fst a z q (hP.symm.subset (List.mem_cons_of_mem _ hq))
          · rw [List.mem_singleton.1 z]; exact hr q hq, fun a ha => by
          rcases List.mem_append.1 ha with z | z
          · exact HI.out.due a z
          · rw [List.mem_singleton.1 z, ← hnv]; exact hle, by rw [← hnv]; exact hle⟩
        have HSN5 : Hid (slN v5 = R.length + 1) := hid (by have := own_slN I5.out.own; simpa using this)
        have CN := hid (cnext_any hk5)
        clear hown5 hgr5 hk5 he5 HO4 HK4 HE4 HB4 HS4
        go_wp2_with fail
        refine CN.out.mono ?_
        rintro e w6 ⟨nv6, ib6, rfl, hnx6, hk6, he6⟩
        have I6 : Hid (UnI w c t M nx S (R ++ [r]) M3 r.x.2.1 v5 w6) := hid ⟨hk6, I5.out.ex.trans he6 (fun k q => .inl q), I5.out.perm, own_keep I5.out.own fun b hb => he6.block b (own_base I5.out.own b hb).2 (fun q => by
          have z1 := (own_base I5.out.own b hb).1
          have z2 := HLT.out b q
          omega), I5.out.pw, I5.out.fst, I5.out.due, I5.out.nw⟩
        have NX6 := hid hnx6
        clear hnx6 hk6 he6 CN
        go_wp2_with fail
        refine ⟨⟨R ++ [r], M3, _, nv6, ib6, rfl, rfl, NX6, I6⟩, ?_⟩
        have := HSN5.out
        have := HSN.out
        omega
      · obtain ⟨d1, g1⟩ := HI.out.ck.c1
        have hle' : t < nv := by omega
        have HFA : Hid (∀ q ∈ M2, t < q.x.2.1) := hid fun q hq => by
          rcases List.mem_cons.1 (hP.subset hq) with z | z
          · rw [z, ← hnv]; exact hle'
          · have z2 := hr q z
            unfold ahd keyD at z2
            omega
        clear hnv
        go_wp2_with fail
        go_ret2
        exact ⟨_, rfl, HI.out.fin HT.out.2 HFA.out HLT.out⟩
set_option maxRecDepth 100000 in
set_option maxHeartbeats 8000000 in
theorem cuntil_bad (h : CK w c now M nx S) (t : Int) (ht : rcE now t ≠ 0) :
    Calls Try.prog 25 #[ptr c, .int .i64 t] w fun e w' => e = .returned (.tuple #[.slice none 0 0, .int .i64 (rcE now t)]) ∧ CK w' c now M nx S ∧ Ex S w w' := by
  have CR := hid (creach_ok h t)
  have HI := hid h
  clear h
  obtain ⟨e0, he0⟩ : ∃ e0, Hid (rcE now t = e0) := ⟨_, rfl⟩
  rw [he0.out] at CR ht
  rw [he0.out]
  have hne : (e0 == 0) = false := by simpa using ht
  go_enter Try.func25, Try.ntmps25
  go_wp2_with fail
  refine CR.out.mono ?_
  rintro e w1 ⟨rfl, hw⟩
  rw [hw]
  clear hw CR
  go_wp2_with fail
  go_ret2
  exact ⟨rfl, HI.out, Ex.refl _ _⟩
end
end Go.Proofs.Ytajdopmhdagehaa.Ds
