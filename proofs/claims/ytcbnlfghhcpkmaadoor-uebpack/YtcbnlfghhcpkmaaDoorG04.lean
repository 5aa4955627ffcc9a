/- Of the road to uebPackCard_holds: BsRNum, RegInv, RegLow, UpPk, BsApart3, UpD, ShLaid. -/
import Derived.Test.YtcbnlfghhcpkmaaDoorG02
import Derived.Test.YtcbnlfghhcpkmaaDoorG00
import Derived.RegionTactic
import Derived.Orders
import Derived.Deep.RegionHeld
import Derived.Test.YtcbnlfghhcpkmaaDoorG03
import Derived.Test.YtcbnlfghhcpkmaaDoorG01
import Derived.Test.YtcbnlfghhcpkmaaDoorRows
import Derived.ProofKit
import Derived.OpenShut
import Derived.LaidLaws
import Derived.Lay
import Derived.MakeChecks
import Derived.Stop.LaidErr
import Derived.Lib.LaidTab
set_option linter.unusedVariables false
set_option linter.unusedSimpArgs false
namespace Go.Proofs.YtcbnlfghhcpkmaaDoor
open Go Go.RowKit
theorem canon_len {l : List UInt8} (h : Canon l) (hn : valD l < 10000000000000000000) : l.length ≤ 19 := by
  by_cases hl : 1 < l.length
  · have h3 := valD_pos h (Or.inl hl)
    apply Classical.byContradiction
    intro hc
    have h4 : (10 : Nat) ^ 19 ≤ 10 ^ (l.length - 1) := Nat.pow_le_pow_right (by decide) (by omega)
    have h5 : (10 : Nat) ^ 19 = 10000000000000000000 := by decide
    omega
  · omega
theorem dec_len (n : Nat) (hn : n < 10000000000000000000) : (Lib.decDigits n).length ≤ 19 := by
  obtain ⟨h1, h2, _⟩ := dec_canon n
  exact canon_len h1 (by omega)
theorem conv_one (w : World) (c : Int) (hc : 0 ≤ c ∧ c < 256) : (convert 27 9 (.slice (some ⟨w.heap.size, 0, none⟩) 1 1)).run Tryd.prog (w.alloc (.cells #[.int .u8 c] 5)) = .ok (.string (bS [c])) (w.alloc (.cells #[.int .u8 c] 5)) := by
  apply conv_str (l := [c])
  refine ⟨⟨_, 1, rfl, by simp, by decide, (fun e => by cases e), fun _ => ⟨w.heap.size, 0, rfl, fun j hj => ?_⟩⟩, by intro x hx; simp at hx; subst hx; exact hc⟩
  simp at hj
  subst hj
  simp
set_option maxRecDepth 100000 in
set_option maxHeartbeats 2000000 in
theorem rnumber_any (w : World) (x : Int) (h0 : -9223372036854775808 ≤ x) (h1 : x ≤ 9223372036854775807) :
    Calls Tryd.prog 21 #[.int .i64 x] w fun e w' => e = .returned (.tuple #[.string (nS x), .int .i64 (nE x)]) ∧ Below w.heap.size w w' := by
  by_cases h : x < 0
  · have e1 := hid (show nS x = ⟨#[]⟩ by unfold nS; rw [if_pos h])
    have e2 := hid (show nE x = 102 by unfold nE; rw [if_pos h])
    go_enter Tryd.func21, Tryd.ntmps21
    go_wp2
    go_ret2
    exact ⟨by rw [e1.out, e2.out]; rfl, Below.refl _ _⟩
  · have e1 := hid (show nS x = ⟨(Lib.decDigits x.toNat).toArray⟩ by unfold nS; rw [if_neg h])
    have e2 := hid (show nE x = 0 by unfold nE; rw [if_neg h])
    obtain ⟨n, rfl⟩ := Int.eq_ofNat_of_zero_le (show 0 ≤ x by omega)
    rw [Int.toNat_natCast] at e1
    have hdl := dec_len n (by omega)
    obtain ⟨D, HD⟩ : ∃ D, Hid (Lib.decDigits n = D) := ⟨_, rfl⟩
    rw [HD.out] at e1 hdl
    go_enter Tryd.func21, Tryd.ntmps21
    go_wp2
    go_loopw [0, 4] (fun x t wr => ∃ X : Nat, ∃ T : ByteArray, x = .int .i64 (X : Int) ∧ t = .string T ∧ X ≤ n ∧ Hid (Lib.decDigits X ++ T.data.toList = D) ∧ Hid (Below w.heap.size w wr)) (fun x _ _ => (intOf x).toNat)
    case atStart => exact ⟨n, ⟨#[]⟩, rfl, rfl, Nat.le_refl _, hid (by rw [HD.out]; simp), Below.refl _ _⟩
    case round =>
      obtain ⟨X, T, rfl, rfl, hX, HE, B⟩ := hrel
      have hTs : T.size ≤ 19 := by
        have e := congrArg List.length HE.out
        rw [List.length_append, ← Lib.size_eq] at e
        have h2 : 0 < (Lib.decDigits X).length := by
          rcases Nat.eq_zero_or_pos (Lib.decDigits X).length with q | q
          · exact absurd (List.length_eq_zero_iff.1 q) (dec_canon X).1.1
          · exact q
        omega
      by_cases h10 : X < 10
      · have hcv := conv_one wr (48 + (X : Int)) (by omega)
        have h2 : (bS [48 + (X : Int)]).size = 1 := by rw [bS_size]; rfl
        have n1 : ¬ (9223372036854775807 < (bS [48 + (X : Int)]).size + T.size) := by rw [h2]; omega
        have hfin : Hid (bS [48 + (X : Int)] ++ T = ⟨D.toArray⟩) := by
          refine hid (ByteArray.ext ?_)
          rw [← HE.out, Lib.decDigits, dif_pos h10]
          have : (bS [48 + (X : Int)]) = ⟨#[UInt8.ofNat (48 + X)]⟩ := by
            unfold bS
            simp only [List.map_cons, List.map_nil]
            congr 3
          rw [this]
          simp
        obtain ⟨O, HO⟩ : ∃ O, Hid (bS [48 + (X : Int)] = O) := ⟨_, rfl⟩
        rw [HO.out] at hcv h2 n1 hfin
        go_wp2
        go_ret2
        exact ⟨by rw [e1.out, e2.out, ← hfin.out]; rfl, B.out.trans ((Below.refl _ wr).alloc (Nat.le_refl _) _ |>.mono B.out.size)⟩
      · have hcv := conv_one wr (48 + (X : Int) % 10) (by omega)
        have h2 : (bS [48 + (X : Int) % 10]).size = 1 := by rw [bS_size]; rfl
        have n1 : ¬ (9223372036854775807 < (bS [48 + (X : Int) % 10]).size + T.size) := by rw [h2]; omega
        have hfin : Hid (Lib.decDigits (X / 10) ++ (bS [48 + (X : Int) % 10] ++ T).data.toList = D) := by
          refine hid ?_
          have : (bS [48 + (X : Int) % 10]) = ⟨#[UInt8.ofNat (48 + X % 10)]⟩ := by
            unfold bS
            simp only [List.map_cons, List.map_nil]
            rw [show (48 + (X : Int) % 10).toNat = 48 + X % 10 by omega]
          rw [← HE.out, this, Lib.decDigits.eq_def X, dif_neg h10]
          simp
        obtain ⟨O, HO⟩ : ∃ O, Hid (bS [48 + (X : Int) % 10] = O) := ⟨_, rfl⟩
        rw [HO.out] at hcv h2 n1 hfin
        have hdv := hid (show (X : Int) / 10 = ((X / 10 : Nat) : Int) by omega)
        go_wp2
        exact ⟨⟨X / 10, O ++ T, by rw [hdv.out], rfl, by omega, hfin, B.out.trans ((Below.refl _ wr).alloc (Nat.le_refl _) _ |>.mono B.out.size)⟩, by simp [intOf]; omega⟩
theorem idx_u8 (w : World) (s : ByteArray) (i : Nat) (h : i < s.size) : (Instr.index 9 (.string s) (.int .i64 (i : Int))).run Tryd.prog w = .ok (.int .u8 ((s.data.toList.getD i 0).toNat : Int)) w := by
  rw [idx_str w s i h]
  congr 2
  have h2 : i < s.data.toList.length := by rw [← Lib.size_eq]; exact h
  unfold sB
  simp [List.getD, List.getElem?_eq_getElem h2]
theorem rd_len {l : List UInt8} {most : Int} (h : rdOk l most) (hm : most ≤ 9223372036854775807) : l.length ≤ 19 := canon_len h.1 (by have := h.2; omega)
theorem getD_u8 {l : List UInt8} {k : Nat} (h : k < l.length) : l.getD k 0 = l[k] := by simp [List.getD, List.getElem?_eq_getElem h]
def undone (L : Array Bool) : Nat := (L.toList.filter fun b => !b).length
theorem undone_set {L : Array Bool} {i : Nat} (h : L[i]? = some false) : undone L = undone (L.setIfInBounds i true) + 1 := by
  obtain ⟨l⟩ := L
  unfold undone
  simp only [List.getElem?_toArray, List.setIfInBounds_toArray] at h ⊢
  induction l generalizing i with
  | nil => simp at h
  | cons x l ih =>
    cases i with
    | zero =>
      simp at h
      subst h
      simp
    | succ i =>
      have := ih (by simpa using h)
      rw [List.set_cons_succ, List.filter_cons, List.filter_cons]
      split <;> simp [this]
theorem undone_ex {L : Array Bool} (h : undone L ≠ 0) : ∃ i : Nat, L[i]? = some false ∧ ∀ j : Nat, j < i → L[j]? = some true := by
  obtain ⟨l⟩ := L
  unfold undone at h
  simp only [List.getElem?_toArray] at h ⊢
  induction l with
  | nil => exact absurd rfl h
  | cons x l ih =>
    cases x with
    | false => exact ⟨0, rfl, fun j hj => absurd hj (Nat.not_lt_zero _)⟩
    | true =>
      obtain ⟨i, h1, h2⟩ := ih (by simpa using h)
      refine ⟨i + 1, by simpa using h1, fun j hj => ?_⟩
      cases j with
      | zero => rfl
      | succ j => simpa using h2 j (by omega)
theorem undone_none {L : Array Bool} (h : undone L = 0) (i : Nat) (hi : i < L.size) : L[i]? = some true := by
  obtain ⟨l⟩ := L
  unfold undone at h
  simp only [List.getElem?_toArray, List.size_toArray] at h hi ⊢
  have hn := List.filter_eq_nil_iff.1 (List.length_eq_zero_iff.1 h)
  have := hn l[i] (List.getElem_mem hi)
  rw [List.getElem?_eq_getElem hi]
  cases hx : l[i] with
  | true => rfl
  | false => rw [hx] at this; simp at this
theorem wpAny_inv {P : Program} {ops : Array Oper} {Q : Exit → Act → World → Prop} (hg : ∀ (i : Nat) (o : Oper), ops[i]? = some o → o.guard = none ∧ ∀ e ∈ o.after, e.on < i)
    (I : Array Bool → Act → World → Prop)
    (hstep : ∀ (L : Array Bool) (i : Nat) (o : Oper) (a : Act) (w : World) (K : Act → World → Prop), ops[i]? = some o → L.size = ops.size → L[i]? = some false → (∀ e ∈ o.after, Region.binds .any e = true → L[e.on]? = some true) → I L a w → (∀ a' w', I (L.setIfInBounds i true) a' w' → K a' w') → o.wp P a w K Q)
    (hend : ∀ (L : Array Bool) (a : Act) (w : World), L.size = ops.size → (∀ i, i < ops.size → L[i]? = some true) → I L a w → Q .normal a w) :
    ∀ (n : Nat) (L : Array Bool) (a : Act) (w : World), L.size = ops.size → undone L = n → I L a w → wpAny P .any ops Q n L a w := by
  intro n
  induction n with
  | zero =>
    intro L a w hs hu hI
    have hall : ∀ i, i < ops.size → L[i]? = some true := fun i hi => undone_none hu i (by omega)
    refine wpAny_done ?_ (hend L a w hs hall hI) 0
    refine List.eq_nil_iff_forall_not_mem.2 fun i hi => ?_
    obtain ⟨h1, o, h2, _⟩ := mem_ready.1 hi
    have hlt := (Array.getElem?_eq_some_iff.1 h2).1
    have := hall i hlt
    simp [Array.getD_eq_getD_getElem?, this] at h1
  | succ n ih =>
    intro L a w hs hu hI
    obtain ⟨i0, q1, q2⟩ := undone_ex (L := L) (by omega)
    have hne : i0 ∈ Region.ready .any ops L := by
      have hlt := (Array.getElem?_eq_some_iff.1 q1).1
      obtain ⟨o, ho⟩ : ∃ o, ops[i0]? = some o := ⟨_, Array.getElem?_eq_getElem (by omega)⟩
      refine mem_ready.2 ⟨by simp [Array.getD_eq_getD_getElem?, q1], o, ho, fun e he _ => ?_⟩
      have := q2 e.on ((hg i0 o ho).2 e he)
      simp [Array.getD_eq_getD_getElem?, this]
    refine ⟨fun h => by rw [h] at hne; exact absurd hne List.not_mem_nil, fun i hi => ?_⟩
    obtain ⟨h1, o, h2, h3⟩ := mem_ready.1 hi
    have hlt := (Array.getElem?_eq_some_iff.1 h2).1
    have hLi : L[i]? = some false := by
      rw [Array.getElem?_eq_getElem (by omega)]
      have : L.getD i true = L[i]'(by omega) := by simp [Array.getD, show i < L.size by omega]
      rw [this] at h1
      rw [h1]
    refine wpOp_step h2 fun K hK => ?_
    have hw : Region.wanted o (yielded ops a.tmps) = true := by unfold Region.wanted; rw [(hg i o h2).1]
    rw [if_pos hw]
    refine hstep L i o a w K h2 hs hLi (fun e he hb => ?_) hI fun a' w' hI' => hK _ _ (ih _ a' w' (by simpa using hs) (by have := undone_set hLi; omega) hI')
    have := h3 e he hb
    cases hx : L[e.on]? with
    | none => simp [Array.getD_eq_getD_getElem?, hx] at this
    | some x => simp [Array.getD_eq_getD_getElem?, hx] at this; rw [this]
def Lb (L : Array Bool) (i : Nat) : Bool := L.getD i false
theorem Lb_set {L : Array Bool} {i : Nat} (hi : i < L.size) (k : Nat) : Lb (L.setIfInBounds i true) k = if k = i then true else Lb L k := by
  unfold Lb
  rw [Array.getD_eq_getD_getElem?, Array.getD_eq_getD_getElem?, Array.getElem?_setIfInBounds]
  by_cases h : k = i
  · subst h; simp [hi]
  · rw [if_neg (fun e => h e.symm), if_neg h]
theorem Lb_of {L : Array Bool} {i : Nat} {x : Bool} (h : L[i]? = some x) : Lb L i = x := by unfold Lb; rw [Array.getD_eq_getD_getElem?, h]; rfl
def lowB (ops : Array Oper) : Bool := (List.range ops.size).all fun i => match ops[i]? with | some o => o.guard.isNone && o.after.all (fun e => decide (e.on < i)) | none => true
theorem low_of {ops : Array Oper} (h : lowB ops = true) : ∀ (i : Nat) (o : Oper), ops[i]? = some o → o.guard = none ∧ ∀ e ∈ o.after, e.on < i := by
  intro i o ho
  have hi := (Array.getElem?_eq_some_iff.1 ho).1
  have h1 := List.all_eq_true.1 h i (List.mem_range.2 hi)
  rw [ho] at h1
  simp only [Bool.and_eq_true, Option.isNone_iff_eq_none] at h1
  refine ⟨h1.1, fun e he => ?_⟩
  have := Array.all_eq_true'.1 h1.2 e he
  simpa using this
theorem held_true {P : Program} {md : Region.Mode} {ops : Array Oper} {Q : Exit → Act → World → Prop} : ∀ (fuel : Nat) (L : Array Bool) (a : Act) (w : World), wpAny P md ops Q fuel L a w → wpAnyH P md ops Q (fun _ => True) fuel L a w
  | 0, _, _, _, h => h
  | fuel + 1, _, _, _, h => ⟨h.1, fun i hi => wpOp_mono (fun a' w' h' => ⟨trivial, held_true fuel _ a' w' h'⟩) (h.2 i hi)⟩
theorem pure_set {L : Array Bool} {i : Nat} (hi : i < L.size) {l : List Nat} (h : ∀ k ∈ l, Lb L k = true) : ∀ k ∈ l, Lb (L.setIfInBounds i true) k = true := fun k hk => by
  rw [Lb_set hi]
  split
  · rfl
  · exact h k hk
theorem sB_nS (n : Nat) : sB (nS (n : Int)) = dgL n := by unfold nS sB dgL; rw [if_neg (by omega)]; simp
theorem nS_size10 (x : Int) (h0 : 0 ≤ x) (h1 : x ≤ 2147483647) : (nS x).size ≤ 1000 := by
  obtain ⟨n, rfl⟩ := Int.eq_ofNat_of_zero_le h0
  rw [nS_size, dgL_length]
  have := dec_len_mono 2147483647 n (by omega)
  have h2 : (Lib.decDigits 2147483647).length = 10 := by decide +kernel
  omega
set_option maxRecDepth 100000 in
set_option maxHeartbeats 4000000 in
theorem rdigits13_any (w : World) (x : Int) (h0 : -9223372036854775808 ≤ x) (h1 : x ≤ 9223372036854775807) : Calls Tryd.prog 18 #[.int .i64 x] w fun e w' => e = .returned (.string (nS x)) ∧ Below w.heap.size w w' := by
  have C := hid (rnumber_any w x h0 h1)
  obtain ⟨s, HS⟩ : ∃ y, Hid (nS x = y) := ⟨_, rfl⟩
  rw [HS.out] at C ⊢
  clear h0 h1
  go_enter Tryd.func18, Tryd.ntmps18
  go_wp2_with fail
  refine C.out.mono ?_
  rintro e w2 ⟨rfl, hb2⟩
  have B2 := hid hb2
  clear hb2 C
  go_wp2
  go_ret
  exact ⟨rfl, B2.out⟩
theorem bS_app' (a b : List Int) : bS a ++ bS b = bS (a ++ b) := by
  unfold bS
  rw [ByteArray.mk_append_mk, List.map_append]
theorem nS_bS (n : Nat) : nS (n : Int) = bS (dgL n) := by rw [← sB_nS n, bS_sB]
theorem strCells_bS {l : List Int} (h : Byt8 l) : Lib.strCells (bS l) = l.map (Value.int .u8) := by
  have e := sB_bS h
  have : Lib.strCells (bS l) = (sB (bS l)).map (Value.int .u8) := by unfold Lib.strCells sB; rw [List.map_map]; rfl
  rw [this, e]
theorem wp_append_text {w : World} {o : Oper} {a : Act} {K : Act → World → Prop} {Q : Exit → Act → World → Prop} (s x : Operand)
    (ho : o.op = .call { callee := .builtin .append, args := #[s, x], argTypes := #[27, 9] })
    (base : Nat) (v : Value) (n : Nat) (xs : List Value) (hs : a.eval s = v) (hown : w.ownsRow base 5 1 v n xs)
    (t : ByteArray) (hx : a.eval x = .string t) (h0 : 0 < t.size) (hn : n + t.size ≤ 140737488355328) (hbase : base ≤ w.heap.size)
    (h : ∀ v' w', w'.ownsRow base 5 1 v' (n + t.size) (xs ++ Lib.strCells t) → w.grownBy w' v.ownBlock → K (a.put o.dst v') w') : o.wp Tryd.prog a w K Q := by
  obtain ⟨v', w', hr, h2, h3, h4⟩ := run_append_text w base o.type v n xs hown t h0 hn hbase
  unfold Oper.wp execOp
  simp only [ho, resolve, invoke, builtin, Sem.run_bind, Sem.run_pure, Result.andThen_ok, List.map_toArray, List.map_cons, List.map_nil, hs, hx, hr]
  exact h v' w' h2 h3
def hdL (s : ByteArray) (n : Nat) : List Int := dgL s.size ++ 58 :: (sB s ++ 44 :: (dgL n ++ [58]))
theorem hdL_row (s : ByteArray) (l : List Int) : hdL s l.length ++ (l ++ [44]) = rowL (s, l) := by
  unfold hdL rowL fld
  simp [sB_length]
theorem hdL_byt (s : ByteArray) (n : Nat) : Byt8 (hdL s n) := by
  intro x hx
  unfold hdL at hx
  rcases List.mem_append.1 hx with h | h
  · exact dgL_byt _ x h
  rcases List.mem_cons.1 h with rfl | h
  · omega
  rcases List.mem_append.1 h with h | h
  · exact sB_byt _ x h
  rcases List.mem_cons.1 h with rfl | h
  · omega
  rcases List.mem_append.1 h with h | h
  · exact dgL_byt _ x h
  · simp at h; omega
set_option maxRecDepth 100000 in
set_option maxHeartbeats 16000000 in
theorem rpack_ok (w : World) (v : Value) (rs : List Rw) (h : HRw w v rs) (hm : mayT rs) :
    Calls Tryd.prog 8 #[v] w fun e w' => ∃ v', e = .returned (.tuple #[v', .int .i64 0]) ∧ w'.ownsRow w.heap.size 5 1 v' (packL rs).length ((packL rs).map (Value.int .u8)) ∧ Below w.heap.size w w' := by
  have C0 : Hid (Calls Tryd.prog 17 #[v] w fun e w' => e = .returned (.bool true) ∧ Below w.heap.size w w') := hid ((rmay_any w v rs h).mono fun e w' ⟨q1, q2⟩ => ⟨by rw [q1, decide_eq_true hm], q2⟩)
  obtain ⟨p, c, rfl, hlc, hcm, hrow⟩ := h.open
  have HR := hid hrow
  have HM := hid hm
  have PLE : Hid (∀ k, (packL (rs.take k)).length ≤ 4480000) := hid fun k => by
    have a := pack_len_le (rs.take k) noS (okRows_take hm.2 k)
    have b := hm.1
    have c : (rs.take k).length ≤ rs.length := by rw [List.length_take]; omega
    omega
  clear hrow h
  have hm63 : rs.length ≤ 9223372036854775807 := by unfold maxLen at hcm; omega
  obtain ⟨n, HN⟩ : ∃ n, Hid (rs.length = n) := ⟨_, rfl⟩
  have h64 : n ≤ 64 := by rw [← HN.out]; exact hm.1
  rw [HN.out] at hlc hm63 C0
  rw [HN.out]
  clear hm
  go_enter Tryd.func8, Tryd.ntmps8
  go_wp2_with fail
  refine C0.out.mono ?_
  rintro e w1 ⟨rfl, hb1⟩
  have B1 := hid hb1
  clear hb1 C0
  go_wp2
  go_loopw [4, 5] (fun o i wr => ∃ k : Nat, k ≤ n ∧ i = .int .i64 (k : Int) ∧ Hid (wr.ownsRow w.heap.size 5 1 o (packL (rs.take k)).length ((packL (rs.take k)).map (Value.int .u8))) ∧ Hid (Below w.heap.size w wr)) (fun _ i _ => n - (intOf i).toNat)
  case atStart => exact ⟨0, Nat.zero_le _, rfl, hid (by simp [packL]; exact World.ownsRow_nil _ _ _ _), B1⟩
  case round =>
    obtain ⟨k, hk, rfl, HO, HB0⟩ := hrel
    have hsz := HB0.out.size
    by_cases hlt : k < n
    · obtain ⟨b, off, rfl, hbl, hcell⟩ := HR.out (by have := HN.out; omega)
      obtain ⟨u, hu, hv⟩ := hcell k (by have := HN.out; omega)
      have hok := okRows_take HM.out.2 (k + 1)
      have hts := take_snoc (rs := rs) (k := k) (by have := HN.out; omega)
      rw [hts, okRows_snoc] at hok
      obtain ⟨_, hle, hs64, hl64⟩ := hok
      obtain ⟨⟨s, l⟩, Hx⟩ : ∃ x, Hid (rs.getD k rw0 = x) := ⟨_, rfl⟩
      rw [Hx.out] at hu hv hle hs64 hl64 hts
      obtain ⟨pu, cu, rfl, hlu, hcu⟩ := hv.open
      have hs64 : s.size ≤ 64 := hs64
      have hl64 : l.length ≤ 65536 := hl64
      have HV := hid hv
      have PS : Hid (packL (rs.take (k + 1)) = packL (rs.take k) ++ (hdL s l.length ++ (l ++ [44]))) := hid (by rw [hts, packL_snoc, hdL_row])
      have r1 := range_below2 hu HB0.out hbl
      have cN : wr.cell? ⟨b, off + k * 2, none⟩ = some (.string s) := by have := r1 0 _ rfl; simpa using this
      have cV : wr.cell? ⟨b, off + k * 2 + 1, none⟩ = some (.slice pu l.length cu) := r1 1 _ rfl
      have FC : Hid (∀ W, Below w.heap.size w W → W.cell? ⟨b, off + k * 2, none⟩ = some (.string s) ∧ W.cell? ⟨b, off + k * 2 + 1, none⟩ = some (.slice pu l.length cu)) := hid fun W hW => by
        have r := range_below2 hu hW hbl
        exact ⟨by have := r 0 _ rfl; simpa using this, r 1 _ rfl⟩
      have CD1 := hid fun W => rdigits13_any W (s.size : Int) (by omega) (by omega)
      have CD2 := hid fun W => rdigits13_any W (l.length : Int) (by omega) (by omega)
      obtain ⟨d1, HD1⟩ : ∃ x, Hid (nS (s.size : Int) = x) := ⟨_, rfl⟩
      obtain ⟨d2, HD2⟩ : ∃ x, Hid (nS (l.length : Int) = x) := ⟨_, rfl⟩
      rw [HD1.out] at CD1
      rw [HD2.out] at CD2
      have y1 : d1.size ≤ 1000 := by rw [← HD1.out]; exact nS_size10 _ (by omega) (by omega)
      have y2 : d2.size ≤ 1000 := by rw [← HD2.out]; exact nS_size10 _ (by omega) (by omega)
      have TX : Hid (d1 ++ ⟨#[58]⟩ ++ s ++ ⟨#[44]⟩ ++ d2 ++ ⟨#[58]⟩ = bS (hdL s l.length)) := by
        refine hid ?_
        have e : d1 ++ ⟨#[58]⟩ ++ s ++ ⟨#[44]⟩ ++ d2 ++ ⟨#[58]⟩ = bS (dgL s.size) ++ bS [58] ++ bS (sB s) ++ bS [44] ++ bS (dgL l.length) ++ bS [58] := by
          rw [bS_sB, ← nS_bS, ← nS_bS, HD1.out, HD2.out]
          rfl
        rw [e]
        simp only [bS_app']
        unfold hdL
        simp
      have TZ : Hid ((bS (hdL s l.length)).size = (hdL s l.length).length) := hid (bS_size _)
      have HZ : Hid (0 < (hdL s l.length).length ∧ (hdL s l.length).length ≤ 1000) := by
        refine hid ?_
        unfold hdL
        have a := dec_len_small s.size (by omega)
        have b := dec_len_small l.length (by omega)
        have c := sB_length s
        simp only [List.length_append, List.length_cons, List.length_nil]
        omega
      have HC := hid (strCells_bS (hdL_byt s l.length))
      obtain ⟨tx, HTX⟩ : ∃ x, Hid (bS (hdL s l.length) = x) := ⟨_, rfl⟩
      rw [HTX.out] at TX TZ HC
      have ple := PLE.out k
      obtain ⟨L, HLk⟩ : ∃ x, Hid (packL (rs.take k) = x) := ⟨_, rfl⟩
      rw [HLk.out] at HO PS ple
      obtain ⟨Hd, HHd⟩ : ∃ x, Hid (hdL s l.length = x) := ⟨_, rfl⟩
      rw [HHd.out] at HC TZ HZ PS
      clear hu hv hcell r1 cN cV hts hle
      go_wp2
      refine wp_region_held_drew (S := Below w.heap.size w) (by kernel_rfl) HB0.out.drew (fun hHeld => ?_)
      have HS := hid hHeld
      clear hHeld
      change wpAnyH _ _ _ _ _ _ _ _ (World.drew _)
      refine wpAnyH_take (i := 0) (v := ?_) rfl (by kernel_rfl) (by kernel_rfl) (by kernel_rfl) (fun _ _ _ h => h) (Or.inl ⟨by rfl, ?q0⟩) HS.out ?_
      case q0 => intro W hSw; obtain ⟨z1, z2⟩ := FC.out W hSw; first | (go_simp; done) | (go_simp; rfl) | (go_simp; omega) | (go_simp; intro hq; exfalso; omega)
      simp only [Act.put, List.getElem_toArray, List.getElem_cons_zero, List.getElem_cons_succ, List.setIfInBounds_toArray, List.set_cons_zero, List.set_cons_succ]
      refine wpAnyH_take (i := 1) (v := .slice (some ⟨b, off, none⟩) n c) rfl (by kernel_rfl) (by kernel_rfl) (by kernel_rfl) (fun _ _ _ h => h) (Or.inl ⟨by rfl, ?q1⟩) HS.out ?_
      case q1 => intro W hSw; obtain ⟨z1, z2⟩ := FC.out W hSw; first | (go_simp; done) | (go_simp; rfl) | (go_simp; omega) | (go_simp; intro hq; exfalso; omega)
      simp only [Act.put, List.getElem_toArray, List.getElem_cons_zero, List.getElem_cons_succ, List.setIfInBounds_toArray, List.set_cons_zero, List.set_cons_succ]
      refine wpAnyH_take (i := 2) (v := .int .i64 (k : Int)) rfl (by kernel_rfl) (by kernel_rfl) (by kernel_rfl) (fun _ _ _ h => h) (Or.inl ⟨by rfl, ?q2⟩) HS.out ?_
      case q2 => intro W hSw; obtain ⟨z1, z2⟩ := FC.out W hSw; first | (go_simp; done) | (go_simp; rfl) | (go_simp; omega) | (go_simp; intro hq; exfalso; omega)
      simp only [Act.put, List.getElem_toArray, List.getElem_cons_zero, List.getElem_cons_succ, List.setIfInBounds_toArray, List.set_cons_zero, List.set_cons_succ]
      refine wpAnyH_take (i := 3) (v := .pointer (some ⟨b, off + k * 2, none⟩)) rfl (by kernel_rfl) (by kernel_rfl) (by kernel_rfl) (fun _ _ _ h => h) (Or.inl ⟨by rfl, ?q3⟩) HS.out ?_
      case q3 => intro W hSw; obtain ⟨z1, z2⟩ := FC.out W hSw; first | (go_simp; done) | (go_simp; rfl) | (go_simp; omega) | (go_simp; intro hq; exfalso; omega)
      simp only [Act.put, List.getElem_toArray, List.getElem_cons_zero, List.getElem_cons_succ, List.setIfInBounds_toArray, List.set_cons_zero, List.set_cons_succ]
      refine wpAnyH_take (i := 4) (v := .pointer (some ⟨b, off + k * 2, none⟩)) rfl (by kernel_rfl) (by kernel_rfl) (by kernel_rfl) (fun _ _ _ h => h) (Or.inl ⟨by rfl, ?q4⟩) HS.out ?_
      case q4 => intro W hSw; obtain ⟨z1, z2⟩ := FC.out W hSw; first | (go_simp; done) | (go_simp; rfl) | (go_simp; omega) | (go_simp; intro hq; exfalso; omega)
      simp only [Act.put, List.getElem_toArray, List.getElem_cons_zero, List.getElem_cons_succ, List.setIfInBounds_toArray, List.set_cons_zero, List.set_cons_succ]
      refine wpAnyH_take (i := 5) (v := .string s) rfl (by kernel_rfl) (by kernel_rfl) (by kernel_rfl) (fun _ _ _ h => h) (Or.inl ⟨by rfl, ?q5⟩) HS.out ?_
      case q5 => intro W hSw; obtain ⟨z1, z2⟩ := FC.out W hSw; first | (go_simp; done) | (go_simp; rfl) | (go_simp; omega) | (go_simp; intro hq; exfalso; omega)
      simp only [Act.put, List.getElem_toArray, List.getElem_cons_zero, List.getElem_cons_succ, List.setIfInBounds_toArray, List.set_cons_zero, List.set_cons_succ]
      refine wpAnyH_take (i := 6) (v := .int .i64 (s.size : Int)) rfl (by kernel_rfl) (by kernel_rfl) (by kernel_rfl) (fun _ _ _ h => h) (Or.inl ⟨by rfl, ?q6⟩) HS.out ?_
      case q6 => intro W hSw; obtain ⟨z1, z2⟩ := FC.out W hSw; first | (go_simp; done) | (go_simp; rfl) | (go_simp; omega) | (go_simp; intro hq; exfalso; omega)
      simp only [Act.put, List.getElem_toArray, List.getElem_cons_zero, List.getElem_cons_succ, List.setIfInBounds_toArray, List.set_cons_zero, List.set_cons_succ]
      refine wpAnyH_take (i := 9) (v := .slice (some ⟨b, off, none⟩) n c) rfl (by kernel_rfl) (by kernel_rfl) (by kernel_rfl) (fun _ _ _ h => h) (Or.inl ⟨by rfl, ?q9⟩) HS.out ?_
      case q9 => intro W hSw; obtain ⟨z1, z2⟩ := FC.out W hSw; first | (go_simp; done) | (go_simp; rfl) | (go_simp; omega) | (go_simp; intro hq; exfalso; omega)
      simp only [Act.put, List.getElem_toArray, List.getElem_cons_zero, List.getElem_cons_succ, List.setIfInBounds_toArray, List.set_cons_zero, List.set_cons_succ]
      refine wpAnyH_take (i := 10) (v := .int .i64 (k : Int)) rfl (by kernel_rfl) (by kernel_rfl) (by kernel_rfl) (fun _ _ _ h => h) (Or.inl ⟨by rfl, ?q10⟩) HS.out ?_
      case q10 => intro W hSw; obtain ⟨z1, z2⟩ := FC.out W hSw; first | (go_simp; done) | (go_simp; rfl) | (go_simp; omega) | (go_simp; intro hq; exfalso; omega)
      simp only [Act.put, List.getElem_toArray, List.getElem_cons_zero, List.getElem_cons_succ, List.setIfInBounds_toArray, List.set_cons_zero, List.set_cons_succ]
      refine wpAnyH_take (i := 11) (v := .pointer (some ⟨b, off + k * 2, none⟩)) rfl (by kernel_rfl) (by kernel_rfl) (by kernel_rfl) (fun _ _ _ h => h) (Or.inl ⟨by rfl, ?q11⟩) HS.out ?_
      case q11 => intro W hSw; obtain ⟨z1, z2⟩ := FC.out W hSw; first | (go_simp; done) | (go_simp; rfl) | (go_simp; omega) | (go_simp; intro hq; exfalso; omega)
      simp only [Act.put, List.getElem_toArray, List.getElem_cons_zero, List.getElem_cons_succ, List.setIfInBounds_toArray, List.set_cons_zero, List.set_cons_succ]
      refine wpAnyH_take (i := 12) (v := .pointer (some ⟨b, off + k * 2, none⟩)) rfl (by kernel_rfl) (by kernel_rfl) (by kernel_rfl) (fun _ _ _ h => h) (Or.inl ⟨by rfl, ?q12⟩) HS.out ?_
      case q12 => intro W hSw; obtain ⟨z1, z2⟩ := FC.out W hSw; first | (go_simp; done) | (go_simp; rfl) | (go_simp; omega) | (go_simp; intro hq; exfalso; omega)
      simp only [Act.put, List.getElem_toArray, List.getElem_cons_zero, List.getElem_cons_succ, List.setIfInBounds_toArray, List.set_cons_zero, List.set_cons_succ]
      refine wpAnyH_take (i := 13) (v := .string s) rfl (by kernel_rfl) (by kernel_rfl) (by kernel_rfl) (fun _ _ _ h => h) (Or.inl ⟨by rfl, ?q13⟩) HS.out ?_
      case q13 => intro W hSw; obtain ⟨z1, z2⟩ := FC.out W hSw; first | (go_simp; done) | (go_simp; rfl) | (go_simp; omega) | (go_simp; intro hq; exfalso; omega)
      simp only [Act.put, List.getElem_toArray, List.getElem_cons_zero, List.getElem_cons_succ, List.setIfInBounds_toArray, List.set_cons_zero, List.set_cons_succ]
      refine wpAnyH_take (i := 16) (v := .slice (some ⟨b, off, none⟩) n c) rfl (by kernel_rfl) (by kernel_rfl) (by kernel_rfl) (fun _ _ _ h => h) (Or.inl ⟨by rfl, ?q16⟩) HS.out ?_
      case q16 => intro W hSw; obtain ⟨z1, z2⟩ := FC.out W hSw; first | (go_simp; done) | (go_simp; rfl) | (go_simp; omega) | (go_simp; intro hq; exfalso; omega)
      simp only [Act.put, List.getElem_toArray, List.getElem_cons_zero, List.getElem_cons_succ, List.setIfInBounds_toArray, List.set_cons_zero, List.set_cons_succ]
      refine wpAnyH_take (i := 17) (v := .int .i64 (k : Int)) rfl (by kernel_rfl) (by kernel_rfl) (by kernel_rfl) (fun _ _ _ h => h) (Or.inl ⟨by rfl, ?q17⟩) HS.out ?_
      case q17 => intro W hSw; obtain ⟨z1, z2⟩ := FC.out W hSw; first | (go_simp; done) | (go_simp; rfl) | (go_simp; omega) | (go_simp; intro hq; exfalso; omega)
      simp only [Act.put, List.getElem_toArray, List.getElem_cons_zero, List.getElem_cons_succ, List.setIfInBounds_toArray, List.set_cons_zero, List.set_cons_succ]
      refine wpAnyH_take (i := 18) (v := .pointer (some ⟨b, off + k * 2, none⟩)) rfl (by kernel_rfl) (by kernel_rfl) (by kernel_rfl) (fun _ _ _ h => h) (Or.inl ⟨by rfl, ?q18⟩) HS.out ?_
      case q18 => intro W hSw; obtain ⟨z1, z2⟩ := FC.out W hSw; first | (go_simp; done) | (go_simp; rfl) | (go_simp; omega) | (go_simp; intro hq; exfalso; omega)
      simp only [Act.put, List.getElem_toArray, List.getElem_cons_zero, List.getElem_cons_succ, List.setIfInBounds_toArray, List.set_cons_zero, List.set_cons_succ]
      refine wpAnyH_take (i := 19) (v := .pointer (some ⟨b, off + k * 2 + 1, none⟩)) rfl (by kernel_rfl) (by kernel_rfl) (by kernel_rfl) (fun _ _ _ h => h) (Or.inl ⟨by rfl, ?q19⟩) HS.out ?_
      case q19 => intro W hSw; obtain ⟨z1, z2⟩ := FC.out W hSw; first | (go_simp; done) | (go_simp; rfl) | (go_simp; omega) | (go_simp; intro hq; exfalso; omega)
      simp only [Act.put, List.getElem_toArray, List.getElem_cons_zero, List.getElem_cons_succ, List.setIfInBounds_toArray, List.set_cons_zero, List.set_cons_succ]
      refine wpAnyH_take (i := 20) (v := .slice pu l.length cu) rfl (by kernel_rfl) (by kernel_rfl) (by kernel_rfl) (fun _ _ _ h => h) (Or.inl ⟨by rfl, ?q20⟩) HS.out ?_
      case q20 => intro W hSw; obtain ⟨z1, z2⟩ := FC.out W hSw; first | (go_simp; done) | (go_simp; rfl) | (go_simp; omega) | (go_simp; intro hq; exfalso; omega)
      simp only [Act.put, List.getElem_toArray, List.getElem_cons_zero, List.getElem_cons_succ, List.setIfInBounds_toArray, List.set_cons_zero, List.set_cons_succ]
      refine wpAnyH_take (i := 21) (v := .int .i64 (l.length : Int)) rfl (by kernel_rfl) (by kernel_rfl) (by kernel_rfl) (fun _ _ _ h => h) (Or.inl ⟨by rfl, ?q21⟩) HS.out ?_
      case q21 => intro W hSw; obtain ⟨z1, z2⟩ := FC.out W hSw; first | (go_simp; done) | (go_simp; rfl) | (go_simp; omega) | (go_simp; intro hq; exfalso; omega)
      simp only [Act.put, List.getElem_toArray, List.getElem_cons_zero, List.getElem_cons_succ, List.setIfInBounds_toArray, List.set_cons_zero, List.set_cons_succ]
      refine wpAnyH_ready (rs := [7]) (by kernel_rfl) (by simp) ?_
      refine AllReadyH.cons rfl (fun K hK => ?_) AllReadyH.nil
      go_simp
      refine (CD1.out _).mono ?_
      rintro e w2 ⟨rfl, hb2⟩
      have HS2 := hid (HS.out.trans (hb2.mono HS.out.size))
      have G2 : Hid (Below wr.heap.size wr w2) := hid ((Below.refl _ wr).drew.trans (hb2.mono (by simp)))
      clear hb2
      refine hK.out _ _ HS2.out (fun _ => ?_)
      clear hK K
      refine wpAnyH_take (i := 8) (v := .string (d1 ++ ⟨#[58]⟩)) rfl (by kernel_rfl) (by kernel_rfl) (by kernel_rfl) (fun _ _ _ h => h) (Or.inl ⟨by rfl, ?q8⟩) HS2.out ?_
      case q8 => intro W hSw; obtain ⟨z1, z2⟩ := FC.out W hSw; first | (go_simp; done) | (go_simp; rfl) | (go_simp; omega) | (go_simp; intro hq; exfalso; omega)
      simp only [Act.put, List.getElem_toArray, List.getElem_cons_zero, List.getElem_cons_succ, List.setIfInBounds_toArray, List.set_cons_zero, List.set_cons_succ]
      refine wpAnyH_take (i := 14) (v := .string (d1 ++ ⟨#[58]⟩ ++ s)) rfl (by kernel_rfl) (by kernel_rfl) (by kernel_rfl) (fun _ _ _ h => h) (Or.inl ⟨by rfl, ?q14⟩) HS2.out ?_
      case q14 => intro W hSw; obtain ⟨z1, z2⟩ := FC.out W hSw; first | (go_simp; done) | (go_simp; rfl) | (go_simp; omega) | (go_simp; intro hq; exfalso; omega)
      simp only [Act.put, List.getElem_toArray, List.getElem_cons_zero, List.getElem_cons_succ, List.setIfInBounds_toArray, List.set_cons_zero, List.set_cons_succ]
      refine wpAnyH_take (i := 15) (v := .string (d1 ++ ⟨#[58]⟩ ++ s ++ ⟨#[44]⟩)) rfl (by kernel_rfl) (by kernel_rfl) (by kernel_rfl) (fun _ _ _ h => h) (Or.inl ⟨by rfl, ?q15⟩) HS2.out ?_
      case q15 => intro W hSw; obtain ⟨z1, z2⟩ := FC.out W hSw; first | (go_simp; done) | (go_simp; rfl) | (go_simp; omega) | (go_simp; intro hq; exfalso; omega)
      simp only [Act.put, List.getElem_toArray, List.getElem_cons_zero, List.getElem_cons_succ, List.setIfInBounds_toArray, List.set_cons_zero, List.set_cons_succ]
      refine wpAnyH_ready (rs := [22]) (by kernel_rfl) (by simp) ?_
      refine AllReadyH.cons rfl (fun K hK => ?_) AllReadyH.nil
      go_simp
      refine (CD2.out _).mono ?_
      rintro e w3 ⟨rfl, hb3⟩
      have HS3 := hid (HS2.out.trans (hb3.mono HS2.out.size))
      have G3 := hid (G2.out.trans (hb3.mono G2.out.size))
      clear hb3
      refine hK.out _ _ HS3.out (fun _ => ?_)
      clear hK K
      refine wpAnyH_take (i := 23) (v := .string (d1 ++ ⟨#[58]⟩ ++ s ++ ⟨#[44]⟩ ++ d2)) rfl (by kernel_rfl) (by kernel_rfl) (by kernel_rfl) (fun _ _ _ h => h) (Or.inl ⟨by rfl, ?q23⟩) HS3.out ?_
      case q23 => intro W hSw; obtain ⟨z1, z2⟩ := FC.out W hSw; first | (go_simp; done) | (go_simp; rfl) | (go_simp; omega) | (go_simp; intro hq; exfalso; omega)
      simp only [Act.put, List.getElem_toArray, List.getElem_cons_zero, List.getElem_cons_succ, List.setIfInBounds_toArray, List.set_cons_zero, List.set_cons_succ]
      refine wpAnyH_take (i := 24) (v := .string (d1 ++ ⟨#[58]⟩ ++ s ++ ⟨#[44]⟩ ++ d2 ++ ⟨#[58]⟩)) rfl (by kernel_rfl) (by kernel_rfl) (by kernel_rfl) (fun _ _ _ h => h) (Or.inl ⟨by rfl, ?q24⟩) HS3.out ?_
      case q24 => intro W hSw; obtain ⟨z1, z2⟩ := FC.out W hSw; first | (go_simp; done) | (go_simp; rfl) | (go_simp; omega) | (go_simp; intro hq; exfalso; omega)
      simp only [Act.put, List.getElem_toArray, List.getElem_cons_zero, List.getElem_cons_succ, List.setIfInBounds_toArray, List.set_cons_zero, List.set_cons_succ]
      rw [TX.out]
      refine wpAnyH_ready (rs := [25]) (by kernel_rfl) (by simp) ?_
      refine AllReadyH.cons rfl (fun K hK => ?_) AllReadyH.nil
      refine wp_append_text _ _ rfl w.heap.size _ L.length _ rfl (own_below HO.out G3.out) tx rfl (by rw [TZ.out]; exact HZ.out.1) (by have := HZ.out.2; rw [TZ.out]; omega) (by have := G3.out.size; omega) (fun v4 w4 ho4 hg4 => ?_)
      have B4 := hid (HS3.out.grown hg4 HS3.out.size (fun q e => ((own_below HO.out G3.out).lt q e).1))
      rw [HC.out, TZ.out, ← List.map_append, ← List.length_append] at ho4
      have O4 := hid ho4
      have V4 := hid (HV.out.below B4.out)
      clear ho4 hg4
      refine hK.out _ _ B4.out (fun _ => ?_)
      clear hK K
      obtain ⟨p4, c4, ev4⟩ := own_slc O4.out
      subst ev4
      refine wpAnyH_take (i := 26) (v := .slice p4 (L ++ Hd).length c4) rfl (by kernel_rfl) (by kernel_rfl) (by kernel_rfl) (fun _ _ _ h => h) (Or.inl ⟨by rfl, ?q26⟩) B4.out ?_
      case q26 => intro W hSw; obtain ⟨z1, z2⟩ := FC.out W hSw; first | (go_simp; done) | (go_simp; rfl) | (go_simp; omega) | (go_simp; intro hq; exfalso; omega)
      simp only [Act.put, List.getElem_toArray, List.getElem_cons_zero, List.getElem_cons_succ, List.setIfInBounds_toArray, List.set_cons_zero, List.set_cons_succ]
      refine wpAnyH_done (by kernel_rfl) ?_ _
      clear HS
      obtain ⟨z1, z2⟩ := FC.out _ B4.out
      go_wp2_with (at_builtin; refine wpList_append_bytes rfl _ _ rfl w.heap.size _ (L ++ Hd).length _ rfl O4.out _ l rfl V4.out (by have := HZ.out.2; rw [List.length_append]; omega) B4.out.size (fun v5 w5 ho5 hg5 _ => Hid.out ?_))
      have B5 := hid (B4.out.grown hg5 B4.out.size (fun q e => (O4.out.lt q e).1))
      rw [← List.map_append, ← List.length_append] at ho5
      have O5 := hid ho5
      obtain ⟨p5, c5, ev5⟩ := own_slc ho5
      subst ev5
      clear ho5 hg5 z1 z2
      refine hid ?_
      go_wp2_with (at_builtin; refine wpList_append_byte rfl _ _ rfl w.heap.size _ (L ++ Hd ++ l).length _ rfl (O5.out.alloc _) ⟨w5.heap.size, 0, none⟩ 1 44 rfl (by simp) (by have := HZ.out.2; simp only [List.length_append]; omega) (by have := B5.out.size; simp; omega) (fun v6 w6 ho6 hg6 _ => Hid.out ?_))
      have B6 := hid ((B5.out.alloc B5.out.size _).grown hg6 (by have := B5.out.size; simp; omega) (fun q e => (O5.out.lt q e).1))
      have O6 : Hid (w6.ownsRow w.heap.size 5 1 v6 (packL (rs.take (k + 1))).length ((packL (rs.take (k + 1))).map (Value.int .u8))) := by
        refine hid ?_
        rw [PS.out, show L ++ (Hd ++ (l ++ [44])) = (L ++ Hd ++ l) ++ [44] by simp, List.map_append, List.length_append]
        exact ho6
      clear ho6 hg6
      refine hid ?_
      go_wp2
      exact ⟨⟨k + 1, by omega, by go_num, O6, B6⟩, by simp [intOf]; omega⟩
    · have hkn : k = n := by omega
      have O9 : Hid (wr.ownsRow w.heap.size 5 1 u4 (packL rs).length ((packL rs).map (Value.int .u8))) := by
        refine hid ?_
        have := HO.out
        rw [List.take_of_length_le (by have := HN.out; omega)] at this
        exact this
      go_wp2
      go_ret2
      exact ⟨_, rfl, O9.out, HB0.out⟩
set_option maxRecDepth 100000 in
set_option maxHeartbeats 2000000 in
theorem rpack_any (w : World) (v : Value) (rs : List Rw) (h : HRw w v rs) :
    Calls Tryd.prog 8 #[v] w fun e w' => ∃ v', e = .returned (.tuple #[v', .int .i64 (pkE rs)]) ∧ w'.ownsRow w.heap.size 5 1 v' (pkL rs).length ((pkL rs).map (Value.int .u8)) ∧ Below w.heap.size w w' := by
  by_cases hm : mayT rs
  · unfold pkE pkL
    rw [if_pos hm, if_pos hm]
    exact rpack_ok w v rs h hm
  · have C0 : Hid (Calls Tryd.prog 17 #[v] w fun e w' => e = .returned (.bool false) ∧ Below w.heap.size w w') := hid ((rmay_any w v rs h).mono fun e w' ⟨q1, q2⟩ => ⟨by rw [q1, decide_eq_false hm], q2⟩)
    unfold pkE pkL
    rw [if_neg hm, if_neg hm]
    obtain ⟨p, c, rfl, hlc, hcm, -⟩ := h.open
    go_enter Tryd.func8, Tryd.ntmps8
    go_wp2_with fail
    refine C0.out.mono ?_
    rintro e w1 ⟨rfl, hb1⟩
    have B1 := hid hb1
    clear hb1 C0
    go_wp2
    go_ret2
    exact ⟨_, rfl, World.ownsRow_nil _ _ _ _, B1.out⟩
theorem apart3 (w : World) (B : Nat) (va vb vc : Value) (la lb lc : List Int) (ha : w.ownsRow B 5 1 va la.length (la.map (Value.int .u8))) (hb : w.ownsRow B 5 1 vb lb.length (lb.map (Value.int .u8))) (hc : w.ownsRow B 5 1 vc lc.length (lc.map (Value.int .u8)))
    (hab : (va.ownBlock = none ∨ va.ownBlock ≠ vb.ownBlock) ∧ (vb.ownBlock = none ∨ vb.ownBlock ≠ va.ownBlock)) (hac : (va.ownBlock = none ∨ va.ownBlock ≠ vc.ownBlock) ∧ (vc.ownBlock = none ∨ vc.ownBlock ≠ va.ownBlock)) (hbc : (vb.ownBlock = none ∨ vb.ownBlock ≠ vc.ownBlock) ∧ (vc.ownBlock = none ∨ vc.ownBlock ≠ vb.ownBlock))
    (hB : B ≤ w.heap.size) (na : la.length ≤ 140737488351232) (nb : lb.length ≤ 140737488351232) (nc : lc.length ≤ 140737488351232) :
    Calls Tryd.prog 10 #[.slice (some ⟨w.heap.size, 0, none⟩) 3 3] (w.alloc (.cells #[va, vb, vc] 27)) fun e w' => e = .returned (.bool true) ∧ Below B w w' := by
  have hal := World.grownBy_alloc w (.cells #[va, vb, vc] 27) none
  have hAp : Apt B (w.alloc (.cells #[va, vb, vc] 27)) [va, vb, vc] [la, lb, lc] := by
    refine ⟨rfl, fun k hk => ?_, fun i j hi hj hij => ?_⟩
    · match k, hk with
      | 0, _ => exact ha.kept hal (none_or _)
      | 1, _ => exact hb.kept hal (none_or _)
      | 2, _ => exact hc.kept hal (none_or _)
    · have hi2 : i = 0 ∨ i = 1 ∨ i = 2 := by simp at hi; omega
      have hj2 : j = 0 ∨ j = 1 ∨ j = 2 := by simp at hj; omega
      rcases hi2 with rfl | rfl | rfl <;> rcases hj2 with rfl | rfl | rfl <;> first | exact absurd rfl hij | exact hab.1 | exact hab.2 | exact hac.1 | exact hac.2 | exact hbc.1 | exact hbc.2
  refine (apart_any B _ _ _ _ (HV.three w _ _ _) hAp (by simp; omega) (by simp) (fun k => ?_)).mono ?_
  · match k with
    | 0 => exact na
    | 1 => exact nb
    | 2 => exact nc
    | k + 3 => simp
  rintro e1 w1 ⟨rfl, hB1⟩
  exact ⟨rfl, ((Below.refl B w).alloc hB _).trans hB1⟩
theorem pkL_le (rs : List Rw) : (pkL rs).length ≤ 140737488351232 := by
  unfold pkL
  split
  · rename_i h
    have h1 := pack_len_le rs _ h.2
    have h2 := h.1
    omega
  · simp
theorem ne_two {a b : Value} (h : ∀ q, a.ownBlock = some q → b.ownBlock ≠ some q) : (a.ownBlock = none ∨ a.ownBlock ≠ b.ownBlock) ∧ (b.ownBlock = none ∨ b.ownBlock ≠ a.ownBlock) := by
  cases e : a.ownBlock with
  | none =>
    refine ⟨.inl rfl, ?_⟩
    cases e2 : b.ownBlock with
    | none => exact .inl rfl
    | some q => exact .inr (by simp)
  | some q => exact ⟨.inr fun z => h q e z.symm, .inr fun z => h q e z⟩
theorem packL_byt {rs : List Rw} (h : ∀ r ∈ rs, Byt8 r.2) : Byt8 (packL rs) := by
  induction rs with
  | nil => intro x hx; cases hx
  | cons r t ih =>
    intro x hx
    rw [packL] at hx
    have hfld : ∀ l : List Int, Byt8 l → ∀ y ∈ fld l, 0 ≤ y ∧ y < 256 := by
      intro l hl y hy
      unfold fld at hy
      rcases List.mem_append.1 hy with hy | hy
      · exact dgL_byt _ y hy
      · rcases List.mem_cons.1 hy with rfl | hy
        · omega
        · rcases List.mem_append.1 hy with hy | hy
          · exact hl y hy
          · simp at hy; omega
    rcases List.mem_append.1 hx with hx | hx
    · unfold rowL at hx
      rcases List.mem_append.1 hx with hx | hx
      · exact hfld _ (sB_byt _) x hx
      · exact hfld _ (h r (List.mem_cons_self ..)) x hx
    · exact ih (fun q hq => h q (List.mem_cons_of_mem _ hq)) x hx
theorem pkL_byt {rs : List Rw} (h : ∀ r ∈ rs, Byt8 r.2) : ∀ x ∈ pkL rs, 0 ≤ x ∧ x < 256 := by
  unfold pkL
  split
  · exact packL_byt h
  · simp
theorem wpList_litU {P : Program} {ops : Array Oper} {rest : List Oper} {o : Oper} {a : Act} {w w' : World} {Q : Exit → Act → World → Prop} (hw : Region.wanted o (yielded ops a.tmps) = true) (t : TypeId) (len : Nat) (parts : Array (Nat × Operand)) (ho : o.op = .buildSlice t len parts) (ps : Array (Nat × Value)) (hps : (parts.map fun (i, x) => (i, a.eval x)) = ps) (v : Value)
    (hr : (Instr.buildSlice t len ps).run P w = .ok v w') (h : wpList P ops Q rest (a.put o.dst v) w') : wpList P ops Q (o :: rest) a w := by
  refine wpList_step fun K hK => ?_
  simp only [hw, if_true]
  unfold Oper.wp execOp
  simp only [ho, Sem.run_bind, hps, hr, Result.andThen_ok]
  exact hK _ _ h
theorem run_litP (w : World) (a b c : Option Addr) (n m k i j l : Nat) : (Instr.buildSlice 23 3 #[(0, .slice a n i), (1, .slice b m j), (2, .slice c k l)]).run Tryd.prog w = .ok (.slice (some ⟨w.heap.size, 0, none⟩) 3 3) (w.alloc (.cells #[.slice a n i, .slice b m j, .slice c k l] 27)) := by kernel_rfl
theorem LX.open {B : Nat} {W : World} {va ve : Value} {rs : List Rw} {xs us : List Value} (h : LX B W va ve rs xs us) : ∃ g c pe ce, va = .slice (some ⟨g, 0, none⟩) (rs.length + 70) c ∧ ve = .slice pe rs.length ce ∧ rs.length + 70 ≤ c := by
  obtain ⟨pe, ce, eve⟩ := own_slcS h.lr.each
  rcases h.lr.all.2 with ⟨_, e⟩ | ⟨g', cap, cur, e, hbg, hg, hnc, hcm, _, _⟩
  · omega
  · exact ⟨g', cap, pe, ce, e, eve, hnc⟩
set_option maxRecDepth 100000 in
set_option maxHeartbeats 16000000 in
theorem upk_walk (w : World) (va vb : Value) (ra rb : List Rw) (ha : HRw w va ra) (hb : HRw w vb rb) (hna : ra.length ≤ 3518437208780 ∧ ∀ r ∈ ra, r.2.length ≤ 140737488351232) (hnb : rb.length ≤ 3518437208780 ∧ ∀ r ∈ rb, r.2.length ≤ 140737488351232) (hk : KP w) :
    Calls Tryd.prog 3 #[va, vb] w fun e w' => e = .returned (.bool true) ∧ Below w.heap.size w w' := by
  have HA := hid ha
  have HBb := hid hb
  have HK := hid hk
  have NA := hid hna
  have NB := hid hnb
  have YA := hid ha.byt
  have YB := hid hb.byt
  obtain ⟨pa, ca, rfl, hca, hma, -⟩ := ha.open
  obtain ⟨pb, cb, rfl, hcb, hmb, -⟩ := hb.open
  unfold maxLen at hma hmb
  obtain ⟨na, HNA⟩ : ∃ x, Hid (ra.length = x) := ⟨_, rfl⟩
  obtain ⟨nb, HNB⟩ : ∃ x, Hid (rb.length = x) := ⟨_, rfl⟩
  have C1 := hid (lentRows_any w _ ra HA.out NA.out.1 NA.out.2)
  have hla := hna.1
  have hlb := hnb.1
  rw [HNA.out] at HA C1 hca hla
  rw [HNB.out] at HBb hcb hlb
  rw [HNA.out, HNB.out]
  clear ha hb hk hna hnb
  go_enter Tryd.func3, Tryd.ntmps3
  go_wp2_with fail
  refine C1.out.mono ?_
  rintro e1 w1 ⟨vxa, vxe, xsx, usx, rfl, hx1, hB1⟩
  obtain ⟨gx, cx, px, dx, rfl, rfl, hcx⟩ := hx1.open
  rw [HNA.out] at hcx
  have X1 := hid hx1
  rw [HNA.out]
  obtain ⟨WX, HWX⟩ : ∃ x, Hid (w1.alloc (.cells #[.slice (some ⟨gx, 0, none⟩) (na + 70) cx, .slice px na dx] 25) = x) := ⟨_, rfl⟩
  have BX : Hid (Below w1.heap.size w1 WX) := hid (by rw [← HWX.out]; exact (Below.refl _ _).alloc (Nat.le_refl _) _)
  have HbX : Hid (WX.heap[w1.heap.size]? = some (.cells #[.slice (some ⟨gx, 0, none⟩) (na + 70) cx, .slice px na dx] 25 (0, 0))) := hid (by rw [← HWX.out]; exact heap_alloc_new w1 _)
  have BWX : Hid (Below w.heap.size w WX) := hid (hB1.trans (BX.out.mono hB1.size))
  obtain ⟨bX, EbX⟩ : ∃ x, Hid (w1.heap.size = x) := ⟨_, rfl⟩
  have XL : Hid (∀ b, lrB (.slice (some ⟨gx, 0, none⟩) (na + 70) cx) (.slice px na dx) usx b → w.heap.size ≤ b ∧ b < bX) := hid fun b h => by
    rw [← HNA.out] at h
    obtain ⟨q1, q2, _⟩ := X1.out.lr.at h
    exact ⟨q2, by rw [← EbX.out]; exact q1⟩
  have SX : Hid (w.heap.size ≤ bX ∧ bX < WX.heap.size) := hid ⟨by rw [← EbX.out]; exact hB1.size, by rw [← EbX.out]; exact (Array.getElem?_eq_some_iff.1 HbX.out).1⟩
  rw [EbX.out] at HbX
  have C2 := hid (lentRows_any WX _ rb (HBb.out.below BWX.out) NB.out.1 NB.out.2)
  try rw [HNB.out] at C2
  have hslx := fun W => slice_hR W gx (na + 70) cx na (by omega) (by omega)
  clear hx1 hB1 C1
  go_wp2_with (first | rw [HWX.out, EbX.out] | fail)
  refine C2.out.mono ?_
  rintro e2 w2 ⟨vya, vye, xsy, usy, rfl, hx2, hB2⟩
  obtain ⟨gy, cy, py, dy, rfl, rfl, hcy⟩ := hx2.open
  rw [HNB.out] at hcy
  have Y2 := hid hx2
  rw [HNB.out]
  obtain ⟨WY, HWY⟩ : ∃ x, Hid (w2.alloc (.cells #[.slice (some ⟨gy, 0, none⟩) (nb + 70) cy, .slice py nb dy] 25) = x) := ⟨_, rfl⟩
  have BY : Hid (Below w2.heap.size w2 WY) := hid (by rw [← HWY.out]; exact (Below.refl _ _).alloc (Nat.le_refl _) _)
  have HbY : Hid (WY.heap[w2.heap.size]? = some (.cells #[.slice (some ⟨gy, 0, none⟩) (nb + 70) cy, .slice py nb dy] 25 (0, 0))) := hid (by rw [← HWY.out]; exact heap_alloc_new w2 _)
  have BXY : Hid (Below WX.heap.size WX WY) := hid (hB2.trans (BY.out.mono hB2.size))
  have BWY : Hid (Below w.heap.size w WY) := hid (BWX.out.trans (BXY.out.mono BWX.out.size))
  obtain ⟨bY, EbY⟩ : ∃ x, Hid (w2.heap.size = x) := ⟨_, rfl⟩
  have YL : Hid (∀ b, lrB (.slice (some ⟨gy, 0, none⟩) (nb + 70) cy) (.slice py nb dy) usy b → WX.heap.size ≤ b ∧ b < bY) := hid fun b h => by
    rw [← HNB.out] at h
    obtain ⟨q1, q2, _⟩ := Y2.out.lr.at h
    exact ⟨q2, by rw [← EbY.out]; exact q1⟩
  have SY : Hid (WX.heap.size ≤ bY ∧ bY < WY.heap.size) := hid ⟨by rw [← EbY.out]; exact hB2.size, by rw [← EbY.out]; exact (Array.getElem?_eq_some_iff.1 HbY.out).1⟩
  rw [EbY.out] at HbY
  have HX0 : Hid (LX w.heap.size WY (.slice (some ⟨gx, 0, none⟩) (ra.length + 70) cx) (.slice px ra.length dx) ra xsx usx) := hid ((X1.out.below BX.out).below BXY.out)
  have HY0 : Hid (LX WX.heap.size WY (.slice (some ⟨gy, 0, none⟩) (rb.length + 70) cy) (.slice py rb.length dy) rb xsy usy) := hid (Y2.out.below BY.out)
  have HXY : Hid (WY.heap[bX]? = some (.cells #[.slice (some ⟨gx, 0, none⟩) (na + 70) cx, .slice px na dx] 25 (0, 0))) := hid ((BXY.out.block bX SX.out.2).trans HbX.out)
  have hsly := fun W => slice_hR W gy (nb + 70) cy nb (by omega) (by omega)
  have C3 := hid (pack_any WY _ ra (HX0.out.hrw YA.out) (HK.out.below BWY.out))
  rw [HNA.out] at C3
  have x0 : WY.cell? ⟨bX, 0, none⟩ = some (.slice (some ⟨gx, 0, none⟩) (na + 70) cx) := (cell_of_row _ _ _ _ _ _ HXY.out).trans rfl
  clear hx2 hB2 C2 X1 Y2 HbX BX BY
  go_wp2_with (first | rw [HWY.out, EbY.out] | fail)
  refine C3.out.mono ?_
  rintro e3 w3 ⟨v1, rfl, hr1, hB3⟩
  have R1 := hid hr1
  have B3 := hid hB3
  have BW3 : Hid (Below w.heap.size w w3) := hid (BWY.out.trans (hB3.mono BWY.out.size))
  have C4 := hid (pack_any w3 _ rb ((HY0.out.below hB3).hrw YB.out) (HK.out.below BW3.out))
  rw [HNB.out] at C4
  obtain ⟨p1, c1, ev1⟩ := own_slcS hr1
  obtain ⟨n1, HN1⟩ : ∃ x, Hid ((pkL ra).length = x) := ⟨_, rfl⟩
  rw [HN1.out] at ev1
  subst ev1
  have y0 : w3.cell? ⟨bY, 0, none⟩ = some (.slice (some ⟨gy, 0, none⟩) (nb + 70) cy) := (cell_of_row _ _ _ _ _ _ ((hB3.block bY SY.out.2).trans HbY.out)).trans rfl
  clear hr1 hB3 C3 x0
  go_wp2_with fail
  refine C4.out.mono ?_
  rintro e4 w4 ⟨v2, rfl, hr2, hB4⟩
  have R2 := hid hr2
  have B4 := hid hB4
  have BW4 : Hid (Below w.heap.size w w4) := hid (BW3.out.trans (hB4.mono BW3.out.size))
  have BY4 : Hid (Below WY.heap.size WY w4) := hid (B3.out.trans (hB4.mono B3.out.size))
  have C5 := hid (pack_any w4 _ ra ((HX0.out.below BY4.out).hrw YA.out) (HK.out.below BW4.out))
  rw [HNA.out] at C5
  obtain ⟨p2, c2, ev2⟩ := own_slcS hr2
  obtain ⟨n2, HN2⟩ : ∃ x, Hid ((pkL rb).length = x) := ⟨_, rfl⟩
  rw [HN2.out] at ev2
  subst ev2
  have lX : bX < WY.heap.size := Nat.lt_of_lt_of_le SX.out.2 BXY.out.size
  have x0 : w4.cell? ⟨bX, 0, none⟩ = some (.slice (some ⟨gx, 0, none⟩) (na + 70) cx) := (cell_of_row _ _ _ _ _ _ ((BY4.out.block bX lX).trans HXY.out)).trans rfl
  clear hr2 hB4 C4 y0
  go_wp2_with fail
  refine C5.out.mono ?_
  rintro e5 w5 ⟨v3, rfl, hr3, hB5⟩
  have R3 := hid hr3
  have B5 := hid hB5
  have BW5 : Hid (Below w.heap.size w w5) := hid (BW4.out.trans (hB5.mono BW4.out.size))
  have BY5 : Hid (Below WY.heap.size WY w5) := hid (BY4.out.trans (hB5.mono BY4.out.size))
  obtain ⟨p3, c3, ev3⟩ := own_slcS hr3
  rw [HN1.out] at ev3
  subst ev3
  have C6 := hid (keptRows_any _ w5 _ _ _ ra _ _ (HX0.out.below BY5.out) (HA.out.below BW5.out) NA.out.1 NA.out.2)
  rw [HNA.out] at C6
  have x0' : w5.cell? ⟨bX, 0, none⟩ = some (.slice (some ⟨gx, 0, none⟩) (na + 70) cx) := (cell_of_row _ _ _ _ _ _ ((BY5.out.block bX lX).trans HXY.out)).trans rfl
  have x1' : w5.cell? ⟨bX, 1, none⟩ = some (.slice px na dx) := (cell_of_row _ _ _ _ _ _ ((BY5.out.block bX lX).trans HXY.out)).trans rfl
  clear hr3 hB5 C5 x0 hslx hsly
  go_wp2_with fail
  refine C6.out.mono ?_
  rintro e6 w6 ⟨rfl, hB6⟩
  have B6 := hid hB6
  have BW6 : Hid (Below w.heap.size w w6) := hid (BW5.out.trans (hB6.mono BW5.out.size))
  have BY6 : Hid (Below WY.heap.size WY w6) := hid (BY5.out.trans (hB6.mono BY5.out.size))
  have C7 := hid (keptRows_any _ w6 _ _ _ rb _ _ (HY0.out.below BY6.out) (HBb.out.below BW6.out) NB.out.1 NB.out.2)
  rw [HNB.out] at C7
  have y0' : w6.cell? ⟨bY, 0, none⟩ = some (.slice (some ⟨gy, 0, none⟩) (nb + 70) cy) := (cell_of_row _ _ _ _ _ _ ((BY6.out.block bY SY.out.2).trans HbY.out)).trans rfl
  have y1' : w6.cell? ⟨bY, 1, none⟩ = some (.slice py nb dy) := (cell_of_row _ _ _ _ _ _ ((BY6.out.block bY SY.out.2).trans HbY.out)).trans rfl
  clear hB6 C6 x0' x1'
  go_wp2_with fail
  refine C7.out.mono ?_
  rintro e7 w7 ⟨rfl, hB7⟩
  have B7 := hid hB7
  have BW7 : Hid (Below w.heap.size w w7) := hid (BW6.out.trans (hB7.mono BW6.out.size))
  have BY7 : Hid (Below WY.heap.size WY w7) := hid (BY6.out.trans (hB7.mono BY6.out.size))
  have C8 := hid (overRows_any _ _ w7 _ _ _ (OV.of (HX0.out.below BY7.out) NA.out.2) NA.out.1)
  rw [HNA.out] at C8
  have x0 : w7.cell? ⟨bX, 0, none⟩ = some (.slice (some ⟨gx, 0, none⟩) (na + 70) cx) := (cell_of_row _ _ _ _ _ _ ((BY7.out.block bX lX).trans HXY.out)).trans rfl
  have x1 : w7.cell? ⟨bX, 1, none⟩ = some (.slice px na dx) := (cell_of_row _ _ _ _ _ _ ((BY7.out.block bX lX).trans HXY.out)).trans rfl
  clear hB7 C7 y0' y1'
  go_wp2_with fail
  refine C8.out.mono ?_
  rintro e8 w8 ⟨rfl, he8⟩
  have E8 := hid he8
  have hY8 : w8.heap[bY]? = some (.cells #[.slice (some ⟨gy, 0, none⟩) (nb + 70) cy, .slice py nb dy] 25 (0, 0)) := by
    rw [he8.block bY (Nat.lt_of_lt_of_le SY.out.2 BY7.out.size) (fun q => by have := (XL.out bY q).2; have := SX.out; have := SY.out; omega), BY7.out.block bY SY.out.2]
    exact HbY.out
  have y0 : w8.cell? ⟨bY, 0, none⟩ = some (.slice (some ⟨gy, 0, none⟩) (nb + 70) cy) := (cell_of_row _ _ _ _ _ _ hY8).trans rfl
  have y1 : w8.cell? ⟨bY, 1, none⟩ = some (.slice py nb dy) := (cell_of_row _ _ _ _ _ _ hY8).trans rfl
  have OY : OV WX.heap.size rb.length w8 (.slice (some ⟨gy, 0, none⟩) (rb.length + 70) cy) (.slice py rb.length dy) usy := (OV.of (HY0.out.below BY7.out) NB.out.2).keep fun b q => by
    rw [HNB.out] at q
    obtain ⟨q1, q2⟩ := YL.out b q
    exact he8.block b (by have := SY.out; have := BY7.out.size; omega) (fun q => by have := (XL.out b q).2; have := SX.out; omega)
  have C9 := hid (overRows_any _ _ w8 _ _ _ OY NB.out.1)
  rw [HNB.out] at C9
  clear he8 C8 x0 x1 hY8 OY lX
  go_wp2_with fail
  refine C9.out.mono ?_
  rintro e9 w9 ⟨rfl, he9⟩
  have BW9 : Hid (Below w.heap.size w w9) := hid ⟨he9.os.trans (E8.out.os.trans BW7.out.os), he9.tape.trans (E8.out.tape.trans BW7.out.tape), he9.output.trans (E8.out.output.trans BW7.out.output), Nat.le_trans BW7.out.size (Nat.le_trans E8.out.size he9.size), fun b hb => by
    have q1 := BW7.out.size
    have q2 := E8.out.size
    rw [he9.block b (by omega) (fun q => by have := (YL.out b q).1; have := SX.out; omega), E8.out.block b (by omega) (fun q => by have := (XL.out b q).1; omega)]
    exact BW7.out.block b hb⟩
  have K9 : Hid (∀ b, WY.heap.size ≤ b → b < w7.heap.size → w9.heap[b]? = w7.heap[b]?) := hid fun b h1 h2 => by
    have q2 := E8.out.size
    rw [he9.block b (by omega) (fun q => by have := (YL.out b q).2; have := SY.out; omega), E8.out.block b h2 (fun q => by have := (XL.out b q).2; have := SX.out; have := SY.out; omega)]
  have S9 : Hid (w7.heap.size ≤ w9.heap.size) := hid (Nat.le_trans E8.out.size he9.size)
  have C10 := hid (rpack_any w9 _ ra (HA.out.below BW9.out))
  clear he9 C9 y0 y1
  go_wp2_with fail
  refine C10.out.mono ?_
  rintro e10 w10 ⟨v4, rfl, hr4, hB10⟩
  have R4 := hid hr4
  have B10 := hid hB10
  have BW10 : Hid (Below w.heap.size w w10) := hid (BW9.out.trans (hB10.mono BW9.out.size))
  have C11 := hid (rpack_any w10 _ rb (HBb.out.below BW10.out))
  clear hr4 hB10 C10
  go_wp2_with fail
  refine C11.out.mono ?_
  rintro e11 w11 ⟨v5, rfl, hr5, hB11⟩
  have R5 := hid hr5
  have B11 := hid hB11
  have BW11 : Hid (Below w.heap.size w w11) := hid (BW10.out.trans (hB11.mono BW10.out.size))
  have B911 : Hid (Below w9.heap.size w9 w11) := hid (B10.out.trans (hB11.mono B10.out.size))
  have T1 : Hid (∀ W, Below w11.heap.size w11 W → W.ownsRow WY.heap.size 5 1 (.slice p1 n1 c1) (pkL ra).length ((pkL ra).map (Value.int .u8))) := hid fun W hW => own_ofS R1.out fun b e => by
    obtain ⟨q1, q2, _⟩ := own_atS R1.out e
    have b37 : Below w3.heap.size w3 w7 := B4.out.trans ((B5.out.trans ((B6.out.trans (B7.out.mono B6.out.size)).mono B5.out.size)).mono B4.out.size)
    have q3 := b37.size
    have q4 := S9.out
    have q5 := B911.out.size
    rw [hW.block b (by omega), B911.out.block b (by omega), K9.out b q2 (by omega), b37.block b q1]
  have T2 : Hid (∀ W, Below w11.heap.size w11 W → W.ownsRow w3.heap.size 5 1 (.slice p2 n2 c2) (pkL rb).length ((pkL rb).map (Value.int .u8))) := hid fun W hW => own_ofS R2.out fun b e => by
    obtain ⟨q1, q2, _⟩ := own_atS R2.out e
    have b47 : Below w4.heap.size w4 w7 := B5.out.trans ((B6.out.trans (B7.out.mono B6.out.size)).mono B5.out.size)
    have q3 := b47.size
    have q4 := S9.out
    have q5 := B911.out.size
    have q6 := B3.out.size
    rw [hW.block b (by omega), B911.out.block b (by omega), K9.out b (by omega) (by omega), b47.block b q1]
  have T3 : Hid (∀ W, Below w11.heap.size w11 W → W.ownsRow w4.heap.size 5 1 (.slice p3 n1 c3) (pkL ra).length ((pkL ra).map (Value.int .u8))) := hid fun W hW => own_ofS R3.out fun b e => by
    obtain ⟨q1, q2, _⟩ := own_atS R3.out e
    have b57 : Below w5.heap.size w5 w7 := B6.out.trans (B7.out.mono B6.out.size)
    have q3 := b57.size
    have q4 := S9.out
    have q5 := B911.out.size
    have q6 := B3.out.size
    have q7 := B4.out.size
    rw [hW.block b (by omega), B911.out.block b (by omega), K9.out b (by omega) (by omega), b57.block b q1]
  obtain ⟨p4, c4, ev4⟩ := own_slcS R4.out
  obtain ⟨p5, c5, ev5⟩ := own_slcS hr5
  rw [HN1.out] at ev4
  rw [HN2.out] at ev5
  subst ev4
  subst ev5
  have CS1 : Hid (∀ W, Below w11.heap.size w11 W → Calls Tryd.prog 9 #[.slice p1 n1 c1, .slice p4 n1 c4] W fun e w' => e = .returned (.bool true) ∧ Dr W w') := hid fun W hW => (sameBytes_any W _ _ (pkL ra) (pkL ra) (HB.of_own (T1.out W hW) (pkL_byt YA.out)) (((HB.of_own R4.out (pkL_byt YA.out)).below B11.out).below hW)).mono fun e w' ⟨q1, q2⟩ => ⟨by rw [q1]; simp, q2⟩
  have CS2 : Hid (∀ W, Below w11.heap.size w11 W → Calls Tryd.prog 9 #[.slice p2 n2 c2, .slice p5 n2 c5] W fun e w' => e = .returned (.bool true) ∧ Dr W w') := hid fun W hW => (sameBytes_any W _ _ (pkL rb) (pkL rb) (HB.of_own (T2.out W hW) (pkL_byt YB.out)) ((HB.of_own R5.out (pkL_byt YB.out)).below hW)).mono fun e w' ⟨q1, q2⟩ => ⟨by rw [q1]; simp, q2⟩
  have CS3 : Hid (∀ W, Below w11.heap.size w11 W → Calls Tryd.prog 9 #[.slice p3 n1 c3, .slice p4 n1 c4] W fun e w' => e = .returned (.bool true) ∧ Dr W w') := hid fun W hW => (sameBytes_any W _ _ (pkL ra) (pkL ra) (HB.of_own (T3.out W hW) (pkL_byt YA.out)) (((HB.of_own R4.out (pkL_byt YA.out)).below B11.out).below hW)).mono fun e w' ⟨q1, q2⟩ => ⟨by rw [q1]; simp, q2⟩
  have SZ : Hid (WY.heap.size ≤ w3.heap.size ∧ w3.heap.size ≤ w4.heap.size ∧ w.heap.size ≤ WY.heap.size ∧ WY.heap.size ≤ w11.heap.size) := hid ⟨B3.out.size, B4.out.size, BWY.out.size, by have := BY7.out.size; have := S9.out; have := B911.out.size; omega⟩
  clear hr5 hB11 C11
  go_wp2_with fail
  refine (CS1.out w11 (Below.refl _ _)).mono ?_
  rintro e12 w12 ⟨rfl, hd12⟩
  have B12 : Hid (Below w11.heap.size w11 w12) := hid (hd12.below _)
  clear hd12 CS1
  go_wp2_with fail
  refine (CS2.out w12 B12.out).mono ?_
  rintro e13 w13 ⟨rfl, hd13⟩
  have B13 : Hid (Below w11.heap.size w11 w13) := hid (B12.out.trans ((hd13.below _).mono B12.out.size))
  clear hd13 CS2
  go_wp2_with fail
  refine (CS3.out w13 B13.out).mono ?_
  rintro e14 w14 ⟨rfl, hd14⟩
  have B14 : Hid (Below w11.heap.size w11 w14) := hid (B13.out.trans ((hd14.below _).mono B13.out.size))
  have low : ∀ {A A' : Nat} {v : Value} {n : Nat} {xs : List Value}, w14.ownsRow A' 5 1 v n xs → A ≤ A' → w14.ownsRow A 5 1 v n xs := fun h hA => ⟨h.1, by
    rcases h.2 with q | ⟨g, cap, cur, q1, q2, q3⟩
    · exact .inl q
    · exact .inr ⟨g, cap, cur, q1, Nat.le_trans hA q2, q3⟩⟩
  have sz := SZ.out
  have d12 : ∀ q, (Value.slice p1 n1 c1).ownBlock = some q → (Value.slice p2 n2 c2).ownBlock ≠ some q := fun q e e' => by
    have := (own_atS R1.out e).1
    have := (own_atS R2.out e').2.1
    omega
  have d13 : ∀ q, (Value.slice p1 n1 c1).ownBlock = some q → (Value.slice p3 n1 c3).ownBlock ≠ some q := fun q e e' => by
    have := (own_atS R1.out e).1
    have := (own_atS R3.out e').2.1
    omega
  have d23 : ∀ q, (Value.slice p2 n2 c2).ownBlock = some q → (Value.slice p3 n1 c3).ownBlock ≠ some q := fun q e e' => by
    have := (own_atS R2.out e).1
    have := (own_atS R3.out e').2.1
    omega
  have CA := hid (apart3 w14 WY.heap.size _ _ _ (pkL ra) (pkL rb) (pkL ra) (T1.out w14 B14.out) (low (T2.out w14 B14.out) (by omega)) (low (T3.out w14 B14.out) (by omega)) (ne_two d12) (ne_two d13) (ne_two d23) (by have := B14.out.size; omega) (pkL_le _) (pkL_le _) (pkL_le _))
  clear hd14 CS3 low d12 d13 d23 sz
  go_wp2_with (first | (refine wpList_litU (by rfl) 23 3 _ rfl #[(0, .slice p1 n1 c1), (1, .slice p2 n2 c2), (2, .slice p3 n1 c3)] (by go_simp) _ (run_litP _ _ _ _ _ _ _ _ _ _) ?_) | fail)
  refine CA.out.mono ?_
  rintro e15 w15 ⟨rfl, hB16⟩
  have FIN : Hid (Below w.heap.size w w15) := hid ((BW11.out.trans (B14.out.mono BW11.out.size)).trans (hB16.mono SZ.out.2.2.1))
  clear hB16 CA
  go_wp2
  go_ret
  exact ⟨rfl, FIN.out⟩
end Go.Proofs.YtcbnlfghhcpkmaaDoor
namespace Go.Proofs.YtcbnlfghhcpkmaaDoor
open Go Go.RowKit Go.ChangeShapes Go.WideShapes Go.ChangeAt
def shpLaid : List (String × DataW Unit) := [("math/bits.deBruijn32tab", Rows.laid_math_bits_deBruijn32tab), ("math/bits.deBruijn64tab", Rows.laid_math_bits_deBruijn64tab), ("internal/strconv.uint64pow10", Rows.laid_internal_strconv_uint64pow10)]
theorem gP10 : Tryd.prog.globalNamed "internal/strconv.uint64pow10" = some 0 := by kernel_rfl
theorem tP10 : (Tryd.prog.globals[0]?).map (·.type) = some 53 := by kernel_rfl
theorem kp_of_laid {W : World} (h : laidMetH Tryd.prog shpLaid W) : KP W := by
  rw [MakeChecks.laidMetH_plain _ _ _ (by kernel_rfl)] at h
  have h3 : laidMet Tryd.prog (("internal/strconv.uint64pow10", Lib.tabData .u64 Lib.pow10Tab) :: []) W := h.tail.tail
  exact Lib.tabIs_of_head gP10 tP10 Tryd.underlying53 Tryd.underlying46 (by kernel_rfl) (by kernel_rfl) h3
end Go.Proofs.YtcbnlfghhcpkmaaDoor
