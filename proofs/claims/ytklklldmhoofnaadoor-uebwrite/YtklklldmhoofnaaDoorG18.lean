/- Of the road to uebWriteCard_holds: TgRef, TgRefA, UbRRows. -/
import Derived.Test.YtklklldmhoofnaaDoorG17
import Derived.Test.YtklklldmhoofnaaDoorG01
import Derived.Test.YtklklldmhoofnaaDoorG00
import Derived.Laws.IdiomStrings
import Derived.Test.YtklklldmhoofnaaDoorG04
import Derived.Test.YtklklldmhoofnaaDoorG07
import Derived.Test.YtklklldmhoofnaaDoorG03
set_option linter.unusedVariables false
set_option linter.unusedSimpArgs false
namespace Go.Proofs.YtklklldmhoofnaaDoor
open Go.RowKit
def hi5 (n m x : Nat) : List Int := (bigL n x).take (n - m)
theorem hi5_step (n m x : Nat) (h : m < n) : hi5 n m x = hi5 n (m + 1) x ++ [((x / 256 ^ m % 256 : Nat) : Int)] := by
  have key : ∀ r j, j < r → (bigL r x)[j]? = some ((x / 256 ^ (r - 1 - j) % 256 : Nat) : Int) := by
    intro r
    induction r with
    | zero => intro j hj; omega
    | succ r ih =>
      intro j hj
      cases j with
      | zero => simp [bigL]
      | succ j =>
        simp only [bigL, List.getElem?_cons_succ]
        rw [ih j (by omega), show r + 1 - 1 - (j + 1) = r - 1 - j by omega]
  unfold hi5
  have e : n - m = (n - (m + 1)) + 1 := by omega
  rw [e, List.take_add_one, key n _ (by omega), show n - 1 - (n - (m + 1)) = m by omega]
  rfl
set_option maxRecDepth 100000 in
set_option maxHeartbeats 1000000 in
theorem rbig5_any (W : World) (x n : Nat) (hx : x < 18446744073709551616) (hn : n ≤ 8) : Calls Tryd.prog 74 #[.int .u64 (x : Int), .int .i64 (n : Int)] W fun e W' => ∃ v', e = .returned v' ∧ W'.ownsRow W.heap.size 5 1 v' n ((bigL n x).map (Value.int .u8)) ∧ Below W.heap.size W W' := by
  go_enter Tryd.func74, Tryd.ntmps74
  go_wp2
  go_loopw [5, 6] (fun o i wr => ∃ m : Nat, m ≤ n ∧ i = .int .i64 ((m : Int) - 1) ∧ Hid (wr.ownsRow W.heap.size 5 1 o (n - m) ((hi5 n m x).map (Value.int .u8))) ∧ Hid (Below W.heap.size W wr)) (fun _ i _ => (intOf i + 1).toNat)
  case atStart => exact ⟨n, Nat.le_refl _, rfl, by rw [Nat.sub_self]; simp only [hi5, Nat.sub_self, List.take_zero, List.map_nil]; exact World.ownsRow_nil _ _ _ _, Below.refl _ _⟩
  case round =>
    obtain ⟨m, hm, rfl, HO, HBw⟩ := hrel
    cases m with
    | zero =>
      go_wp2
      go_ret
      refine ⟨_, rfl, ?_, HBw.out⟩
      have := HO.out
      simp only [Nat.sub_zero] at this
      rw [show hi5 n 0 x = bigL n x by unfold hi5; rw [Nat.sub_zero, List.take_of_length_le (by rw [bigL_length]; exact Nat.le_refl n)]] at this
      exact this
    | succ m =>
      have HS := hid (hi5_step n m x (by omega))
      have hmc : m = 0 ∨ m = 1 ∨ m = 2 ∨ m = 3 ∨ m = 4 ∨ m = 5 ∨ m = 6 ∨ m = 7 := by omega
      have hxi : (x : Int) < 18446744073709551616 := by omega
      have hsz := HBw.out.size
      obtain ⟨y, HY⟩ : ∃ y, Hid (((x / 256 ^ m % 256 : Nat) : Int) = y) := ⟨_, rfl⟩
      rw [HY.out] at HS
      obtain ⟨k0, HK⟩ : ∃ k0, Hid (n - (m + 1) = k0) := ⟨_, rfl⟩
      have HK2 : Hid (n - m = k0 + 1) := by show _ = _; rw [← HK.out]; omega
      have hk0 : k0 ≤ 8 := by rw [← HK.out]; omega
      obtain ⟨lst, HLs⟩ : ∃ lst, Hid (hi5 n (m + 1) x = lst) := ⟨_, rfl⟩
      rw [HLs.out] at HS
      have HO' := hid HO.out
      rw [HK.out, HLs.out] at HO'
      clear HO
      rcases hmc with rfl | rfl | rfl | rfl | rfl | rfl | rfl | rfl
      all_goals
        go_wp2_with (at_builtin; refine wpList_append_byte rfl _ _ rfl W.heap.size _ _ _ rfl (HO'.out.alloc _) ⟨wr.heap.size, 0, none⟩ 1 y rfl ?q0 ?q1 ?q2 ?_)
        case q0 => rw [← HY.out]; simp; try omega
        case q1 => omega
        case q2 => simp; omega
        intro v' w2 hown2 hgr2 _
        have HO2 : Hid (w2.ownsRow W.heap.size 5 1 v' (k0 + 1) (lst.map (Value.int .u8) ++ [.int .u8 y])) := hown2
        have HB2 := hid ((HBw.out.alloc HBw.out.size _).grown hgr2 (by simp; omega) (fun k e => (HO'.out.lt k e).1))
        clear hown2 hgr2
        go_wp2
        exact ⟨⟨_, Nat.le_of_succ_le hm, rfl, by rw [HK2.out, HS.out, List.map_append]; exact HO2, HB2⟩, by simp [intOf]⟩
def fr1 (l : List Int) : List Int := bigL 8 l.length ++ l
theorem fr1_length (l : List Int) : (fr1 l).length = 8 + l.length := by simp [fr1, bigL_length]
theorem fr1_byt {l : List Int} (h : ∀ x ∈ l, 0 ≤ x ∧ x < 256) : ∀ x ∈ fr1 l, 0 ≤ x ∧ x < 256 := fun x hx => (List.mem_append.1 hx).elim (bigL_byt _ _ x) (h x)
set_option maxRecDepth 100000 in
set_option maxHeartbeats 1000000 in
theorem rframe_any (w : World) (v : Value) (l : List Int) (h : HB w v l) (hl : l.length ≤ 140737488355000) : Calls Tryd.prog 65 #[v] w fun e w' => ∃ v', e = .returned v' ∧ w'.ownsRow w.heap.size 5 1 v' (fr1 l).length ((fr1 l).map (Value.int .u8)) ∧ Below w.heap.size w w' := by
  obtain ⟨p, c, e, hlc, hm⟩ := h.open
  have HH := hid h
  obtain ⟨n, HN⟩ : ∃ n, Hid (l.length = n) := ⟨_, rfl⟩
  rw [HN.out] at e hl hlc
  subst e
  clear h
  go_enter Tryd.func65, Tryd.ntmps65
  go_wp2_with fail
  refine (rbig5_any w n 8 (by omega) (by omega)).mono ?_
  rintro e w1 ⟨v1, rfl, ho1, hB1⟩
  have HO := hid ho1
  have HB1 := hid hB1
  have H1 := hid (HH.out.below hB1)
  clear ho1 hB1
  go_wp2_with (at_builtin; refine wpList_append_HB rfl _ _ rfl w.heap.size _ _ _ rfl HO.out _ _ rfl H1.out ?q1 ?q2 ?_)
  case q1 => rw [HN.out]; omega
  case q2 => exact HB1.out.size
  intro v2 w2 ho2 hg2
  have HO2 : Hid (w2.ownsRow w.heap.size 5 1 v2 (fr1 l).length ((fr1 l).map (Value.int .u8))) := by
    rw [fr1_length]
    show World.ownsRow _ _ _ _ _ _ _
    unfold fr1
    rw [List.map_append, HN.out]
    rw [HN.out] at ho2
    exact ho2
  have HB2 : Hid (Below w.heap.size w w2) := HB1.out.grown hg2 HB1.out.size (fun k e => (HO.out.lt k e).1)
  clear ho2 hg2
  go_wp2
  go_ret
  exact ⟨_, rfl, HO2.out, HB2.out⟩
def strI (s : ByteArray) : List Int := s.data.toList.map fun b => ((b.toNat : Nat) : Int)
theorem strI_length (s : ByteArray) : (strI s).length = s.size := by
  unfold strI
  rw [List.length_map, Array.length_toList]
  rfl
theorem wpList_bytes_str {ops : Array Oper} {rest : List Oper} {o : Oper} {a : Act} {w : World} {Q : Exit → Act → World → Prop} (hgd : o.guard = none) (x : Operand) (ho : o.op = .convert 9 26 x) (s : ByteArray) (hx : a.eval x = .string s) (hs : s.size ≤ 1000)
    (h : ∀ v' w', HB w' v' (strI s) → Below w.heap.size w w' → wpList Tryd.prog ops Q rest (a.put o.dst v') w') : wpList Tryd.prog ops Q (o :: rest) a w :=
  wpList_plain hgd fun _ hK => by
    have hr := run_bytes_of_string (P := Tryd.prog) w 9 26 5 s Tryd.underlying9 Tryd.underlying26 Tryd.underlying5
    unfold Oper.wp
    simp only [execOp, ho, hx, Sem.run_bind, hr, Result.andThen_ok]
    have hge := grownCap_ge w s.size 0 5
    have hle := grownCap_le_maxLen w s.size 0 5 (by unfold maxLen; omega)
    refine hK _ _ (h _ _ ⟨⟨_, _, by rw [strI_length], by rw [strI_length]; exact hge, hle, (fun e => by cases e), fun _ => ⟨w.heap.size, 0, rfl, fun j hj => ?_⟩⟩, fun x hx => ?_⟩ ((Below.refl _ w).drew.alloc (Nat.le_refl _) _))
    · have hb : (w.drew.alloc (.cells (bytesRow s (grownCap w s.size 0 5)) 5 ((bytesRow s (grownCap w s.size 0 5)).size, (bytesRow s (grownCap w s.size 0 5)).size + 1))).heap[w.heap.size]? = some (.cells (bytesRow s (grownCap w s.size 0 5)) 5 ((bytesRow s (grownCap w s.size 0 5)).size, (bytesRow s (grownCap w s.size 0 5)).size + 1)) := heap_alloc_new w.drew _
      rw [cell_of_row _ _ _ _ _ _ hb]
      have hj2 : j < s.data.size := by rw [strI_length] at hj; exact hj
      have hj3 : j < s.size := hj2
      simp [bytesRow, Array.getElem?_append, hj3, strI, List.getD, Array.getElem?_eq_getElem hj2]
    · unfold strI at hx
      obtain ⟨b, _, rfl⟩ := List.mem_map.1 hx
      have := b.toNat_lt
      omega
def frK (wd : List Int) (ps : List (List Int)) (k : Nat) : List Int := framed (wd :: ps.take k)
theorem frK_zero (wd : List Int) (ps : List (List Int)) : frK wd ps 0 = fr1 wd := by simp [frK, framed, pcs, fr1]
theorem frK_snoc (wd : List Int) (ps : List (List Int)) (k : Nat) (hk : k < ps.length) : frK wd ps (k + 1) = frK wd ps k ++ fr1 (ps.getD k []) := by
  unfold frK framed
  rw [List.take_succ_eq_append_getElem hk]
  have e : ps.getD k [] = ps[k] := by simp [List.getD, List.getElem?_eq_getElem hk]
  rw [e]
  simp only [pcs, fr1, List.flatMap_cons, List.flatMap_append, List.flatMap_nil, List.flatten_append, List.flatten_cons, List.flatten_nil, List.append_nil, List.append_assoc, List.cons_append, List.nil_append]
theorem frK_all (wd : List Int) (ps : List (List Int)) : frK wd ps ps.length = framed (wd :: ps) := by simp [frK]
theorem frK_le (wd : List Int) (ps : List (List Int)) (k : Nat) : (frK wd ps k).length ≤ wd.length + 8 + (ps.flatten.length + 8 * ps.length) := by
  unfold frK
  rw [framed_length]
  have := flat_take_le ps k
  simp only [List.flatten_cons, List.length_append, List.length_cons, List.length_take]
  omega
theorem framed_byt : ∀ (ps : List (List Int)), (∀ l ∈ ps, ∀ x ∈ l, 0 ≤ x ∧ x < 256) → ∀ x ∈ framed ps, 0 ≤ x ∧ x < 256 := by
  intro ps h x hx
  unfold framed pcs at hx
  obtain ⟨l, h1, h2⟩ := List.mem_flatten.1 hx
  obtain ⟨q, h3, h4⟩ := List.mem_flatMap.1 h1
  simp only [List.mem_cons, List.not_mem_nil, or_false] at h4
  rcases h4 with rfl | rfl
  · exact bigL_byt _ _ x h2
  · exact h _ h3 x h2
end Go.Proofs.YtklklldmhoofnaaDoor
namespace Go.Proofs.YtklklldmhoofnaaDoor
open Go Go.RowKit
theorem wp_digits {o : Oper} {a : Act} {w : World} {K : Act → World → Prop} {Q : Exit → Act → World → Prop} (t : Nat) (tys : Array TypeId) (ho : o.op = .call { callee := .value (.func 32), args := #[.tmp t], argTypes := tys }) (x : Int) (hx : a.tmps[t]? = some (.int .i64 x)) (h0 : 0 ≤ x) (h1 : x ≤ 2147483647)
    (hc : ∀ w', Below w.heap.size w w' → K (a.put o.dst (.string (nS x))) w') : o.wp Tryd.prog a w K Q := by
  obtain ⟨dst, op, ty, pos, aft, gd⟩ := o
  dsimp only at ho hc
  subst ho
  have C := rdigits13_any w x (by omega) (by omega)
  go_simp
  refine C.mono ?_
  rintro e w' ⟨rfl, hb⟩
  exact hc w' hb
def SlB (w : World) (v : Value) (l : List Int) : Prop := ∃ p c, v = .slice p l.length c ∧ HB w (.slice p l.length c) l
def RwB' (w : World) (v : Value) (nm : ByteArray) (l : List Int) : Prop := ∃ p c, v = .agg #[.string nm, .slice p l.length c] ∧ HB w (.slice p l.length c) l
def HRs (w : World) (v : Value) (rs : List Rw) : Prop := HRw w v rs
theorem strI_nS (x : Int) (h : 0 ≤ x) : strI (nS x) = dgL x.toNat := by
  have := sB_nS x.toNat
  rw [show ((x.toNat : Nat) : Int) = x by omega] at this
  exact this
theorem nS_size10 (x : Int) (h0 : 0 ≤ x) (h1 : x ≤ 2147483647) : (nS x).size ≤ 1000 := by
  have a := strI_length (nS x)
  have b := dg_len_int x h1
  rw [strI_nS x h0] at a
  have c : (dgL x.toNat).length ≤ 10 := by
    rw [dgL_length]
    have := dec_len_mono 2147483647 x.toNat (by omega)
    have h2 : (Lib.decDigits 2147483647).length = 10 := by decide +kernel
    omega
  omega
theorem wp_bytes_str {o : Oper} {a : Act} {w : World} {K : Act → World → Prop} {Q : Exit → Act → World → Prop} (t : Nat) (ho : o.op = .convert 9 26 (.tmp t)) (s : ByteArray) (hx : a.tmps[t]? = some (.string s)) (hs : s.size ≤ 1000)
    (h : ∀ v' w', HB w' v' (strI s) → Below w.heap.size w w' → K (a.put o.dst v') w') : o.wp Tryd.prog a w K Q := by
  have hx' : a.eval (.tmp t) = .string s := by simp [Act.eval, hx]
  have hr := run_bytes_of_string (P := Tryd.prog) w 9 26 5 s Tryd.underlying9 Tryd.underlying26 Tryd.underlying5
  unfold Oper.wp
  simp only [execOp, ho, hx', Sem.run_bind, hr, Result.andThen_ok]
  have hge := grownCap_ge w s.size 0 5
  have hle := grownCap_le_maxLen w s.size 0 5 (by unfold maxLen; omega)
  refine (h _ _ ⟨⟨_, _, by rw [strI_length], by rw [strI_length]; exact hge, hle, (fun e => by cases e), fun _ => ⟨w.heap.size, 0, rfl, fun j hj => ?_⟩⟩, fun x hx => ?_⟩ ((Below.refl _ w).drew.alloc (Nat.le_refl _) _))
  · have hb : (w.drew.alloc (.cells (bytesRow s (grownCap w s.size 0 5)) 5 ((bytesRow s (grownCap w s.size 0 5)).size, (bytesRow s (grownCap w s.size 0 5)).size + 1))).heap[w.heap.size]? = some (.cells (bytesRow s (grownCap w s.size 0 5)) 5 ((bytesRow s (grownCap w s.size 0 5)).size, (bytesRow s (grownCap w s.size 0 5)).size + 1)) := heap_alloc_new w.drew _
    rw [cell_of_row _ _ _ _ _ _ hb]
    have hj2 : j < s.data.size := by rw [strI_length] at hj; exact hj
    have hj3 : j < s.size := hj2
    simp [bytesRow, Array.getElem?_append, hj3, strI, List.getD, Array.getElem?_eq_getElem hj2]
  · unfold strI at hx
    obtain ⟨b, _, rfl⟩ := List.mem_map.1 hx
    have := b.toNat_lt
    omega
def rrF (u : Ub) (b : Nat) : Nat → World → Value → Prop
  | 0, _, v => v = .pointer (some ⟨b, 0, none⟩)
  | 1, _, v => v = .int .i64 u.k
  | 2, _, v => v = .string (nS u.k)
  | 3, w, v => SlB w v (dgL u.k.toNat)
  | 4, w, v => RwB' w v nmK (dgL u.k.toNat)
  | 5, _, v => v = .pointer (some ⟨b, 1, none⟩)
  | 6, _, v => v = .int .i64 u.n
  | 7, _, v => v = .string (nS u.n)
  | 8, w, v => SlB w v (dgL u.n.toNat)
  | 9, w, v => RwB' w v nmN (dgL u.n.toNat)
  | 10, _, v => v = .pointer (some ⟨b, 2, none⟩)
  | 11, _, v => v = .int .i64 u.g
  | 12, _, v => v = .string (nS u.g)
  | 13, w, v => SlB w v (dgL u.g.toNat)
  | 14, w, v => RwB' w v nmSeg (dgL u.g.toNat)
  | 15, w, v => SlB w v u.b
  | 16, w, v => RwB' w v nmSegs u.b
  | 17, w, v => SlB w v u.a
  | 18, w, v => RwB' w v nmShares u.a
  | 19, _, v => v = .pointer (some ⟨b, 3, none⟩)
  | 20, _, v => v = .int .i64 u.z
  | 21, _, v => v = .string (nS u.z)
  | 22, w, v => SlB w v (dgL u.z.toNat)
  | 23, w, v => RwB' w v nmSize (dgL u.z.toNat)
  | 24, w, v => HRs w v (ubRows u)
  | 25, w, v => HRs w v (ubRows u)
  | _, _, _ => True
theorem rrF_below (u : Ub) (b : Nat) : ∀ (i : Nat) (w w' : World) (v : Value), rrF u b i w v → Below w.heap.size w w' → rrF u b i w' v := by
  have k1 : ∀ (w w' : World) (v : Value) (l : List Int), SlB w v l → Below w.heap.size w w' → SlB w' v l := fun w w' v l ⟨p, c, e, h⟩ hb => ⟨p, c, e, h.below hb⟩
  have k2 : ∀ (w w' : World) (v : Value) (nm : ByteArray) (l : List Int), RwB' w v nm l → Below w.heap.size w w' → RwB' w' v nm l := fun w w' v nm l ⟨p, c, e, h⟩ hb => ⟨p, c, e, h.below hb⟩
  intro i w w' v h hb
  match i, h with
  | 0, h => exact h
  | 1, h => exact h
  | 2, h => exact h
  | 3, h => exact k1 _ _ _ _ h hb
  | 4, h => exact k2 _ _ _ _ _ h hb
  | 5, h => exact h
  | 6, h => exact h
  | 7, h => exact h
  | 8, h => exact k1 _ _ _ _ h hb
  | 9, h => exact k2 _ _ _ _ _ h hb
  | 10, h => exact h
  | 11, h => exact h
  | 12, h => exact h
  | 13, h => exact k1 _ _ _ _ h hb
  | 14, h => exact k2 _ _ _ _ _ h hb
  | 15, h => exact k1 _ _ _ _ h hb
  | 16, h => exact k2 _ _ _ _ _ h hb
  | 17, h => exact k1 _ _ _ _ h hb
  | 18, h => exact k2 _ _ _ _ _ h hb
  | 19, h => exact h
  | 20, h => exact h
  | 21, h => exact h
  | 22, h => exact k1 _ _ _ _ h hb
  | 23, h => exact k2 _ _ _ _ _ h hb
  | 24, h => exact HRw.below h hb
  | 25, h => exact HRw.below h hb
  | i + 26, h => trivial
def dstR (i : Nat) : Nat := if i = 25 then 2 else 13 + i
set_option maxRecDepth 100000 in
set_option maxHeartbeats 16000000 in
theorem rrows_any (w : World) (u : Ub) (hu : u.ok) (h : RB u) : Calls Tryd.prog 19 #[.agg (ubA u)] w fun e w' => ∃ v, e = .returned v ∧ HRw w' v (ubRows u) ∧ Below w.heap.size w w' := by
  obtain ⟨w0, HW0⟩ : ∃ x, Hid (w.alloc (.cells (ubA u) 25) = x) := ⟨_, rfl⟩
  have H0 : Hid (w0.heap[w.heap.size]? = some (.cells (ubA u) 25 (0, 0))) := by refine hid ?_; rw [← HW0.out]; exact heap_alloc_new w _
  have B0 : Hid (Below w.heap.size w w0) := by refine hid ?_; rw [← HW0.out]; exact (Below.refl w.heap.size w).alloc (Nat.le_refl _) _
  have Z0 : Hid (w0.heap.size = w.heap.size + 1) := by refine hid ?_; rw [← HW0.out]; simp
  have HB5 : Hid (HB w0 (.slice (some ⟨w.heap.size, 36, none⟩) 32 32) u.b) := hid (HB_part H0.out hu.2.1 hu.2.2 (ubA_b hu))
  have HB4 : Hid (HB w0 (.slice (some ⟨w.heap.size, 4, none⟩) 32 32) u.a) := hid (HB_part H0.out hu.1.1 hu.1.2 (ubA_a hu))
  have GK : Hid ((ubA u)[0]? = some (.int .i64 u.k) ∧ (ubA u)[1]? = some (.int .i64 u.n) ∧ (ubA u)[2]? = some (.int .i64 u.g) ∧ (ubA u)[3]? = some (.int .i64 u.z)) := hid ⟨rfl, rfl, rfl, rfl⟩
  have HLA := hid hu.1.1
  have HLB := hid hu.2.1
  have HYA := hid hu.1.2
  have HYB := hid hu.2.2
  obtain ⟨m, Hm⟩ : ∃ x, Hid (ubA u = x) := ⟨_, rfl⟩
  rw [Hm.out] at HW0 H0 GK
  rw [Hm.out]
  have HRB := hid h
  clear h hu Hm
  go_enter Tryd.func19, Tryd.ntmps19
  refine wp_seq_k fun K1 h1 => ?_
  have HK1 := hid h1
  clear h1
  go_wp2
  rw [HW0.out]
  refine HK1.out _ _ ?_
  clear HK1 K1
  go_wp2_with (at_builtin; refine wpList_append_bytes rfl _ _ rfl w0.heap.size _ 0 [] rfl (World.ownsRow_nil _ _ _ _) _ u.b rfl HB5.out (by rw [HLB.out]; omega) (Nat.le_refl _) (fun v1 w1 ho1 hg1 _ => Hid.out ?_))
  have b1 : Below w0.heap.size w0 w1 := (Below.refl _ _).grown hg1 (Nat.le_refl _) (fun q e => by cases e)
  have V1 := hid (HB.of_own (l := u.b) (by simpa using ho1) HYB.out)
  have A1 := hid (HB4.out.below b1)
  have B1 := hid (B0.out.trans (b1.mono B0.out.size))
  have H1 := hid ((b1.block w.heap.size (by rw [Z0.out]; omega)).trans H0.out)
  have Z1 : Hid (w.heap.size < w1.heap.size) := hid (by have := b1.size; rw [Z0.out] at this; omega)
  obtain ⟨p1, c1, rfl, _, _⟩ := V1.out.open
  clear ho1 hg1 b1
  refine hid ?_
  go_wp2_with (at_builtin; refine wpList_append_bytes rfl _ _ rfl w1.heap.size _ 0 [] rfl (World.ownsRow_nil _ _ _ _) _ u.a rfl A1.out (by rw [HLA.out]; omega) (Nat.le_refl _) (fun v2 w2 ho2 hg2 _ => Hid.out ?_))
  have b2 : Below w1.heap.size w1 w2 := (Below.refl _ _).grown hg2 (Nat.le_refl _) (fun q e => by cases e)
  have V2 := hid (HB.of_own (l := u.a) (by simpa using ho2) HYA.out)
  have V1 := hid (V1.out.below b2)
  have B2 := hid (B1.out.trans (b2.mono B1.out.size))
  have H2 := hid ((b2.block w.heap.size Z1.out).trans H1.out)
  have Z2 : Hid (w.heap.size < w2.heap.size) := hid (by have := b2.size; have := Z1.out; omega)
  obtain ⟨p2, c2, rfl, _, _⟩ := V2.out.open
  clear ho2 hg2 b2
  refine hid ?_
  go_wp2
  refine wp_region_held_drew (S := fun _ => True) (by kernel_rfl) trivial (fun hHeld => ?_)
  change wpAnyH _ _ _ _ _ _ _ _ (World.drew _)
  refine held_true _ _ _ _ ?_
  clear hHeld
  refine wpAny_rel (low_of (by kernel_rfl)) (dst := dstR) (Φ := rrF u w.heap.size) (Array.replicate 26 false) rfl ?hdst ?hops ?hin (rrF_below u w.heap.size) ?step ?fin 26 (by kernel_rfl)
  case hdst =>
    intro i j hi hj _ _ e
    have hi : i < 26 := hi
    have hj : j < 26 := hj
    unfold dstR at e
    split at e <;> split at e <;> omega
  case hops =>
    intro i o ho _
    have hi : i < 26 := (Array.getElem?_eq_some_iff.1 ho).1
    match i, hi, ho with
    | 0, _, ho => obtain rfl := Option.some.inj ho; rfl
    | 1, _, ho => obtain rfl := Option.some.inj ho; rfl
    | 2, _, ho => obtain rfl := Option.some.inj ho; rfl
    | 3, _, ho => obtain rfl := Option.some.inj ho; rfl
    | 4, _, ho => obtain rfl := Option.some.inj ho; rfl
    | 5, _, ho => obtain rfl := Option.some.inj ho; rfl
    | 6, _, ho => obtain rfl := Option.some.inj ho; rfl
    | 7, _, ho => obtain rfl := Option.some.inj ho; rfl
    | 8, _, ho => obtain rfl := Option.some.inj ho; rfl
    | 9, _, ho => obtain rfl := Option.some.inj ho; rfl
    | 10, _, ho => obtain rfl := Option.some.inj ho; rfl
    | 11, _, ho => obtain rfl := Option.some.inj ho; rfl
    | 12, _, ho => obtain rfl := Option.some.inj ho; rfl
    | 13, _, ho => obtain rfl := Option.some.inj ho; rfl
    | 14, _, ho => obtain rfl := Option.some.inj ho; rfl
    | 15, _, ho => obtain rfl := Option.some.inj ho; rfl
    | 16, _, ho => obtain rfl := Option.some.inj ho; rfl
    | 17, _, ho => obtain rfl := Option.some.inj ho; rfl
    | 18, _, ho => obtain rfl := Option.some.inj ho; rfl
    | 19, _, ho => obtain rfl := Option.some.inj ho; rfl
    | 20, _, ho => obtain rfl := Option.some.inj ho; rfl
    | 21, _, ho => obtain rfl := Option.some.inj ho; rfl
    | 22, _, ho => obtain rfl := Option.some.inj ho; rfl
    | 23, _, ho => obtain rfl := Option.some.inj ho; rfl
    | 24, _, ho => obtain rfl := Option.some.inj ho; rfl
    | 25, _, ho => obtain rfl := Option.some.inj ho; rfl
  case hin =>
    intro i hi _
    have hi : i < 26 := hi
    show dstR i < 38
    unfold dstR
    split <;> omega
  case fin =>
    intro a w3 vals hdf hall hb3
    obtain ⟨ea, fa⟩ := hall 25 (by show 25 < 26; omega) rfl
    have e2 : a.tmps[2]? = some (vals 25) := ea
    have f2 : HRw w3 (vals 25) (ubRows u) := fa
    have F2 := hid f2
    clear ea fa
    have B3 := hid (B2.out.trans (((Below.refl _ w2).drew.trans (hb3.mono (by simp))).mono B2.out.size))
    have hdf : a.defers = [] := hdf.1
    clear hall f2 hb3
    obtain ⟨tm, df⟩ := a
    dsimp only at e2 hdf
    subst hdf
    go_wp2
    refine bodyPost_ret (v := vals 25) ?_ rfl ?_
    · simp [results, Tryd.f19, e2]
    · exact ⟨_, rfl, F2.out, B3.out⟩
  case step =>
    intro i o ho _ a w3 K vals L hR hd hK
    have hi : i < 26 := (Array.getElem?_eq_some_iff.1 ho).1
    have hrest : ∀ s, s < 13 → s ≠ 2 → a.tmps[s]? = (_ : Act).tmps[s]? := fun s h1 h2 => hR.rest s (fun j hj _ => by have hj : j < 26 := hj; unfold dstR; split <;> omega)
    have t1 : a.tmps[1]? = some (.pointer (some ⟨w.heap.size, 0, none⟩)) := hrest 1 (by omega) (by omega)
    have t3 : a.tmps[3]? = some (.slice p1 u.b.length c1) := hrest 3 (by omega) (by omega)
    have t4 : a.tmps[4]? = some (.slice p2 u.a.length c2) := hrest 4 (by omega) (by omega)
    have BB : Below w2.heap.size w2 w3 := by have := hR.bel; exact (Below.refl _ w2).drew.trans (this.mono (by simp))
    have H3 := (BB.block w.heap.size Z2.out).trans H2.out
    have DN : ∀ j, j < 26 → L[j]? = some true → a.tmps[dstR j]? = some (vals j) ∧ rrF u w.heap.size j w3 (vals j) := fun j hj hL => hR.done j hj (by simp [hj]) hL
    obtain ⟨⟨k0, k1⟩, ⟨n0, n1⟩, ⟨g0, g1⟩, z0, z1⟩ := HRB.out
    clear hrest
    match i, hi, ho with
    | 0, _, ho =>
      obtain rfl := Option.some.inj ho
      clear DN H3 t3 t4
      go_simp
      exact hK _ _ rfl (Below.refl _ _)
    | 1, _, ho =>
      obtain rfl := Option.some.inj ho
      have hd0 := DN 0 (by omega) (hd ⟨0, .data⟩ (by simp) rfl)
      obtain ⟨e0, f0⟩ := hd0
      have e0 : a.tmps[13]? = some (.pointer (some ⟨w.heap.size, 0, none⟩)) := by have := e0; rw [show vals 0 = _ from f0] at this; exact this
      have c : w3.cell? ⟨w.heap.size, 0, none⟩ = some (.int .i64 u.k) := (cell_of_row _ _ _ _ _ _ H3).trans GK.out.1
      clear DN H3 t1 t3 t4 f0
      go_simp
      exact hK _ _ rfl (Below.refl _ _)
    | 2, _, ho =>
      obtain rfl := Option.some.inj ho
      have hd1 := DN 1 (by omega) (hd ⟨1, .data⟩ (by simp) rfl)
      obtain ⟨e1, f1⟩ := hd1
      have e1 : a.tmps[14]? = some (.int .i64 u.k) := by have := e1; rw [show vals 1 = _ from f1] at this; exact this
      exact wp_digits 14 _ rfl u.k e1 k0 k1 (fun w' hb => hK _ _ rfl hb)
    | 3, _, ho =>
      obtain rfl := Option.some.inj ho
      have hd2 := DN 2 (by omega) (hd ⟨2, .data⟩ (by simp) rfl)
      obtain ⟨e2, f2⟩ := hd2
      have e2 : a.tmps[15]? = some (.string (nS u.k)) := by have := e2; rw [show vals 2 = _ from f2] at this; exact this
      exact wp_bytes_str 15 rfl (nS u.k) e2 (nS_size10 u.k k0 k1) (fun v' w' hv hb => hK _ _ (by rw [strI_nS u.k k0] at hv; obtain ⟨p, c, e, _, _⟩ := hv.open; subst e; exact ⟨p, c, rfl, hv⟩) hb)
    | 4, _, ho =>
      obtain rfl := Option.some.inj ho
      have hd3 := DN 3 (by omega) (hd ⟨3, .data⟩ (by simp) rfl)
      obtain ⟨e3, f3⟩ := hd3
      obtain ⟨p, c, ev, hv⟩ := f3
      rw [ev] at e3
      have e3 : a.tmps[16]? = some (.slice p _ c) := e3
      clear DN H3 t1 t3 t4 ev
      go_simp
      exact hK _ _ ⟨p, c, rfl, hv⟩ (Below.refl _ _)
    | 5, _, ho =>
      obtain rfl := Option.some.inj ho
      clear DN H3 t3 t4
      go_simp
      exact hK _ _ rfl (Below.refl _ _)
    | 6, _, ho =>
      obtain rfl := Option.some.inj ho
      have hd5 := DN 5 (by omega) (hd ⟨5, .data⟩ (by simp) rfl)
      obtain ⟨e5, f5⟩ := hd5
      have e5 : a.tmps[18]? = some (.pointer (some ⟨w.heap.size, 1, none⟩)) := by have := e5; rw [show vals 5 = _ from f5] at this; exact this
      have c : w3.cell? ⟨w.heap.size, 1, none⟩ = some (.int .i64 u.n) := (cell_of_row _ _ _ _ _ _ H3).trans GK.out.2.1
      clear DN H3 t1 t3 t4 f5
      go_simp
      exact hK _ _ rfl (Below.refl _ _)
    | 7, _, ho =>
      obtain rfl := Option.some.inj ho
      have hd6 := DN 6 (by omega) (hd ⟨6, .data⟩ (by simp) rfl)
      obtain ⟨e6, f6⟩ := hd6
      have e6 : a.tmps[19]? = some (.int .i64 u.n) := by have := e6; rw [show vals 6 = _ from f6] at this; exact this
      exact wp_digits 19 _ rfl u.n e6 n0 n1 (fun w' hb => hK _ _ rfl hb)
    | 8, _, ho =>
      obtain rfl := Option.some.inj ho
      have hd7 := DN 7 (by omega) (hd ⟨7, .data⟩ (by simp) rfl)
      obtain ⟨e7, f7⟩ := hd7
      have e7 : a.tmps[20]? = some (.string (nS u.n)) := by have := e7; rw [show vals 7 = _ from f7] at this; exact this
      exact wp_bytes_str 20 rfl (nS u.n) e7 (nS_size10 u.n n0 n1) (fun v' w' hv hb => hK _ _ (by rw [strI_nS u.n n0] at hv; obtain ⟨p, c, e, _, _⟩ := hv.open; subst e; exact ⟨p, c, rfl, hv⟩) hb)
    | 9, _, ho =>
      obtain rfl := Option.some.inj ho
      have hd8 := DN 8 (by omega) (hd ⟨8, .data⟩ (by simp) rfl)
      obtain ⟨e8, f8⟩ := hd8
      obtain ⟨p, c, ev, hv⟩ := f8
      rw [ev] at e8
      have e8 : a.tmps[21]? = some (.slice p _ c) := e8
      clear DN H3 t1 t3 t4 ev
      go_simp
      exact hK _ _ ⟨p, c, rfl, hv⟩ (Below.refl _ _)
    | 10, _, ho =>
      obtain rfl := Option.some.inj ho
      clear DN H3 t3 t4
      go_simp
      exact hK _ _ rfl (Below.refl _ _)
    | 11, _, ho =>
      obtain rfl := Option.some.inj ho
      have hd10 := DN 10 (by omega) (hd ⟨10, .data⟩ (by simp) rfl)
      obtain ⟨e10, f10⟩ := hd10
      have e10 : a.tmps[23]? = some (.pointer (some ⟨w.heap.size, 2, none⟩)) := by have := e10; rw [show vals 10 = _ from f10] at this; exact this
      have c : w3.cell? ⟨w.heap.size, 2, none⟩ = some (.int .i64 u.g) := (cell_of_row _ _ _ _ _ _ H3).trans GK.out.2.2.1
      clear DN H3 t1 t3 t4 f10
      go_simp
      exact hK _ _ rfl (Below.refl _ _)
    | 12, _, ho =>
      obtain rfl := Option.some.inj ho
      have hd11 := DN 11 (by omega) (hd ⟨11, .data⟩ (by simp) rfl)
      obtain ⟨e11, f11⟩ := hd11
      have e11 : a.tmps[24]? = some (.int .i64 u.g) := by have := e11; rw [show vals 11 = _ from f11] at this; exact this
      exact wp_digits 24 _ rfl u.g e11 g0 g1 (fun w' hb => hK _ _ rfl hb)
    | 13, _, ho =>
      obtain rfl := Option.some.inj ho
      have hd12 := DN 12 (by omega) (hd ⟨12, .data⟩ (by simp) rfl)
      obtain ⟨e12, f12⟩ := hd12
      have e12 : a.tmps[25]? = some (.string (nS u.g)) := by have := e12; rw [show vals 12 = _ from f12] at this; exact this
      exact wp_bytes_str 25 rfl (nS u.g) e12 (nS_size10 u.g g0 g1) (fun v' w' hv hb => hK _ _ (by rw [strI_nS u.g g0] at hv; obtain ⟨p, c, e, _, _⟩ := hv.open; subst e; exact ⟨p, c, rfl, hv⟩) hb)
    | 14, _, ho =>
      obtain rfl := Option.some.inj ho
      have hd13 := DN 13 (by omega) (hd ⟨13, .data⟩ (by simp) rfl)
      obtain ⟨e13, f13⟩ := hd13
      obtain ⟨p, c, ev, hv⟩ := f13
      rw [ev] at e13
      have e13 : a.tmps[26]? = some (.slice p _ c) := e13
      clear DN H3 t1 t3 t4 ev
      go_simp
      exact hK _ _ ⟨p, c, rfl, hv⟩ (Below.refl _ _)
    | 15, _, ho =>
      obtain rfl := Option.some.inj ho
      clear DN H3 t1 t4
      go_simp
      exact hK _ _ ⟨p1, c1, rfl, V1.out.below BB⟩ (Below.refl _ _)
    | 16, _, ho =>
      obtain rfl := Option.some.inj ho
      have hd15 := DN 15 (by omega) (hd ⟨15, .data⟩ (by simp) rfl)
      obtain ⟨e15, f15⟩ := hd15
      obtain ⟨p, c, ev, hv⟩ := f15
      rw [ev] at e15
      have e15 : a.tmps[28]? = some (.slice p _ c) := e15
      clear DN H3 t1 t3 t4 ev
      go_simp
      exact hK _ _ ⟨p, c, rfl, hv⟩ (Below.refl _ _)
    | 17, _, ho =>
      obtain rfl := Option.some.inj ho
      clear DN H3 t1 t3
      go_simp
      exact hK _ _ ⟨p2, c2, rfl, V2.out.below BB⟩ (Below.refl _ _)
    | 18, _, ho =>
      obtain rfl := Option.some.inj ho
      have hd17 := DN 17 (by omega) (hd ⟨17, .data⟩ (by simp) rfl)
      obtain ⟨e17, f17⟩ := hd17
      obtain ⟨p, c, ev, hv⟩ := f17
      rw [ev] at e17
      have e17 : a.tmps[30]? = some (.slice p _ c) := e17
      clear DN H3 t1 t3 t4 ev
      go_simp
      exact hK _ _ ⟨p, c, rfl, hv⟩ (Below.refl _ _)
    | 19, _, ho =>
      obtain rfl := Option.some.inj ho
      clear DN H3 t3 t4
      go_simp
      exact hK _ _ rfl (Below.refl _ _)
    | 20, _, ho =>
      obtain rfl := Option.some.inj ho
      have hd19 := DN 19 (by omega) (hd ⟨19, .data⟩ (by simp) rfl)
      obtain ⟨e19, f19⟩ := hd19
      have e19 : a.tmps[32]? = some (.pointer (some ⟨w.heap.size, 3, none⟩)) := by have := e19; rw [show vals 19 = _ from f19] at this; exact this
      have c : w3.cell? ⟨w.heap.size, 3, none⟩ = some (.int .i64 u.z) := (cell_of_row _ _ _ _ _ _ H3).trans GK.out.2.2.2
      clear DN H3 t1 t3 t4 f19
      go_simp
      exact hK _ _ rfl (Below.refl _ _)
    | 21, _, ho =>
      obtain rfl := Option.some.inj ho
      have hd20 := DN 20 (by omega) (hd ⟨20, .data⟩ (by simp) rfl)
      obtain ⟨e20, f20⟩ := hd20
      have e20 : a.tmps[33]? = some (.int .i64 u.z) := by have := e20; rw [show vals 20 = _ from f20] at this; exact this
      exact wp_digits 33 _ rfl u.z e20 z0 z1 (fun w' hb => hK _ _ rfl hb)
    | 22, _, ho =>
      obtain rfl := Option.some.inj ho
      have hd21 := DN 21 (by omega) (hd ⟨21, .data⟩ (by simp) rfl)
      obtain ⟨e21, f21⟩ := hd21
      have e21 : a.tmps[34]? = some (.string (nS u.z)) := by have := e21; rw [show vals 21 = _ from f21] at this; exact this
      exact wp_bytes_str 34 rfl (nS u.z) e21 (nS_size10 u.z z0 z1) (fun v' w' hv hb => hK _ _ (by rw [strI_nS u.z z0] at hv; obtain ⟨p, c, e, _, _⟩ := hv.open; subst e; exact ⟨p, c, rfl, hv⟩) hb)
    | 23, _, ho =>
      obtain rfl := Option.some.inj ho
      have hd22 := DN 22 (by omega) (hd ⟨22, .data⟩ (by simp) rfl)
      obtain ⟨e22, f22⟩ := hd22
      obtain ⟨p, c, ev, hv⟩ := f22
      rw [ev] at e22
      have e22 : a.tmps[35]? = some (.slice p _ c) := e22
      clear DN H3 t1 t3 t4 ev
      go_simp
      exact hK _ _ ⟨p, c, rfl, hv⟩ (Below.refl _ _)
    | 24, _, ho =>
      obtain rfl := Option.some.inj ho
      have hd4 := DN 4 (by omega) (hd ⟨4, .data⟩ (by simp) rfl)
      obtain ⟨e4, f4⟩ := hd4
      obtain ⟨q4, c4, ev4, hv4⟩ := f4
      rw [ev4] at e4
      have e4 : a.tmps[17]? = some _ := e4
      clear ev4
      have hd9 := DN 9 (by omega) (hd ⟨9, .data⟩ (by simp) rfl)
      obtain ⟨e9, f9⟩ := hd9
      obtain ⟨q9, c9, ev9, hv9⟩ := f9
      rw [ev9] at e9
      have e9 : a.tmps[22]? = some _ := e9
      clear ev9
      have hd14 := DN 14 (by omega) (hd ⟨14, .data⟩ (by simp) rfl)
      obtain ⟨e14, f14⟩ := hd14
      obtain ⟨q14, c14, ev14, hv14⟩ := f14
      rw [ev14] at e14
      have e14 : a.tmps[27]? = some _ := e14
      clear ev14
      have hd16 := DN 16 (by omega) (hd ⟨16, .data⟩ (by simp) rfl)
      obtain ⟨e16, f16⟩ := hd16
      obtain ⟨q16, c16, ev16, hv16⟩ := f16
      rw [ev16] at e16
      have e16 : a.tmps[29]? = some _ := e16
      clear ev16
      have hd18 := DN 18 (by omega) (hd ⟨18, .data⟩ (by simp) rfl)
      obtain ⟨e18, f18⟩ := hd18
      obtain ⟨q18, c18, ev18, hv18⟩ := f18
      rw [ev18] at e18
      have e18 : a.tmps[31]? = some _ := e18
      clear ev18
      have hd23 := DN 23 (by omega) (hd ⟨23, .data⟩ (by simp) rfl)
      obtain ⟨e23, f23⟩ := hd23
      obtain ⟨q23, c23, ev23, hv23⟩ := f23
      rw [ev23] at e23
      have e23 : a.tmps[36]? = some _ := e23
      clear ev23
      clear DN H3 t1 t3 t4
      have HA := heap_alloc_new w3 (.cells #[.string nmK, .slice q4 (dgL u.k.toNat).length c4, .string nmN, .slice q9 (dgL u.n.toNat).length c9, .string nmSeg, .slice q14 (dgL u.g.toNat).length c14, .string nmSegs, .slice q16 u.b.length c16, .string nmShares, .slice q18 u.a.length c18, .string nmSize, .slice q23 (dgL u.z.toNat).length c23] 49)
      have BA := (Below.refl w3.heap.size w3).alloc (Nat.le_refl _) (.cells #[.string nmK, .slice q4 (dgL u.k.toNat).length c4, .string nmN, .slice q9 (dgL u.n.toNat).length c9, .string nmSeg, .slice q14 (dgL u.g.toNat).length c14, .string nmSegs, .slice q16 u.b.length c16, .string nmShares, .slice q18 u.a.length c18, .string nmSize, .slice q23 (dgL u.z.toNat).length c23] 49)
      have HR6 : HRw (w3.alloc (.cells #[.string nmK, .slice q4 (dgL u.k.toNat).length c4, .string nmN, .slice q9 (dgL u.n.toNat).length c9, .string nmSeg, .slice q14 (dgL u.g.toNat).length c14, .string nmSegs, .slice q16 u.b.length c16, .string nmShares, .slice q18 u.a.length c18, .string nmSize, .slice q23 (dgL u.z.toNat).length c23] 49)) (.slice (some ⟨w3.heap.size, 0, none⟩) 6 6) (ubRows u) := by
        refine HRw.of_own (base := 0) (e := 49) (vs := [.slice q4 (dgL u.k.toNat).length c4, .slice q9 (dgL u.n.toNat).length c9, .slice q14 (dgL u.g.toNat).length c14, .slice q16 u.b.length c16, .slice q18 u.a.length c18, .slice q23 (dgL u.z.toNat).length c23]) ⟨rfl, .inr ⟨w3.heap.size, 6, _, rfl, Nat.zero_le _, HA, Nat.le_refl _, by unfold maxLen; omega, rfl, rfl⟩⟩ rfl ?_
        intro i hi
        match i, hi with
        | 0, _ => exact hv4.below BA
        | 1, _ => exact hv9.below BA
        | 2, _ => exact hv14.below BA
        | 3, _ => exact hv16.below BA
        | 4, _ => exact hv18.below BA
        | 5, _ => exact hv23.below BA
        | i + 6, h => simp [ubRows] at h; omega
      clear hv4 hv9 hv14 hv16 hv18 hv23 HA
      go_simp
      exact hK _ _ HR6 BA
    | 25, _, ho =>
      obtain rfl := Option.some.inj ho
      have hd24 := DN 24 (by omega) (hd ⟨24, .data⟩ (by simp) rfl)
      obtain ⟨e24, f24⟩ := hd24
      have e24 : a.tmps[37]? = some (vals 24) := e24
      clear DN H3 t1 t3 t4
      go_simp
      exact hK _ _ f24 (Below.refl _ _)
end Go.Proofs.YtklklldmhoofnaaDoor
