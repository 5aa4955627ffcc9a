/- Of the road to uebReadCard_holds: TgRef, TgRefA, UbRRows, UbRRead, Marks, UbRdWalk, BsLaid. -/
import Derived.Test.YtklklldmhoofnaaDoorG23
import Derived.Test.YtklklldmhoofnaaDoorG02
import Derived.Test.YtklklldmhoofnaaDoorG01
import Derived.Laws.IdiomStrings
import Derived.Test.YtklklldmhoofnaaDoorG11
import Derived.Test.YtklklldmhoofnaaDoorG13
import Derived.Test.YtklklldmhoofnaaDoorG04
import Derived.Test.YtklklldmhoofnaaDoorG06
import Derived.Test.YtklklldmhoofnaaDoorG08
import Derived.Test.YtklklldmhoofnaaDoorG10
import Derived.Test.YtklklldmhoofnaaDoorG19
import Derived.Test.YtklklldmhoofnaaDoorG05
import Derived.Test.YtklklldmhoofnaaDoorRows
import Derived.ProofKit
import Derived.OpenShut
import Derived.LaidLaws
import Derived.Lay
import Derived.MakeChecks
import Derived.Stop.LaidErr
import Derived.Lib.LaidTab
set_option linter.unusedVariables false
set_option linter.unusedSimpArgs false
namespace Go.Proofs.YtklklldmhoofnaaDoor
open Go.RowKit
def hi5 (n m x : Nat) : List Int := (bigL n x).take (n - m)
theorem hi5_step (n m x : Nat) (h : m < n) : hi5 n m x = hi5 n (m + 1) x ++ [((x / 256 ^ m % 256 : Nat) : Int)] := by
  have key : ∀ r j, j < r → (bigL r x)[j]? = some ((x / 256 ^ (r - 1 - j) % 256 : Nat) : Int) := by
    intro r
    induction r with
    | zero => intro j hj; omega
    | succ r ih =>
      intro j hj
      cases j with
      | zero => simp [bigL]
      | succ j =>
        simp only [bigL, List.getElem?_cons_succ]
        rw [ih j (by omega), show r + 1 - 1 - (j + 1) = r - 1 - j by omega]
  unfold hi5
  have e : n - m = (n - (m + 1)) + 1 := by omega
  rw [e, List.take_add_one, key n _ (by omega), show n - 1 - (n - (m + 1)) = m by omega]
  rfl
set_option maxRecDepth 100000 in
set_option maxHeartbeats 1000000 in
theorem rbig5_any (W : World) (x n : Nat) (hx : x < 18446744073709551616) (hn : n ≤ 8) : Calls Tryd.prog 74 #[.int .u64 (x : Int), .int .i64 (n : Int)] W fun e W' => ∃ v', e = .returned v' ∧ W'.ownsRow W.heap.size 5 1 v' n ((bigL n x).map (Value.int .u8)) ∧ Below W.heap.size W W' := by
  go_enter Tryd.func74, Tryd.ntmps74
  go_wp2
  go_loopw [5, 6] (fun o i wr => ∃ m : Nat, m ≤ n ∧ i = .int .i64 ((m : Int) - 1) ∧ Hid (wr.ownsRow W.heap.size 5 1 o (n - m) ((hi5 n m x).map (Value.int .u8))) ∧ Hid (Below W.heap.size W wr)) (fun _ i _ => (intOf i + 1).toNat)
  case atStart => exact ⟨n, Nat.le_refl _, rfl, by rw [Nat.sub_self]; simp only [hi5, Nat.sub_self, List.take_zero, List.map_nil]; exact World.ownsRow_nil _ _ _ _, Below.refl _ _⟩
  case round =>
    obtain ⟨m, hm, rfl, HO, HBw⟩ := hrel
    cases m with
    | zero =>
      go_wp2
      go_ret
      refine ⟨_, rfl, ?_, HBw.out⟩
      have := HO.out
      simp only [Nat.sub_zero] at this
      rw [show hi5 n 0 x = bigL n x by unfold hi5; rw [Nat.sub_zero, List.take_of_length_le (by rw [bigL_length]; exact Nat.le_refl n)]] at this
      exact this
    | succ m =>
      have HS := hid (hi5_step n m x (by omega))
      have hmc : m = 0 ∨ m = 1 ∨ m = 2 ∨ m = 3 ∨ m = 4 ∨ m = 5 ∨ m = 6 ∨ m = 7 := by omega
      have hxi : (x : Int) < 18446744073709551616 := by omega
      have hsz := HBw.out.size
      obtain ⟨y, HY⟩ : ∃ y, Hid (((x / 256 ^ m % 256 : Nat) : Int) = y) := ⟨_, rfl⟩
      rw [HY.out] at HS
      obtain ⟨k0, HK⟩ : ∃ k0, Hid (n - (m + 1) = k0) := ⟨_, rfl⟩
      have HK2 : Hid (n - m = k0 + 1) := by show _ = _; rw [← HK.out]; omega
      have hk0 : k0 ≤ 8 := by rw [← HK.out]; omega
      obtain ⟨lst, HLs⟩ : ∃ lst, Hid (hi5 n (m + 1) x = lst) := ⟨_, rfl⟩
      rw [HLs.out] at HS
      have HO' := hid HO.out
      rw [HK.out, HLs.out] at HO'
      clear HO
      rcases hmc with rfl | rfl | rfl | rfl | rfl | rfl | rfl | rfl
      all_goals
        go_wp2_with (at_builtin; refine wpList_append_byte rfl _ _ rfl W.heap.size _ _ _ rfl (HO'.out.alloc _) ⟨wr.heap.size, 0, none⟩ 1 y rfl ?q0 ?q1 ?q2 ?_)
        case q0 => rw [← HY.out]; simp; try omega
        case q1 => omega
        case q2 => simp; omega
        intro v' w2 hown2 hgr2 _
        have HO2 : Hid (w2.ownsRow W.heap.size 5 1 v' (k0 + 1) (lst.map (Value.int .u8) ++ [.int .u8 y])) := hown2
        have HB2 := hid ((HBw.out.alloc HBw.out.size _).grown hgr2 (by simp; omega) (fun k e => (HO'.out.lt k e).1))
        clear hown2 hgr2
        go_wp2
        exact ⟨⟨_, Nat.le_of_succ_le hm, rfl, by rw [HK2.out, HS.out, List.map_append]; exact HO2, HB2⟩, by simp [intOf]⟩
def fr1 (l : List Int) : List Int := bigL 8 l.length ++ l
theorem fr1_length (l : List Int) : (fr1 l).length = 8 + l.length := by simp [fr1, bigL_length]
theorem fr1_byt {l : List Int} (h : ∀ x ∈ l, 0 ≤ x ∧ x < 256) : ∀ x ∈ fr1 l, 0 ≤ x ∧ x < 256 := fun x hx => (List.mem_append.1 hx).elim (bigL_byt _ _ x) (h x)
set_option maxRecDepth 100000 in
set_option maxHeartbeats 1000000 in
theorem rframe_any (w : World) (v : Value) (l : List Int) (h : HB w v l) (hl : l.length ≤ 140737488355000) : Calls Tryd.prog 65 #[v] w fun e w' => ∃ v', e = .returned v' ∧ w'.ownsRow w.heap.size 5 1 v' (fr1 l).length ((fr1 l).map (Value.int .u8)) ∧ Below w.heap.size w w' := by
  obtain ⟨p, c, e, hlc, hm⟩ := h.open
  have HH := hid h
  obtain ⟨n, HN⟩ : ∃ n, Hid (l.length = n) := ⟨_, rfl⟩
  rw [HN.out] at e hl hlc
  subst e
  clear h
  go_enter Tryd.func65, Tryd.ntmps65
  go_wp2_with fail
  refine (rbig5_any w n 8 (by omega) (by omega)).mono ?_
  rintro e w1 ⟨v1, rfl, ho1, hB1⟩
  have HO := hid ho1
  have HB1 := hid hB1
  have H1 := hid (HH.out.below hB1)
  clear ho1 hB1
  go_wp2_with (at_builtin; refine wpList_append_HB rfl _ _ rfl w.heap.size _ _ _ rfl HO.out _ _ rfl H1.out ?q1 ?q2 ?_)
  case q1 => rw [HN.out]; omega
  case q2 => exact HB1.out.size
  intro v2 w2 ho2 hg2
  have HO2 : Hid (w2.ownsRow w.heap.size 5 1 v2 (fr1 l).length ((fr1 l).map (Value.int .u8))) := by
    rw [fr1_length]
    show World.ownsRow _ _ _ _ _ _ _
    unfold fr1
    rw [List.map_append, HN.out]
    rw [HN.out] at ho2
    exact ho2
  have HB2 : Hid (Below w.heap.size w w2) := HB1.out.grown hg2 HB1.out.size (fun k e => (HO.out.lt k e).1)
  clear ho2 hg2
  go_wp2
  go_ret
  exact ⟨_, rfl, HO2.out, HB2.out⟩
def strI (s : ByteArray) : List Int := s.data.toList.map fun b => ((b.toNat : Nat) : Int)
theorem strI_length (s : ByteArray) : (strI s).length = s.size := by
  unfold strI
  rw [List.length_map, Array.length_toList]
  rfl
theorem wpList_bytes_str {ops : Array Oper} {rest : List Oper} {o : Oper} {a : Act} {w : World} {Q : Exit → Act → World → Prop} (hgd : o.guard = none) (x : Operand) (ho : o.op = .convert 9 26 x) (s : ByteArray) (hx : a.eval x = .string s) (hs : s.size ≤ 1000)
    (h : ∀ v' w', HB w' v' (strI s) → Below w.heap.size w w' → wpList Tryd.prog ops Q rest (a.put o.dst v') w') : wpList Tryd.prog ops Q (o :: rest) a w :=
  wpList_plain hgd fun _ hK => by
    have hr := run_bytes_of_string (P := Tryd.prog) w 9 26 5 s Tryd.underlying9 Tryd.underlying26 Tryd.underlying5
    unfold Oper.wp
    simp only [execOp, ho, hx, Sem.run_bind, hr, Result.andThen_ok]
    have hge := grownCap_ge w s.size 0 5
    have hle := grownCap_le_maxLen w s.size 0 5 (by unfold maxLen; omega)
    refine hK _ _ (h _ _ ⟨⟨_, _, by rw [strI_length], by rw [strI_length]; exact hge, hle, (fun e => by cases e), fun _ => ⟨w.heap.size, 0, rfl, fun j hj => ?_⟩⟩, fun x hx => ?_⟩ ((Below.refl _ w).drew.alloc (Nat.le_refl _) _))
    · have hb : (w.drew.alloc (.cells (bytesRow s (grownCap w s.size 0 5)) 5 ((bytesRow s (grownCap w s.size 0 5)).size, (bytesRow s (grownCap w s.size 0 5)).size + 1))).heap[w.heap.size]? = some (.cells (bytesRow s (grownCap w s.size 0 5)) 5 ((bytesRow s (grownCap w s.size 0 5)).size, (bytesRow s (grownCap w s.size 0 5)).size + 1)) := heap_alloc_new w.drew _
      rw [cell_of_row _ _ _ _ _ _ hb]
      have hj2 : j < s.data.size := by rw [strI_length] at hj; exact hj
      have hj3 : j < s.size := hj2
      simp [bytesRow, Array.getElem?_append, hj3, strI, List.getD, Array.getElem?_eq_getElem hj2]
    · unfold strI at hx
      obtain ⟨b, _, rfl⟩ := List.mem_map.1 hx
      have := b.toNat_lt
      omega
def frK (wd : List Int) (ps : List (List Int)) (k : Nat) : List Int := framed (wd :: ps.take k)
theorem frK_zero (wd : List Int) (ps : List (List Int)) : frK wd ps 0 = fr1 wd := by simp [frK, framed, pcs, fr1]
theorem frK_snoc (wd : List Int) (ps : List (List Int)) (k : Nat) (hk : k < ps.length) : frK wd ps (k + 1) = frK wd ps k ++ fr1 (ps.getD k []) := by
  unfold frK framed
  rw [List.take_succ_eq_append_getElem hk]
  have e : ps.getD k [] = ps[k] := by simp [List.getD, List.getElem?_eq_getElem hk]
  rw [e]
  simp only [pcs, fr1, List.flatMap_cons, List.flatMap_append, List.flatMap_nil, List.flatten_append, List.flatten_cons, List.flatten_nil, List.append_nil, List.append_assoc, List.cons_append, List.nil_append]
theorem frK_all (wd : List Int) (ps : List (List Int)) : frK wd ps ps.length = framed (wd :: ps) := by simp [frK]
theorem frK_le (wd : List Int) (ps : List (List Int)) (k : Nat) : (frK wd ps k).length ≤ wd.length + 8 + (ps.flatten.length + 8 * ps.length) := by
  unfold frK
  rw [framed_length]
  have := flat_take_le ps k
  simp only [List.flatten_cons, List.length_append, List.length_cons, List.length_take]
  omega
theorem framed_byt : ∀ (ps : List (List Int)), (∀ l ∈ ps, ∀ x ∈ l, 0 ≤ x ∧ x < 256) → ∀ x ∈ framed ps, 0 ≤ x ∧ x < 256 := by
  intro ps h x hx
  unfold framed pcs at hx
  obtain ⟨l, h1, h2⟩ := List.mem_flatten.1 hx
  obtain ⟨q, h3, h4⟩ := List.mem_flatMap.1 h1
  simp only [List.mem_cons, List.not_mem_nil, or_false] at h4
  rcases h4 with rfl | rfl
  · exact bigL_byt _ _ x h2
  · exact h _ h3 x h2
end Go.Proofs.YtklklldmhoofnaaDoor
namespace Go.Proofs.YtklklldmhoofnaaDoor
open Go Go.RowKit
theorem wp_digits {o : Oper} {a : Act} {w : World} {K : Act → World → Prop} {Q : Exit → Act → World → Prop} (t : Nat) (tys : Array TypeId) (ho : o.op = .call { callee := .value (.func 32), args := #[.tmp t], argTypes := tys }) (x : Int) (hx : a.tmps[t]? = some (.int .i64 x)) (h0 : 0 ≤ x) (h1 : x ≤ 2147483647)
    (hc : ∀ w', Below w.heap.size w w' → K (a.put o.dst (.string (nS x))) w') : o.wp Tryd.prog a w K Q := by
  obtain ⟨dst, op, ty, pos, aft, gd⟩ := o
  dsimp only at ho hc
  subst ho
  have C := rdigits13_any w x (by omega) (by omega)
  go_simp
  refine C.mono ?_
  rintro e w' ⟨rfl, hb⟩
  exact hc w' hb
def SlB (w : World) (v : Value) (l : List Int) : Prop := ∃ p c, v = .slice p l.length c ∧ HB w (.slice p l.length c) l
def RwB' (w : World) (v : Value) (nm : ByteArray) (l : List Int) : Prop := ∃ p c, v = .agg #[.string nm, .slice p l.length c] ∧ HB w (.slice p l.length c) l
def HRs (w : World) (v : Value) (rs : List Rw) : Prop := HRw w v rs
theorem strI_nS (x : Int) (h : 0 ≤ x) : strI (nS x) = dgL x.toNat := by
  have := sB_nS x.toNat
  rw [show ((x.toNat : Nat) : Int) = x by omega] at this
  exact this
theorem nS_size10 (x : Int) (h0 : 0 ≤ x) (h1 : x ≤ 2147483647) : (nS x).size ≤ 1000 := by
  have a := strI_length (nS x)
  have b := dg_len_int x h1
  rw [strI_nS x h0] at a
  have c : (dgL x.toNat).length ≤ 10 := by
    rw [dgL_length]
    have := dec_len_mono 2147483647 x.toNat (by omega)
    have h2 : (Lib.decDigits 2147483647).length = 10 := by decide +kernel
    omega
  omega
theorem wp_bytes_str {o : Oper} {a : Act} {w : World} {K : Act → World → Prop} {Q : Exit → Act → World → Prop} (t : Nat) (ho : o.op = .convert 9 26 (.tmp t)) (s : ByteArray) (hx : a.tmps[t]? = some (.string s)) (hs : s.size ≤ 1000)
    (h : ∀ v' w', HB w' v' (strI s) → Below w.heap.size w w' → K (a.put o.dst v') w') : o.wp Tryd.prog a w K Q := by
  have hx' : a.eval (.tmp t) = .string s := by simp [Act.eval, hx]
  have hr := run_bytes_of_string (P := Tryd.prog) w 9 26 5 s Tryd.underlying9 Tryd.underlying26 Tryd.underlying5
  unfold Oper.wp
  simp only [execOp, ho, hx', Sem.run_bind, hr, Result.andThen_ok]
  have hge := grownCap_ge w s.size 0 5
  have hle := grownCap_le_maxLen w s.size 0 5 (by unfold maxLen; omega)
  refine (h _ _ ⟨⟨_, _, by rw [strI_length], by rw [strI_length]; exact hge, hle, (fun e => by cases e), fun _ => ⟨w.heap.size, 0, rfl, fun j hj => ?_⟩⟩, fun x hx => ?_⟩ ((Below.refl _ w).drew.alloc (Nat.le_refl _) _))
  · have hb : (w.drew.alloc (.cells (bytesRow s (grownCap w s.size 0 5)) 5 ((bytesRow s (grownCap w s.size 0 5)).size, (bytesRow s (grownCap w s.size 0 5)).size + 1))).heap[w.heap.size]? = some (.cells (bytesRow s (grownCap w s.size 0 5)) 5 ((bytesRow s (grownCap w s.size 0 5)).size, (bytesRow s (grownCap w s.size 0 5)).size + 1)) := heap_alloc_new w.drew _
    rw [cell_of_row _ _ _ _ _ _ hb]
    have hj2 : j < s.data.size := by rw [strI_length] at hj; exact hj
    have hj3 : j < s.size := hj2
    simp [bytesRow, Array.getElem?_append, hj3, strI, List.getD, Array.getElem?_eq_getElem hj2]
  · unfold strI at hx
    obtain ⟨b, _, rfl⟩ := List.mem_map.1 hx
    have := b.toNat_lt
    omega
def rrF (u : Ub) (b : Nat) : Nat → World → Value → Prop
  | 0, _, v => v = .pointer (some ⟨b, 0, none⟩)
  | 1, _, v => v = .int .i64 u.k
  | 2, _, v => v = .string (nS u.k)
  | 3, w, v => SlB w v (dgL u.k.toNat)
  | 4, w, v => RwB' w v nmK (dgL u.k.toNat)
  | 5, _, v => v = .pointer (some ⟨b, 1, none⟩)
  | 6, _, v => v = .int .i64 u.n
  | 7, _, v => v = .string (nS u.n)
  | 8, w, v => SlB w v (dgL u.n.toNat)
  | 9, w, v => RwB' w v nmN (dgL u.n.toNat)
  | 10, _, v => v = .pointer (some ⟨b, 2, none⟩)
  | 11, _, v => v = .int .i64 u.g
  | 12, _, v => v = .string (nS u.g)
  | 13, w, v => SlB w v (dgL u.g.toNat)
  | 14, w, v => RwB' w v nmSeg (dgL u.g.toNat)
  | 15, w, v => SlB w v u.b
  | 16, w, v => RwB' w v nmSegs u.b
  | 17, w, v => SlB w v u.a
  | 18, w, v => RwB' w v nmShares u.a
  | 19, _, v => v = .pointer (some ⟨b, 3, none⟩)
  | 20, _, v => v = .int .i64 u.z
  | 21, _, v => v = .string (nS u.z)
  | 22, w, v => SlB w v (dgL u.z.toNat)
  | 23, w, v => RwB' w v nmSize (dgL u.z.toNat)
  | 24, w, v => HRs w v (ubRows u)
  | 25, w, v => HRs w v (ubRows u)
  | _, _, _ => True
theorem rrF_below (u : Ub) (b : Nat) : ∀ (i : Nat) (w w' : World) (v : Value), rrF u b i w v → Below w.heap.size w w' → rrF u b i w' v := by
  have k1 : ∀ (w w' : World) (v : Value) (l : List Int), SlB w v l → Below w.heap.size w w' → SlB w' v l := fun w w' v l ⟨p, c, e, h⟩ hb => ⟨p, c, e, h.below hb⟩
  have k2 : ∀ (w w' : World) (v : Value) (nm : ByteArray) (l : List Int), RwB' w v nm l → Below w.heap.size w w' → RwB' w' v nm l := fun w w' v nm l ⟨p, c, e, h⟩ hb => ⟨p, c, e, h.below hb⟩
  intro i w w' v h hb
  match i, h with
  | 0, h => exact h
  | 1, h => exact h
  | 2, h => exact h
  | 3, h => exact k1 _ _ _ _ h hb
  | 4, h => exact k2 _ _ _ _ _ h hb
  | 5, h => exact h
  | 6, h => exact h
  | 7, h => exact h
  | 8, h => exact k1 _ _ _ _ h hb
  | 9, h => exact k2 _ _ _ _ _ h hb
  | 10, h => exact h
  | 11, h => exact h
  | 12, h => exact h
  | 13, h => exact k1 _ _ _ _ h hb
  | 14, h => exact k2 _ _ _ _ _ h hb
  | 15, h => exact k1 _ _ _ _ h hb
  | 16, h => exact k2 _ _ _ _ _ h hb
  | 17, h => exact k1 _ _ _ _ h hb
  | 18, h => exact k2 _ _ _ _ _ h hb
  | 19, h => exact h
  | 20, h => exact h
  | 21, h => exact h
  | 22, h => exact k1 _ _ _ _ h hb
  | 23, h => exact k2 _ _ _ _ _ h hb
  | 24, h => exact HRw.below h hb
  | 25, h => exact HRw.below h hb
  | i + 26, h => trivial
def dstR (i : Nat) : Nat := if i = 25 then 2 else 13 + i
set_option maxRecDepth 100000 in
set_option maxHeartbeats 16000000 in
theorem rrows_any (w : World) (u : Ub) (hu : u.ok) (h : RB u) : Calls Tryd.prog 19 #[.agg (ubA u)] w fun e w' => ∃ v, e = .returned v ∧ HRw w' v (ubRows u) ∧ Below w.heap.size w w' := by
  obtain ⟨w0, HW0⟩ : ∃ x, Hid (w.alloc (.cells (ubA u) 25) = x) := ⟨_, rfl⟩
  have H0 : Hid (w0.heap[w.heap.size]? = some (.cells (ubA u) 25 (0, 0))) := by refine hid ?_; rw [← HW0.out]; exact heap_alloc_new w _
  have B0 : Hid (Below w.heap.size w w0) := by refine hid ?_; rw [← HW0.out]; exact (Below.refl w.heap.size w).alloc (Nat.le_refl _) _
  have Z0 : Hid (w0.heap.size = w.heap.size + 1) := by refine hid ?_; rw [← HW0.out]; simp
  have HB5 : Hid (HB w0 (.slice (some ⟨w.heap.size, 36, none⟩) 32 32) u.b) := hid (HB_part H0.out hu.2.1 hu.2.2 (ubA_b hu))
  have HB4 : Hid (HB w0 (.slice (some ⟨w.heap.size, 4, none⟩) 32 32) u.a) := hid (HB_part H0.out hu.1.1 hu.1.2 (ubA_a hu))
  have GK : Hid ((ubA u)[0]? = some (.int .i64 u.k) ∧ (ubA u)[1]? = some (.int .i64 u.n) ∧ (ubA u)[2]? = some (.int .i64 u.g) ∧ (ubA u)[3]? = some (.int .i64 u.z)) := hid ⟨rfl, rfl, rfl, rfl⟩
  have HLA := hid hu.1.1
  have HLB := hid hu.2.1
  have HYA := hid hu.1.2
  have HYB := hid hu.2.2
  obtain ⟨m, Hm⟩ : ∃ x, Hid (ubA u = x) := ⟨_, rfl⟩
  rw [Hm.out] at HW0 H0 GK
  rw [Hm.out]
  have HRB := hid h
  clear h hu Hm
  go_enter Tryd.func19, Tryd.ntmps19
  refine wp_seq_k fun K1 h1 => ?_
  have HK1 := hid h1
  clear h1
  go_wp2
  rw [HW0.out]
  refine HK1.out _ _ ?_
  clear HK1 K1
  go_wp2_with (at_builtin; refine wpList_append_bytes rfl _ _ rfl w0.heap.size _ 0 [] rfl (World.ownsRow_nil _ _ _ _) _ u.b rfl HB5.out (by rw [HLB.out]; omega) (Nat.le_refl _) (fun v1 w1 ho1 hg1 _ => Hid.out ?_))
  have b1 : Below w0.heap.size w0 w1 := (Below.refl _ _).grown hg1 (Nat.le_refl _) (fun q e => by cases e)
  have V1 := hid (HB.of_own (l := u.b) (by simpa using ho1) HYB.out)
  have A1 := hid (HB4.out.below b1)
  have B1 := hid (B0.out.trans (b1.mono B0.out.size))
  have H1 := hid ((b1.block w.heap.size (by rw [Z0.out]; omega)).trans H0.out)
  have Z1 : Hid (w.heap.size < w1.heap.size) := hid (by have := b1.size; rw [Z0.out] at this; omega)
  obtain ⟨p1, c1, rfl, _, _⟩ := V1.out.open
  clear ho1 hg1 b1
  refine hid ?_
  go_wp2_with (at_builtin; refine wpList_append_bytes rfl _ _ rfl w1.heap.size _ 0 [] rfl (World.ownsRow_nil _ _ _ _) _ u.a rfl A1.out (by rw [HLA.out]; omega) (Nat.le_refl _) (fun v2 w2 ho2 hg2 _ => Hid.out ?_))
  have b2 : Below w1.heap.size w1 w2 := (Below.refl _ _).grown hg2 (Nat.le_refl _) (fun q e => by cases e)
  have V2 := hid (HB.of_own (l := u.a) (by simpa using ho2) HYA.out)
  have V1 := hid (V1.out.below b2)
  have B2 := hid (B1.out.trans (b2.mono B1.out.size))
  have H2 := hid ((b2.block w.heap.size Z1.out).trans H1.out)
  have Z2 : Hid (w.heap.size < w2.heap.size) := hid (by have := b2.size; have := Z1.out; omega)
  obtain ⟨p2, c2, rfl, _, _⟩ := V2.out.open
  clear ho2 hg2 b2
  refine hid ?_
  go_wp2
  refine wp_region_held_drew (S := fun _ => True) (by kernel_rfl) trivial (fun hHeld => ?_)
  change wpAnyH _ _ _ _ _ _ _ _ (World.drew _)
  refine held_true _ _ _ _ ?_
  clear hHeld
  refine wpAny_rel (low_of (by kernel_rfl)) (dst := dstR) (Φ := rrF u w.heap.size) (Array.replicate 26 false) rfl ?hdst ?hops ?hin (rrF_below u w.heap.size) ?step ?fin 26 (by kernel_rfl)
  case hdst =>
    intro i j hi hj _ _ e
    have hi : i < 26 := hi
    have hj : j < 26 := hj
    unfold dstR at e
    split at e <;> split at e <;> omega
  case hops =>
    intro i o ho _
    have hi : i < 26 := (Array.getElem?_eq_some_iff.1 ho).1
    match i, hi, ho with
    | 0, _, ho => obtain rfl := Option.some.inj ho; rfl
    | 1, _, ho => obtain rfl := Option.some.inj ho; rfl
    | 2, _, ho => obtain rfl := Option.some.inj ho; rfl
    | 3, _, ho => obtain rfl := Option.some.inj ho; rfl
    | 4, _, ho => obtain rfl := Option.some.inj ho; rfl
    | 5, _, ho => obtain rfl := Option.some.inj ho; rfl
    | 6, _, ho => obtain rfl := Option.some.inj ho; rfl
    | 7, _, ho => obtain rfl := Option.some.inj ho; rfl
    | 8, _, ho => obtain rfl := Option.some.inj ho; rfl
    | 9, _, ho => obtain rfl := Option.some.inj ho; rfl
    | 10, _, ho => obtain rfl := Option.some.inj ho; rfl
    | 11, _, ho => obtain rfl := Option.some.inj ho; rfl
    | 12, _, ho => obtain rfl := Option.some.inj ho; rfl
    | 13, _, ho => obtain rfl := Option.some.inj ho; rfl
    | 14, _, ho => obtain rfl := Option.some.inj ho; rfl
    | 15, _, ho => obtain rfl := Option.some.inj ho; rfl
    | 16, _, ho => obtain rfl := Option.some.inj ho; rfl
    | 17, _, ho => obtain rfl := Option.some.inj ho; rfl
    | 18, _, ho => obtain rfl := Option.some.inj ho; rfl
    | 19, _, ho => obtain rfl := Option.some.inj ho; rfl
    | 20, _, ho => obtain rfl := Option.some.inj ho; rfl
    | 21, _, ho => obtain rfl := Option.some.inj ho; rfl
    | 22, _, ho => obtain rfl := Option.some.inj ho; rfl
    | 23, _, ho => obtain rfl := Option.some.inj ho; rfl
    | 24, _, ho => obtain rfl := Option.some.inj ho; rfl
    | 25, _, ho => obtain rfl := Option.some.inj ho; rfl
  case hin =>
    intro i hi _
    have hi : i < 26 := hi
    show dstR i < 38
    unfold dstR
    split <;> omega
  case fin =>
    intro a w3 vals hdf hall hb3
    obtain ⟨ea, fa⟩ := hall 25 (by show 25 < 26; omega) rfl
    have e2 : a.tmps[2]? = some (vals 25) := ea
    have f2 : HRw w3 (vals 25) (ubRows u) := fa
    have F2 := hid f2
    clear ea fa
    have B3 := hid (B2.out.trans (((Below.refl _ w2).drew.trans (hb3.mono (by simp))).mono B2.out.size))
    have hdf : a.defers = [] := hdf.1
    clear hall f2 hb3
    obtain ⟨tm, df⟩ := a
    dsimp only at e2 hdf
    subst hdf
    go_wp2
    refine bodyPost_ret (v := vals 25) ?_ rfl ?_
    · simp [results, Tryd.f19, e2]
    · exact ⟨_, rfl, F2.out, B3.out⟩
  case step =>
    intro i o ho _ a w3 K vals L hR hd hK
    have hi : i < 26 := (Array.getElem?_eq_some_iff.1 ho).1
    have hrest : ∀ s, s < 13 → s ≠ 2 → a.tmps[s]? = (_ : Act).tmps[s]? := fun s h1 h2 => hR.rest s (fun j hj _ => by have hj : j < 26 := hj; unfold dstR; split <;> omega)
    have t1 : a.tmps[1]? = some (.pointer (some ⟨w.heap.size, 0, none⟩)) := hrest 1 (by omega) (by omega)
    have t3 : a.tmps[3]? = some (.slice p1 u.b.length c1) := hrest 3 (by omega) (by omega)
    have t4 : a.tmps[4]? = some (.slice p2 u.a.length c2) := hrest 4 (by omega) (by omega)
    have BB : Below w2.heap.size w2 w3 := by have := hR.bel; exact (Below.refl _ w2).drew.trans (this.mono (by simp))
    have H3 := (BB.block w.heap.size Z2.out).trans H2.out
    have DN : ∀ j, j < 26 → L[j]? = some true → a.tmps[dstR j]? = some (vals j) ∧ rrF u w.heap.size j w3 (vals j) := fun j hj hL => hR.done j hj (by simp [hj]) hL
    obtain ⟨⟨k0, k1⟩, ⟨n0, n1⟩, ⟨g0, g1⟩, z0, z1⟩ := HRB.out
    clear hrest
    match i, hi, ho with
    | 0, _, ho =>
      obtain rfl := Option.some.inj ho
      clear DN H3 t3 t4
      go_simp
      exact hK _ _ rfl (Below.refl _ _)
    | 1, _, ho =>
      obtain rfl := Option.some.inj ho
      have hd0 := DN 0 (by omega) (hd ⟨0, .data⟩ (by simp) rfl)
      obtain ⟨e0, f0⟩ := hd0
      have e0 : a.tmps[13]? = some (.pointer (some ⟨w.heap.size, 0, none⟩)) := by have := e0; rw [show vals 0 = _ from f0] at this; exact this
      have c : w3.cell? ⟨w.heap.size, 0, none⟩ = some (.int .i64 u.k) := (cell_of_row _ _ _ _ _ _ H3).trans GK.out.1
      clear DN H3 t1 t3 t4 f0
      go_simp
      exact hK _ _ rfl (Below.refl _ _)
    | 2, _, ho =>
      obtain rfl := Option.some.inj ho
      have hd1 := DN 1 (by omega) (hd ⟨1, .data⟩ (by simp) rfl)
      obtain ⟨e1, f1⟩ := hd1
      have e1 : a.tmps[14]? = some (.int .i64 u.k) := by have := e1; rw [show vals 1 = _ from f1] at this; exact this
      exact wp_digits 14 _ rfl u.k e1 k0 k1 (fun w' hb => hK _ _ rfl hb)
    | 3, _, ho =>
      obtain rfl := Option.some.inj ho
      have hd2 := DN 2 (by omega) (hd ⟨2, .data⟩ (by simp) rfl)
      obtain ⟨e2, f2⟩ := hd2
      have e2 : a.tmps[15]? = some (.string (nS u.k)) := by have := e2; rw [show vals 2 = _ from f2] at this; exact this
      exact wp_bytes_str 15 rfl (nS u.k) e2 (nS_size10 u.k k0 k1) (fun v' w' hv hb => hK _ _ (by rw [strI_nS u.k k0] at hv; obtain ⟨p, c, e, _, _⟩ := hv.open; subst e; exact ⟨p, c, rfl, hv⟩) hb)
    | 4, _, ho =>
      obtain rfl := Option.some.inj ho
      have hd3 := DN 3 (by omega) (hd ⟨3, .data⟩ (by simp) rfl)
      obtain ⟨e3, f3⟩ := hd3
      obtain ⟨p, c, ev, hv⟩ := f3
      rw [ev] at e3
      have e3 : a.tmps[16]? = some (.slice p _ c) := e3
      clear DN H3 t1 t3 t4 ev
      go_simp
      exact hK _ _ ⟨p, c, rfl, hv⟩ (Below.refl _ _)
    | 5, _, ho =>
      obtain rfl := Option.some.inj ho
      clear DN H3 t3 t4
      go_simp
      exact hK _ _ rfl (Below.refl _ _)
    | 6, _, ho =>
      obtain rfl := Option.some.inj ho
      have hd5 := DN 5 (by omega) (hd ⟨5, .data⟩ (by simp) rfl)
      obtain ⟨e5, f5⟩ := hd5
      have e5 : a.tmps[18]? = some (.pointer (some ⟨w.heap.size, 1, none⟩)) := by have := e5; rw [show vals 5 = _ from f5] at this; exact this
      have c : w3.cell? ⟨w.heap.size, 1, none⟩ = some (.int .i64 u.n) := (cell_of_row _ _ _ _ _ _ H3).trans GK.out.2.1
      clear DN H3 t1 t3 t4 f5
      go_simp
      exact hK _ _ rfl (Below.refl _ _)
    | 7, _, ho =>
      obtain rfl := Option.some.inj ho
      have hd6 := DN 6 (by omega) (hd ⟨6, .data⟩ (by simp) rfl)
      obtain ⟨e6, f6⟩ := hd6
      have e6 : a.tmps[19]? = some (.int .i64 u.n) := by have := e6; rw [show vals 6 = _ from f6] at this; exact this
      exact wp_digits 19 _ rfl u.n e6 n0 n1 (fun w' hb => hK _ _ rfl hb)
    | 8, _, ho =>
      obtain rfl := Option.some.inj ho
      have hd7 := DN 7 (by omega) (hd ⟨7, .data⟩ (by simp) rfl)
      obtain ⟨e7, f7⟩ := hd7
      have e7 : a.tmps[20]? = some (.string (nS u.n)) := by have := e7; rw [show vals 7 = _ from f7] at this; exact this
      exact wp_bytes_str 20 rfl (nS u.n) e7 (nS_size10 u.n n0 n1) (fun v' w' hv hb => hK _ _ (by rw [strI_nS u.n n0] at hv; obtain ⟨p, c, e, _, _⟩ := hv.open; subst e; exact ⟨p, c, rfl, hv⟩) hb)
    | 9, _, ho =>
      obtain rfl := Option.some.inj ho
      have hd8 := DN 8 (by omega) (hd ⟨8, .data⟩ (by simp) rfl)
      obtain ⟨e8, f8⟩ := hd8
      obtain ⟨p, c, ev, hv⟩ := f8
      rw [ev] at e8
      have e8 : a.tmps[21]? = some (.slice p _ c) := e8
      clear DN H3 t1 t3 t4 ev
      go_simp
      exact hK _ _ ⟨p, c, rfl, hv⟩ (Below.refl _ _)
    | 10, _, ho =>
      obtain rfl := Option.some.inj ho
      clear DN H3 t3 t4
      go_simp
      exact hK _ _ rfl (Below.refl _ _)
    | 11, _, ho =>
      obtain rfl := Option.some.inj ho
      have hd10 := DN 10 (by omega) (hd ⟨10, .data⟩ (by simp) rfl)
      obtain ⟨e10, f10⟩ := hd10
      have e10 : a.tmps[23]? = some (.pointer (some ⟨w.heap.size, 2, none⟩)) := by have := e10; rw [show vals 10 = _ from f10] at this; exact this
      have c : w3.cell? ⟨w.heap.size, 2, none⟩ = some (.int .i64 u.g) := (cell_of_row _ _ _ _ _ _ H3).trans GK.out.2.2.1
      clear DN H3 t1 t3 t4 f10
      go_simp
      exact hK _ _ rfl (Below.refl _ _)
    | 12, _, ho =>
      obtain rfl := Option.some.inj ho
      have hd11 := DN 11 (by omega) (hd ⟨11, .data⟩ (by simp) rfl)
      obtain ⟨e11, f11⟩ := hd11
      have e11 : a.tmps[24]? = some (.int .i64 u.g) := by have := e11; rw [show vals 11 = _ from f11] at this; exact this
      exact wp_digits 24 _ rfl u.g e11 g0 g1 (fun w' hb => hK _ _ rfl hb)
    | 13, _, ho =>
      obtain rfl := Option.some.inj ho
      have hd12 := DN 12 (by omega) (hd ⟨12, .data⟩ (by simp) rfl)
      obtain ⟨e12, f12⟩ := hd12
      have e12 : a.tmps[25]? = some (.string (nS u.g)) := by have := e12; rw [show vals 12 = _ from f12] at this; exact this
      exact wp_bytes_str 25 rfl (nS u.g) e12 (nS_size10 u.g g0 g1) (fun v' w' hv hb => hK _ _ (by rw [strI_nS u.g g0] at hv; obtain ⟨p, c, e, _, _⟩ := hv.open; subst e; exact ⟨p, c, rfl, hv⟩) hb)
    | 14, _, ho =>
      obtain rfl := Option.some.inj ho
      have hd13 := DN 13 (by omega) (hd ⟨13, .data⟩ (by simp) rfl)
      obtain ⟨e13, f13⟩ := hd13
      obtain ⟨p, c, ev, hv⟩ := f13
      rw [ev] at e13
      have e13 : a.tmps[26]? = some (.slice p _ c) := e13
      clear DN H3 t1 t3 t4 ev
      go_simp
      exact hK _ _ ⟨p, c, rfl, hv⟩ (Below.refl _ _)
    | 15, _, ho =>
      obtain rfl := Option.some.inj ho
      clear DN H3 t1 t4
      go_simp
      exact hK _ _ ⟨p1, c1, rfl, V1.out.below BB⟩ (Below.refl _ _)
    | 16, _, ho =>
      obtain rfl := Option.some.inj ho
      have hd15 := DN 15 (by omega) (hd ⟨15, .data⟩ (by simp) rfl)
      obtain ⟨e15, f15⟩ := hd15
      obtain ⟨p, c, ev, hv⟩ := f15
      rw [ev] at e15
      have e15 : a.tmps[28]? = some (.slice p _ c) := e15
      clear DN H3 t1 t3 t4 ev
      go_simp
      exact hK _ _ ⟨p, c, rfl, hv⟩ (Below.refl _ _)
    | 17, _, ho =>
      obtain rfl := Option.some.inj ho
      clear DN H3 t1 t3
      go_simp
      exact hK _ _ ⟨p2, c2, rfl, V2.out.below BB⟩ (Below.refl _ _)
    | 18, _, ho =>
      obtain rfl := Option.some.inj ho
      have hd17 := DN 17 (by omega) (hd ⟨17, .data⟩ (by simp) rfl)
      obtain ⟨e17, f17⟩ := hd17
      obtain ⟨p, c, ev, hv⟩ := f17
      rw [ev] at e17
      have e17 : a.tmps[30]? = some (.slice p _ c) := e17
      clear DN H3 t1 t3 t4 ev
      go_simp
      exact hK _ _ ⟨p, c, rfl, hv⟩ (Below.refl _ _)
    | 19, _, ho =>
      obtain rfl := Option.some.inj ho
      clear DN H3 t3 t4
      go_simp
      exact hK _ _ rfl (Below.refl _ _)
    | 20, _, ho =>
      obtain rfl := Option.some.inj ho
      have hd19 := DN 19 (by omega) (hd ⟨19, .data⟩ (by simp) rfl)
      obtain ⟨e19, f19⟩ := hd19
      have e19 : a.tmps[32]? = some (.pointer (some ⟨w.heap.size, 3, none⟩)) := by have := e19; rw [show vals 19 = _ from f19] at this; exact this
      have c : w3.cell? ⟨w.heap.size, 3, none⟩ = some (.int .i64 u.z) := (cell_of_row _ _ _ _ _ _ H3).trans GK.out.2.2.2
      clear DN H3 t1 t3 t4 f19
      go_simp
      exact hK _ _ rfl (Below.refl _ _)
    | 21, _, ho =>
      obtain rfl := Option.some.inj ho
      have hd20 := DN 20 (by omega) (hd ⟨20, .data⟩ (by simp) rfl)
      obtain ⟨e20, f20⟩ := hd20
      have e20 : a.tmps[33]? = some (.int .i64 u.z) := by have := e20; rw [show vals 20 = _ from f20] at this; exact this
      exact wp_digits 33 _ rfl u.z e20 z0 z1 (fun w' hb => hK _ _ rfl hb)
    | 22, _, ho =>
      obtain rfl := Option.some.inj ho
      have hd21 := DN 21 (by omega) (hd ⟨21, .data⟩ (by simp) rfl)
      obtain ⟨e21, f21⟩ := hd21
      have e21 : a.tmps[34]? = some (.string (nS u.z)) := by have := e21; rw [show vals 21 = _ from f21] at this; exact this
      exact wp_bytes_str 34 rfl (nS u.z) e21 (nS_size10 u.z z0 z1) (fun v' w' hv hb => hK _ _ (by rw [strI_nS u.z z0] at hv; obtain ⟨p, c, e, _, _⟩ := hv.open; subst e; exact ⟨p, c, rfl, hv⟩) hb)
    | 23, _, ho =>
      obtain rfl := Option.some.inj ho
      have hd22 := DN 22 (by omega) (hd ⟨22, .data⟩ (by simp) rfl)
      obtain ⟨e22, f22⟩ := hd22
      obtain ⟨p, c, ev, hv⟩ := f22
      rw [ev] at e22
      have e22 : a.tmps[35]? = some (.slice p _ c) := e22
      clear DN H3 t1 t3 t4 ev
      go_simp
      exact hK _ _ ⟨p, c, rfl, hv⟩ (Below.refl _ _)
    | 24, _, ho =>
      obtain rfl := Option.some.inj ho
      have hd4 := DN 4 (by omega) (hd ⟨4, .data⟩ (by simp) rfl)
      obtain ⟨e4, f4⟩ := hd4
      obtain ⟨q4, c4, ev4, hv4⟩ := f4
      rw [ev4] at e4
      have e4 : a.tmps[17]? = some _ := e4
      clear ev4
      have hd9 := DN 9 (by omega) (hd ⟨9, .data⟩ (by simp) rfl)
      obtain ⟨e9, f9⟩ := hd9
      obtain ⟨q9, c9, ev9, hv9⟩ := f9
      rw [ev9] at e9
      have e9 : a.tmps[22]? = some _ := e9
      clear ev9
      have hd14 := DN 14 (by omega) (hd ⟨14, .data⟩ (by simp) rfl)
      obtain ⟨e14, f14⟩ := hd14
      obtain ⟨q14, c14, ev14, hv14⟩ := f14
      rw [ev14] at e14
      have e14 : a.tmps[27]? = some _ := e14
      clear ev14
      have hd16 := DN 16 (by omega) (hd ⟨16, .data⟩ (by simp) rfl)
      obtain ⟨e16, f16⟩ := hd16
      obtain ⟨q16, c16, ev16, hv16⟩ := f16
      rw [ev16] at e16
      have e16 : a.tmps[29]? = some _ := e16
      clear ev16
      have hd18 := DN 18 (by omega) (hd ⟨18, .data⟩ (by simp) rfl)
      obtain ⟨e18, f18⟩ := hd18
      obtain ⟨q18, c18, ev18, hv18⟩ := f18
      rw [ev18] at e18
      have e18 : a.tmps[31]? = some _ := e18
      clear ev18
      have hd23 := DN 23 (by omega) (hd ⟨23, .data⟩ (by simp) rfl)
      obtain ⟨e23, f23⟩ := hd23
      obtain ⟨q23, c23, ev23, hv23⟩ := f23
      rw [ev23] at e23
      have e23 : a.tmps[36]? = some _ := e23
      clear ev23
      clear DN H3 t1 t3 t4
      have HA := heap_alloc_new w3 (.cells #[.string nmK, .slice q4 (dgL u.k.toNat).length c4, .string nmN, .slice q9 (dgL u.n.toNat).length c9, .string nmSeg, .slice q14 (dgL u.g.toNat).length c14, .string nmSegs, .slice q16 u.b.length c16, .string nmShares, .slice q18 u.a.length c18, .string nmSize, .slice q23 (dgL u.z.toNat).length c23] 49)
      have BA := (Below.refl w3.heap.size w3).alloc (Nat.le_refl _) (.cells #[.string nmK, .slice q4 (dgL u.k.toNat).length c4, .string nmN, .slice q9 (dgL u.n.toNat).length c9, .string nmSeg, .slice q14 (dgL u.g.toNat).length c14, .string nmSegs, .slice q16 u.b.length c16, .string nmShares, .slice q18 u.a.length c18, .string nmSize, .slice q23 (dgL u.z.toNat).length c23] 49)
      have HR6 : HRw (w3.alloc (.cells #[.string nmK, .slice q4 (dgL u.k.toNat).length c4, .string nmN, .slice q9 (dgL u.n.toNat).length c9, .string nmSeg, .slice q14 (dgL u.g.toNat).length c14, .string nmSegs, .slice q16 u.b.length c16, .string nmShares, .slice q18 u.a.length c18, .string nmSize, .slice q23 (dgL u.z.toNat).length c23] 49)) (.slice (some ⟨w3.heap.size, 0, none⟩) 6 6) (ubRows u) := by
        refine HRw.of_own (base := 0) (e := 49) (vs := [.slice q4 (dgL u.k.toNat).length c4, .slice q9 (dgL u.n.toNat).length c9, .slice q14 (dgL u.g.toNat).length c14, .slice q16 u.b.length c16, .slice q18 u.a.length c18, .slice q23 (dgL u.z.toNat).length c23]) ⟨rfl, .inr ⟨w3.heap.size, 6, _, rfl, Nat.zero_le _, HA, Nat.le_refl _, by unfold maxLen; omega, rfl, rfl⟩⟩ rfl ?_
        intro i hi
        match i, hi with
        | 0, _ => exact hv4.below BA
        | 1, _ => exact hv9.below BA
        | 2, _ => exact hv14.below BA
        | 3, _ => exact hv16.below BA
        | 4, _ => exact hv18.below BA
        | 5, _ => exact hv23.below BA
        | i + 6, h => simp [ubRows] at h; omega
      clear hv4 hv9 hv14 hv16 hv18 hv23 HA
      go_simp
      exact hK _ _ HR6 BA
    | 25, _, ho =>
      obtain rfl := Option.some.inj ho
      have hd24 := DN 24 (by omega) (hd ⟨24, .data⟩ (by simp) rfl)
      obtain ⟨e24, f24⟩ := hd24
      have e24 : a.tmps[37]? = some (vals 24) := e24
      clear DN H3 t1 t3 t4
      go_simp
      exact hK _ _ f24 (Below.refl _ _)
theorem size_rowT : (Tryd.prog.info? 49).map (·.size) = some 2 := by kernel_rfl
theorem names0 : ∀ j, j < 6 → ((ubRows ub0).getD j rw0).1 = nmJ j := doc_names
theorem RB0 : RB ub0 := by simp [RB, ub0]
theorem build_u (k n g z : Int) : (((Tryd.zeroCells25.setIfInBounds 0 (Value.int .i64 k)).setIfInBounds 1 (Value.int .i64 n)).setIfInBounds 2 (Value.int .i64 g)).setIfInBounds 3 (Value.int .i64 z) = ubA ⟨k, n, g, z, zeros32', zeros32'⟩ := by rw [zc_ueb]; rfl
theorem toList_ne {s t : ByteArray} (h : s ≠ t) : (s.toList == t.toList) = false := by rw [eq_iff_sB]; exact decide_eq_false (fun e => h (sB_inj e))
set_option maxRecDepth 100000 in
set_option maxHeartbeats 16000000 in
theorem rread13_any (w : World) (v : Value) (l : List Int) (h : HB w v l) (hk : KD w) : Calls Tryd.prog 15 #[v] w fun e w' => RaQ w l e w' := by
  have hz := zc_ueb
  have HZS : Hid (Tryd.zeroCells25.size = 68) := by refine hid ?_; rw [hz]; exact ubA_size ub0_ok
  have HBU := hid build_u
  obtain ⟨zc, HZC⟩ : ∃ x, Hid (Tryd.zeroCells25 = x) := ⟨_, rfl⟩
  rw [HZC.out] at hz HZS
  have HZ := hid hz
  have HIZ : Hid ((Tryd.prog.info? 25).map (·.size) = some zc.size) := by refine hid ?_; rw [HZS.out]; exact size_ueb
  have HZ1 : Hid (zc.all (·.oneCell') = true) := by refine hid ?_; rw [HZ.out]; exact ubA_one _
  obtain ⟨wA, HWA⟩ : ∃ x, Hid (w.alloc (.cells zc 25) = x) := ⟨_, rfl⟩
  have hbA : Below w.heap.size w wA := by rw [← HWA.out]; exact (Below.refl _ w).alloc (Nat.le_refl _) _
  have hkA : wA.heap[w.heap.size]? = some (.cells zc 25 (0, 0)) := by rw [← HWA.out]; exact heap_alloc_new w _
  have C1 := hid (runpack_any wA v l (h.below hbA) (hk.below hbA))
  obtain ⟨p, c, rfl, _, _⟩ := h.open
  have hsA : wA.heap.size = w.heap.size + 1 := by rw [← HWA.out]; simp
  have HBA := hid hbA
  have HKA := hid hkA
  have HSA := hid hsA
  clear hz h hk hbA hkA hsA
  go_enter Tryd.func15, Tryd.ntmps15
  go_wp2_with fail
  rw [HZC.out, HWA.out]
  refine C1.out.mono ?_
  rintro e w1 ⟨rv, rs, vs, k, ec, rfl, hq, hown, hb1⟩
  have B1 := hid (HBA.out.trans (hb1.mono HBA.out.size))
  have BK : Hid (w1.heap[w.heap.size]? = some (.cells zc 25 (0, 0))) := (hb1.block _ (by have := HSA.out; omega)).trans HKA.out
  have hs1 : w.heap.size + 1 ≤ w1.heap.size := by have := hb1.size; have := HSA.out; omega
  rcases hq with ⟨rfl, rfl, hmay, hpk⟩ | ⟨rfl, rfl, hkl, hex⟩
  rotate_left
  · have RQ : Hid (ReadQ l ub0 k 131) := hid (Or.inr ⟨by omega, rfl, Or.inl ⟨rfl, Or.inr ⟨rfl, rfl, hkl, hex⟩⟩⟩)
    clear hkl hex hown hb1 C1
    go_wp2_with (refine wpList_store_row rfl 25 _ _ rfl w.heap.size zc rfl (congrArg Value.agg HZC.out) 25 zc BK.out HIZ.out rfl HZ1.out ?_)
    refine bodyPost_ret (v := .tuple #[.agg zc, .int .i64 (k : Int), .int .i64 131]) (results_cellTT (p := 2) (u := 3) (v := 4) (ty := 25) rfl _ _ w.heap.size 25 zc (0, 0) _ rfl (setRow_heap _ _ _ _ _ _ BK.out) Tryd.underlying25 rfl HIZ.out _ _ rfl rfl) rfl ?_
    exact ⟨ub0, _, 131, by rw [HZ.out], ub0_ok, RQ.out, bel_setRow B1.out (Nat.le_refl _) _⟩
  have HMAY := hid hmay
  have HPK := hid hpk
  have HRW := hid hown.held
  have HBY := hid hown.held.byt
  have HLL := hid (okRows_len rs noS hmay.2)
  have RQ2 : Hid ((∀ u' : Ub, u'.ok → RB u' → rs ≠ ubRows u') → ReadQ l ub0 0 132) := hid fun q => Or.inr ⟨by omega, rfl, Or.inr ⟨rfl, rs, HMAY.out, HPK.out, Or.inl ⟨rfl, q⟩⟩⟩
  obtain ⟨pr, cr, rfl, hlc, hcm, hrow⟩ := hown.held.open
  have HROW := hid hrow
  obtain ⟨n, HN⟩ : ∃ n, Hid (rs.length = n) := ⟨_, rfl⟩
  rw [HN.out] at hlc
  rw [HN.out]
  have hm63 : n ≤ 9223372036854775807 := by unfold maxLen at hcm; omega
  clear hmay hpk hown hb1 C1 hrow hcm
  -- the Ueb that is laid
  have ZU := hid (heap_alloc_new w1 (.cells zc 25))
  obtain ⟨w2, HW2⟩ : ∃ x, Hid (w1.alloc (.cells zc 25) = x) := ⟨_, rfl⟩
  rw [HW2.out] at ZU
  have D2 : Hid (Below w1.heap.size w1 w2) := by rw [← HW2.out]; exact (Below.refl _ w1).alloc (Nat.le_refl _) _
  have S2 : Hid (w2.heap.size = w1.heap.size + 1) := by refine hid ?_; rw [← HW2.out]; simp
  have C2 := rrows_any w2 ub0 ub0_ok RB0
  rw [← HZ.out] at C2
  have C2 := hid C2
  go_wp2_with (first | (rw [HZC.out, HW2.out]; refine wpList_load_row rfl 25 _ rfl w1.heap.size rfl 25 zc (0, 0) _ ZU.out Tryd.underlying25 rfl HIZ.out ?_) | fail)
  refine C2.out.mono ?_
  rintro e w3 ⟨v3, rfl, hv3, hb3⟩
  have D3 := hid (D2.out.trans (hb3.mono D2.out.size))
  have U3 : Hid (w3.heap[w1.heap.size]? = some (.cells zc 25 (0, 0))) := (hb3.block _ (by rw [S2.out]; omega)).trans ZU.out
  have hs3 : w1.heap.size + 1 ≤ w3.heap.size := by have := hb3.size; rw [S2.out] at this; exact this
  obtain ⟨p3, c3, rfl, hlc3, hcm3, hrow3⟩ := hv3.open
  have HROW3 := hid hrow3
  rw [show (ubRows ub0).length = 6 from rfl] at hlc3 ⊢
  have B3 := hid (B1.out.trans (D3.out.mono B1.out.size))
  have BK3 : Hid (w3.heap[w.heap.size]? = some (.cells zc 25 (0, 0))) := (D3.out.block _ (by omega)).trans BK.out
  clear hv3 hb3 C2 hrow3 hcm3
  by_cases hn6 : n = 6
  rotate_left
  · have RQ := hid (RQ2.out fun u' _ _ e => hn6 (by rw [← HN.out, e]; rfl))
    have hq : ((n : Int) != 6) = true := by rw [bne_iff_ne]; omega
    clear hn6
    go_wp2_with (refine wpList_store_row rfl 25 _ _ rfl w.heap.size zc rfl (congrArg Value.agg HZC.out) 25 zc BK3.out HIZ.out rfl HZ1.out ?_)
    refine bodyPost_ret (v := .tuple #[.agg zc, .int .i64 0, .int .i64 132]) (results_cellTT (p := 2) (u := 3) (v := 4) (ty := 25) rfl _ _ w.heap.size 25 zc (0, 0) _ rfl (setRow_heap _ _ _ _ _ _ BK3.out) Tryd.underlying25 rfl HIZ.out _ _ rfl rfl) rfl ?_
    exact ⟨ub0, _, 132, by rw [HZ.out]; rfl, ub0_ok, RQ.out, bel_setRow B3.out (Nat.le_refl _) _⟩
  have HN6 := hid hn6
  subst hn6
  obtain ⟨b, off, rfl, hbl, hh⟩ := HROW.out (by rw [HN.out]; omega)
  obtain ⟨b3, off3, rfl, hbl3, hh3⟩ := HROW3.out (by decide)
  have HH := hid hh
  have HH3 := hid hh3
  clear hh hh3
  go_wp2
  go_loopw [10] (fun i wr => ∃ k : Nat, k ≤ 6 ∧ i = .int .i64 (k : Int) ∧ Hid (∀ j, j < k → (rs.getD j rw0).1 = nmJ j) ∧ Hid (Dr w3 wr)) (fun i _ => 6 - (intOf i).toNat)
  case atStart => exact ⟨0, Nat.zero_le _, rfl, hid fun j hj => absurd hj (Nat.not_lt_zero _), Dr.refl _⟩
  case round =>
    obtain ⟨k, hk, rfl, HT, HD⟩ := hrel
    by_cases hlt : k < 6
    · obtain ⟨u1, r1, e1⟩ := HH.out k (by rw [HN.out]; omega)
      obtain ⟨u2, r2, e2⟩ := HH3.out k hlt
      have g1 := (HD.out.cell _).trans ((D3.out.cell hbl).trans (r1 0 _ rfl))
      have g2 := (HD.out.cell _).trans (r2 0 _ rfl)
      rw [names0 k hlt] at g2
      obtain ⟨s, HX⟩ : ∃ x, Hid ((rs.getD k rw0).1 = x) := ⟨_, rfl⟩
      obtain ⟨t, HY⟩ : ∃ x, Hid (nmJ k = x) := ⟨_, rfl⟩
      rw [HX.out] at g1
      rw [HY.out] at g2
      rw [Nat.add_zero] at g1 g2
      clear e1 e2 r1 r2
      by_cases hst : s = t
      · have HST := hid hst
        subst hst
        have hne : (s.toList == s.toList) = true := by simp
        go_wp2
        go_quiet (fail)
        go_wp2
        exact ⟨⟨k + 1, by omega, by go_num, hid fun j hj => (by
          by_cases e : j = k
          · rw [e, HX.out, HY.out]
          · exact HT.out j (by omega)), HD.out.drewN _⟩, by simp [intOf]; omega⟩
      · have hne := toList_ne hst
        have RQ := hid (RQ2.out fun u' _ _ e => hst (by rw [← HX.out, ← HY.out, e]; exact doc_names k hlt))
        have BKX : Hid (∀ q, (wr.drewN q).heap[w.heap.size]? = some (.cells zc 25 (0, 0))) := hid fun q => by have h1 := HD.out.heap; show wr.heap[w.heap.size]? = _; rw [h1]; exact BK3.out
        have BX : Hid (∀ q, Below w.heap.size w (wr.drewN q)) := hid fun q => B3.out.trans (((HD.out.drewN q).below w3.heap.size).mono B3.out.size)
        clear hst
        go_wp2
        go_quiet (fail)
        go_wp2_with (refine wpList_store_row rfl 25 _ _ rfl w.heap.size zc rfl (congrArg Value.agg HZC.out) 25 zc (BKX.out _) HIZ.out rfl HZ1.out ?_)
        refine bodyPost_ret (v := .tuple #[.agg zc, .int .i64 0, .int .i64 132]) (results_cellTT (p := 2) (u := 3) (v := 4) (ty := 25) rfl _ _ w.heap.size 25 zc (0, 0) _ rfl (setRow_heap _ _ _ _ _ _ (BKX.out _)) Tryd.underlying25 rfl HIZ.out _ _ rfl rfl) rfl ?_
        exact ⟨ub0, _, 132, by rw [HZ.out]; rfl, ub0_ok, RQ.out, bel_setRow (BX.out _) (Nat.le_refl _) _⟩
    · have hk6 : k = 6 := by omega
      subst hk6
      have HNM := HT
      clear hlt hk HT HH3 HROW3 hbl3
      have W4D := hid ((HD.out.below w3.heap.size))
      have hs4 : w3.heap.size ≤ wr.heap.size := by have := W4D.out.size; exact this
      have D4 := hid (D3.out.trans (W4D.out.mono (by omega)))
      have U4 : Hid (wr.heap[w1.heap.size]? = some (.cells zc 25 (0, 0))) := by refine hid ?_; rw [HD.out.heap]; exact U3.out
      clear HD W4D B3 BK3 U3 D3
      have BK4 : Hid (wr.heap[w.heap.size]? = some (.cells zc 25 (0, 0))) := (D4.out.block _ (by omega)).trans BK.out
      have HSZ : Hid ((Tryd.prog.info? 49).map (·.size) = some 2) := size_rowT
      obtain ⟨u0, r0, e0⟩ := HH.out 0 (by rw [HN.out]; omega)
      obtain ⟨s0, HS0⟩ : ∃ x, Hid ((rs.getD 0 rw0).1 = x) := ⟨_, rfl⟩
      obtain ⟨x0, HX0⟩ : ∃ x, Hid (vJ rs 0 = x) := ⟨_, rfl⟩
      rw [show (rs.getD 0 rw0).2 = vJ rs 0 from rfl, HX0.out] at e0
      rw [HS0.out] at r0
      obtain ⟨q0, d0, z0, _, _⟩ := e0.open
      subst z0
      have R0 := hid r0
      have E0 := hid e0
      clear r0 e0
      obtain ⟨u1, r1, e1⟩ := HH.out 1 (by rw [HN.out]; omega)
      obtain ⟨s1, HS1⟩ : ∃ x, Hid ((rs.getD 1 rw0).1 = x) := ⟨_, rfl⟩
      obtain ⟨x1, HX1⟩ : ∃ x, Hid (vJ rs 1 = x) := ⟨_, rfl⟩
      rw [show (rs.getD 1 rw0).2 = vJ rs 1 from rfl, HX1.out] at e1
      rw [HS1.out] at r1
      obtain ⟨q1, d1, z1, _, _⟩ := e1.open
      subst z1
      have R1 := hid r1
      have E1 := hid e1
      clear r1 e1
      obtain ⟨u2, r2, e2⟩ := HH.out 2 (by rw [HN.out]; omega)
      obtain ⟨s2, HS2⟩ : ∃ x, Hid ((rs.getD 2 rw0).1 = x) := ⟨_, rfl⟩
      obtain ⟨x2, HX2⟩ : ∃ x, Hid (vJ rs 2 = x) := ⟨_, rfl⟩
      rw [show (rs.getD 2 rw0).2 = vJ rs 2 from rfl, HX2.out] at e2
      rw [HS2.out] at r2
      obtain ⟨q2, d2, z2, _, _⟩ := e2.open
      subst z2
      have R2 := hid r2
      have E2 := hid e2
      clear r2 e2
      obtain ⟨u3, r3, e3⟩ := HH.out 3 (by rw [HN.out]; omega)
      obtain ⟨s3, HS3⟩ : ∃ x, Hid ((rs.getD 3 rw0).1 = x) := ⟨_, rfl⟩
      obtain ⟨x3, HX3⟩ : ∃ x, Hid (vJ rs 3 = x) := ⟨_, rfl⟩
      rw [show (rs.getD 3 rw0).2 = vJ rs 3 from rfl, HX3.out] at e3
      rw [HS3.out] at r3
      obtain ⟨q3, d3, z3, _, _⟩ := e3.open
      subst z3
      have R3 := hid r3
      have E3 := hid e3
      clear r3 e3
      obtain ⟨u4, r4, e4⟩ := HH.out 4 (by rw [HN.out]; omega)
      obtain ⟨s4, HS4⟩ : ∃ x, Hid ((rs.getD 4 rw0).1 = x) := ⟨_, rfl⟩
      obtain ⟨x4, HX4⟩ : ∃ x, Hid (vJ rs 4 = x) := ⟨_, rfl⟩
      rw [show (rs.getD 4 rw0).2 = vJ rs 4 from rfl, HX4.out] at e4
      rw [HS4.out] at r4
      obtain ⟨q4, d4, z4, _, _⟩ := e4.open
      subst z4
      have R4 := hid r4
      have E4 := hid e4
      clear r4 e4
      obtain ⟨u5, r5, e5⟩ := HH.out 5 (by rw [HN.out]; omega)
      obtain ⟨s5, HS5⟩ : ∃ x, Hid ((rs.getD 5 rw0).1 = x) := ⟨_, rfl⟩
      obtain ⟨x5, HX5⟩ : ∃ x, Hid (vJ rs 5 = x) := ⟨_, rfl⟩
      rw [show (rs.getD 5 rw0).2 = vJ rs 5 from rfl, HX5.out] at e5
      rw [HS5.out] at r5
      obtain ⟨q5, d5, z5, _, _⟩ := e5.open
      subst z5
      have R5 := hid r5
      have E5 := hid e5
      clear r5 e5
      have HROW := HRW
      clear HH HROW HRW
      have Xwr : Hid (Below wr.heap.size wr wr) := Below.refl _ _
      have L0 : Hid (x0.length ≤ 65536) := by
        refine hid ?_
        rw [← HX0.out]
        have hm : rs.getD 0 rw0 ∈ rs := by
          have e : rs.getD 0 rw0 = rs[0]'(by rw [HN.out]; omega) := by simp [List.getD, List.getElem?_eq_getElem (show 0 < rs.length by rw [HN.out]; omega)]
          rw [e]
          exact List.getElem_mem _
        exact HLL.out _ hm
      have RR0 : Hid (wr.rangeAt b (off + 0 * 2) [.string s0, .slice q0 x0.length d0]) := hid fun i u hu => (D4.out.cell hbl).trans (R0.out i u hu)
      have CN0 := rno13_any wr s0 _ x0 (E0.out.below D4.out) L0.out
      rw [show rdV (Lib.bytesOf x0) 2147483647 = nrV x0 from rfl, show rdE (Lib.bytesOf x0) 2147483647 = nrE x0 from rfl] at CN0
      obtain ⟨f0, Hf0⟩ : ∃ y, Hid (decide (nrE x0 = 0) = y) := ⟨_, rfl⟩
      obtain ⟨m0, Hm0⟩ : ∃ y, Hid (nrV x0 = y) := ⟨_, rfl⟩
      rw [Hf0.out, Hm0.out] at CN0
      obtain ⟨z0, Hz0⟩ : ∃ y, Hid (x0.length = y) := ⟨_, rfl⟩
      rw [Hz0.out] at CN0 RR0
      have CN0 := hid CN0
      go_wp2_with (first | (refine wpList_load_mid rfl 49 _ rfl b (off + 0 * 2) rfl [.string s0, .slice q0 z0 d0] _ RR0.out Tryd.underlying49 rfl HSZ.out ?_) | fail)
      refine CN0.out.mono ?_
      rintro e y0 ⟨rfl, hby0⟩
      have Dy0 := hid (D4.out.trans (hby0.mono D4.out.size))
      have Xy0 := hid (Xwr.out.trans (hby0.mono Xwr.out.size))
      clear hby0 CN0 RR0 Xwr
      have L1 : Hid (x1.length ≤ 65536) := by
        refine hid ?_
        rw [← HX1.out]
        have hm : rs.getD 1 rw0 ∈ rs := by
          have e : rs.getD 1 rw0 = rs[1]'(by rw [HN.out]; omega) := by simp [List.getD, List.getElem?_eq_getElem (show 1 < rs.length by rw [HN.out]; omega)]
          rw [e]
          exact List.getElem_mem _
        exact HLL.out _ hm
      have RR1 : Hid (y0.rangeAt b (off + 1 * 2) [.string s1, .slice q1 x1.length d1]) := hid fun i u hu => (Dy0.out.cell hbl).trans (R1.out i u hu)
      have CN1 := rno13_any y0 s1 _ x1 (E1.out.below Dy0.out) L1.out
      rw [show rdV (Lib.bytesOf x1) 2147483647 = nrV x1 from rfl, show rdE (Lib.bytesOf x1) 2147483647 = nrE x1 from rfl] at CN1
      obtain ⟨f1, Hf1⟩ : ∃ y, Hid (decide (nrE x1 = 0) = y) := ⟨_, rfl⟩
      obtain ⟨m1, Hm1⟩ : ∃ y, Hid (nrV x1 = y) := ⟨_, rfl⟩
      rw [Hf1.out, Hm1.out] at CN1
      obtain ⟨z1, Hz1⟩ : ∃ y, Hid (x1.length = y) := ⟨_, rfl⟩
      rw [Hz1.out] at CN1 RR1
      have CN1 := hid CN1
      go_wp2_with (first | (refine wpList_load_mid rfl 49 _ rfl b (off + 1 * 2) rfl [.string s1, .slice q1 z1 d1] _ RR1.out Tryd.underlying49 rfl HSZ.out ?_) | fail)
      refine CN1.out.mono ?_
      rintro e y1 ⟨rfl, hby1⟩
      have Dy1 := hid (Dy0.out.trans (hby1.mono Dy0.out.size))
      have Xy1 := hid (Xy0.out.trans (hby1.mono Xy0.out.size))
      clear hby1 CN1 RR1 Xy0
      have L2 : Hid (x2.length ≤ 65536) := by
        refine hid ?_
        rw [← HX2.out]
        have hm : rs.getD 2 rw0 ∈ rs := by
          have e : rs.getD 2 rw0 = rs[2]'(by rw [HN.out]; omega) := by simp [List.getD, List.getElem?_eq_getElem (show 2 < rs.length by rw [HN.out]; omega)]
          rw [e]
          exact List.getElem_mem _
        exact HLL.out _ hm
      have RR2 : Hid (y1.rangeAt b (off + 2 * 2) [.string s2, .slice q2 x2.length d2]) := hid fun i u hu => (Dy1.out.cell hbl).trans (R2.out i u hu)
      have CN2 := rno13_any y1 s2 _ x2 (E2.out.below Dy1.out) L2.out
      rw [show rdV (Lib.bytesOf x2) 2147483647 = nrV x2 from rfl, show rdE (Lib.bytesOf x2) 2147483647 = nrE x2 from rfl] at CN2
      obtain ⟨f2, Hf2⟩ : ∃ y, Hid (decide (nrE x2 = 0) = y) := ⟨_, rfl⟩
      obtain ⟨m2, Hm2⟩ : ∃ y, Hid (nrV x2 = y) := ⟨_, rfl⟩
      rw [Hf2.out, Hm2.out] at CN2
      obtain ⟨z2, Hz2⟩ : ∃ y, Hid (x2.length = y) := ⟨_, rfl⟩
      rw [Hz2.out] at CN2 RR2
      have CN2 := hid CN2
      go_wp2_with (first | (refine wpList_load_mid rfl 49 _ rfl b (off + 2 * 2) rfl [.string s2, .slice q2 z2 d2] _ RR2.out Tryd.underlying49 rfl HSZ.out ?_) | fail)
      refine CN2.out.mono ?_
      rintro e y2 ⟨rfl, hby2⟩
      have Dy2 := hid (Dy1.out.trans (hby2.mono Dy1.out.size))
      have Xy2 := hid (Xy1.out.trans (hby2.mono Xy1.out.size))
      clear hby2 CN2 RR2 Xy1
      have L5 : Hid (x5.length ≤ 65536) := by
        refine hid ?_
        rw [← HX5.out]
        have hm : rs.getD 5 rw0 ∈ rs := by
          have e : rs.getD 5 rw0 = rs[5]'(by rw [HN.out]; omega) := by simp [List.getD, List.getElem?_eq_getElem (show 5 < rs.length by rw [HN.out]; omega)]
          rw [e]
          exact List.getElem_mem _
        exact HLL.out _ hm
      have RR5 : Hid (y2.rangeAt b (off + 5 * 2) [.string s5, .slice q5 x5.length d5]) := hid fun i u hu => (Dy2.out.cell hbl).trans (R5.out i u hu)
      have CN5 := rno13_any y2 s5 _ x5 (E5.out.below Dy2.out) L5.out
      rw [show rdV (Lib.bytesOf x5) 2147483647 = nrV x5 from rfl, show rdE (Lib.bytesOf x5) 2147483647 = nrE x5 from rfl] at CN5
      obtain ⟨f5, Hf5⟩ : ∃ y, Hid (decide (nrE x5 = 0) = y) := ⟨_, rfl⟩
      obtain ⟨m5, Hm5⟩ : ∃ y, Hid (nrV x5 = y) := ⟨_, rfl⟩
      rw [Hf5.out, Hm5.out] at CN5
      obtain ⟨z5, Hz5⟩ : ∃ y, Hid (x5.length = y) := ⟨_, rfl⟩
      rw [Hz5.out] at CN5 RR5
      have CN5 := hid CN5
      go_wp2_with (first | (refine wpList_load_mid rfl 49 _ rfl b (off + 5 * 2) rfl [.string s5, .slice q5 z5 d5] _ RR5.out Tryd.underlying49 rfl HSZ.out ?_) | fail)
      refine CN5.out.mono ?_
      rintro e y3 ⟨rfl, hby3⟩
      have Dy3 := hid (Dy2.out.trans (hby3.mono Dy2.out.size))
      have Xy3 := hid (Xy2.out.trans (hby3.mono Xy2.out.size))
      clear hby3 CN5 RR5 Xy2
      have B8 := hid (B1.out.trans (Dy3.out.mono B1.out.size))
      have BK8 : Hid (y3.heap[w.heap.size]? = some (.cells zc 25 (0, 0))) := (Dy3.out.block _ (by omega)).trans BK.out
      have NOT : Hid (¬ (f0 = true ∧ f1 = true ∧ f2 = true ∧ f5 = true ∧ x3.length = 32 ∧ x4.length = 32) → ReadQ l ub0 0 132) := hid fun q => RQ2.out fun u' h1 h2 e => q (by
        obtain ⟨a0, a1, a2, a5, l3, l4⟩ := doc_vals h1 h2
        rw [← e] at a0 a1 a2 a5 l3 l4
        rw [HX0.out] at a0
        rw [HX1.out] at a1
        rw [HX2.out] at a2
        rw [HX5.out] at a5
        rw [HX3.out] at l3
        rw [HX4.out] at l4
        exact ⟨by rw [← Hf0.out]; exact decide_eq_true a0, by rw [← Hf1.out]; exact decide_eq_true a1, by rw [← Hf2.out]; exact decide_eq_true a2, by rw [← Hf5.out]; exact decide_eq_true a5, l3, l4⟩)
      have U8 : Hid (y3.heap[w1.heap.size]? = some (.cells zc 25 (0, 0))) := (Xy3.out.block _ (by omega)).trans U4.out
      obtain ⟨z3, Hz3⟩ : ∃ y, Hid (x3.length = y) := ⟨_, rfl⟩
      obtain ⟨z4, Hz4⟩ : ∃ y, Hid (x4.length = y) := ⟨_, rfl⟩
      have GG3 : Hid (∀ W, Below w1.heap.size w1 W → W.cell? ⟨b, off + 6 + 1, none⟩ = some (.slice q3 z3 d3)) := hid fun W hW => by rw [← Hz3.out]; exact (hW.cell hbl).trans (R3.out 1 _ rfl)
      have GG4 : Hid (∀ W, Below w1.heap.size w1 W → W.cell? ⟨b, off + 8 + 1, none⟩ = some (.slice q4 z4 d4)) := hid fun W hW => by rw [← Hz4.out]; exact (hW.cell hbl).trans (R4.out 1 _ rfl)
      have g3 := GG3.out _ Dy3.out
      have g4 := GG4.out _ Dy3.out
      rw [Hz3.out, Hz4.out] at NOT
      by_cases hf0 : f0 = false
      · have RQ := hid (NOT.out (by rw [hf0]; simp))
        subst hf0
        go_wp2_with (refine wpList_store_row rfl 25 _ _ rfl w.heap.size zc rfl (congrArg Value.agg HZC.out) 25 zc BK8.out HIZ.out rfl HZ1.out ?_)
        refine bodyPost_ret (v := .tuple #[.agg zc, .int .i64 0, .int .i64 132]) (results_cellTT (p := 2) (u := 3) (v := 4) (ty := 25) rfl _ _ w.heap.size 25 zc (0, 0) _ rfl (setRow_heap _ _ _ _ _ _ BK8.out) Tryd.underlying25 rfl HIZ.out _ _ rfl rfl) rfl ?_
        exact ⟨ub0, _, 132, by rw [HZ.out]; rfl, ub0_ok, RQ.out, bel_setRow B8.out (Nat.le_refl _) _⟩
      obtain rfl : f0 = true := by simpa using hf0
      clear hf0
      by_cases hf1 : f1 = false
      · have RQ := hid (NOT.out (by rw [hf1]; simp))
        subst hf1
        go_wp2_with (refine wpList_store_row rfl 25 _ _ rfl w.heap.size zc rfl (congrArg Value.agg HZC.out) 25 zc BK8.out HIZ.out rfl HZ1.out ?_)
        refine bodyPost_ret (v := .tuple #[.agg zc, .int .i64 0, .int .i64 132]) (results_cellTT (p := 2) (u := 3) (v := 4) (ty := 25) rfl _ _ w.heap.size 25 zc (0, 0) _ rfl (setRow_heap _ _ _ _ _ _ BK8.out) Tryd.underlying25 rfl HIZ.out _ _ rfl rfl) rfl ?_
        exact ⟨ub0, _, 132, by rw [HZ.out]; rfl, ub0_ok, RQ.out, bel_setRow B8.out (Nat.le_refl _) _⟩
      obtain rfl : f1 = true := by simpa using hf1
      clear hf1
      by_cases hf2 : f2 = false
      · have RQ := hid (NOT.out (by rw [hf2]; simp))
        subst hf2
        go_wp2_with (refine wpList_store_row rfl 25 _ _ rfl w.heap.size zc rfl (congrArg Value.agg HZC.out) 25 zc BK8.out HIZ.out rfl HZ1.out ?_)
        refine bodyPost_ret (v := .tuple #[.agg zc, .int .i64 0, .int .i64 132]) (results_cellTT (p := 2) (u := 3) (v := 4) (ty := 25) rfl _ _ w.heap.size 25 zc (0, 0) _ rfl (setRow_heap _ _ _ _ _ _ BK8.out) Tryd.underlying25 rfl HIZ.out _ _ rfl rfl) rfl ?_
        exact ⟨ub0, _, 132, by rw [HZ.out]; rfl, ub0_ok, RQ.out, bel_setRow B8.out (Nat.le_refl _) _⟩
      obtain rfl : f2 = true := by simpa using hf2
      clear hf2
      by_cases hf5 : f5 = false
      · have RQ := hid (NOT.out (by rw [hf5]; simp))
        subst hf5
        go_wp2_with (refine wpList_store_row rfl 25 _ _ rfl w.heap.size zc rfl (congrArg Value.agg HZC.out) 25 zc BK8.out HIZ.out rfl HZ1.out ?_)
        refine bodyPost_ret (v := .tuple #[.agg zc, .int .i64 0, .int .i64 132]) (results_cellTT (p := 2) (u := 3) (v := 4) (ty := 25) rfl _ _ w.heap.size 25 zc (0, 0) _ rfl (setRow_heap _ _ _ _ _ _ BK8.out) Tryd.underlying25 rfl HIZ.out _ _ rfl rfl) rfl ?_
        exact ⟨ub0, _, 132, by rw [HZ.out]; rfl, ub0_ok, RQ.out, bel_setRow B8.out (Nat.le_refl _) _⟩
      obtain rfl : f5 = true := by simpa using hf5
      clear hf5
      by_cases hz3 : z3 = 32
      rotate_left
      · have RQ := hid (NOT.out (by simp [hz3]))
        have hq : ((z3 : Int) != 32) = true := by rw [bne_iff_ne]; omega
        clear hz3
        go_wp2_with (refine wpList_store_row rfl 25 _ _ rfl w.heap.size zc rfl (congrArg Value.agg HZC.out) 25 zc BK8.out HIZ.out rfl HZ1.out ?_)
        refine bodyPost_ret (v := .tuple #[.agg zc, .int .i64 0, .int .i64 132]) (results_cellTT (p := 2) (u := 3) (v := 4) (ty := 25) rfl _ _ w.heap.size 25 zc (0, 0) _ rfl (setRow_heap _ _ _ _ _ _ BK8.out) Tryd.underlying25 rfl HIZ.out _ _ rfl rfl) rfl ?_
        exact ⟨ub0, _, 132, by rw [HZ.out]; rfl, ub0_ok, RQ.out, bel_setRow B8.out (Nat.le_refl _) _⟩
      have Hz36 := hid hz3
      subst hz3
      by_cases hz4 : z4 = 32
      rotate_left
      · have RQ := hid (NOT.out (by simp [hz4]))
        have hq : ((z4 : Int) != 32) = true := by rw [bne_iff_ne]; omega
        clear hz4
        go_wp2_with (refine wpList_store_row rfl 25 _ _ rfl w.heap.size zc rfl (congrArg Value.agg HZC.out) 25 zc BK8.out HIZ.out rfl HZ1.out ?_)
        refine bodyPost_ret (v := .tuple #[.agg zc, .int .i64 0, .int .i64 132]) (results_cellTT (p := 2) (u := 3) (v := 4) (ty := 25) rfl _ _ w.heap.size 25 zc (0, 0) _ rfl (setRow_heap _ _ _ _ _ _ BK8.out) Tryd.underlying25 rfl HIZ.out _ _ rfl rfl) rfl ?_
        exact ⟨ub0, _, 132, by rw [HZ.out]; rfl, ub0_ok, RQ.out, bel_setRow B8.out (Nat.le_refl _) _⟩
      have Hz46 := hid hz4
      subst hz4
      have DT := doc_tab HN.out HNM.out HBY.out (by rw [HX0.out]; simpa using Hf0.out) (by rw [HX1.out]; simpa using Hf1.out) (by rw [HX2.out]; simpa using Hf2.out) (by rw [HX5.out]; simpa using Hf5.out) (by rw [HX3.out]; exact Hz3.out) (by rw [HX4.out]; exact Hz4.out)
      obtain ⟨u, HU⟩ : ∃ y, Hid (docU rs = y) := ⟨_, rfl⟩
      rw [HU.out] at DT
      have UOK := hid DT.1
      have URB := hid DT.2.1
      have URS := hid DT.2.2
      have EM0 : Hid (ubA (ubI u 0) = ubA ⟨m0, m1, m2, m5, zeros32', zeros32'⟩) := by
        refine hid ?_
        rw [ubI_zero, ← HU.out]
        unfold docU
        rw [HX0.out, HX1.out, HX2.out, HX5.out, Hm0.out, Hm1.out, Hm2.out, Hm5.out]
      have EA : Hid (u.a = x4) := by refine hid ?_; rw [← HU.out]; exact HX4.out
      have EB : Hid (u.b = x3) := by refine hid ?_; rw [← HU.out]; exact HX3.out
      have SU : Hid (∀ i, i ≤ 32 → (Tryd.prog.info? 25).map (·.size) = some (ubA (ubI u i)).size) := hid fun i hi => size_ub (ubI_ok UOK.out hi)
      have ZU0 : Hid (zc.size = (ubA (ubI u 0)).size) := by refine hid ?_; rw [HZS.out, ubA_size (ubI_ok UOK.out (by omega))]
      have OU0 := hid (ubA_one (ubI u 0))
      have SU0 := hid (SU.out 0 (by omega))
      have HB0 := hid (HBU.out m0 m1 m2 m5)
      rw [← EM0.out] at HB0
      obtain ⟨M0, HM0⟩ : ∃ y, Hid (ubA (ubI u 0) = y) := ⟨_, rfl⟩
      rw [HM0.out] at ZU0 OU0 SU0 HB0
      have US : Hid ((y3.setRow w1.heap.size M0).heap[w1.heap.size]? = some (.cells M0 25 (0, 0))) := setRow_heap _ _ _ _ _ _ U8.out
      have DS : Hid (Below w1.heap.size w1 (y3.setRow w1.heap.size M0)) := bel_setRow Dy3.out (Nat.le_refl _) _
      clear DT NOT
      go_wp2_with (first | (refine wpList_store_row rfl 25 _ _ rfl w1.heap.size M0 rfl (congrArg Value.agg HB0.out) 25 zc U8.out SU0.out ZU0.out OU0.out ?_) | fail)
      obtain ⟨b33, o33, c33, hq3, hc33, hm33, hk33⟩ := E3.out.ne (by rw [Hz3.out]; omega)
      obtain ⟨b44, o44, c44, hq4, hc44, hm44, hk44⟩ := E4.out.ne (by rw [Hz4.out]; omega)
      rw [Hz3.out] at hc33
      rw [Hz4.out] at hc44
      injection hq3 with f1 f2 f3
      injection hq4 with f4 f5 f6
      subst f1 f3 f4 f6
      have HK3 := hid hk33
      have HK4 := hid hk44
      have LB3 : Hid (b33 < w1.heap.size) := hid (World.block_lt_of_cell? w1 _ (hk33 0 (by rw [Hz3.out]; omega)))
      have LB4 : Hid (b44 < w1.heap.size) := hid (World.block_lt_of_cell? w1 _ (hk44 0 (by rw [Hz4.out]; omega)))
      clear hk33 hk44 f2 f5 g3 g4 B8 BK8 U8
      obtain ⟨y4, Hy4⟩ : ∃ x, Hid (y3.setRow w1.heap.size M0 = x) := ⟨_, rfl⟩
      rw [Hy4.out] at US DS
      rw [Hy4.out]
      have US0 : Hid (Bk y4 w1.heap.size (ubA (ubI u 0)) 25) := by refine hid ?_; rw [HM0.out]; exact US.out
      clear US
      go_loopw [19] (fun i wz => ∃ I : Nat, I ≤ 32 ∧ i = .int .i64 (I : Int) ∧ Hid (Bk wz w1.heap.size (ubA (ubI u I)) 25) ∧ Hid (Below w1.heap.size w1 wz)) (fun i _ => 32 - (intOf i).toNat)
      case atStart => exact ⟨0, Nat.zero_le _, rfl, US0, DS⟩
      case round =>
        obtain ⟨I, hI, rfl, HBk, HDz⟩ := hrel
        by_cases hlt : I < 32
        · obtain ⟨ya, HYa⟩ : ∃ x, Hid (u.a.getD I 0 = x) := ⟨_, rfl⟩
          obtain ⟨yb, HYb⟩ : ∃ x, Hid (u.b.getD I 0 = x) := ⟨_, rfl⟩
          have gs3 := GG3.out _ HDz.out
          have ge3 := (HDz.out.cell LB3.out).trans (HK3.out I (by rw [Hz3.out]; omega))
          rw [← EB.out, HYb.out] at ge3
          have hc1 : ∃ x, wr.cell? ⟨w1.heap.size, 36 + I, none⟩ = some x := by
            have hs := ubA_size (ubI_ok UOK.out hI)
            exact ⟨_, HBk.out.cell (36 + I) _ (Array.getElem?_eq_getElem (by rw [hs]; omega))⟩
          obtain ⟨o1, hc1⟩ := hc1
          have hf1 := HBk.out.free (36 + I)
          have HBk2 := hid (HBk.out.set (36 + I) (.int .u8 yb))
          obtain ⟨wy, HWY⟩ : ∃ x, Hid (wr.setCell ⟨w1.heap.size, 36 + I, none⟩ (.int .u8 yb) = x) := ⟨_, rfl⟩
          have hDy : Below w1.heap.size w1 (wr.setCell ⟨w1.heap.size, 36 + I, none⟩ (.int .u8 yb)) := HDz.out.setCell (p := ⟨w1.heap.size, 36 + I, none⟩) (Nat.le_refl _) _
          have gs4 := GG4.out _ hDy
          have ge4 := (hDy.cell LB4.out).trans (HK4.out I (by rw [Hz4.out]; omega))
          rw [← EA.out, HYa.out] at ge4
          have hc2 : ∃ x, (wr.setCell ⟨w1.heap.size, 36 + I, none⟩ (.int .u8 yb)).cell? ⟨w1.heap.size, 4 + I, none⟩ = some x := by
            have hs := ubA_size (ubI_ok UOK.out hI)
            exact ⟨_, HBk2.out.cell (4 + I) _ (Array.getElem?_eq_getElem (by rw [Array.size_setIfInBounds, hs]; omega))⟩
          obtain ⟨o2, hc2⟩ := hc2
          have hf2 := HBk2.out.free (4 + I)
          have HBk3 := hid (HBk2.out.set (4 + I) (.int .u8 ya))
          rw [← HYa.out, ← HYb.out, ubI_step UOK.out hlt, HYa.out, HYb.out] at HBk3
          have HD3 := hid (hDy.setCell (p := ⟨w1.heap.size, 4 + I, none⟩) (Nat.le_refl _) (.int .u8 ya))
          clear hDy
          go_wp2
          exact ⟨⟨I + 1, by omega, by go_num, HBk3, HD3⟩, by simp [intOf]; omega⟩
        · have hI32 : I = 32 := by omega
          subst hI32
          rw [ubI_all UOK.out] at HBk
          have HSU := hid (size_ub UOK.out)
          have HUO := hid (ubA_one u)
          have ZUU : Hid (zc.size = (ubA u).size) := by refine hid ?_; rw [HZS.out, ubA_size UOK.out]
          have C9 := hid (rcheck13_any wr u UOK.out)
          have RQ0 : Hid (chE u = 0 → ReadQ l u 0 0) := hid fun q => Or.inl ⟨rfl, rfl, q, URB.out, by rw [← URS.out]; exact HPK.out⟩
          have RQ1 : Hid (chE u = 133 → ReadQ l ub0 0 133) := hid fun q => Or.inr ⟨by omega, rfl, Or.inr ⟨rfl, rs, HMAY.out, HPK.out, Or.inr ⟨rfl, u, UOK.out, URB.out, URS.out, q⟩⟩⟩
          have HCH := hid (ch_or u)
          have hsz : w1.heap.size < wr.heap.size := (Array.getElem?_eq_some_iff.1 HBk.out).1
          obtain ⟨m, HM⟩ : ∃ x, Hid (ubA u = x) := ⟨_, rfl⟩
          rw [HM.out] at HBk HSU HUO ZUU C9
          clear hlt hI HM0 HB0 EM0
          go_wp2_with (first | (refine wpList_load_row rfl 25 _ rfl w1.heap.size rfl 25 m (0, 0) _ HBk.out Tryd.underlying25 rfl HSU.out ?_) | fail)
          refine C9.out.mono ?_
          rintro e w9 ⟨rfl, hb9⟩
          have U9 := hid (HBk.out.below hb9)
          have D9 := hid (HDz.out.trans (hb9.mono HDz.out.size))
          have B9 := hid (B1.out.trans (D9.out.mono B1.out.size))
          have BK9 : Hid (w9.heap[w.heap.size]? = some (.cells zc 25 (0, 0))) := (D9.out.block _ (by omega)).trans BK.out
          clear hb9 C9
          rcases HCH.out with hc | hc
          · have RQ := hid (RQ0.out hc)
            rw [hc]
            clear hc RQ0 RQ1
            go_wp2_with (first | (refine wpList_load_row rfl 25 _ rfl w1.heap.size rfl 25 m (0, 0) _ U9.out Tryd.underlying25 rfl HSU.out ?_) | (refine wpList_store_row rfl 25 _ _ rfl w.heap.size m rfl rfl 25 zc BK9.out HSU.out ZUU.out HUO.out ?_))
            refine bodyPost_ret (v := .tuple #[.agg m, .int .i64 0, .int .i64 0]) (results_cellTT (p := 2) (u := 3) (v := 4) (ty := 25) rfl _ _ w.heap.size 25 m (0, 0) _ rfl (setRow_heap _ _ _ _ _ _ BK9.out) Tryd.underlying25 rfl HSU.out _ _ rfl rfl) rfl ?_
            exact ⟨u, 0, 0, by rw [HM.out]; rfl, UOK.out, RQ.out, bel_setRow B9.out (Nat.le_refl _) _⟩
          · have RQ := hid (RQ1.out hc)
            rw [hc]
            clear hc RQ0 RQ1
            go_wp2_with (refine wpList_store_row rfl 25 _ _ rfl w.heap.size zc rfl (congrArg Value.agg HZC.out) 25 zc BK9.out HIZ.out rfl HZ1.out ?_)
            refine bodyPost_ret (v := .tuple #[.agg zc, .int .i64 0, .int .i64 133]) (results_cellTT (p := 2) (u := 3) (v := 4) (ty := 25) rfl _ _ w.heap.size 25 zc (0, 0) _ rfl (setRow_heap _ _ _ _ _ _ BK9.out) Tryd.underlying25 rfl HIZ.out _ _ rfl rfl) rfl ?_
            exact ⟨ub0, _, 133, by rw [HZ.out]; rfl, ub0_ok, RQ.out, bel_setRow B9.out (Nat.le_refl _) _⟩
end Go.Proofs.YtklklldmhoofnaaDoor
namespace Go.Proofs.YtklklldmhoofnaaDoor
open Go.RowKit
def mkB (k i : Nat) : Int := ((151 * k + 7 * i + 1) % 256 : Nat)
theorem mkB_byt (k i : Nat) : 0 ≤ mkB k i ∧ mkB k i < 256 := by unfold mkB; omega
set_option maxHeartbeats 400000 in
theorem mark_any (w : World) (k i : Nat) (hk : k ≤ 1125899906842624) (hi : i ≤ 1125899906842624) : Calls Tryd.prog 25 #[.int .i64 k, .int .i64 i] w fun e w' => e = .returned (.int .u8 (mkB k i)) ∧ w' = w := by
  go_enter Tryd.func25, Tryd.ntmps25
  go_wp2
  go_ret
  exact ⟨by unfold mkB; first | rfl | (congr 2; done) | (congr 2; omega), rfl⟩
theorem mark_eq (w : World) (k i : Nat) (a b : Int) (ha : a = (k : Int)) (hb : b = (i : Int)) (hk : k ≤ 1125899906842624) (hi : i ≤ 1125899906842624) : Calls Tryd.prog 25 #[.int .i64 a, .int .i64 b] w fun e w' => e = .returned (.int .u8 (mkB k i)) ∧ w' = w := by
  subst ha hb
  exact mark_any w k i hk hi
theorem wrap_succ (k : Nat) (h : k ≤ 1125899906842624) : IntKind.i64.wrap ((k : Int) + 1) = ((k + 1 : Nat) : Int) := by rw [IntKind.wrap_i64]; omega
def lent (l : List Int) : List Int := l ++ (List.range 70).map fun i => mkB 0 (l.length + i)
def lentTo (l : List Int) (m : Nat) : List Int := l ++ (List.range m).map fun i => mkB 0 (l.length + i)
theorem lent_length (l : List Int) : (lent l).length = l.length + 70 := by simp [lent]
theorem lentTo_length (l : List Int) (m : Nat) : (lentTo l m).length = l.length + m := by simp [lentTo]
theorem lentTo_succ (l : List Int) (m : Nat) : lentTo l (m + 1) = lentTo l m ++ [mkB 0 (l.length + m)] := by simp [lentTo, List.range_succ]
theorem lent_byt {l : List Int} (h : ∀ x ∈ l, 0 ≤ x ∧ x < 256) : ∀ x ∈ lent l, 0 ≤ x ∧ x < 256 := by
  intro x hx
  unfold lent at hx
  rcases List.mem_append.1 hx with hx | hx
  · exact h x hx
  · obtain ⟨i, _, rfl⟩ := List.mem_map.1 hx
    exact mkB_byt _ _
theorem lent_take (l : List Int) : (lent l).take l.length = l := by simp [lent]
set_option maxHeartbeats 1000000 in
theorem lent_any (w : World) (v : Value) (l : List Int) (h : HB w v l) (hbig : l.length ≤ 140737488351232) :
    Calls Tryd.prog 13 #[v] w fun e w' => ∃ v', e = .returned v' ∧ w'.ownsRow w.heap.size 5 1 v' (lent l).length ((lent l).map (Value.int .u8)) ∧ Below w.heap.size w w' := by
  obtain ⟨p, c, e, hlc, hm⟩ := h.open
  unfold maxLen at hm
  have A : Hid (0 < l.length → ∃ b off, p = some ⟨b, off, none⟩ ∧ ∀ j, j < l.length → w.cell? ⟨b, off + j, none⟩ = some (.int .u8 (l.getD j 0))) := by
    intro h0
    obtain ⟨b, off, c', e', _, _, hh⟩ := h.ne h0
    rw [e] at e'
    simp only [Value.slice.injEq, true_and] at e'
    exact ⟨b, off, e'.1, hh⟩
  clear h
  subst e
  go_enter Tryd.func13, Tryd.ntmps13
  go_wp2
  go_loopw [3, 4] (fun o i wr => ∃ k : Nat, k ≤ l.length ∧ i = .int .i64 k ∧ Hid (wr.ownsRow w.heap.size 5 1 o k ((l.take k).map (Value.int .u8))) ∧ Hid (Below w.heap.size w wr)) (fun _ i _ => l.length - (intOf i).toNat)
  case atStart => exact ⟨0, Nat.zero_le _, rfl, World.ownsRow_nil _ _ _ _, Below.refl _ _⟩
  case round =>
    obtain ⟨k, hk, rfl, HO, HBw⟩ := hrel
    by_cases hlt : k < l.length
    · obtain ⟨b, off, rfl, hh⟩ := A.out (by omega)
      have hu0 := hh k hlt
      have hu := (HBw.out.cell (World.block_lt_of_cell? w _ hu0)).trans hu0
      have HS : Hid (l.take (k + 1) = l.take k ++ [l.getD k 0]) := by
        show _ = _
        rw [List.take_succ_eq_append_getElem hlt, getD_of_lt hlt]
      obtain ⟨x, HX⟩ : ∃ x, Hid (l.getD k 0 = x) := ⟨_, rfl⟩
      rw [HX.out] at hu HS
      clear hh hu0
      go_wp2_with (at_builtin; refine wpList_append_byte rfl _ _ rfl w.heap.size _ k _ rfl (HO.out.alloc _) ⟨wr.heap.size, 0, none⟩ 1 x rfl (by simp) ?q1 ?q2 ?_)
      case q1 => omega
      case q2 => have := HBw.out.size; simp; omega
      intro v' w2 hown2 hgr2 _
      have HO2 : Hid (w2.ownsRow w.heap.size 5 1 v' (k + 1) ((l.take (k + 1)).map (Value.int .u8))) := by
        rw [HS.out, List.map_append, List.map_take]
        exact hown2
      have HB2 := hid ((HBw.out.alloc HBw.out.size _).grown hgr2 (by have := HBw.out.size; simp; omega) (fun k e => (HO.out.lt k e).1))
      clear hown2 hgr2
      go_wp2
      exact ⟨⟨k + 1, by omega, by go_num, HO2, HB2⟩, by simp [intOf]; omega⟩
    · have hkl : k = l.length := by omega
      have HO' : Hid (wr.ownsRow w.heap.size 5 1 u3 (l.length + 0) ((lentTo l 0).map (Value.int .u8))) := by
        show World.ownsRow _ _ _ _ _ _ _
        have := HO.out
        rw [hkl, List.take_of_length_le (Nat.le_refl _)] at this
        simpa [lentTo] using this
      clear hkl
      go_wp2
      go_loopw [3, 5] (fun o i wz => ∃ m : Nat, m ≤ 70 ∧ i = .int .i64 m ∧ Hid (wz.ownsRow w.heap.size 5 1 o (l.length + m) ((lentTo l m).map (Value.int .u8))) ∧ Hid (Below w.heap.size w wz)) (fun _ i _ => 70 - (intOf i).toNat)
      case atStart => exact ⟨0, Nat.zero_le _, rfl, HO', HBw⟩
      case round =>
        clear HO' HBw HO
        obtain ⟨m, hm70, rfl, HO, HBw⟩ := hrel
        by_cases hlt2 : m < 70
        · have hlt3 : (m : Int) < 70 := by omega
          have HS := hid (lentTo_succ l m)
          go_wp2_with fail
          have e1 : ((l.length : Int) + (m : Int)) = ((l.length + m : Nat) : Int) := by omega
          rw [e1]
          refine (mark_any wr 0 (l.length + m) (by omega) (by omega)).mono ?_
          rintro e wz ⟨rfl, hw⟩
          have hw' := hw.symm
          subst hw'
          clear hw e1
          go_wp2_with (at_builtin; refine wpList_append_byte rfl _ _ rfl w.heap.size _ (l.length + m) _ rfl (HO.out.alloc _) ⟨wr.heap.size, 0, none⟩ 1 (mkB 0 (l.length + m)) rfl (by simp) ?q1 ?q2 ?_)
          case q1 => omega
          case q2 => have := HBw.out.size; simp; omega
          intro v' w2 hown2 hgr2 _
          have HO2 : Hid (w2.ownsRow w.heap.size 5 1 v' (l.length + (m + 1)) ((lentTo l (m + 1)).map (Value.int .u8))) := by
            rw [HS.out, List.map_append]
            exact hown2
          have HB2 := hid ((HBw.out.alloc HBw.out.size _).grown hgr2 (by have := HBw.out.size; simp; omega) (fun k e => (HO.out.lt k e).1))
          clear hown2 hgr2
          go_wp2
          exact ⟨⟨m + 1, by omega, by go_num, HO2, HB2⟩, by simp [intOf]; omega⟩
        · have e70 : m = 70 := by omega
          subst e70
          go_wp2
          go_ret
          refine ⟨_, rfl, ?_, HBw.out⟩
          rw [lent_length]
          exact HO.out
set_option maxHeartbeats 400000 in
theorem kept_any (w : World) (vf vl : Value) (fl l : List Int) (hf : HB w vf fl) (hl : HB w vl l) (hbig : l.length ≤ 140737488351232) :
    Calls Tryd.prog 16 #[vf, vl] w fun e w' => e = .returned (.bool (decide (fl = lent l))) ∧ Below w.heap.size w w' := by
  have HF := hid hf
  have HLl := hid hl
  obtain ⟨p1, c1, rfl, _, _⟩ := hf.open
  obtain ⟨p2, c2, rfl, _, _⟩ := hl.open
  clear hf hl
  go_enter Tryd.func16, Tryd.ntmps16
  go_wp2_with fail
  refine (lent_any w _ l HLl.out hbig).mono ?_
  rintro e w1 ⟨v1, rfl, hown, hB⟩
  have H1 := hid (HB.of_own hown (lent_byt HLl.out.2))
  have HF1 := hid (HF.out.below hB)
  have B1 := hid hB
  obtain ⟨p3, c3, e3, _, _⟩ := H1.out.open
  clear hown hB
  subst e3
  obtain ⟨ll, HLL⟩ : ∃ ll, Hid (lent l = ll) := ⟨_, rfl⟩
  rw [HLL.out] at H1 ⊢
  go_wp2_with fail
  refine (sameBytes_any w1 _ _ fl ll HF1.out H1.out).mono ?_
  rintro e w2 ⟨rfl, hD⟩
  have B2 := hid (B1.out.trans (hD.below _))
  obtain ⟨z, HZ⟩ : ∃ z, Hid (decide (fl = ll) = z) := ⟨_, rfl⟩
  rw [HZ.out]
  clear hD
  go_wp2
  go_ret
  exact ⟨by rw [HLL.out, HZ.out]; rfl, B2.out⟩
end Go.Proofs.YtklklldmhoofnaaDoor
namespace Go.Proofs.YtklklldmhoofnaaDoor
open Go Go.RowKit
theorem lent_head {w : World} {B : Nat} {v : Value} {l : List Int} (h : w.ownsRow B 5 1 v (lent l).length ((lent l).map (Value.int .u8))) (hy : ∀ x ∈ l, 0 ≤ x ∧ x < 256) :
    ∃ g cap, v = .slice (some ⟨g, 0, none⟩) (l.length + 70) cap ∧ l.length + 70 ≤ cap ∧ cap ≤ 9223372036854775807 ∧ HB w (.slice (some ⟨g, 0, none⟩) l.length cap) l ∧ HB w (.slice (some ⟨g, 0, none⟩) (l.length + 70) cap) (lent l) := by
  have hll := lent_length l
  have hf := HB.of_own h (lent_byt hy)
  rcases h.2 with ⟨_, e0⟩ | ⟨g, cap, cur, rfl, hb, hh, hn, hm, _, _⟩
  · omega
  · unfold maxLen at hm
    refine ⟨g, cap, by rw [hll], by omega, hm, ?_, by rw [hll] at hf; exact hf⟩
    have h3 := hf.sliced 0 l.length cap (Nat.zero_le _) (by omega) (by omega) (Nat.le_refl _)
    rw [lent_take] at h3
    have e : (if cap = 0 then (some (⟨g, 0, none⟩ : Addr)) else (some (⟨g, 0, none⟩ : Addr)).map (·.add 0)) = some ⟨g, 0, none⟩ := by
      split
      · rfl
      · simp [Addr.add]
    rw [e] at h3
    simpa using h3
set_option maxRecDepth 100000 in
set_option maxHeartbeats 8000000 in
theorem uebRead_walk (w : World) (v : Value) (l : List Int) (h : HB w v l) (hl : l.length ≤ 140737488351232) (hk : KD w) : Calls Tryd.prog 4 #[v] w fun e w' => e = .returned (.bool true) ∧ Below w.heap.size w w' := by
  have HA := hid h
  have HK := hid hk
  have hz := zc_ueb
  have HZS : Hid (Tryd.zeroCells25.size = 68) := by refine hid ?_; rw [hz]; exact ubA_size ub0_ok
  obtain ⟨pa, ca, ea, hla, hca⟩ := h.open
  clear h hk hz
  subst ea
  unfold maxLen at hca
  have sz := size_u8
  have CL := hid (lent_any w _ l HA.out hl)
  have CR := hid fun W (hW : Below w.heap.size w W) => rread13_any W _ l (HA.out.below hW) (HK.out.below hW)
  have CK := hid fun W vf (hf : HB W vf (lent l)) (hW : Below w.heap.size w W) => kept_any W vf _ (lent l) l hf (HA.out.below hW) hl
  obtain ⟨L, HLn⟩ : ∃ x, Hid (l.length = x) := ⟨_, rfl⟩
  rw [HLn.out] at CL CR CK hla hl
  rw [HLn.out]
  go_enter Tryd.func4, Tryd.ntmps4
  go_wp2_with fail
  refine CL.out.mono ?_
  rintro e w1 ⟨vx, rfl, hox, hb1⟩
  obtain ⟨gx, cx, ex, hcx, hcx2, hx, hfx⟩ := lent_head hox HA.out.2
  rw [HLn.out] at ex hcx hx hfx
  have X1 := hid hx
  have F1 := hid hfx
  have B1 := hid hb1
  subst ex
  have C2 := hid (uread_any w1 _ l hx (HK.out.below hb1))
  clear hox hx hfx hb1 CL
  go_wp2_with fail
  refine C2.out.mono ?_
  rintro e w2 ⟨u, k, ec, rfl, huok, hq, hb2⟩
  have B2 := hid (B1.out.trans (hb2.mono B1.out.size))
  have F2 := hid (F1.out.below hb2)
  have HQ := hid hq
  have HU := hid huok
  have HSU := hid (size_ub huok)
  have HOU := hid (ubA_one u)
  have ZU : Hid (Tryd.zeroCells25.size = (ubA u).size) := by refine hid ?_; rw [HZS.out, ubA_size huok]
  have HEQ : Hid (∀ W : World, (binOp .eql 25 (.agg (ubA u)) (.agg (ubA u))).run Tryd.prog W = .ok (.bool true) W) := hid fun W => by
    have := run_eql_ueb W u u HU.out HU.out
    rw [(ubE_iff u u).2 rfl] at this
    exact this
  obtain ⟨m, HM⟩ : ∃ x, Hid (ubA u = x) := ⟨_, rfl⟩
  rw [HM.out] at HSU HOU ZU HEQ
  rw [HM.out]
  have ZA := hid (heap_alloc_new w2 (.cells Tryd.zeroCells25 25))
  obtain ⟨w3, HW3⟩ : ∃ x, Hid ((w2.alloc (.cells Tryd.zeroCells25 25)).setRow w2.heap.size m = x) := ⟨_, rfl⟩
  have hb3 : Below w2.heap.size w2 w3 := by rw [← HW3.out]; exact bel_setRow ((Below.refl _ w2).alloc (Nat.le_refl _) _) (Nat.le_refl _) _
  have Y3 : Hid (w3.heap[w2.heap.size]? = some (.cells m 25 (0, 0))) := by refine hid ?_; rw [← HW3.out]; exact setRow_heap _ _ _ _ _ _ ZA.out
  have S3 : Hid (w2.heap.size < w3.heap.size) := by refine hid ?_; rw [← HW3.out]; simp [World.setRow]
  have B3 := hid (B2.out.trans (hb3.mono B2.out.size))
  have F3 := hid (F2.out.below hb3)
  clear huok hq hb2 hb3 C2
  go_wp2_with (first | (refine wpList_store_row rfl 25 _ _ rfl w2.heap.size m rfl rfl 25 _ ZA.out HSU.out ZU.out HOU.out ?_; rw [HW3.out]) | fail)
  refine (CR.out w3 B3.out).mono ?_
  rintro e w4 ⟨u', k', ec', rfl, huok', hq', hb4⟩
  obtain ⟨e1, e2, e3⟩ := ReadQ.det HU.out huok' HQ.out hq'
  subst e1 e2 e3
  rw [HM.out]
  have B4 := hid (B3.out.trans (hb4.mono B3.out.size))
  have F4 := hid (F3.out.below hb4)
  have Y4 := hid ((hb4.block w2.heap.size S3.out).trans Y3.out)
  have S4 : Hid (w2.heap.size < w4.heap.size) := hid (Nat.lt_of_lt_of_le S3.out hb4.size)
  have ZB := hid (heap_alloc_new w4 (.cells Tryd.zeroCells25 25))
  obtain ⟨w5, HW5⟩ : ∃ x, Hid ((w4.alloc (.cells Tryd.zeroCells25 25)).setRow w4.heap.size m = x) := ⟨_, rfl⟩
  have hb5 : Below w4.heap.size w4 w5 := by rw [← HW5.out]; exact bel_setRow ((Below.refl _ w4).alloc (Nat.le_refl _) _) (Nat.le_refl _) _
  have E5 : Hid (w5.heap[w4.heap.size]? = some (.cells m 25 (0, 0))) := by refine hid ?_; rw [← HW5.out]; exact setRow_heap _ _ _ _ _ _ ZB.out
  have Y5 := hid ((hb5.block w2.heap.size S4.out).trans Y4.out)
  have B5 := hid (B4.out.trans (hb5.mono B4.out.size))
  have F5 := hid (F4.out.below hb5)
  have C6 := CK.out w5 _ F5.out B5.out
  rw [decide_eq_true trivial] at C6
  have C6 := hid C6
  have heq := HEQ.out
  have hkk : ((k : Int) == (k : Int)) = true := by simp
  have hee : (ec == ec) = true := by simp
  clear huok' hq' hb4 hb5 CR CK
  go_wp2_with (first | (refine wpList_store_row rfl 25 _ _ rfl w4.heap.size m rfl rfl 25 _ ZB.out HSU.out ZU.out HOU.out ?_; rw [HW5.out]) | (refine wpList_load_row rfl 25 _ rfl w4.heap.size rfl 25 m (0, 0) _ E5.out Tryd.underlying25 rfl HSU.out ?_) | (refine wpList_load_row rfl 25 _ rfl w2.heap.size rfl 25 m (0, 0) _ Y5.out Tryd.underlying25 rfl HSU.out ?_) | fail)
  refine C6.out.mono ?_
  rintro e w6 ⟨rfl, hb6⟩
  have B6 := hid (B5.out.trans (hb6.mono B5.out.size))
  clear hb6 C6
  go_wp2
  go_ret
  exact ⟨rfl, B6.out⟩
end Go.Proofs.YtklklldmhoofnaaDoor
namespace Go.Proofs.YtklklldmhoofnaaDoor
open Go Go.RowKit Go.ChangeShapes Go.WideShapes Go.ChangeAt
def baseLaid : List (String × DataW Unit) := [("math/bits.deBruijn32tab", Rows.laid_math_bits_deBruijn32tab), ("math/bits.deBruijn64tab", Rows.laid_math_bits_deBruijn64tab), ("internal/strconv.uint64pow10", Rows.laid_internal_strconv_uint64pow10), ("strconv.ErrRange", Rows.laid_strconv_ErrRange), ("strconv.ErrSyntax", Rows.laid_strconv_ErrSyntax)]
theorem gP10 : Tryd.prog.globalNamed "internal/strconv.uint64pow10" = some 1 := by kernel_rfl
theorem tP10 : (Tryd.prog.globals[1]?).map (·.type) = some 145 := by kernel_rfl
theorem gER : Tryd.prog.globalNamed "strconv.ErrRange" = some 4 := by kernel_rfl
theorem tER : (Tryd.prog.globals[4]?).map (·.type) = some 109 := by kernel_rfl
theorem gES : Tryd.prog.globalNamed "strconv.ErrSyntax" = some 3 := by kernel_rfl
theorem tES : (Tryd.prog.globals[3]?).map (·.type) = some 109 := by kernel_rfl
theorem cells_es : Tryd.prog.cellsOf 164 = 1 := by kernel_rfl
theorem cells_str : Tryd.prog.cellsOf 9 = 1 := by kernel_rfl
theorem star_es : "*" ++ "errors.errorString" = "*errors.errorString" := by decide
theorem row_es (u : TypeId) (h : Tryd.prog.typeName? 3 u = some "*errors.errorString") : u = 162 :=
  typeName_ptr_named (nm := "errors.errorString") (by rw [star_es]; kernel_rfl) (by kernel_rfl) (by decide) u (by rw [star_es]; exact h)
theorem kd_of_laid {W : World} (h : laidMetH Tryd.prog baseLaid W) : KD W := by
  rw [MakeChecks.laidMetH_plain _ _ _ (by kernel_rfl)] at h
  have h3 : laidMet Tryd.prog (("internal/strconv.uint64pow10", Lib.tabData .u64 Lib.pow10Tab) :: [("strconv.ErrRange", Rows.laid_strconv_ErrRange), ("strconv.ErrSyntax", Rows.laid_strconv_ErrSyntax)]) W := h.tail.tail
  have h4 := h3.tail
  obtain ⟨a0, s0, hv0, -, -, -⟩ := laid_sentinel h4 gER tER Tryd.underlying109 row_es Tryd.underlying162 Tryd.underlying164 rfl rfl Tryd.underlying9 cells_es cells_str
  obtain ⟨a1, s1, hv1, -, -, -⟩ := laid_sentinel h4.tail gES tES Tryd.underlying109 row_es Tryd.underlying162 Tryd.underlying164 rfl rfl Tryd.underlying9 cells_es cells_str
  have k1 : W.cell? ⟨3, 0, none⟩ = some (.iface 162 (.pointer (some a1))) := by
    have h0 := World.var?_cell gES hv1 0
    simpa using h0
  have k2 : W.cell? ⟨4, 0, none⟩ = some (.iface 162 (.pointer (some a0))) := by
    have h0 := World.var?_cell gER hv0 0
    simpa using h0
  exact ⟨Lib.tabIs_of_head gP10 tP10 Tryd.underlying145 Tryd.underlying95 (by kernel_rfl) (by kernel_rfl) h3, ⟨_, _, k1⟩, _, _, k2⟩
end Go.Proofs.YtklklldmhoofnaaDoor
