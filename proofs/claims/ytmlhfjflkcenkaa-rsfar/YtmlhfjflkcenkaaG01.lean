/- Of the road to rsFar_holds: MtIt, Join, SameBytes, Lists, PwKit, AppL, Ev, EvOps. -/
import Derived.Test.YtmlhfjflkcenkaaG00
import Derived.Laws.AppendOwnNone
import Derived.Test.YtmlhfjflkcenkaaChecked
import Derived.Laws.AppendOwn
import Derived.WalkKit
import Derived.Deep.MidRow
import Derived.OrdersHeld
import Derived.Below
import Derived.RangeFuncOwn
import Derived.Laws.Entries
set_option linter.unusedVariables false
set_option linter.unusedSimpArgs false
namespace Go.Proofs.Ytmlhfjflkcenkaa
open Go Go.RowKit Go.Shelf
attribute [local go_sem] Oper.semAt_some
def rwL (l : List Int) (c i : Nat) : List Int := (l.take (i * c + c)).drop (i * c)
theorem rwL_length {l : List Int} {r c i : Nat} (hl : l.length = r * c) (hi : i < r) : (rwL l c i).length = c := by
  have : (i + 1) * c ≤ r * c := Nat.mul_le_mul_right c hi
  rw [Nat.succ_mul] at this
  unfold rwL
  rw [List.length_drop, List.length_take]
  omega
theorem rwL_get {l : List Int} {r c i j : Nat} (hl : l.length = r * c) (hi : i < r) (hj : j < c) : (rwL l c i).getD j 0 = l.getD (i * c + j) 0 := by
  unfold rwL
  simp only [List.getD, List.getElem?_drop, List.getElem?_take]
  rw [if_pos (by omega)]
theorem HMt.open {w : World} {g r c : Nat} {l : List Int} (h : HMt w g r c l) (h1 : 1 ≤ r) (h2 : 1 ≤ c) : ∃ b o k, w.heap[g]? = some (.cells #[gfF, .int .i64 (r : Int), .int .i64 (c : Int), .slice (some ⟨b, o, none⟩) (r * c) k] 74 (0, 0)) ∧ r * c ≤ k ∧ k ≤ 9223372036854775807 ∧ HB w (.slice (some ⟨b, o, none⟩) (r * c) k) l := by
  obtain ⟨h0, v, hv, hb⟩ := h
  have hp : 0 < r * c := Nat.mul_pos h1 h2
  obtain ⟨b, o, k, e, hk, hm, _⟩ := hb.ne (by omega)
  rw [h0] at e hk
  subst e
  unfold maxLen at hm
  exact ⟨b, o, k, hv, hk, hm, hb⟩
set_option maxRecDepth 100000 in
set_option maxHeartbeats 4000000 in
theorem brow_any (w : World) (g r c : Nat) (l : List Int) (I : Nat) (h : HMt w g r c l) (hI : I < r) (hr : r ≤ 256) (hc1 : 1 ≤ c) (hc : c ≤ 256) :
    Calls Try.prog 46 #[.pointer (some ⟨g, 0, none⟩), .int .i64 (I : Int)] w fun e w' => ∃ v, e = .returned v ∧ HB w' v (rwL l c I) ∧ Dr w w' := by
  have hlen := h.1
  obtain ⟨b, o, k, hg, hk, hm, hb⟩ := h.open (by omega) hc1
  have h2 : w.cell? ⟨g, 2, none⟩ = some (.int .i64 (c : Int)) := (cell_of_row w g 2 _ _ _ hg).trans rfl
  have h3 : w.cell? ⟨g, 3, none⟩ = some (.slice (some ⟨b, o, none⟩) (r * c) k) := (cell_of_row w g 3 _ _ _ hg).trans rfl
  have hle : (I + 1) * c ≤ r * c := Nat.mul_le_mul_right c hI
  have hbig : (I + 1) * c ≤ 65536 := by
    have := Nat.mul_le_mul (show I + 1 ≤ 256 by omega) hc
    omega
  have e1 : (I + 1) * c = I * c + c := by rw [Nat.add_mul, Nat.one_mul]
  have HSL : Hid (HB w (.slice (some ⟨b, o + I * c, none⟩) c (k - I * c)) (rwL l c I)) := by
    have hb2 := hb
    rw [← hlen] at hb2
    have := hb2.sliced (I * c) (I * c + c) k (by omega) (by rw [hlen]; omega) (by omega) (Nat.le_refl _)
    rw [if_neg (by omega), Nat.add_sub_cancel_left] at this
    have e : ((some (⟨b, o, none⟩ : Addr)).map (·.add (I * c))) = some ⟨b, o + I * c, none⟩ := by
      simp only [Option.map_some, Addr.add]
      split
      · rename_i q; rw [q]; rfl
      · rfl
    rw [e] at this
    exact this
  obtain ⟨n, HN⟩ : ∃ n, Hid (r * c = n) := ⟨_, rfl⟩
  obtain ⟨m, hm2⟩ : ∃ m, I * c = m := ⟨_, rfl⟩
  rw [hm2] at e1 HSL
  have w1 : IntKind.i64.wrap ((I : Int) * (c : Int)) = (m : Int) := by rw [← Int.natCast_mul, hm2, IntKind.wrap_i64]; omega
  have w0 : IntKind.i64.wrap ((I : Int) + 1) = ((I + 1 : Nat) : Int) := by rw [IntKind.wrap_i64]; omega
  obtain ⟨q, hq⟩ : ∃ q, m + c = q := ⟨_, rfl⟩
  have w2 : IntKind.i64.wrap (((I : Int) + 1) * (c : Int)) = (q : Int) := by rw [show ((I : Int) + 1) * (c : Int) = (((I + 1) * c : Nat) : Int) by push_cast; rfl, e1, hq, IntKind.wrap_i64]; omega
  rw [e1, hq] at hle hbig
  rw [HN.out] at h3 hk hle
  have hmq : m ≤ q := by omega
  have hqk : q ≤ k := by omega
  have hcq : q - m = c := by omega
  have hkm : ¬ k = m := by omega
  have HSZ : ∀ w, Sem.run Try.prog (Go.sizeOf 5) w = .ok 1 w := size_u8
  clear hg hb h hlen
  go_enter Try.func46, Try.ntmps46
  go_wp2
  go_quiet (fail)
  go_wp2
  go_ret
  exact ⟨_, rfl, HSL.out.drewN _, (Dr.refl w).drewN _⟩
theorem bel_setRow' {B : Nat} {w W : World} {g : Nat} (h : Below B w W) (hg : B ≤ g) (cs : Array Value) : Below B w (W.setRow g cs) := ⟨h.os, h.tape, h.output, by simp [World.setRow]; exact h.size, fun k hk => by
  have := h.block k hk
  simp only [World.setRow, Array.getElem?_modify]
  rw [if_neg (by omega)]
  exact this⟩
theorem size_mat : (Try.prog.info? 74).map (·.size) = some 4 := by kernel_rfl
theorem zero_mat : (Try.prog.info? 74).map (·.zero) = some (some (.agg #[.nilIface, .int .i64 0, .int .i64 0, .slice none 0 0])) := by kernel_rfl
theorem bmade_any (w : World) (g r c : Nat) (l : List Int) (h : HMt w g r c l) : Calls Try.prog 44 #[.pointer (some ⟨g, 0, none⟩)] w fun e w' => e = .returned (.bool true) ∧ w' = w := by
  obtain ⟨_, v, hg, _⟩ := h
  have h0 : w.cell? ⟨g, 0, none⟩ = some (.iface 50 (.agg #[])) := (cell_of_row w g 0 _ _ _ hg).trans rfl
  go_enter Try.func44, Try.ntmps44
  go_wp2
  go_ret
  exact ⟨rfl, rfl⟩
set_option maxRecDepth 100000 in
set_option maxHeartbeats 4000000 in
theorem ball_any (w : World) (g r c : Nat) (l : List Int) (h : HMt w g r c l) :
    Calls Try.prog 32 #[.pointer (some ⟨g, 0, none⟩)] w fun e w' => ∃ b, e = .returned (.func (.func 52) #[] #[.pointer (some ⟨b, 0, none⟩)]) ∧ w.heap.size ≤ b ∧ b < w'.heap.size ∧ HMt w' b r c l ∧ w'.cell? ⟨b, 3, none⟩ = w.cell? ⟨g, 3, none⟩ ∧ Below w.heap.size w w' := by
  have CM := hid (bmade_any w g r c l h)
  obtain ⟨h0, v, hg, hb⟩ := h
  have HB0 := hid hb
  have HL0 := hid h0
  obtain ⟨p, k, rfl, _, _⟩ := hb.open
  obtain ⟨v, HV⟩ : ∃ x, Hid (Value.slice p l.length k = x) := ⟨_, rfl⟩
  have hone : ∀ a b : Value, a.oneCell' = true → b.oneCell' = true → (#[a, .int .i64 (r : Int), .int .i64 (c : Int), b] : Array Value).all (·.oneCell') = true := fun a b ha hb => by rw [Array.all_eq_true_iff_forall_mem]; intro x hx; simp at hx; rcases hx with rfl | rfl | rfl | rfl <;> first | assumption | rfl
  have hone2 := hone gfF (.slice p l.length k) rfl rfl
  rw [HV.out] at hg hb HB0 hone2
  obtain ⟨m, HM⟩ : ∃ x, Hid (#[gfF, .int .i64 (r : Int), .int .i64 (c : Int), v] = x) := ⟨_, rfl⟩
  rw [HM.out] at hg
  have HG := hid hg
  have HS : Hid ((Try.prog.info? 74).map (·.size) = some m.size) := by refine hid ?_; rw [← HM.out]; exact size_mat
  have HO : Hid (m.all (·.oneCell') = true) := by refine hid ?_; rw [← HM.out]; exact hone2
  obtain ⟨z, HZ⟩ : ∃ x : Array Value, Hid (#[.nilIface, .int .i64 0, .int .i64 0, .slice none 0 0] = x) := ⟨_, rfl⟩
  have HZS : Hid (z.size = m.size) := by refine hid ?_; rw [← HZ.out, ← HM.out]; rfl
  have ZA := hid (heap_alloc_new w (.cells z 74))
  clear hg hb h0 hone hone2
  go_enter Try.func32, Try.ntmps32
  go_wp2_with fail
  refine CM.out.mono ?_
  rintro e wq ⟨rfl, hwq⟩
  rw [hwq]
  clear hwq wq
  go_wp2_with (first | (refine wpList_load_row rfl 74 _ rfl g rfl 74 m (0, 0) _ HG.out Try.underlying74 rfl HS.out ?_) | (rw [HZ.out]; refine wpList_store_row rfl 74 _ _ rfl w.heap.size m rfl rfl 74 _ ZA.out HS.out HZS.out HO.out ?_) | fail)
  go_ret
  have bb : Below w.heap.size w ((w.alloc (.cells z 74)).setRow w.heap.size m) := bel_setRow' ((Below.refl _ w).alloc (Nat.le_refl _) _) (Nat.le_refl _) _
  have hh : ((w.alloc (.cells z 74)).setRow w.heap.size m).heap[w.heap.size]? = some (.cells m 74 (0, 0)) := setRow_heap _ _ _ _ _ _ ZA.out
  refine ⟨w.heap.size, rfl, Nat.le_refl _, by simp [World.setRow], ⟨HL0.out, v, ?_, HB0.out.below bb⟩, ?_, bb⟩
  · rw [HM.out]
    exact hh
  · rw [cell_of_row _ _ _ _ _ _ hh, cell_of_row _ _ _ _ _ _ HG.out]
def mtD (w0 : World) (g : Nat) (i : Nat) : Prop := i = g ∨ ∃ v, w0.cell? ⟨g, 3, none⟩ = some v ∧ v.ownBlock = some i
theorem HMt.kept {A C : World} {g r c : Nat} {l : List Int} (h : HMt A g r c l) {w0 : World} (hc : w0.cell? ⟨g, 3, none⟩ = A.cell? ⟨g, 3, none⟩) (k : KD (mtD w0 g) A C) : HMt C g r c l := by
  obtain ⟨h0, v, hg, hb⟩ := h
  have hv : A.cell? ⟨g, 3, none⟩ = some v := (cell_of_row A g 3 _ _ _ hg).trans rfl
  refine ⟨h0, v, (k.2 g (.inl rfl)).trans hg, ?_⟩
  obtain ⟨⟨p, q, rfl, h2, h3, h6, h4⟩, h5⟩ := hb
  refine ⟨⟨p, q, rfl, h2, h3, h6, fun hl => ?_⟩, h5⟩
  obtain ⟨b, off, rfl, hh⟩ := h4 hl
  refine ⟨b, off, rfl, fun j hj => ?_⟩
  have e : C.heap[b]? = A.heap[b]? := k.2 b (.inr ⟨_, hc.trans hv, rfl⟩)
  have e2 : C.cell? ⟨b, off + j, none⟩ = A.cell? ⟨b, off + j, none⟩ := by simp [World.cell?, e]
  exact e2.trans (hh j hj)
set_option maxRecDepth 100000 in
set_option maxHeartbeats 4000000 in
theorem ball_iter (n : Nat) (w0 : World) (g r c : Nat) (l : List Int) (h : HMt w0 g r c l) (hr1 : 1 ≤ r) (hr : r ≤ 256) (hc1 : 1 ≤ c) (hc : c ≤ 256) (hD : ∀ i, mtD w0 g i → i < w0.heap.size) :
    IterF Fence.wide n Try.prog 52 #[.pointer (some ⟨g, 0, none⟩)] (fun k v => #[.int .i64 (k : Int), v])
      (fun k v W => W.ownsRow w0.heap.size 5 1 v (rwL l c k).length ((rwL l c k).map (Value.int .u8))) (mtD w0 g) r w0 := fun l' J Jx W hK hJ hY h0 => by
  have HM0 := hid (h.kept rfl hK)
  have HK := hid hK
  have HJ := hid hJ
  have HY := hid hY
  have H0 := hid h0
  have HD := hid hD
  have HC3 : Hid (∀ C, KD (mtD w0 g) w0 C → w0.cell? ⟨g, 3, none⟩ = C.cell? ⟨g, 3, none⟩) := hid fun C hC => by
    have e := hC.2 g (.inl rfl)
    simp [World.cell?, e]
  have HLEN := hid h.1
  have HBYT : Hid (∀ k, ∀ x ∈ rwL l c k, 0 ≤ x ∧ x < 256) := hid fun k x hx => by
    obtain ⟨_, v, _, hb⟩ := h
    exact hb.2 x (List.mem_of_mem_take (List.mem_of_mem_drop hx))
  clear h hK hJ hY h0 hD
  obtain ⟨b, o, kk, hg, _, _, _⟩ := HM0.out.open hr1 hc1
  have hr0 : W.cell? ⟨g, 1, none⟩ = some (.int .i64 (r : Int)) := (cell_of_row W g 1 _ _ _ hg).trans rfl
  clear hg
  refine callsIn_of_wp Try.func52 rfl trivial ?_ rfl
  simp only [Try.ntmps52, List.size_toArray, List.length_cons, List.length_nil, Nat.reduceAdd, Nat.reduceSub, Array.replicate_succ, Array.replicate_zero, List.push_toArray, List.append_toArray, List.nil_append, List.cons_append]
  gi_wp2
  gi_loopw [6] (fun i wr => ∃ k : Nat, k ≤ r ∧ i = .int .i64 (k : Int) ∧ Hid (J k wr) ∧ Hid (KD (mtD w0 g) W wr)) (fun i _ => r - (intOf i).toNat)
  case atStart => exact ⟨0, Nat.zero_le _, rfl, H0, KD.refl _ _⟩
  case round =>
    obtain ⟨k, hk, rfl, HJk, HKk⟩ := hrel
    by_cases hlt : k < r
    · have hKw := HK.out.trans HKk.out
      have HMk := hid (HM0.out.kept (HC3.out _ HK.out) HKk.out)
      have CR := hid (brow_any wr g r c l k HMk.out hlt hr hc1 hc)
      gi_wp2
      refine ⟨trivial, fun h => absurd h (by simp [Fence.wide]), callsIn_wide.2 (CR.out.mono ?_)⟩
      rintro e w1 ⟨v1, rfl, hb1, hd1⟩
      have HB1 := hid hb1
      obtain ⟨p1, c1, e1, _, _⟩ := hb1.open
      subst e1
      have hB1 : Below wr.heap.size wr w1 := hd1.below _
      have HBL := hid hB1
      have HLn : Hid ((rwL l c k).length ≤ 140737488355328) := by refine hid ?_; rw [rwL_length HLEN.out hlt]; omega
      clear hb1 hd1 CR
      gi_wp2
      refine ⟨trivial, fun h => absurd h (by simp [Fence.wide]), callsIn_wide.2 ((sclone_any w1 _ _ HB1.out HLn.out).mono ?_)⟩
      rintro e w2 ⟨v2, rfl, hown, hB⟩
      have hB2 := HBL.out.trans (hB.mono HBL.out.size)
      have hJ1 := HJ.out k wr w2 HJk.out (grown_below hB2)
      have hsz : w0.heap.size ≤ w1.heap.size := Nat.le_trans hKw.1 HBL.out.size
      obtain ⟨fn, tmps, assign, body, hy, hR⟩ := HY.out k v2 w2 hJ1 (own_mono hown hsz) hlt
      have HRR := hid hR
      have HKD : Hid (KD (mtD w0 g) wr w2) := ⟨hB2.size, fun i hi => hB2.block i (Nat.lt_of_lt_of_le (HD.out i hi) hKw.1)⟩
      clear hown hB hJ1 hR hB2 hB1
      gi_wp2
      refine ⟨fun h => absurd h (by simp [Fence.wide]), HRR.out.mono ?_⟩
      rintro e W3 (⟨rfl, hJ3, hk3⟩ | ⟨rfl, hJx3⟩)
      · clear HRR hy
        have HF3 := hid (And.intro hk3 hJ3)
        clear hk3 hJ3
        gi_wp2
        go_roundw
        case rel => exact ⟨k + 1, hlt, by go_num, HF3.out.2, HKk.out.trans (HKD.out.trans HF3.out.1)⟩
        case measure => simp [intOf]; omega
      · clear HRR hy
        have HF3 := hid hJx3
        clear hJx3
        gi_wp2
        refine bodyPost_ret (results_none rfl _ _ _) rfl ?_
        exact ⟨⟨_, rfl⟩, .inr HF3.out⟩
    · have hk' : k = r := by omega
      subst hk'
      gi_wp2
      go_end0
      exact ⟨⟨_, rfl⟩, .inl HJk.out⟩
end Go.Proofs.Ytmlhfjflkcenkaa
namespace Go.Proofs.Ytmlhfjflkcenkaa
open Go.RowKit
theorem wpList_append_HB {w : World} {ops : Array Oper} {rest : List Oper} {o : Oper} {a : Act} {Q : Exit → Act → World → Prop} (hgd : o.guard = none) (s x : Operand)
    (ho : o.op = .call { callee := .builtin .append, args := #[s, x], argTypes := #[22, 22] })
    (base : Nat) (v : Value) (n : Nat) (xs : List Value) (hs : a.eval s = v) (hown : w.ownsRow base 5 1 v n xs)
    (u : Value) (l : List Int) (hx : a.eval x = u) (hu : HB w u l) (hbytes : n + l.length ≤ 140737488355328) (hbase : base ≤ w.heap.size)
    (h : ∀ v' w', w'.ownsRow base 5 1 v' (n + l.length) (xs ++ l.map (Value.int .u8)) → w.grownBy w' v.ownBlock → wpList Try.prog ops Q rest (a.put o.dst v') w') : wpList Try.prog ops Q (o :: rest) a w := by
  obtain ⟨i0, hi, hz0, hz1, hz2⟩ := info_parts info_u8
  obtain ⟨⟨p, c, rfl, hlc, hm, hpc, hcell⟩, hby⟩ := hu
  cases p with
  | none =>
    have e : l = [] := by
      apply Classical.byContradiction
      intro hne
      obtain ⟨b, off, e, _⟩ := hcell hne
      cases e
    subst e
    have := hpc rfl
    subst this
    refine wpList_append_own_none hgd s x 22 ho base 5 i0 1 Try.underlying22 hi v n xs hs hown hx ?_
    exact h v w (by simpa using hown) ⟨rfl, rfl, rfl, Nat.le_refl _, fun _ _ _ => rfl⟩
  | some ad =>
    refine wpList_append_own w hgd s x 22 ho base 5 i0 (.int .u8 0) 1 1 Try.underlying22 hi hz0 hz1 hz2 rfl (by decide) v n xs hs hown ad l.length c (l.map (Value.int .u8)) hx (by simp) ?_ ?_ (by unfold maxLen; omega) (by omega) hbase (fun v' w' h1 h2 _ => h v' w' h1 h2)
    · intro j y hj
      have hjn : j < l.length := by
        have := (List.getElem?_eq_some_iff.1 hj).1
        simpa using this
      obtain ⟨b, off, e, hh⟩ := hcell (by intro e; subst e; simp at hjn)
      cases e
      rw [Go.WideShapes.add_plain, hh j hjn]
      have e : (l.map (Value.int .u8))[j]? = some (Value.int .u8 (l.getD j 0)) := by simp [List.getD, List.getElem?_eq_getElem hjn]
      rw [e] at hj
      exact hj
    · intro u hu; obtain ⟨x, _, rfl⟩ := List.mem_map.1 hu; rfl
theorem flat_snoc (ls : List (List Int)) (k : Nat) (hk : k < ls.length) : (ls.take (k + 1)).flatten = (ls.take k).flatten ++ ls.getD k [] := by
  rw [List.take_succ_eq_append_getElem hk, List.flatten_append]
  simp [List.getD, List.getElem?_eq_getElem hk]
theorem flat_take_le (ls : List (List Int)) (k : Nat) : (ls.take k).flatten.length ≤ ls.flatten.length := by
  conv => rhs; rw [← List.take_append_drop k ls, List.flatten_append, List.length_append]
  omega
def lensTo (ls : List (List Int)) (k : Nat) : Nat := (ls.take k).flatten.length
def flatTo (ls : List (List Int)) (k : Nat) : List Int := (ls.take k).flatten
theorem take_eq_step (la lb : List Int) (k : Nat) (ha : k < la.length) (hb : k < lb.length) (h : la.take k = lb.take k) (e : la.getD k 0 = lb.getD k 0) : la.take (k + 1) = lb.take (k + 1) := by
  rw [List.take_succ_eq_append_getElem ha, List.take_succ_eq_append_getElem hb, h]
  have e1 : la.getD k 0 = la[k] := by simp [List.getD, List.getElem?_eq_getElem ha]
  have e2 : lb.getD k 0 = lb[k] := by simp [List.getD, List.getElem?_eq_getElem hb]
  rw [e1, e2] at e
  rw [e]
theorem take_ne (la lb : List Int) (k : Nat) (e : la.getD k 0 ≠ lb.getD k 0) : la ≠ lb := fun h => e (by rw [h])
set_option maxHeartbeats 400000 in
theorem sameBytes_any (w : World) (va vb : Value) (la lb : List Int) (ha : HB w va la) (hb : HB w vb lb) :
    Calls Try.prog 16 #[va, vb] w fun e w' => e = .returned (.bool (decide (la = lb))) ∧ Dr w w' := by
  by_cases hlen : la.length = lb.length
  · by_cases h0 : 0 < la.length
    · obtain ⟨b1, o1, c1, rfl, hc1, hm1, hk1⟩ := ha.ne h0
      obtain ⟨b2, o2, c2, rfl, hc2, hm2, hk2⟩ := hb.ne (by omega)
      unfold maxLen at hm1 hm2
      have hm : la.length ≤ 9223372036854775807 := by omega
      have HL : Hid (la.length = lb.length) := hlen
      rw [← hlen]
      have hcd : ∀ j, j < la.length → w.cell? ⟨b2, o2 + j, none⟩ = some (.int .u8 (lb.getD j 0)) := fun j hj => hk2 j (by omega)
      clear hlen hk2
      go_enter Try.func16, Try.ntmps16
      go_wp2
      go_loopw [5] (fun i wr => ∃ k : Nat, k ≤ la.length ∧ i = .int .i64 k ∧ la.take k = lb.take k ∧ Dr w wr) (fun i _ => la.length - (intOf i).toNat)
      case atStart => exact ⟨0, Nat.zero_le _, rfl, rfl, Dr.refl _⟩
      case round =>
        obtain ⟨k, hk, rfl, ht, q, rfl⟩ := hrel
        by_cases hlt : k < la.length
        · have g1 := hk1 k hlt
          have g2 := hcd k hlt
          obtain ⟨x, hx⟩ : ∃ x, la.getD k 0 = x := ⟨_, rfl⟩
          obtain ⟨y, hy⟩ : ∃ y, lb.getD k 0 = y := ⟨_, rfl⟩
          rw [hx] at g1
          rw [hy] at g2
          have HX := hid hx
          have HY := hid hy
          clear hx hy hk1 hcd
          by_cases he : x = y
          · have hne : (x != y) = false := by simpa using he
            have HE := hid he
            clear he
            go_wp2
            go_quiet (fail)
            go_wp2
            exact ⟨⟨k + 1, by omega, by go_num, take_eq_step la lb k hlt (by have := HL.out; omega) ht (by rw [HX.out, HY.out, HE.out]), Dr.one _ _⟩, by simp [intOf]; omega⟩
          · have hne : (x != y) = true := by simpa using he
            go_wp2
            go_quiet (fail)
            go_wp2
            go_ret
            exact ⟨by simp [take_ne la lb k (by rw [HX.out, HY.out]; exact he)], (Dr.one _ _).drewN _⟩
        · go_wp2
          go_ret
          have e : la = lb := by
            have h1 := List.take_of_length_le (show la.length ≤ k by omega)
            have h2 := List.take_of_length_le (show lb.length ≤ k by have := HL.out; omega)
            rw [← h1, ← h2, ht]
          exact ⟨by simp [e], Dr.one _ _⟩
    · obtain ⟨p1, c1, rfl, _, _⟩ := ha.open
      obtain ⟨p2, c2, rfl, _, _⟩ := hb.open
      have e1 : la = [] := List.length_eq_zero_iff.1 (by omega)
      have e2 : lb = [] := List.length_eq_zero_iff.1 (by omega)
      subst e1 e2
      go_enter Try.func16, Try.ntmps16
      go_wp2
      go_loop [5] (fun i => i = .int .i64 0) (fun _ => 0)
      case atStart => rfl
      case round =>
        subst hrel
        go_wp2
        go_ret
        exact ⟨rfl, Dr.refl _⟩
  · obtain ⟨p1, c1, rfl, _, _⟩ := ha.open
    obtain ⟨p2, c2, rfl, _, _⟩ := hb.open
    have hne : ((la.length : Int) != (lb.length : Int)) = true := by rw [bne_iff_ne]; omega
    go_enter Try.func16, Try.ntmps16
    go_wp2
    go_ret
    exact ⟨by simp [show la ≠ lb from fun e => hlen (by rw [e])], Dr.refl _⟩
theorem info_bytes : (Try.prog.info? 22).map (fun i => (i.zero, i.size, i.bytes)) = some (some (.slice none 0 0), 1, 24) := by kernel_rfl
def BytI (l : List Int) : Prop := ∀ x ∈ l, 0 ≤ x ∧ x < 256
def EL (w0 w : World) (u : Value) (l : List Int) : Prop :=
  (w.ownsRow w0.heap.size 5 1 u l.length (l.map (Value.int .u8)) ∧ BytI l) ∨ HB w0 u l
def OWL (w0 w : World) (v : Value) (ls : List (List Int)) : Prop :=
  ∃ xs, w.ownsRow w0.heap.size 22 1 v ls.length xs ∧ ∀ j, j < ls.length → EL w0 w (xs.getD j undef) (ls.getD j [])
theorem EL.hb {w0 w : World} {u : Value} {l : List Int} (h : EL w0 w u l) (hb : Below w0.heap.size w0 w) : HB w u l := by
  rcases h with ⟨h, hx⟩ | h
  · exact HB.of_own h hx
  · exact h.below hb
theorem own_block_ne {w : World} {B e n : Nat} {v : Value} {xs : List Value} (h : w.ownsRow B e 1 v n xs) {g : Nat} {cur : Array Value} {e' : TypeId} {fz : Nat × Nat} (hg : w.heap[g]? = some (.cells cur e' fz)) (hne : e ≠ e') : v.ownBlock ≠ some g := by
  intro hv
  rcases h.2 with ⟨rfl, _⟩ | ⟨g', cap, cur', rfl, _, hh, _⟩
  · simp [Value.ownBlock] at hv
  · simp only [Value.ownBlock, Option.some.injEq] at hv
    subst hv
    rw [hh] at hg
    simp only [Option.some.injEq, Obj.cells.injEq] at hg
    exact hne hg.2.1
theorem EL.grown {w0 w w' : World} {u : Value} {l : List Int} {row : Option Nat} (h : EL w0 w u l) (hg : w.grownBy w' row) (hr : ∀ g, row = some g → ∃ cur e fz, w.heap[g]? = some (.cells cur e fz) ∧ 5 ≠ e) : EL w0 w' u l := by
  rcases h with ⟨h, hx⟩ | h
  · refine .inl ⟨h.kept hg ?_, hx⟩
    cases hrow : row with
    | none =>
      cases hv : u.ownBlock with
      | none => exact .inl rfl
      | some k => exact .inr (by simp)
    | some g =>
      obtain ⟨cur, e, fz, hh, hne⟩ := hr g hrow
      exact .inr (own_block_ne h hh hne)
  · exact .inr h
theorem OWL.grown {w0 w w' : World} {v : Value} {ls : List (List Int)} {row : Option Nat} (h : OWL w0 w v ls) (hg : w.grownBy w' row) (hr : ∀ g, row = some g → ∃ cur e fz, w.heap[g]? = some (.cells cur e fz) ∧ 5 ≠ e ∧ 22 ≠ e) : OWL w0 w' v ls := by
  obtain ⟨xs, h1, h2⟩ := h
  refine ⟨xs, h1.kept hg ?_, fun j hj => (h2 j hj).grown hg fun g e => ?_⟩
  · cases hrow : row with
    | none =>
      cases hv : v.ownBlock with
      | none => exact .inl rfl
      | some k => exact .inr (by simp)
    | some g =>
      obtain ⟨cur, e, fz, hh, _, hne⟩ := hr g hrow
      exact .inr (own_block_ne h1 hh hne)
  · obtain ⟨cur, e', fz, hh, hne, _⟩ := hr g e
    exact ⟨cur, e', fz, hh, hne⟩
theorem OWL.below {w0 w w' : World} {v : Value} {ls : List (List Int)} (h : OWL w0 w v ls) (hb : Below w.heap.size w w') : OWL w0 w' v ls :=
  h.grown (row := none) ⟨hb.os, hb.tape, hb.output, hb.size, fun k hk _ => hb.block k hk⟩ (fun g e => by cases e)
theorem OWL.hl {w0 w : World} {v : Value} {ls : List (List Int)} (h : OWL w0 w v ls) (hb : Below w0.heap.size w0 w) : HL w v ls := by
  obtain ⟨xs, h1, h2⟩ := h
  by_cases h0 : 0 < ls.length
  · obtain ⟨g, cap, rfl, _, hn, hm, hc⟩ := ownsRow_cells h1 h0
    refine ⟨_, cap, rfl, hn, hm, (fun e => by cases e), fun _ => ⟨g, 0, rfl, fun j hj => ⟨xs.getD j undef, ?_, (h2 j hj).hb hb⟩⟩⟩
    have hx : xs.length = ls.length := by have := h1.1; omega
    exact hc j _ (by simp [List.getD, List.getElem?_eq_getElem (show j < xs.length by omega)])
  · have e : ls = [] := List.length_eq_zero_iff.1 (by omega)
    subst e
    rcases h1.2 with ⟨rfl, _⟩ | ⟨g, cap, cur, rfl, _, _, hn, hm, _⟩
    · exact HL.nil _
    · exact ⟨_, cap, rfl, hn, hm, (fun e => by cases e), fun h => absurd rfl h⟩
theorem OWL.nil (w0 w : World) : OWL w0 w (.slice none 0 0) [] := ⟨[], World.ownsRow_nil _ _ _ _, fun j hj => by simp at hj⟩
theorem getD_app {α : Type} (l m : List α) (d : α) (j : Nat) : (l ++ m).getD j d = if j < l.length then l.getD j d else m.getD (j - l.length) d := by
  simp only [List.getD, List.getElem?_append]
  split <;> rfl
theorem wpList_append_OWL {w0 w : World} {ops : Array Oper} {rest : List Oper} {o : Oper} {a : Act} {Q : Exit → Act → World → Prop} (hgd : o.guard = none) (s x : Operand)
    (ho : o.op = .call { callee := .builtin .append, args := #[s, x], argTypes := #[29, 29] })
    (v : Value) (ls : List (List Int)) (hs : a.eval s = v) (hown : OWL w0 w v ls)
    (ad : Addr) (m c : Nat) (us : List Value) (ns : List (List Int)) (hx : a.eval x = .slice (some ad) m c) (hl : us.length = m) (hn : ns.length = m) (hcell : ∀ j u, us[j]? = some u → w.cell? (ad.add j) = some u)
    (hu : ∀ j, j < m → EL w0 w (us.getD j undef) (ns.getD j [])) (h1 : ∀ u ∈ us, u.oneCell' = true)
    (hbytes : (ls.length + m) * 24 ≤ 140737488355328) (hbase : w0.heap.size ≤ w.heap.size)
    (h : ∀ v' w', OWL w0 w' v' (ls ++ ns) → w.grownBy w' v.ownBlock → (∀ g, v.ownBlock = some g → w0.heap.size ≤ g ∧ BT w g 22) → wpList Try.prog ops Q rest (a.put o.dst v') w') : wpList Try.prog ops Q (o :: rest) a w := by
  obtain ⟨i0, hi, hz0, hz1, hz2⟩ := info_parts info_bytes
  obtain ⟨xs, hrow, hel⟩ := hown
  have hblk : ∀ g, v.ownBlock = some g → w0.heap.size ≤ g ∧ BT w g 22 := by
    intro g hg
    refine ⟨(hrow.lt g hg).1, ?_⟩
    rcases hrow.2 with ⟨rfl, _⟩ | ⟨g', cap, cur, rfl, _, hh, _⟩
    · simp [Value.ownBlock] at hg
    · simp only [Value.ownBlock, Option.some.injEq] at hg
      subst hg
      exact ⟨cur, _, hh⟩
  refine wpList_append_own w hgd s x 29 ho w0.heap.size 22 i0 (.slice none 0 0) 1 24 Try.underlying29 hi hz0 hz1 hz2 rfl (by decide) v ls.length xs hs hrow ad m c us hx (by omega) hcell h1 (by unfold maxLen; omega) hbytes hbase (fun v' w' h2 h3 _ => h v' w' ?_ h3 hblk)
  refine ⟨xs ++ us, by rw [List.length_append, hn]; exact h2, fun j hj => ?_⟩
  have key : ∀ u l, EL w0 w u l → EL w0 w' u l := fun u l he => he.grown h3 fun g hg => by
    obtain ⟨_, cur, fz, hh⟩ := hblk g hg
    exact ⟨cur, _, fz, hh, by decide⟩
  have hxl : xs.length = ls.length := by have := hrow.1; omega
  rw [getD_app, getD_app, hxl]
  rw [List.length_append] at hj
  split
  · exact key _ _ (hel j ‹_›)
  · exact key _ _ (hu _ (by omega))
theorem takel_eq_step (la lb : List (List Int)) (k : Nat) (ha : k < la.length) (hb : k < lb.length) (h : la.take k = lb.take k) (e : la.getD k [] = lb.getD k []) : la.take (k + 1) = lb.take (k + 1) := by
  rw [List.take_succ_eq_append_getElem ha, List.take_succ_eq_append_getElem hb, h]
  have e1 : la.getD k [] = la[k] := by simp [List.getD, List.getElem?_eq_getElem ha]
  have e2 : lb.getD k [] = lb[k] := by simp [List.getD, List.getElem?_eq_getElem hb]
  rw [e1, e2] at e
  rw [e]
set_option maxHeartbeats 400000 in
theorem sameLists_any (w : World) (va vb : Value) (la lb : List (List Int)) (ha : HL w va la) (hb : HL w vb lb) :
    Calls Try.prog 15 #[va, vb] w fun e w' => e = .returned (.bool (decide (la = lb))) ∧ Dr w w' := by
  by_cases hlen : la.length = lb.length
  · by_cases h0 : 0 < la.length
    · obtain ⟨b1, o1, c1, rfl, hc1, hm1, hk1⟩ := ha.ne h0
      obtain ⟨b2, o2, c2, rfl, hc2, hm2, hk2⟩ := hb.ne (by omega)
      unfold maxLen at hm1 hm2
      have hm : la.length ≤ 9223372036854775807 := by omega
      have HL : Hid (la.length = lb.length) := hlen
      rw [← hlen]
      have hcd : ∀ j, j < la.length → ∃ u, w.cell? ⟨b2, o2 + j, none⟩ = some u ∧ HB w u (lb.getD j []) := fun j hj => hk2 j (by omega)
      clear hlen hk2
      go_enter Try.func15, Try.ntmps15
      go_wp2
      go_loopw [5] (fun i wr => ∃ k : Nat, k ≤ la.length ∧ i = .int .i64 k ∧ la.take k = lb.take k ∧ Dr w wr) (fun i _ => la.length - (intOf i).toNat)
      case atStart => exact ⟨0, Nat.zero_le _, rfl, rfl, Dr.refl _⟩
      case round =>
        obtain ⟨k, hk, rfl, ht, hD⟩ := hrel
        have HD := hid hD
        clear hD
        by_cases hlt : k < la.length
        · obtain ⟨u1, g1, e1⟩ := hk1 k hlt
          obtain ⟨u2, g2, e2⟩ := hcd k hlt
          replace g1 := (HD.out.cell _).trans g1
          replace g2 := (HD.out.cell _).trans g2
          replace e1 := e1.dr HD.out
          replace e2 := e2.dr HD.out
          obtain ⟨x, HX⟩ : ∃ x, Hid (la.getD k [] = x) := ⟨_, rfl⟩
          obtain ⟨y, HY⟩ : ∃ y, Hid (lb.getD k [] = y) := ⟨_, rfl⟩
          rw [HX.out] at e1
          rw [HY.out] at e2
          obtain ⟨p1, c1', r1, _, _⟩ := e1.open
          obtain ⟨p2, c2', r2, _, _⟩ := e2.open
          subst r1 r2
          have E1 := hid e1
          have E2 := hid e2
          clear hk1 hcd e1 e2
          by_cases he : x = y
          · have hne : decide (x = y) = true := by simpa using he
            have HE := hid he
            clear he
            go_wp2
            go_quiet ((go_at_call 16; exact Calls.quiet_of (sameBytes_any _ _ _ x y (E1.out.later fun _ _ hx => hx) (E2.out.later fun _ _ hx => hx))))
            go_wp2
            exact ⟨⟨k + 1, by omega, by go_num, takel_eq_step la lb k hlt (by have := HL.out; omega) ht (by rw [HX.out, HY.out, HE.out]), HD.out.drewN _⟩, by simp [intOf]; omega⟩
          · have hne : decide (x = y) = false := by simpa using he
            go_wp2
            go_quiet ((go_at_call 16; exact Calls.quiet_of (sameBytes_any _ _ _ x y (E1.out.later fun _ _ hx => hx) (E2.out.later fun _ _ hx => hx))))
            go_wp2
            go_ret
            exact ⟨by rw [decide_eq_false (fun h => he ((HX.out.symm.trans (congrArg (fun z => List.getD z k []) h)).trans HY.out))]; rfl, HD.out.drewN _⟩
        · go_wp2
          go_ret
          have e : la = lb := by
            have h1 := List.take_of_length_le (show la.length ≤ k by omega)
            have h2 := List.take_of_length_le (show lb.length ≤ k by have := HL.out; omega)
            rw [← h1, ← h2, ht]
          exact ⟨by simp [e], HD.out⟩
    · obtain ⟨p1, c1, rfl, _, _⟩ := ha.open
      obtain ⟨p2, c2, rfl, _, _⟩ := hb.open
      have e1 : la = [] := List.length_eq_zero_iff.1 (by omega)
      have e2 : lb = [] := List.length_eq_zero_iff.1 (by omega)
      subst e1 e2
      go_enter Try.func15, Try.ntmps15
      go_wp2
      go_loop [5] (fun i => i = .int .i64 0) (fun _ => 0)
      case atStart => rfl
      case round =>
        subst hrel
        go_wp2
        go_ret
        exact ⟨rfl, Dr.refl _⟩
  · obtain ⟨p1, c1, rfl, _, _⟩ := ha.open
    obtain ⟨p2, c2, rfl, _, _⟩ := hb.open
    have hne : ((la.length : Int) != (lb.length : Int)) = true := by rw [bne_iff_ne]; omega
    go_enter Try.func15, Try.ntmps15
    go_wp2
    go_ret
    exact ⟨by simp [show la ≠ lb from fun e => hlen (by rw [e])], Dr.refl _⟩
end Go.Proofs.Ytmlhfjflkcenkaa
namespace Go.Proofs.Ytmlhfjflkcenkaa
open Go.RowKit Go.Shelf
theorem own_slc1 {w : World} {B n : Nat} {e : TypeId} {v : Value} {xs : List Value} (h : w.ownsRow B e 1 v n xs) : ∃ p c, v = .slice p n c := by
  rcases h.2 with ⟨rfl, rfl⟩ | ⟨g, cap, cur, rfl, _⟩
  · exact ⟨_, _, rfl⟩
  · exact ⟨_, _, rfl⟩
def PW (B : Nat) (w : World) (v : Value) (ls : List (List Int)) : Prop :=
  ∃ xs, w.ownsRow B 22 1 v ls.length xs ∧ ∀ j, j < ls.length → w.ownsRow B 5 1 (xs.getD j undef) (ls.getD j []).length ((ls.getD j []).map (Value.int .u8)) ∧ BytI (ls.getD j [])
theorem PW.nil (B : Nat) (w : World) : PW B w (.slice none 0 0) [] := ⟨[], World.ownsRow_nil _ _ _ _, fun j hj => by simp at hj⟩
theorem PW.hl {B : Nat} {w : World} {v : Value} {ls : List (List Int)} (h : PW B w v ls) : HL w v ls := by
  obtain ⟨xs, h1, h2⟩ := h
  by_cases h0 : 0 < ls.length
  · obtain ⟨g, cap, rfl, _, hn, hm, hc⟩ := ownsRow_cells h1 h0
    refine ⟨_, cap, rfl, hn, hm, (fun e => by cases e), fun _ => ⟨g, 0, rfl, fun j hj => ⟨xs.getD j undef, ?_, HB.of_own (h2 j hj).1 (h2 j hj).2⟩⟩⟩
    have hx : xs.length = ls.length := by have := h1.1; omega
    exact hc j _ (by simp [List.getD, List.getElem?_eq_getElem (show j < xs.length by omega)])
  · have e : ls = [] := List.length_eq_zero_iff.1 (by omega)
    subst e
    rcases h1.2 with ⟨rfl, _⟩ | ⟨g, cap, cur, rfl, _, _, hn, hm, _⟩
    · exact HL.nil _
    · exact ⟨_, cap, rfl, hn, hm, (fun e => by cases e), fun h => absurd rfl h⟩
theorem PW.from {B n : Nat} {A C : World} {v : Value} {ls : List (List Int)} {row : Option Nat} (h : PW B A v ls) (hg : A.grownBy C row) (hr : ∀ r, row = some r → n ≤ r ∧ ∃ o : Obj, A.heap[r]? = some o ∧ o.isCells = false) : PW B C v ls := by
  obtain ⟨xs, h1, h2⟩ := h
  exact ⟨xs, row_from h1 hg hr, fun j hj => ⟨row_from (h2 j hj).1 hg hr, (h2 j hj).2⟩⟩
theorem PW.push {B0 Bx : Nat} {W w1 : World} {vp v' u : Value} {ls : List (List Int)} {l : List Int} {xs : List Value} {o : Obj} (hrow : W.ownsRow B0 22 1 vp ls.length xs)
    (hel : ∀ j, j < ls.length → W.ownsRow B0 5 1 (xs.getD j undef) (ls.getD j []).length ((ls.getD j []).map (Value.int .u8)) ∧ BytI (ls.getD j [])) (hu : W.ownsRow B0 5 1 u l.length (l.map (Value.int .u8))) (hby : BytI l)
    (x1 : Boxed W Bx 29 vp) (hown : w1.ownsRow B0 22 1 v' (ls.length + 1) (xs ++ [u])) (hg : (W.alloc o).grownBy w1 vp.ownBlock) :
    PW B0 (w1.setCell ⟨Bx, 0, none⟩ v') v' (ls ++ [l]) ∧ Boxed w1 Bx 29 vp ∧ Boxed (w1.setCell ⟨Bx, 0, none⟩ v') Bx 29 v' := by
  have hv1 : Boxed w1 Bx 29 vp := (x1.alloc o).kept hg (x1.not_row (by decide) hrow)
  have gs := grownBy_setCell' w1 Bx v'
  have key : ∀ {q : Value} {m : Nat} {ys : List Value}, W.ownsRow B0 5 1 q m ys → (w1.setCell ⟨Bx, 0, none⟩ v').ownsRow B0 5 1 q m ys := fun {q m ys} h => by
    have h1 := h.alloc o
    have h2 : w1.ownsRow B0 5 1 q m ys := by
      refine h1.kept hg ?_
      cases hvp : vp.ownBlock with
      | none => cases q.ownBlock <;> simp
      | some g =>
        rcases (hrow.alloc o).2 with ⟨rfl, _⟩ | ⟨g', cap, cur, rfl, _, hh, _⟩
        · simp [Value.ownBlock] at hvp
        · simp only [Value.ownBlock, Option.some.injEq] at hvp
          subst hvp
          exact .inr (own_block_ne h1 hh (by decide))
    exact h2.kept gs (.inr (own_block_ne h2 (show w1.heap[Bx]? = _ from hv1) (by decide)))
  refine ⟨⟨xs ++ [u], ?_, fun j hj => ?_⟩, hv1, hv1.set v'⟩
  · rw [List.length_append, List.length_singleton]
    exact hown.kept gs (.inr (hv1.not_row (by decide) hown).symm)
  · have hxl : xs.length = ls.length := by have := hrow.1; omega
    rw [List.length_append, List.length_singleton] at hj
    rw [getD_app, getD_app, hxl]
    split
    · rename_i h
      exact ⟨key (hel j h).1, (hel j h).2⟩
    · have : j - ls.length = 0 := by omega
      rw [this]
      exact ⟨key hu, hby⟩
end Go.Proofs.Ytmlhfjflkcenkaa
namespace Go.Proofs.Ytmlhfjflkcenkaa
open Go Go.RowKit
theorem run_append_slice (w : World) (base : Nat) (ty : TypeId) (v : Value) (n : Nat) (xs : List Value) (hown : w.ownsRow base 22 1 v n xs) (a : Addr) (c : Nat) (x : Value) (hx : w.cell? a = some x) (hx1 : x.oneCell' = true) (hn : (n + 1) * 24 ≤ 140737488355328) (hbase : base ≤ w.heap.size) :
    ∃ v' w', (Builtin.append_ #[29, 29] ty #[v, .slice (some a) 1 c]).run Try.prog w = .ok v' w' ∧ w'.ownsRow base 22 1 v' (n + 1) (xs ++ [x]) ∧ w.grownBy w' v.ownBlock ∧
      (v'.ownBlock = v.ownBlock ∨ v'.ownBlock = some w.heap.size) := by
  obtain ⟨i0, hi, hz0, hz1, hz2⟩ := info_parts info_bytes
  have hnews : ∀ j u, [x][j]? = some u → w.cell? (a.add j) = some u := by
    intro j u hj
    match j, hj with
    | 0, hj => simp at hj; subst hj; simpa [Addr.add] using hx
  have h1 : ∀ u ∈ [x], u.oneCell' = true := by intro u hu; simp at hu; subst hu; exact hx1
  obtain ⟨v', w', hr, h2, h3, _⟩ := run_append_own (P := Try.prog) w base 29 ty 22 i0 (.slice none 0 0) 1 24 Try.underlying29 hi hz0 hz1 hz2 rfl (by decide) v n xs hown a 1 c [x] rfl hnews h1 (by unfold maxLen; omega) hn hbase
  refine ⟨v', w', hr, h2, h3, ?_⟩
  rcases hown.2 with ⟨rfl, rfl⟩ | ⟨g, cap, cur, rfl, hbg, hg, hnc, hcm, hcs, htake⟩
  · have hr2 := run_append_nil (P := Try.prog) w 29 ty 22 i0 (.slice none 0 0) Try.underlying29 hi hz0 a 1 c [x] (by rw [hz1]; rfl) hnews (by omega) (by omega) (by rw [hz2]; omega)
    rw [hr] at hr2
    simp only [Result.ok.injEq] at hr2
    obtain ⟨rfl, rfl⟩ := hr2
    exact .inr rfl
  · by_cases hroom : n + 1 ≤ cap
    · obtain ⟨w2, hr2, _⟩ := run_append_fits (P := Try.prog) w base 29 ty 22 i0 1 Try.underlying29 hi hz1 g n cap xs hown a 1 c [x] rfl hnews h1 hroom
      rw [hr] at hr2
      simp only [Result.ok.injEq] at hr2
      obtain ⟨rfl, rfl⟩ := hr2
      exact .inl rfl
    · have hr2 := run_append_grow (P := Try.prog) w 29 ty 22 i0 (.slice none 0 0) Try.underlying29 hi hz0 ⟨g, 0, none⟩ n cap xs (by rw [hz1]; exact hown.1) (hown.cells (g := g) rfl) a 1 c [x] (by rw [hz1]; rfl) hnews (by omega) (by omega) (growslice_fits (by omega) (by rw [hz2]; exact hn))
      rw [hr] at hr2
      simp only [Result.ok.injEq] at hr2
      obtain ⟨rfl, rfl⟩ := hr2
      exact .inr rfl
theorem owp_appendL {o : Oper} {a : Act} {w w' : World} {K : Act → World → Prop} {Q : Exit → Act → World → Prop} {v v' : Value} {ad : Addr} {c : Nat} (s x : Operand)
    (ho : o.op = .call { callee := .builtin .append, args := #[s, x], argTypes := #[29, 29] }) (hs : a.eval s = v) (hx : a.eval x = .slice (some ad) 1 c)
    (hr : (Builtin.append_ #[29, 29] o.type #[v, .slice (some ad) 1 c]).run Try.prog w = .ok v' w') (h : K (a.put o.dst v') w') : o.wp Try.prog a w K Q := by
  unfold Oper.wp execOp
  simp only [ho, resolve, invoke, builtin, Sem.run_bind, Sem.run_pure, Result.andThen_ok, List.map_toArray, List.map_cons, List.map_nil, hs, hx, hr]
  exact h
end Go.Proofs.Ytmlhfjflkcenkaa
namespace Go.Proofs.Ytmlhfjflkcenkaa.Ev
open Go
open Go.RowKit in
structure Bel (B : Nat) (w w' : World) : Prop extends Below B w w' where
  kept : ∀ (i : Nat) (o : Obj), w.heap[i]? = some o → o.isCells = false → w'.heap[i]? = some o
section
open Go.RowKit
theorem Bel.refl (B : Nat) (w : World) : Bel B w w := ⟨Below.refl B w, fun _ _ h _ => h⟩
theorem Bel.trans {B : Nat} {a b c : World} (h : Bel B a b) (k : Bel B b c) : Bel B a c := ⟨h.toBelow.trans k.toBelow, fun i o hi hc => k.kept i o (h.kept i o hi hc) hc⟩
theorem Bel.mono {B B' : Nat} {w w' : World} (h : Bel B w w') (hB : B' ≤ B) : Bel B' w w' := ⟨h.toBelow.mono hB, h.kept⟩
theorem Bel.drew {B : Nat} {a w : World} (h : Bel B a w) : Bel B a w.drew := ⟨h.toBelow.drew, h.kept⟩
theorem Bel.drawn (B : Nat) (w : World) (n : Nat) : Bel B w { w with drawn := n } := ⟨⟨rfl, rfl, rfl, Nat.le_refl _, fun _ _ => rfl⟩, fun _ _ h _ => h⟩
theorem Bel.alloc {B : Nat} {a w : World} (h : Bel B a w) (hB : B ≤ w.heap.size) (o : Obj) : Bel B a (w.alloc o) :=
  ⟨h.toBelow.alloc hB o, fun i o' hi hc => by rw [Below.heap_alloc _ _ _ (Array.getElem?_eq_some_iff.1 (h.kept i o' hi hc)).1]; exact h.kept i o' hi hc⟩
theorem Bel.setCell {B : Nat} {a w : World} (h : Bel B a w) {p : Addr} (hp : B ≤ p.block) (u : Value) : Bel B a (w.setCell p u) :=
  ⟨h.toBelow.setCell hp u, fun i o hi hc => by
    have h1 := h.kept i o hi hc
    simp only [World.setCell, Array.getElem?_modify, h1]
    split
    · cases o <;> simp_all [Obj.isCells]
    · rfl⟩
theorem Bel.all {w w' : World} (h : Below w.heap.size w w') : Bel w.heap.size w w' :=
  ⟨h, fun i _ hi _ => (h.block i (Array.getElem?_eq_some_iff.1 hi).1).trans hi⟩
end
inductive Ex where
  | lit (n : Int)
  | var (i : Nat)
  | bit (op : BinOp) (k : IntKind) (a b : Ex)
  | ari (op : BinOp) (k : IntKind) (a b : Ex)
  | shl (k : IntKind) (a : Ex) (n : Nat)
  | shr (a : Ex) (n : Nat)
  | con (k : IntKind) (a : Ex)
  | app (f : Nat) (a b : Ex)
  deriving DecidableEq, Repr, Inhabited
inductive SV where
  | int (k : IntKind) (e : Ex)
  | bool (b : Bool)
  | nilp
  | nils (len cap : Nat)
  | nilf
  | ptr (n o : Nat)
  | sl (n o len cap : Nat)
  | slg (n o e len : Nat)
  | str (l : List Nat)
  | clo (f : Nat) (caps : List (Nat × Nat))
  | opq (i : Nat)
  | nili
  | ifp (t n o : Nat)
  | ife (t : Nat)
  | mtp (nm : String) (t n o : Nat)
  | mte (nm : String) (t : Nat)
  | sla (a : Addr) (len cap : Nat)
  deriving DecidableEq, Repr, Inhabited
inductive TV where
  | sc (s : SV)
  | agg (l : List SV)
  deriving DecidableEq, Repr, Inhabited
inductive AV where
  | tv (t : TV)
  | tup (l : List TV)
  deriving DecidableEq, Repr, Inhabited
inductive Tr where
  | emp
  | one (v : AV)
  | br (a b c d e f h k : Tr)
  deriving DecidableEq, Inhabited
def sel8 (a b c d e f h k : Tr) (n : Nat) : Tr := Nat.casesOn (motive := fun _ => Tr) n a (fun n => Nat.casesOn (motive := fun _ => Tr) n b (fun n => Nat.casesOn (motive := fun _ => Tr) n c (fun n => Nat.casesOn (motive := fun _ => Tr) n d (fun n => Nat.casesOn (motive := fun _ => Tr) n e (fun n => Nat.casesOn (motive := fun _ => Tr) n f (fun n => Nat.casesOn (motive := fun _ => Tr) n h (fun _ => k)))))))
def put8 (s : Tr → Tr) (a b c d e f h k : Tr) (n : Nat) : Tr := Nat.casesOn (motive := fun _ => Tr) n (.br (s a) b c d e f h k) (fun n => Nat.casesOn (motive := fun _ => Tr) n (.br a (s b) c d e f h k) (fun n => Nat.casesOn (motive := fun _ => Tr) n (.br a b (s c) d e f h k) (fun n => Nat.casesOn (motive := fun _ => Tr) n (.br a b c (s d) e f h k) (fun n => Nat.casesOn (motive := fun _ => Tr) n (.br a b c d (s e) f h k) (fun n => Nat.casesOn (motive := fun _ => Tr) n (.br a b c d e (s f) h k) (fun n => Nat.casesOn (motive := fun _ => Tr) n (.br a b c d e f (s h) k) (fun _ => .br a b c d e f h (s k))))))))
def Tr.kid (t : Tr) (n : Nat) : Tr := Tr.casesOn (motive := fun _ => Tr) t .emp (fun _ => .emp) (fun a b c d e f h k => sel8 a b c d e f h k n)
def Tr.getS (g : Tr → Nat → Option AV) (t : Tr) (i : Nat) : Option AV := g (t.kid (Nat.mod i 8)) (Nat.div i 8)
def Tr.setS (s : Tr → Nat → AV → Tr) (t : Tr) (i : Nat) (v : AV) : Tr := Tr.casesOn (motive := fun _ => Tr) t (put8 (fun t => s t (Nat.div i 8) v) .emp .emp .emp .emp .emp .emp .emp .emp (Nat.mod i 8)) (fun _ => put8 (fun t => s t (Nat.div i 8) v) .emp .emp .emp .emp .emp .emp .emp .emp (Nat.mod i 8)) (fun a b c d e f h k => put8 (fun t => s t (Nat.div i 8) v) a b c d e f h k (Nat.mod i 8))
def Tr.get0 : Tr → Nat → Option AV := fun t _ => Tr.casesOn (motive := fun _ => Option AV) t none (fun v => some v) (fun _ _ _ _ _ _ _ _ => none)
def Tr.set0 : Tr → Nat → AV → Tr := fun _ _ v => .one v
def Tr.get1 : Tr → Nat → Option AV := Tr.getS Tr.get0
def Tr.get2 : Tr → Nat → Option AV := Tr.getS Tr.get1
def Tr.get3 : Tr → Nat → Option AV := Tr.getS Tr.get2
def Tr.set1 : Tr → Nat → AV → Tr := Tr.setS Tr.set0
def Tr.set2 : Tr → Nat → AV → Tr := Tr.setS Tr.set1
def Tr.set3 : Tr → Nat → AV → Tr := Tr.setS Tr.set2
theorem kid_put8 (s : Tr → Tr) (a b c d e f h k : Tr) (n m : Nat) (hn : n < 8) (hm : m < 8) : (put8 s a b c d e f h k n).kid m = if n = m then s (sel8 a b c d e f h k m) else sel8 a b c d e f h k m := by
  have h1 : n = 0 ∨ n = 1 ∨ n = 2 ∨ n = 3 ∨ n = 4 ∨ n = 5 ∨ n = 6 ∨ n = 7 := by omega
  have h2 : m = 0 ∨ m = 1 ∨ m = 2 ∨ m = 3 ∨ m = 4 ∨ m = 5 ∨ m = 6 ∨ m = 7 := by omega
  rcases h1 with rfl | rfl | rfl | rfl | rfl | rfl | rfl | rfl <;> rcases h2 with rfl | rfl | rfl | rfl | rfl | rfl | rfl | rfl <;> rfl
theorem sel8_emp (m : Nat) (hm : m < 8) : sel8 .emp .emp .emp .emp .emp .emp .emp .emp m = .emp := by
  have h2 : m = 0 ∨ m = 1 ∨ m = 2 ∨ m = 3 ∨ m = 4 ∨ m = 5 ∨ m = 6 ∨ m = 7 := by omega
  rcases h2 with rfl | rfl | rfl | rfl | rfl | rfl | rfl | rfl <;> rfl
theorem kid_setS (s : Tr → Nat → AV → Tr) (t : Tr) (i : Nat) (v : AV) (m : Nat) (hm : m < 8) : (Tr.setS s t i v).kid m = if i % 8 = m then s (t.kid m) (i / 8) v else t.kid m := by
  have hi : i % 8 < 8 := Nat.mod_lt _ (by decide)
  cases t with
  | emp => exact (kid_put8 (fun t => s t (i / 8) v) .emp .emp .emp .emp .emp .emp .emp .emp (i % 8) m hi hm).trans (by rw [sel8_emp m hm]; rfl)
  | one _ => exact (kid_put8 (fun t => s t (i / 8) v) .emp .emp .emp .emp .emp .emp .emp .emp (i % 8) m hi hm).trans (by rw [sel8_emp m hm]; rfl)
  | br a b c d e f h k => exact kid_put8 (fun t => s t (i / 8) v) a b c d e f h k (i % 8) m hi hm
structure Tr.Law (g : Tr → Nat → Option AV) (s : Tr → Nat → AV → Tr) (m : Nat) : Prop where
  emp : ∀ i, g .emp i = none
  put : ∀ t i j v, i < m → j < m → g (s t i v) j = if i = j then some v else g t j
theorem Tr.Law.step {g : Tr → Nat → Option AV} {s : Tr → Nat → AV → Tr} {m : Nat} (h : Tr.Law g s m) : Tr.Law (Tr.getS g) (Tr.setS s) (m * 8) := by
  refine ⟨fun i => h.emp _, fun t i j v hi hj => ?_⟩
  show g ((Tr.setS s t i v).kid (j % 8)) (j / 8) = if i = j then some v else g (t.kid (j % 8)) (j / 8)
  rw [kid_setS s t i v (j % 8) (Nat.mod_lt _ (by decide))]
  by_cases e : i % 8 = j % 8
  · rw [if_pos e, h.put _ _ _ _ (by omega) (by omega)]
    have e2 : (i / 8 = j / 8) = (i = j) := by apply propext; omega
    simp only [e2]
  · rw [if_neg e, if_neg (fun q => e (by rw [q]))]
theorem Tr.law0 : Tr.Law Tr.get0 Tr.set0 1 := ⟨fun _ => rfl, fun t i j v hi hj => by
  have : i = j := by omega
  rw [if_pos this]; rfl⟩
theorem Tr.law3 : Tr.Law Tr.get3 Tr.set3 512 := Tr.law0.step.step.step
structure Tm where
  n : Nat
  tr : Tr
  deriving DecidableEq, Inhabited
def Tm.get (t : Tm) (i : Nat) : Option AV := match Nat.blt i t.n with | true => Tr.get3 t.tr i | false => none
def Tm.set (t : Tm) (i : Nat) (v : AV) : Tm := match Nat.blt i t.n with | true => ⟨t.n, Tr.set3 t.tr i v⟩ | false => t
def Tm.fill : Nat → List AV → Tm → Tm
  | _, [], t => t
  | i, x :: r, t => Tm.fill (i + 1) r (t.set i x)
def Tm.make (n : Nat) (l : List AV) : Tm := Tm.fill 0 l ⟨n, .emp⟩
theorem Tm.get_lt {t : Tm} {i : Nat} {x : AV} (h : t.get i = some x) : i < t.n := by
  unfold Tm.get at h
  split at h
  · rename_i hb
    exact Nat.le_of_ble_eq_true hb
  · cases h
theorem Tm.set_n (t : Tm) (i : Nat) (v : AV) : (t.set i v).n = t.n := by unfold Tm.set; split <;> rfl
theorem Tm.get_set {t : Tm} (hn : t.n ≤ 512) (i j : Nat) (v : AV) : (t.set i v).get j = if i = j ∧ i < t.n then some v else t.get j := by
  by_cases hi : i < t.n
  · have hb : Nat.blt i t.n = true := Nat.ble_eq_true_of_le hi
    have e1 : t.set i v = ⟨t.n, Tr.set3 t.tr i v⟩ := by unfold Tm.set; rw [hb]
    rw [e1]
    by_cases hj : j < t.n
    · have hc : Nat.blt j t.n = true := Nat.ble_eq_true_of_le hj
      simp only [Tm.get, hc]
      rw [Tr.law3.put _ _ _ _ (by omega) (by omega)]
      simp [hi]
    · have hc : Nat.blt j t.n = false := by
        cases hq : Nat.blt j t.n with
        | false => rfl
        | true => exact absurd (Nat.le_of_ble_eq_true hq) hj
      simp only [Tm.get, hc]
      rw [if_neg (by omega)]
  · have hb : Nat.blt i t.n = false := by
      cases hq : Nat.blt i t.n with
      | false => rfl
      | true => exact absurd (Nat.le_of_ble_eq_true hq) hi
    have e1 : t.set i v = t := by unfold Tm.set; rw [hb]
    rw [e1, if_neg (fun h => hi h.2)]
theorem Tm.fill_n : ∀ (l : List AV) (i : Nat) (t : Tm), (Tm.fill i l t).n = t.n
  | [], _, _ => rfl
  | x :: r, i, t => by rw [Tm.fill, Tm.fill_n r, Tm.set_n]
theorem Tm.get_fill : ∀ (l : List AV) (i : Nat) (t : Tm), t.n ≤ 512 → ∀ (j : Nat) (x : AV), (Tm.fill i l t).get j = some x → (i ≤ j ∧ l[j - i]? = some x) ∨ t.get j = some x
  | [], _, _, _, _, _, h => .inr h
  | y :: r, i, t, hn, j, x, h => by
    rw [Tm.fill] at h
    rcases Tm.get_fill r (i + 1) (t.set i y) (by rw [Tm.set_n]; exact hn) j x h with ⟨h1, h2⟩ | h1
    · left
      refine ⟨by omega, ?_⟩
      rw [show j - i = (j - (i + 1)) + 1 by omega, List.getElem?_cons_succ]
      exact h2
    · rw [Tm.get_set hn] at h1
      split at h1
      · rename_i e
        left
        refine ⟨by omega, ?_⟩
        rw [show j - i = 0 by omega]
        simpa using h1
      · exact .inr h1
def SV.plain : SV → Bool
  | .ptr _ _ => false
  | .sl _ _ _ _ => false
  | .slg _ _ _ _ => false
  | .clo _ cs => cs.isEmpty
  | .ifp _ _ _ => false
  | .mtp _ _ _ _ => false
  | _ => true
structure Blk where
  ro : Bool
  pl : Bool
  cap : Nat
  cells : List SV
  deriving DecidableEq, Repr, Inhabited
def newBlk (l : List SV) : Blk := ⟨false, l.all SV.plain, 0, l⟩
def dead : Blk := ⟨true, true, 0, []⟩
def capBlk (s : Nat) : Blk := ⟨true, true, s, []⟩
def nGl : Nat := 0
def Gl (ms : List Nat) : Prop := ∀ g, g < nGl → ms[g]? = some g
structure Env where
  int : Nat → Int
  val : Nat → Value
  fn : Nat → Int → Int → Int
def bitsOf (op : BinOp) (k : IntKind) (x y : Int) : Int :=
  let a := BitVec.ofInt k.bits x
  let b := BitVec.ofInt k.bits y
  match op with
  | .and => k.wrap (a &&& b).toNat
  | .or => k.wrap (a ||| b).toNat
  | .xor => k.wrap (a ^^^ b).toNat
  | _ => k.wrap (a &&& ~~~b).toNat
def ariOf (op : BinOp) (k : IntKind) (x y : Int) : Int :=
  match op with
  | .add => k.wrap (x + y)
  | .sub => k.wrap (x - y)
  | .quo => k.wrap (x.tdiv y)
  | .rem => x.tmod y
  | _ => k.wrap (x * y)
def Ex.den (ρ : Env) : Ex → Int
  | .lit n => n
  | .var i => ρ.int i
  | .bit op k a b => bitsOf op k (a.den ρ) (b.den ρ)
  | .ari op k a b => ariOf op k (a.den ρ) (b.den ρ)
  | .shl k a n => k.wrap (a.den ρ * 2 ^ n)
  | .shr a n => (a.den ρ).fdiv (2 ^ n)
  | .con k a => k.wrap (a.den ρ)
  | .app f a b => ρ.fn f (a.den ρ) (b.den ρ)
structure Lore where
  fact : BinOp → Ex → Ex → Option Bool
  nm : Ex → Ex
  factA : List SV → List SV → Option Bool
def addr (ms : List Nat) (p : Nat × Nat) : Option Value := (ms[p.1]?).map fun b => .pointer (some ⟨b, p.2, none⟩)
def seqO {α : Type} : List (Option α) → Option (List α)
  | [] => some []
  | none :: _ => none
  | some x :: r => (seqO r).map (x :: ·)
theorem seqO_iff {α : Type} : ∀ (l : List (Option α)) (vs : List α), seqO l = some vs ↔ l = vs.map some
  | [], vs => by cases vs <;> simp [seqO]
  | none :: r, vs => by cases vs <;> simp [seqO]
  | some x :: r, vs => by
    cases vs with
    | nil => simp [seqO]
    | cons y ys =>
      simp only [seqO, List.map_cons, List.cons.injEq, Option.some.injEq, Option.map_eq_some_iff]
      constructor
      · rintro ⟨zs, h1, h2, h3⟩
        exact ⟨h2, (seqO_iff r ys).1 (h3 ▸ h1)⟩
      · rintro ⟨rfl, h2⟩
        exact ⟨ys, (seqO_iff r ys).2 h2, rfl, rfl⟩
def bytesOf (l : List Nat) : ByteArray := ⟨(l.map UInt8.ofNat).toArray⟩
def grown (ms : List Nat) (n o e len : Nat) : Option Value :=
  match ms[n]?, ms[n + 1]? with
  | some b, some c => if e + len ≤ c then some (.slice (some ⟨b, o, none⟩) len (c - e)) else none
  | _, _ => none
theorem grown_iff {ms : List Nat} {n o e len : Nat} {v : Value} : grown ms n o e len = some v ↔ ∃ b c, ms[n]? = some b ∧ ms[n + 1]? = some c ∧ e + len ≤ c ∧ v = .slice (some ⟨b, o, none⟩) len (c - e) := by
  unfold grown
  constructor
  · intro h
    split at h
    · rename_i b c h1 h2
      split at h
      · rename_i hc
        simp only [Option.some.injEq] at h
        exact ⟨b, c, h1, h2, hc, h.symm⟩
      · cases h
    · cases h
  · rintro ⟨b, c, h1, h2, h3, rfl⟩
    rw [h1, h2]
    simp [h3]
def SV.inst (ρ : Env) (ms : List Nat) : SV → Option Value
  | .int k e => some (.int k (e.den ρ))
  | .bool b => some (.bool b)
  | .nilp => some (.pointer none)
  | .nils l c => some (.slice none l c)
  | .nilf => some .nilFunc
  | .ptr n o => addr ms (n, o)
  | .sl n o l c => (ms[n]?).map fun b => .slice (some ⟨b, o, none⟩) l c
  | .slg n o e l => grown ms n o e l
  | .str l => some (.string (bytesOf l))
  | .clo f cs => (seqO (cs.map (addr ms))).map fun vs => .func (.func f) #[] vs.toArray
  | .opq i => if (ρ.val i).oneCell' then some (ρ.val i) else none
  | .nili => some .nilIface
  | .ifp t n o => (addr ms (n, o)).map fun v => .iface t v
  | .ife t => some (.iface t (.agg #[]))
  | .mtp nm t n o => (addr ms (n, o)).map fun v => .func (.method nm) #[.iface t v] #[]
  | .mte nm t => some (.func (.method nm) #[.iface t (.agg #[])] #[])
  | .sla a l c => some (.slice (some a) l c)
def TV.inst (ρ : Env) (ms : List Nat) : TV → Option Value
  | .sc s => s.inst ρ ms
  | .agg l => (seqO (l.map (SV.inst ρ ms))).map fun vs => .agg vs.toArray
def AV.inst (ρ : Env) (ms : List Nat) : AV → Option Value
  | .tv t => t.inst ρ ms
  | .tup l => (seqO (l.map (TV.inst ρ ms))).map fun vs => .tuple vs.toArray
theorem SV.inst_one {ρ : Env} {ms : List Nat} {s : SV} {v : Value} (h : s.inst ρ ms = some v) : v.oneCell' = true := by
  cases s <;> simp only [SV.inst, addr, Option.map_eq_some_iff, Option.some.injEq] at h
  case opq => split at h <;> simp_all
  case slg => obtain ⟨_, _, _, _, _, rfl⟩ := grown_iff.1 h; rfl
  all_goals first | (obtain ⟨_, _, rfl⟩ := h; rfl) | (subst h; rfl)
section
variable {ρ : Env} {ms ms' : List Nat}
theorem pre_get (hp : ms <+: ms') {n b : Nat} (h : ms[n]? = some b) : ms'[n]? = some b := by
  obtain ⟨r, rfl⟩ := hp
  rw [List.getElem?_append_left (List.getElem?_eq_some_iff.1 h).1]; exact h
theorem addr_mono (hp : ms <+: ms') {p : Nat × Nat} {v : Value} (h : addr ms p = some v) : addr ms' p = some v := by
  unfold addr at *
  rw [Option.map_eq_some_iff] at *
  obtain ⟨b, hb, rfl⟩ := h
  exact ⟨b, pre_get hp hb, rfl⟩
theorem map_mono {α β : Type} {f g : α → Option β} (hfg : ∀ x y, f x = some y → g x = some y) : ∀ (l : List α) (vs : List β), l.map f = vs.map some → l.map g = vs.map some
  | [], [], _ => rfl
  | [], _ :: _, h => by simp at h
  | _ :: _, [], h => by simp at h
  | x :: l, y :: ys, h => by
    simp only [List.map_cons, List.cons.injEq] at h ⊢
    exact ⟨hfg x y h.1, map_mono hfg l ys h.2⟩
theorem SV.inst_mono (hp : ms <+: ms') (s : SV) (v : Value) (h : s.inst ρ ms = some v) : s.inst ρ ms' = some v := by
  cases s <;> simp only [SV.inst] at h ⊢ <;> try exact h
  case ptr => exact addr_mono hp h
  case sl =>
    rw [Option.map_eq_some_iff] at *
    obtain ⟨b, hb, rfl⟩ := h
    exact ⟨b, pre_get hp hb, rfl⟩
  case slg =>
    obtain ⟨b, c, h1, h2, h3, rfl⟩ := grown_iff.1 h
    exact grown_iff.2 ⟨b, c, pre_get hp h1, pre_get hp h2, h3, rfl⟩
  case clo =>
    rw [Option.map_eq_some_iff] at *
    obtain ⟨vs, hb, rfl⟩ := h
    exact ⟨vs, (seqO_iff _ _).2 (map_mono (fun x y => addr_mono hp) _ _ ((seqO_iff _ _).1 hb)), rfl⟩
  case ifp =>
    rw [Option.map_eq_some_iff] at *
    obtain ⟨x, hx, rfl⟩ := h
    exact ⟨x, addr_mono hp hx, rfl⟩
  case mtp =>
    rw [Option.map_eq_some_iff] at *
    obtain ⟨x, hx, rfl⟩ := h
    exact ⟨x, addr_mono hp hx, rfl⟩
theorem TV.inst_mono (hp : ms <+: ms') (s : TV) (v : Value) (h : s.inst ρ ms = some v) : s.inst ρ ms' = some v := by
  cases s with
  | sc s => exact s.inst_mono hp v h
  | agg l =>
    simp only [TV.inst] at h ⊢
    rw [Option.map_eq_some_iff] at *
    obtain ⟨vs, hb, rfl⟩ := h
    exact ⟨vs, (seqO_iff _ _).2 (map_mono (SV.inst_mono hp) _ _ ((seqO_iff _ _).1 hb)), rfl⟩
theorem AV.inst_mono (hp : ms <+: ms') (s : AV) (v : Value) (h : s.inst ρ ms = some v) : s.inst ρ ms' = some v := by
  cases s with
  | tv s => exact s.inst_mono hp v h
  | tup l =>
    simp only [AV.inst] at h ⊢
    rw [Option.map_eq_some_iff] at *
    obtain ⟨vs, hb, rfl⟩ := h
    exact ⟨vs, (seqO_iff _ _).2 (map_mono (TV.inst_mono hp) _ _ ((seqO_iff _ _).1 hb)), rfl⟩
end
structure RelT (ρ : Env) (ms : List Nat) (t : Tm) (tmps : Array Value) : Prop where
  sz : t.n = tmps.size
  le : t.n ≤ 512
  val : ∀ (i : Nat) (x : AV), t.get i = some x → ∃ v, tmps[i]? = some v ∧ x.inst ρ ms = some v
  gl : Gl ms
structure Holds (ρ : Env) (ms : List Nat) (H : List Blk) (B : Nat) (w : World) : Prop where
  len : ms.length = H.length
  gl : Gl ms
  inj : ∀ (i j b : Nat) (k k' : Blk), ms[i]? = some b → ms[j]? = some b → H[i]? = some k → H[j]? = some k' → k.cells ≠ [] → k'.cells ≠ [] → i = j
  low : ∀ (i b : Nat) (k : Blk), ms[i]? = some b → H[i]? = some k → k.ro = false → B ≤ b
  bnd : ∀ (i b : Nat) (k : Blk), ms[i]? = some b → H[i]? = some k → k.cells ≠ [] → b < w.heap.size
  big : B ≤ w.heap.size
  plain : ∀ (i : Nat) (k : Blk), H[i]? = some k → k.pl = true → k.cells.all SV.plain = true
  cell : ∀ (i b : Nat) (k : Blk), ms[i]? = some b → H[i]? = some k → ∀ (j : Nat) (s : SV), k.cells[j]? = some s → ∃ v, s.inst ρ ms = some v ∧ w.cell? ⟨b, j, none⟩ = some v ∧ (k.ro = false → w.frozen? ⟨b, j, none⟩ = false)
  room : ∀ (i b c : Nat) (k0 k : Blk), ms[i]? = some b → ms[i + 1]? = some c → H[i]? = some k0 → k0.ro = false → k0.cells ≠ [] → H[i + 1]? = some k → 0 < k.cap → ∀ j, j < c * k.cap → (w.cell? ⟨b, j, none⟩).isSome = true ∧ w.frozen? ⟨b, j, none⟩ = false
theorem Gl.mono {ms ms' : List Nat} (h : Gl ms) (hp : ms <+: ms') : Gl ms' := fun g hg => pre_get hp (h g hg)
theorem RelT.mono {ρ : Env} {ms ms' : List Nat} {t : Tm} {a : Array Value} (h : RelT ρ ms t a) (hp : ms <+: ms') : RelT ρ ms' t a := ⟨h.sz, h.le, fun i x hx => by
  obtain ⟨v, h1, h2⟩ := h.val i x hx
  exact ⟨v, h1, x.inst_mono hp v h2⟩, h.gl.mono hp⟩
theorem RelT.get {ρ : Env} {ms : List Nat} {t : Tm} {a : Array Value} (h : RelT ρ ms t a) {i : Nat} {x : AV} (hx : t.get i = some x) : ∃ v, a[i]? = some v ∧ x.inst ρ ms = some v := h.val i x hx
theorem RelT.put {ρ : Env} {ms : List Nat} {t : Tm} {a : Act} (h : RelT ρ ms t a.tmps) (d : Nat) {x : AV} {v : Value} (hx : x.inst ρ ms = some v) : RelT ρ ms (t.set d x) (a.put (some d) v).tmps := by
  refine ⟨?_, by rw [Tm.set_n]; exact h.le, ?_, h.gl⟩
  · rw [Tm.set_n, h.sz]; simp [Act.put]
  · intro i y hy
    rw [Tm.get_set h.le] at hy
    simp only [Act.put]
    rw [Array.getElem?_setIfInBounds]
    split at hy
    · rename_i e
      cases hy
      rw [if_pos e.1, if_pos (by rw [← h.sz]; omega)]
      exact ⟨v, rfl, hx⟩
    · rename_i e
      have hlt := Tm.get_lt hy
      rw [if_neg (fun e2 => e ⟨e2, by omega⟩)]
      exact h.val i y hy
theorem RelT.make {ρ : Env} {ms : List Nat} {xs : List AV} {args : Array Value} {n : Nat} (h : xs.map (AV.inst ρ ms) = args.toList.map some) (hn : n ≤ 512) (hx : xs.length ≤ n) (hg : Gl ms) : RelT ρ ms (Tm.make n xs) (args ++ Array.replicate (n - args.size) undef) := by
  have hl : xs.length = args.size := by have := congrArg List.length h; simpa using this
  refine ⟨by rw [Tm.make, Tm.fill_n]; simp; omega, by rw [Tm.make, Tm.fill_n]; exact hn, ?_, hg⟩
  intro i x hi
  rcases Tm.get_fill xs 0 ⟨n, .emp⟩ hn i x hi with ⟨_, h1⟩ | h1
  · rw [Nat.sub_zero] at h1
    have hlt := (List.getElem?_eq_some_iff.1 h1).1
    have e1 : (xs.map (AV.inst ρ ms))[i]? = (args.toList.map some)[i]? := by rw [h]
    rw [List.getElem?_map, h1, List.getElem?_map] at e1
    simp only [Option.map_some, Array.getElem?_toList] at e1
    cases hv : args[i]? with
    | none => rw [hv] at e1; simp at e1
    | some v =>
      rw [hv] at e1
      simp only [Option.map_some, Option.some.injEq] at e1
      refine ⟨v, ?_, e1⟩
      rw [Array.getElem?_append, if_pos (by omega)]
      exact hv
  · unfold Tm.get at h1
    split at h1
    · rw [Tr.law3.emp] at h1; cases h1
    · cases h1
theorem mem_nil_of_get {k : Blk} {j : Nat} {s : SV} (h : k.cells[j]? = some s) : k.cells ≠ [] := fun e => by rw [e] at h; simp at h
theorem Holds.pushAt {ρ : Env} {ms : List Nat} {H : List Blk} {B : Nat} {w w' : World} (h : Holds ρ ms H B w) {l : List SV} {vs : List Value} (hl : l.map (SV.inst ρ ms) = vs.map some) {b0 : Nat} (hsz : w.heap.size ≤ w'.heap.size) (hB0 : B ≤ b0) (hb0 : b0 < w'.heap.size)
    (hfar : ∀ (i b : Nat) (k : Blk), ms[i]? = some b → H[i]? = some k → k.cells ≠ [] → b ≠ b0)
    (hold : ∀ b j, b ≠ b0 → b < w.heap.size → w'.cell? ⟨b, j, none⟩ = w.cell? ⟨b, j, none⟩ ∧ w'.frozen? ⟨b, j, none⟩ = w.frozen? ⟨b, j, none⟩)
    (hsome : ∀ b j, b < w.heap.size → (w.cell? ⟨b, j, none⟩).isSome = true → w.frozen? ⟨b, j, none⟩ = false → (w'.cell? ⟨b, j, none⟩).isSome = true ∧ w'.frozen? ⟨b, j, none⟩ = false)
    (hnew : ∀ j v, vs[j]? = some v → w'.cell? ⟨b0, j, none⟩ = some v ∧ w'.frozen? ⟨b0, j, none⟩ = false) :
    Holds ρ (ms ++ [b0]) (H ++ [newBlk l]) B w' := by
  have hlast : ∀ (i b : Nat), ¬ i < ms.length → (ms ++ [b0])[i]? = some b → i = ms.length ∧ b = b0 := fun i b hi hb => by
    rw [List.getElem?_append, if_neg hi] at hb
    have e1 := (List.getElem?_eq_some_iff.1 hb).1
    have e2 := List.mem_of_getElem? hb
    simp at e1 e2
    exact ⟨by omega, e2⟩
  have hlastk : ∀ (i : Nat) (k : Blk), ¬ i < H.length → (H ++ [newBlk l])[i]? = some k → i = H.length ∧ k = newBlk l := fun i k hi hk => by
    rw [List.getElem?_append, if_neg hi] at hk
    have e1 := (List.getElem?_eq_some_iff.1 hk).1
    have e2 := List.mem_of_getElem? hk
    simp at e1 e2
    exact ⟨by omega, e2⟩
  have hin : ∀ (i : Nat), i < ms.length → (ms ++ [b0])[i]? = ms[i]? := fun i hi => by rw [List.getElem?_append, if_pos hi]
  have hink : ∀ (i : Nat), i < H.length → (H ++ [newBlk l])[i]? = H[i]? := fun i hi => by rw [List.getElem?_append, if_pos hi]
  have hle := h.len
  refine ⟨by simp [h.len], h.gl.mono (List.prefix_append _ _), ?_, ?_, ?_, ?_, ?_, ?_, ?_⟩
  · intro i j b k k' hi hj hk hk' hne hne'
    by_cases h1 : i < ms.length <;> by_cases h2 : j < ms.length
    · rw [hin i h1] at hi; rw [hin j h2] at hj; rw [hink i (by omega)] at hk; rw [hink j (by omega)] at hk'
      exact h.inj i j b k k' hi hj hk hk' hne hne'
    · rw [hin i h1] at hi; rw [hink i (by omega)] at hk
      exact absurd (hlast j b h2 hj).2 (hfar i b k hi hk hne)
    · rw [hin j h2] at hj; rw [hink j (by omega)] at hk'
      exact absurd (hlast i b h1 hi).2 (hfar j b k' hj hk' hne')
    · have := (hlast i b h1 hi).1
      have := (hlast j b h2 hj).1
      omega
  · intro i b k hi hk hr
    by_cases h1 : i < ms.length
    · rw [hin i h1] at hi; rw [hink i (by omega)] at hk; exact h.low i b k hi hk hr
    · rw [(hlast i b h1 hi).2]; exact hB0
  · intro i b k hi hk hne
    by_cases h1 : i < ms.length
    · rw [hin i h1] at hi; rw [hink i (by omega)] at hk
      have := h.bnd i b k hi hk hne; omega
    · have := (hlast i b h1 hi).2; omega
  · have := h.big; omega
  · intro i k hk hp
    by_cases h1 : i < H.length
    · rw [hink i h1] at hk; exact h.plain i k hk hp
    · obtain ⟨_, rfl⟩ := hlastk i k h1 hk
      exact hp
  · intro i b k hi hk j s hs
    by_cases h1 : i < ms.length
    · rw [hin i h1] at hi; rw [hink i (by omega)] at hk
      obtain ⟨v, h2, h3, h4⟩ := h.cell i b k hi hk j s hs
      obtain ⟨e1, e2⟩ := hold b j (hfar i b k hi hk (mem_nil_of_get hs)) (h.bnd i b k hi hk (mem_nil_of_get hs))
      exact ⟨v, s.inst_mono (List.prefix_append _ _) v h2, by rw [e1]; exact h3, fun hr => by rw [e2]; exact h4 hr⟩
    · obtain ⟨_, rfl⟩ := hlast i b h1 hi
      obtain ⟨_, rfl⟩ := hlastk i k (by omega) hk
      have e1 : (l.map (SV.inst ρ ms))[j]? = (vs.map some)[j]? := by rw [hl]
      simp only [List.getElem?_map] at e1
      simp only [newBlk] at hs
      rw [hs] at e1
      cases hv : vs[j]? with
      | none => rw [hv] at e1; simp at e1
      | some v =>
        rw [hv] at e1
        simp only [Option.map_some, Option.some.injEq] at e1
        obtain ⟨h5, h6⟩ := hnew j v hv
        exact ⟨v, s.inst_mono (List.prefix_append _ _) v e1, h5, fun _ => h6⟩
  · intro i b c k0 k hi hc hk0 hr0 hn0 hk hcap j hj
    by_cases h1 : i + 1 < ms.length
    · rw [hin i (by omega)] at hi; rw [hin _ h1] at hc; rw [hink _ (by omega)] at hk hk0
      obtain ⟨e1, e2⟩ := h.room i b c k0 k hi hc hk0 hr0 hn0 hk hcap j hj
      have hlt : b < w.heap.size := by
        cases hx : w.cell? ⟨b, j, none⟩ with
        | none => rw [hx] at e1; simp at e1
        | some x => exact World.block_lt_of_cell? w _ hx
      exact hsome b j hlt e1 e2
    · obtain ⟨_, rfl⟩ := hlastk (i + 1) k (by omega) hk
      simp [newBlk] at hcap
theorem Holds.push {ρ : Env} {ms : List Nat} {H : List Blk} {B : Nat} {w w' : World} (h : Holds ρ ms H B w) {l : List SV} {vs : List Value} (hl : l.map (SV.inst ρ ms) = vs.map some)
    (hsz : w'.heap.size = w.heap.size + 1) (hold : ∀ b j, b < w.heap.size → w'.cell? ⟨b, j, none⟩ = w.cell? ⟨b, j, none⟩ ∧ w'.frozen? ⟨b, j, none⟩ = w.frozen? ⟨b, j, none⟩)
    (hnew : ∀ j v, vs[j]? = some v → w'.cell? ⟨w.heap.size, j, none⟩ = some v ∧ w'.frozen? ⟨w.heap.size, j, none⟩ = false) :
    Holds ρ (ms ++ [w.heap.size]) (H ++ [newBlk l]) B w' := by
  refine h.pushAt hl (by omega) h.big (by omega) (fun i b k hi hk hne e => ?_) (fun b j _ hb => hold b j hb) (fun b j hb h1 h2 => ?_) hnew
  · have := h.bnd i b k hi hk hne; omega
  · obtain ⟨e1, e2⟩ := hold b j hb
    rw [e1, e2]; exact ⟨h1, h2⟩
theorem Holds.alloc {ρ : Env} {ms : List Nat} {H : List Blk} {B : Nat} {w : World} (h : Holds ρ ms H B w) {l : List SV} {vs : List Value} (hl : l.map (SV.inst ρ ms) = vs.map some) (T : TypeId) :
    Holds ρ (ms ++ [w.heap.size]) (H ++ [newBlk l]) B (w.alloc (.cells vs.toArray T)) := by
  refine h.push hl (by rw [World.size_alloc]) (fun b j hb => ⟨World.cell?_alloc_lt _ _ _ hb, World.frozen?_alloc_past _ _ _ hb⟩) (fun j v hv => ⟨?_, ?_⟩)
  · rw [cell_of_row _ _ _ _ _ _ (heap_alloc_new w _)]
    simpa using hv
  · unfold World.frozen?
    rw [heap_alloc_new]
    simp
theorem Holds.pushCap {ρ : Env} {ms : List Nat} {H : List Blk} {B : Nat} {w : World} (h : Holds ρ ms H B w) {b c s : Nat} (hb : ms[ms.length - 1]? = some b)
    (hr : ∀ j, j < c * s → (w.cell? ⟨b, j, none⟩).isSome = true ∧ w.frozen? ⟨b, j, none⟩ = false) : Holds ρ (ms ++ [c]) (H ++ [capBlk s]) B w := by
  have hlastk : ∀ (i : Nat) (k : Blk), ¬ i < H.length → (H ++ [capBlk s])[i]? = some k → i = H.length ∧ k = capBlk s := fun i k hi hk => by
    rw [List.getElem?_append, if_neg hi] at hk
    have e1 := (List.getElem?_eq_some_iff.1 hk).1
    have e2 := List.mem_of_getElem? hk
    simp at e1 e2
    exact ⟨by omega, e2⟩
  have hin : ∀ (i : Nat), i < ms.length → (ms ++ [c])[i]? = ms[i]? := fun i hi => by rw [List.getElem?_append, if_pos hi]
  have hink : ∀ (i : Nat), i < H.length → (H ++ [capBlk s])[i]? = H[i]? := fun i hi => by rw [List.getElem?_append, if_pos hi]
  have hle := h.len
  have hdead : (capBlk s).cells = [] := rfl
  refine ⟨by simp [h.len], h.gl.mono (List.prefix_append _ _), ?_, ?_, ?_, h.big, ?_, ?_, ?_⟩
  · intro i j b k k' hi hj hk hk' hne hne'
    by_cases h1 : i < H.length
    · by_cases h2 : j < H.length
      · rw [hin i (by omega)] at hi; rw [hin j (by omega)] at hj; rw [hink i h1] at hk; rw [hink j h2] at hk'
        exact h.inj i j b k k' hi hj hk hk' hne hne'
      · obtain ⟨_, rfl⟩ := hlastk j k' h2 hk'; exact absurd hdead hne'
    · obtain ⟨_, rfl⟩ := hlastk i k h1 hk; exact absurd hdead hne
  · intro i b k hi hk hr
    by_cases h1 : i < H.length
    · rw [hin i (by omega)] at hi; rw [hink i h1] at hk; exact h.low i b k hi hk hr
    · obtain ⟨_, rfl⟩ := hlastk i k h1 hk; simp [capBlk] at hr
  · intro i b k hi hk hne
    by_cases h1 : i < H.length
    · rw [hin i (by omega)] at hi; rw [hink i h1] at hk; exact h.bnd i b k hi hk hne
    · obtain ⟨_, rfl⟩ := hlastk i k h1 hk; exact absurd hdead hne
  · intro i k hk hp
    by_cases h1 : i < H.length
    · rw [hink i h1] at hk; exact h.plain i k hk hp
    · obtain ⟨_, rfl⟩ := hlastk i k h1 hk; rfl
  · intro i b k hi hk j s' hs
    by_cases h1 : i < H.length
    · rw [hin i (by omega)] at hi; rw [hink i h1] at hk
      obtain ⟨v, h2, h3, h4⟩ := h.cell i b k hi hk j s' hs
      exact ⟨v, s'.inst_mono (List.prefix_append _ _) v h2, h3, h4⟩
    · obtain ⟨_, rfl⟩ := hlastk i k h1 hk; rw [hdead] at hs; simp at hs
  · intro i b' c' k0 k hi hc hk0 hr0 hn0 hk hcap j hj
    by_cases h1 : i + 1 < H.length
    · rw [hin i (by omega)] at hi; rw [hin _ (by omega)] at hc; rw [hink _ h1] at hk; rw [hink _ (by omega)] at hk0
      exact h.room i b' c' k0 k hi hc hk0 hr0 hn0 hk hcap j hj
    · obtain ⟨e1, rfl⟩ := hlastk (i + 1) k h1 hk
      have e2 : i = ms.length - 1 := by omega
      rw [hin i (by omega), e2, hb] at hi
      rw [show i + 1 = ms.length by omega, List.getElem?_append, if_neg (by omega)] at hc
      simp at hi hc
      subst hi hc
      exact hr j hj
theorem Holds.kill {ρ : Env} {ms : List Nat} {H : List Blk} {B : Nat} {w : World} (h : Holds ρ ms H B w) (m : Nat) : Holds ρ ms (H.set m dead) B w := by
  have key : ∀ (i : Nat) (k : Blk), (H.set m dead)[i]? = some k → k = dead ∨ H[i]? = some k := fun i k hk => by
    rw [List.getElem?_set] at hk
    split at hk
    · split at hk
      · exact .inl (by simpa using hk.symm)
      · cases hk
    · exact .inr hk
  refine ⟨by rw [List.length_set]; exact h.len, h.gl, ?_, ?_, ?_, h.big, ?_, ?_, ?_⟩
  · intro i j b k k' hi hj hk hk' hne hne'
    rcases key i k hk with rfl | hk
    · exact absurd rfl hne
    rcases key j k' hk' with rfl | hk'
    · exact absurd rfl hne'
    exact h.inj i j b k k' hi hj hk hk' hne hne'
  · intro i b k hi hk hr
    rcases key i k hk with rfl | hk
    · simp [dead] at hr
    exact h.low i b k hi hk hr
  · intro i b k hi hk hne
    rcases key i k hk with rfl | hk
    · exact absurd rfl hne
    exact h.bnd i b k hi hk hne
  · intro i k hk hp
    rcases key i k hk with rfl | hk
    · rfl
    exact h.plain i k hk hp
  · intro i b k hi hk j s hs
    rcases key i k hk with rfl | hk
    · simp [dead] at hs
    exact h.cell i b k hi hk j s hs
  · intro i b c k0 k hi hc hk0 hr0 hn0 hk hcap j hj
    rcases key _ k hk with rfl | hk
    · simp [dead] at hcap
    rcases key _ k0 hk0 with rfl | hk0
    · simp [dead] at hr0
    exact h.room i b c k0 k hi hc hk0 hr0 hn0 hk hcap j hj
theorem World.cell?_freeze (w : World) (a x : Addr) (n : Nat) : (w.freeze a n).cell? x = w.cell? x := by
  unfold World.freeze
  split
  · rfl
  · unfold World.cell?
    simp only [Array.getElem?_modify]
    by_cases e : a.block = x.block
    · rw [if_pos e]
      cases hx : w.heap[x.block]? with
      | none => rfl
      | some o => cases o <;> rfl
    · rw [if_neg e]
theorem World.frozen?_freeze_far (w : World) (a x : Addr) (n : Nat) (h : x.block ≠ a.block) : (w.freeze a n).frozen? x = w.frozen? x := by
  unfold World.freeze
  split
  · rfl
  · unfold World.frozen?
    simp only [Array.getElem?_modify]
    rw [if_neg (fun e => h e.symm)]
theorem World.size_freeze (w : World) (a : Addr) (n : Nat) : (w.freeze a n).heap.size = w.heap.size := by
  unfold World.freeze
  split <;> simp
open Go.RowKit in
theorem below_freeze {B : Nat} {w : World} {a : Addr} (n : Nat) (ha : B ≤ a.block) : Bel B w (w.freeze a n) := by
  unfold World.freeze
  split
  · exact Bel.refl _ _
  · refine ⟨⟨rfl, rfl, rfl, by simp, fun k hk => ?_⟩, fun i o hi hc => ?_⟩
    · simp only [Array.getElem?_modify]
      rw [if_neg (by omega)]
    · simp only [Array.getElem?_modify, hi]
      split
      · cases o <;> simp_all [Obj.isCells]
      · rfl
theorem Holds.mark {ρ : Env} {ms : List Nat} {H : List Blk} {B : Nat} {w : World} (h : Holds ρ ms H B w) {m b : Nat} {k : Blk} (hb : ms[m]? = some b) (hk : H[m]? = some k) (hne : k.cells ≠ []) (a : Addr) (ha : a.block = b) (n : Nat) :
    Holds ρ ms (H.set m ⟨true, k.pl, 0, k.cells⟩) B (w.freeze a n) := by
  have key : ∀ (i : Nat) (k' : Blk), (H.set m ⟨true, k.pl, 0, k.cells⟩)[i]? = some k' → (i = m ∧ k' = ⟨true, k.pl, 0, k.cells⟩) ∨ (i ≠ m ∧ H[i]? = some k') := fun i k' hk' => by
    rw [List.getElem?_set] at hk'
    split at hk'
    · rename_i e
      split at hk'
      · exact .inl ⟨e.symm, by simpa using hk'.symm⟩
      · cases hk'
    · rename_i e
      exact .inr ⟨fun e2 => e e2.symm, hk'⟩
  have old : ∀ (i : Nat) (k' : Blk), (H.set m ⟨true, k.pl, 0, k.cells⟩)[i]? = some k' → k'.cells ≠ [] → ∃ k2, H[i]? = some k2 ∧ k2.cells ≠ [] := fun i k' hk' hn => by
    rcases key i k' hk' with ⟨rfl, rfl⟩ | ⟨_, h2⟩
    · exact ⟨k, hk, hne⟩
    · exact ⟨k', h2, hn⟩
  refine ⟨by rw [List.length_set]; exact h.len, h.gl, ?_, ?_, ?_, by rw [World.size_freeze]; exact h.big, ?_, ?_, ?_⟩
  · intro i j b' k1 k2 hi hj hk1 hk2 hn1 hn2
    obtain ⟨k3, h3, h4⟩ := old i k1 hk1 hn1
    obtain ⟨k5, h5, h6⟩ := old j k2 hk2 hn2
    exact h.inj i j b' k3 k5 hi hj h3 h5 h4 h6
  · intro i b' k' hi hk' hr
    rcases key i k' hk' with ⟨rfl, rfl⟩ | ⟨_, h2⟩
    · simp at hr
    · exact h.low i b' k' hi h2 hr
  · intro i b' k' hi hk' hn
    obtain ⟨k3, h3, h4⟩ := old i k' hk' hn
    rw [World.size_freeze]; exact h.bnd i b' k3 hi h3 h4
  · intro i k' hk' hp
    rcases key i k' hk' with ⟨rfl, rfl⟩ | ⟨_, h2⟩
    · exact h.plain i k hk hp
    · exact h.plain i k' h2 hp
  · intro i b' k' hi hk' j s hs
    rcases key i k' hk' with ⟨rfl, rfl⟩ | ⟨e, h2⟩
    · obtain ⟨v, q1, q2, _⟩ := h.cell i b' k hi hk j s hs
      exact ⟨v, q1, by rw [World.cell?_freeze]; exact q2, fun hr => by simp at hr⟩
    · obtain ⟨v, q1, q2, q3⟩ := h.cell i b' k' hi h2 j s hs
      have hbb : b' ≠ b := fun e2 => by subst e2; exact e (h.inj i m b' k' k hi hb h2 hk (mem_nil_of_get hs) hne)
      exact ⟨v, q1, by rw [World.cell?_freeze]; exact q2, fun hr => by rw [World.frozen?_freeze_far _ _ _ _ (by rw [ha]; exact hbb)]; exact q3 hr⟩
  · intro i b' c k0 k' hi hc hk0 hr0 hn0 hk' hcap j hj
    rcases key i k0 hk0 with ⟨rfl, rfl⟩ | ⟨e, h2⟩
    · simp at hr0
    · rcases key _ k' hk' with ⟨_, rfl⟩ | ⟨_, h3⟩
      · simp at hcap
      · obtain ⟨q1, q2⟩ := h.room i b' c k0 k' hi hc h2 hr0 hn0 h3 hcap j hj
        have hbb : b' ≠ b := fun e2 => by subst e2; exact e (h.inj i m b' k0 k hi hb h2 hk hn0 hne)
        exact ⟨by rw [World.cell?_freeze]; exact q1, by rw [World.frozen?_freeze_far _ _ _ _ (by rw [ha]; exact hbb)]; exact q2⟩
end Go.Proofs.Ytmlhfjflkcenkaa.Ev
namespace Go.Proofs.Ytmlhfjflkcenkaa.Ev
open Go Go.RowKit
def ofScalar : Value → Option SV
  | .int k n => some (.int k (.lit n))
  | .bool b => some (.bool b)
  | .pointer none => some .nilp
  | .slice none l c => some (.nils l c)
  | .nilFunc => some .nilf
  | .nilIface => some .nili
  | .string s => some (.str (s.data.toList.map UInt8.toNat))
  | _ => none
def evGet (t : Tm) : Operand → Option AV
  | .tmp i => t.get i
  | .const v => (ofScalar v).map fun s => .tv (.sc s)
  | .func f => some (.tv (.sc (.clo f [])))
  | .global g => if g < nGl then some (.tv (.sc (.ptr g 0))) else none
theorem bytesOf_self (s : ByteArray) : bytesOf (s.data.toList.map UInt8.toNat) = s := by
  unfold bytesOf
  obtain ⟨⟨l⟩⟩ := s
  simp only [List.map_map]
  congr 2
  conv => rhs; rw [← List.map_id l]
  refine List.map_congr_left fun x _ => ?_
  simp
theorem ofScalar_inst {ρ : Env} {ms : List Nat} {v : Value} {s : SV} (h : ofScalar v = some s) : s.inst ρ ms = some v := by
  cases v <;> simp [ofScalar] at h
  case int => subst h; rfl
  case bool => subst h; rfl
  case pointer a => cases a <;> simp at h; subst h; rfl
  case slice a l c => cases a <;> simp at h; subst h; rfl
  case nilFunc => subst h; rfl
  case nilIface => subst h; rfl
  case string s => subst h; simp only [SV.inst, bytesOf_self]
theorem evGet_ok {ρ : Env} {ms : List Nat} {t : Tm} {a : Act} (hT : RelT ρ ms t a.tmps) {x : Operand} {v : AV} (h : evGet t x = some v) : v.inst ρ ms = some (a.eval x) := by
  cases x with
  | tmp i =>
    obtain ⟨u, h1, h2⟩ := hT.get h
    rw [h2]
    simp [Act.eval, Array.getD_eq_getD_getElem?, h1]
  | const c =>
    simp only [evGet, Option.map_eq_some_iff] at h
    obtain ⟨s, h1, rfl⟩ := h
    exact ofScalar_inst h1
  | func f =>
    simp only [evGet, Option.some.injEq] at h
    subst h
    rfl
  | global g =>
    simp only [evGet] at h
    split at h <;> cases h
    rename_i hg
    simp only [AV.inst, TV.inst, SV.inst, addr, hT.gl g hg, Option.map_some]
    rfl
def gPtr (t : Tm) (x : Operand) : Option (Nat × Nat) :=
  match evGet t x with
  | some (.tv (.sc (.ptr n o))) => some (n, o)
  | _ => none
def gInt (t : Tm) (x : Operand) : Option (IntKind × Int) :=
  match evGet t x with
  | some (.tv (.sc (.int k (.lit n)))) => some (k, n)
  | _ => none
def gCells (t : Tm) (x : Operand) : Option (List SV) :=
  match evGet t x with
  | some (.tv (.sc s)) => some [s]
  | some (.tv (.agg l)) => some l
  | _ => none
def gAgg (t : Tm) (x : Operand) : Option (List SV) :=
  match evGet t x with
  | some (.tv (.agg l)) => some l
  | _ => none
section
variable {ρ : Env} {ms : List Nat} {t : Tm} {a : Act}
theorem gPtr_ok (hT : RelT ρ ms t a.tmps) {x : Operand} {n o : Nat} (h : gPtr t x = some (n, o)) : ∃ b, ms[n]? = some b ∧ a.eval x = .pointer (some ⟨b, o, none⟩) := by
  unfold gPtr at h
  split at h
  · rename_i n' o' he
    simp only [Option.some.injEq, Prod.mk.injEq] at h
    obtain ⟨rfl, rfl⟩ := h
    have h1 := evGet_ok hT he
    simp only [AV.inst, TV.inst, SV.inst, addr, Option.map_eq_some_iff] at h1
    obtain ⟨b, hb, hv⟩ := h1
    exact ⟨b, hb, hv.symm⟩
  · cases h
theorem gInt_ok (hT : RelT ρ ms t a.tmps) {x : Operand} {k : IntKind} {n : Int} (h : gInt t x = some (k, n)) : a.eval x = .int k n := by
  unfold gInt at h
  split at h
  · rename_i k' n' he
    simp only [Option.some.injEq, Prod.mk.injEq] at h
    obtain ⟨rfl, rfl⟩ := h
    have h1 := evGet_ok hT he
    simp only [AV.inst, TV.inst, SV.inst, Ex.den, Option.some.injEq] at h1
    exact h1.symm
  · cases h
theorem gAgg_ok (hT : RelT ρ ms t a.tmps) {x : Operand} {l : List SV} (h : gAgg t x = some l) : ∃ vs : List Value, l.map (SV.inst ρ ms) = vs.map some ∧ a.eval x = .agg vs.toArray := by
  unfold gAgg at h
  split at h
  · rename_i l' he
    simp only [Option.some.injEq] at h
    subst h
    have h1 := evGet_ok hT he
    simp only [AV.inst, TV.inst, Option.map_eq_some_iff] at h1
    obtain ⟨vs, hb, hv⟩ := h1
    exact ⟨vs, (seqO_iff _ _).1 hb, hv.symm⟩
  · cases h
theorem gCells_ok (hT : RelT ρ ms t a.tmps) {x : Operand} {l : List SV} (h : gCells t x = some l) : ∃ vs : List Value, l.map (SV.inst ρ ms) = vs.map some ∧ (a.eval x).cells = vs.toArray := by
  unfold gCells at h
  split at h
  · rename_i s he
    simp only [Option.some.injEq] at h
    subst h
    have h1 := evGet_ok hT he
    simp only [AV.inst, TV.inst] at h1
    have h2 := SV.inst_one h1
    refine ⟨[a.eval x], by simp [h1], ?_⟩
    generalize a.eval x = v at *
    cases v <;> first | rfl | (exfalso; revert h2; simp [Value.oneCell'])
  · rename_i l' he
    simp only [Option.some.injEq] at h
    subst h
    have h1 := evGet_ok hT he
    simp only [AV.inst, TV.inst, Option.map_eq_some_iff] at h1
    obtain ⟨vs, hb, hv⟩ := h1
    exact ⟨vs, (seqO_iff _ _).1 hb, by rw [← hv]; rfl⟩
  · cases h
end
def span (H : List Blk) (i o n : Nat) : Option (List SV) :=
  match H[i]? with
  | some k =>
    let l := (k.cells.drop o).take n
    if l.length = n then some l else none
  | none => none
def Sees (ρ : Env) (ms : List Nat) (H : List Blk) (w : World) (i : Nat) : Prop :=
  ∀ (b : Nat) (k : Blk), ms[i]? = some b → H[i]? = some k → ∀ (j : Nat) (s : SV), k.cells[j]? = some s → ∃ v, s.inst ρ ms = some v ∧ w.cell? ⟨b, j, none⟩ = some v
theorem Holds.sees {ρ : Env} {ms : List Nat} {H : List Blk} {B : Nat} {w : World} (h : Holds ρ ms H B w) (i : Nat) : Sees ρ ms H w i := fun b k hb hk j s hs => by
  obtain ⟨v, h1, h2, _⟩ := h.cell i b k hb hk j s hs
  exact ⟨v, h1, h2⟩
def SeesAt (ρ : Env) (ms : List Nat) (H : List Blk) (w : World) (i o n : Nat) : Prop :=
  ∀ (b : Nat) (k : Blk), ms[i]? = some b → H[i]? = some k → ∀ (j : Nat) (s : SV), o ≤ j → j < o + n → k.cells[j]? = some s → ∃ v, s.inst ρ ms = some v ∧ w.cell? ⟨b, j, none⟩ = some v
theorem Sees.at {ρ : Env} {ms : List Nat} {H : List Blk} {w : World} {i : Nat} (h : Sees ρ ms H w i) (o n : Nat) : SeesAt ρ ms H w i o n := fun b k hb hk j s _ _ hs => h b k hb hk j s hs
theorem span_ok {ρ : Env} {ms : List Nat} {H : List Blk} {w : World} {i o n b : Nat} (hH : SeesAt ρ ms H w i o n) {l : List SV} (hb : ms[i]? = some b) (h : span H i o n = some l) :
    ∃ vs : List Value, l.map (SV.inst ρ ms) = vs.map some ∧ vs.length = n ∧ w.rangeAt b o vs := by
  unfold span at h
  split at h
  case h_2 => cases h
  rename_i k hk
  dsimp only at h
  split at h
  case isFalse => cases h
  rename_i hle0
  have hle : n ≤ k.cells.length - o := by
    rw [List.length_take, List.length_drop] at hle0
    omega
  simp only [Option.some.injEq] at h
  have key : ∀ j, j < n → ∃ s v, l[j]? = some s ∧ s.inst ρ ms = some v ∧ w.cell? ⟨b, o + j, none⟩ = some v := fun j hj => by
    have hj2 : o + j < k.cells.length := by omega
    obtain ⟨v, h1, h2⟩ := hH b k hb hk (o + j) _ (by omega) (by omega) (List.getElem?_eq_getElem hj2)
    refine ⟨_, v, ?_, h1, h2⟩
    rw [← h, List.getElem?_take, if_pos hj, List.getElem?_drop, List.getElem?_eq_getElem hj2]
  have hl : l.length = n := by rw [← h]; simp; omega
  have hall : ∀ s ∈ l, ∃ v, s.inst ρ ms = some v := fun s hs => by
    obtain ⟨j, hj, rfl⟩ := List.getElem_of_mem hs
    obtain ⟨s', v, h1, h2, _⟩ := key j (by omega)
    rw [List.getElem?_eq_getElem hj] at h1
    cases h1
    exact ⟨v, h2⟩
  refine ⟨l.map fun s => (s.inst ρ ms).getD default, ?_, by simp [hl], ?_⟩
  · rw [List.map_map]
    refine List.map_congr_left fun s hs => ?_
    obtain ⟨v, hv⟩ := hall s hs
    simp [hv]
  · intro j v hv
    rw [List.getElem?_map, Option.map_eq_some_iff] at hv
    obtain ⟨s, h1, h2⟩ := hv
    have hj : j < n := by rw [← hl]; exact (List.getElem?_eq_some_iff.1 h1).1
    obtain ⟨s', v', h3, h4, h5⟩ := key j hj
    rw [h3] at h1
    cases h1
    rw [h4] at h2
    simp only [Option.getD_some] at h2
    rw [← h2]; exact h5
def rowOf (P : Program) (T : TypeId) : Option (Bool × Nat) :=
  match P.underlying T, P.info? T with
  | some d, some i => some (d.isRow, i.size)
  | _, _ => none
theorem rowOf_ok {P : Program} {T : TypeId} {r : Bool} {n : Nat} (h : rowOf P T = some (r, n)) : ∃ d i, P.underlying T = some d ∧ P.info? T = some i ∧ d.isRow = r ∧ i.size = n := by
  unfold rowOf at h
  split at h
  · rename_i d i h1 h2
    simp only [Option.some.injEq, Prod.mk.injEq] at h
    exact ⟨d, i, h1, h2, h.1, h.2⟩
  · cases h
def loadLen (P : Program) (T : TypeId) : Nat := match rowOf P T with | some (true, s) => s | _ => 1
def evLoad (P : Program) (t : Tm) (H : List Blk) (T : TypeId) (x : Operand) : Option AV :=
  match gPtr t x, rowOf P T with
  | some (n, o), some (true, s) => (span H n o s).map fun l => .tv (.agg l)
  | some (n, o), some (false, _) =>
    match span H n o 1 with
    | some [s] => some (.tv (.sc s))
    | _ => none
  | _, _ => none
theorem isAgg_run {P : Program} {T : TypeId} {d : TypeDesc} (h : P.underlying T = some d) (w : World) : (isAgg T).run P w = .ok d.isRow w := by
  unfold isAgg
  rw [Sem.run_bind, run_underlying h w]
  cases d <;> simp
theorem evLoad_ok {P : Program} {ρ : Env} {ms : List Nat} {t : Tm} {H : List Blk} {w : World} {a : Act} {T : TypeId} {x : Operand} {v : AV}
    (hT : RelT ρ ms t a.tmps) (hH : ∀ n o, gPtr t x = some (n, o) → SeesAt ρ ms H w n o (loadLen P T)) (h : evLoad P t H T x = some v) : ∃ u, v.inst ρ ms = some u ∧ (Instr.loadAt T (a.eval x)).run P w = .ok u w := by
  unfold evLoad at h
  split at h
  · rename_i n o s h1 h2
    obtain ⟨b, hb, he⟩ := gPtr_ok hT h1
    obtain ⟨d, i, hu, hi, hd, hs⟩ := rowOf_ok h2
    rw [Option.map_eq_some_iff] at h
    obtain ⟨l, hl, rfl⟩ := h
    have hS := hH n o h1
    simp only [loadLen, h2] at hS
    obtain ⟨vs, e1, e2, e3⟩ := span_ok hS hb hl
    refine ⟨.agg vs.toArray, ?_, ?_⟩
    · simp only [AV.inst, TV.inst, (seqO_iff _ _).2 e1, Option.map_some]
    · rw [he]
      exact run_loadAt_mid w b o T vs d e3 hu hd (by simp [hi, hs, e2])
  · rename_i n o s h1 h2
    obtain ⟨b, hb, he⟩ := gPtr_ok hT h1
    obtain ⟨d, i, hu, hi, hd, hs⟩ := rowOf_ok h2
    split at h
    case h_2 => cases h
    rename_i s1 hsp
    simp only [Option.some.injEq] at h
    subst h
    have hS := hH n o h1
    simp only [loadLen, h2] at hS
    obtain ⟨vs, e1, e2, e3⟩ := span_ok hS hb hsp
    match vs, e2 with
    | [u], _ =>
      simp only [List.map_cons, List.map_nil, List.cons.injEq, and_true] at e1
      refine ⟨u, e1, ?_⟩
      rw [he]
      have hc := e3 0 u rfl
      simp only [Nat.add_zero] at hc
      have hag := isAgg_run hu w
      rw [hd] at hag
      simp [Instr.loadAt, Instr.sureAddr, loadVar, hag, load, Sem.run, hc]
  · cases h
def over : List SV → Nat → List SV → List SV
  | [], _, _ => []
  | c :: cs, 0, ns => match ns with | [] => c :: cs | n :: ns => n :: over cs 0 ns
  | c :: cs, o + 1, ns => c :: over cs o ns
def evStore (P : Program) (t : Tm) (H : List Blk) (T : TypeId) (x y : Operand) : Option (List Blk) :=
  match gPtr t x, gCells t y, rowOf P T with
  | some (n, o), some l, some (_, s) =>
    match H[n]? with
    | some k => if k.ro = false ∧ l.length = s ∧ 0 < s ∧ ((k.cells.drop o).take s).length = s then some (H.set n ⟨false, k.pl && l.all SV.plain, 0, over k.cells o l⟩) else none
    | none => none
  | _, _, _ => none
theorem over_get : ∀ (l : List SV) (o : Nat) (n : List SV), o + n.length ≤ l.length → ∀ j, (over l o n)[j]? = if o ≤ j ∧ j < o + n.length then n[j - o]? else l[j]?
  | [], o, n, h, j => by
    have : n = [] := List.length_eq_zero_iff.1 (by simp only [List.length_nil] at h; omega)
    subst this
    simp [over]
  | c :: cs, 0, [], _, j => by simp [over]
  | c :: cs, 0, n :: ns, h, j => by
    simp only [over]
    cases j with
    | zero => simp
    | succ j =>
      rw [List.getElem?_cons_succ, over_get cs 0 ns (by simp at h; omega) j]
      simp only [Nat.zero_le, true_and, Nat.zero_add, Nat.sub_zero, List.length_cons, List.getElem?_cons_succ]
      by_cases hj : j < ns.length
      · rw [if_pos hj, if_pos (by omega)]
      · rw [if_neg hj, if_neg (by omega)]
  | c :: cs, o + 1, ns, h, j => by
    simp only [over]
    cases j with
    | zero => simp
    | succ j =>
      rw [List.getElem?_cons_succ, over_get cs o ns (by simp at h; omega) j, List.getElem?_cons_succ]
      by_cases hj : o ≤ j ∧ j < o + ns.length
      · rw [if_pos hj, if_pos (by omega), show j + 1 - (o + 1) = j - o by omega]
      · rw [if_neg hj, if_neg (by omega)]
theorem over_all {p : SV → Bool} : ∀ (l : List SV) (o : Nat) (n : List SV), l.all p = true → n.all p = true → (over l o n).all p = true
  | [], _, _, _, _ => rfl
  | c :: cs, 0, [], h, _ => h
  | c :: cs, 0, n :: ns, h, h2 => by
    simp only [List.all_cons, Bool.and_eq_true] at h h2
    simp only [over, List.all_cons, Bool.and_eq_true]
    exact ⟨h2.1, over_all cs 0 ns h.2 h2.2⟩
  | c :: cs, o + 1, ns, h, h2 => by
    simp only [List.all_cons, Bool.and_eq_true] at h
    simp only [over, List.all_cons, Bool.and_eq_true]
    exact ⟨h.1, over_all cs o ns h.2 h2⟩
theorem cell_setCells_isSome (b : Nat) (vs : List Value) (o : Nat) (w : World) (x : Addr) (hth : w.there b o vs.length) (h : (w.cell? x).isSome = true) : ((w.setCells b o vs).cell? x).isSome = true := by
  by_cases hx : x.block = b → x.spot = none → x.off < o ∨ o + vs.length ≤ x.off
  · rw [World.cell?_setCells_out b vs o w x hx]; exact h
  · obtain ⟨xb, xo, xs⟩ := x
    have e1 : xb = b := by
      by_cases e : xb = b
      · exact e
      · exact absurd (fun e2 => absurd e2 e) hx
    have e2 : xs = none := by
      by_cases e : xs = none
      · exact e
      · exact absurd (fun _ e2 => absurd e2 e) hx
    subst e1 e2
    have e3 : ¬ (xo < o ∨ o + vs.length ≤ xo) := fun e => hx (fun _ _ => e)
    have hj : xo - o < vs.length := by omega
    have := World.rangeAt_setCells_same w xb o vs hth (xo - o) (vs[xo - o]) (List.getElem?_eq_getElem hj)
    rw [show o + (xo - o) = xo by omega] at this
    rw [this]; rfl
theorem Holds.store {ρ : Env} {ms : List Nat} {H : List Blk} {B : Nat} {w : World} (hH : Holds ρ ms H B w) {n b o : Nat} {k : Blk} {l : List SV} {vs : List Value}
    (hb : ms[n]? = some b) (hk : H[n]? = some k) (hl : l.map (SV.inst ρ ms) = vs.map some) (ho : o + l.length ≤ k.cells.length) (hl0 : 0 < l.length) (hr : k.ro = false) :
    Holds ρ ms (H.set n ⟨false, k.pl && l.all SV.plain, 0, over k.cells o l⟩) B (w.setCells b o vs) := by
  have hlen : l.length = vs.length := by have := congrArg List.length hl; simpa using this
  have hsz : ∀ (vs : List Value) (o : Nat) (w : World), (w.setCells b o vs).heap.size = w.heap.size := by
    intro vs
    induction vs with
    | nil => intro o w; rfl
    | cons v r ih => intro o w; rw [World.setCells, ih]; simp
  have hth : w.there b o vs.length := fun j hj => by
    have hj2 : o + j < k.cells.length := by omega
    obtain ⟨v, _, h2, h3⟩ := hH.cell n b k hb hk (o + j) _ (List.getElem?_eq_getElem hj2)
    exact ⟨by rw [h2]; rfl, h3 hr⟩
  have hkn : k.cells ≠ [] := fun e => by rw [e, List.length_nil] at ho; omega
  have key : ∀ (i : Nat) (k' : Blk), (H.set n ⟨false, k.pl && l.all SV.plain, 0, over k.cells o l⟩)[i]? = some k' → k'.cells ≠ [] → ∃ k2, H[i]? = some k2 ∧ k2.cells ≠ [] := fun i k' hk' hne => by
    rw [List.getElem?_set] at hk'
    by_cases e : n = i
    · subst e; exact ⟨k, hk, hkn⟩
    · rw [if_neg e] at hk'; exact ⟨k', hk', hne⟩
  refine ⟨by rw [List.length_set]; exact hH.len, hH.gl, ?_, ?_, ?_, ?_, ?_, ?_, ?_⟩
  · intro i j b' k1 k2 hi hj hk1 hk2 hn1 hn2
    obtain ⟨k3, h3, h4⟩ := key i k1 hk1 hn1
    obtain ⟨k5, h5, h6⟩ := key j k2 hk2 hn2
    exact hH.inj i j b' k3 k5 hi hj h3 h5 h4 h6
  · intro i b' k' hi hk' hr'
    rw [List.getElem?_set] at hk'
    by_cases e : n = i
    · subst e
      rw [hb] at hi
      cases hi
      exact hH.low n b k hb hk hr
    · rw [if_neg e] at hk'; exact hH.low i b' k' hi hk' hr'
  · intro i b' k' hi hk' hne
    obtain ⟨k3, h3, h4⟩ := key i k' hk' hne
    rw [hsz]; exact hH.bnd i b' k3 hi h3 h4
  · rw [hsz]; exact hH.big
  · intro i k' hk' hp
    rw [List.getElem?_set] at hk'
    by_cases e : n = i
    · subst e
      rw [if_pos rfl] at hk'
      split at hk'
      case isFalse => cases hk'
      simp only [Option.some.injEq] at hk'
      subst hk'
      simp only [Bool.and_eq_true] at hp
      have h1 := hH.plain n k hk hp.1
      exact over_all _ _ _ h1 hp.2
    · rw [if_neg e] at hk'; exact hH.plain i k' hk' hp
  · intro i b' k' hi hk' j s hs
    rw [World.frozen?_setCells]
    rw [List.getElem?_set] at hk'
    by_cases e : n = i
    · subst e
      rw [hb] at hi
      cases hi
      rw [if_pos rfl] at hk'
      split at hk'
      case isFalse => cases hk'
      simp only [Option.some.injEq] at hk'
      subst hk'
      simp only at hs
      rw [over_get _ _ _ ho] at hs
      by_cases hin : o ≤ j ∧ j < o + l.length
      · rw [if_pos hin] at hs
        have e1 : (l.map (SV.inst ρ ms))[j - o]? = (vs.map some)[j - o]? := by rw [hl]
        simp only [List.getElem?_map, hs] at e1
        cases hv : vs[j - o]? with
        | none => rw [hv] at e1; simp at e1
        | some v =>
          rw [hv] at e1
          simp only [Option.map_some, Option.some.injEq] at e1
          refine ⟨v, e1, ?_, ?_⟩
          · have := World.rangeAt_setCells_same w b o vs hth (j - o) v hv
            rw [show o + (j - o) = j by omega] at this
            exact this
          · intro _
            have := (hth (j - o) (by omega)).2
            rw [show o + (j - o) = j by omega] at this
            exact this
      · rw [if_neg hin] at hs
        obtain ⟨v, h1, h2, h3⟩ := hH.cell n b k hb hk j s hs
        refine ⟨v, h1, ?_, fun _ => h3 hr⟩
        rw [World.cell?_setCells_out b vs o w ⟨b, j, none⟩ (fun _ _ => by show j < o ∨ o + vs.length ≤ j; omega)]
        exact h2
    · rw [if_neg e] at hk'
      obtain ⟨v, h1, h2, h3⟩ := hH.cell i b' k' hi hk' j s hs
      refine ⟨v, h1, ?_, h3⟩
      rw [World.cell?_setCells_out b vs o w ⟨b', j, none⟩ (fun hbb _ => by
        simp only at hbb
        subst hbb
        exact absurd (hH.inj n i b' k k' hb hi hk hk' hkn (mem_nil_of_get hs)) e)]
      exact h2
  · intro i b' c k0 k' hi hc hk0 hr0 hn0 hk' hcap j hj
    rw [World.frozen?_setCells]
    rw [List.getElem?_set] at hk'
    have hk2 : H[i + 1]? = some k' := by
      by_cases e : n = i + 1
      · rw [if_pos e] at hk'
        split at hk'
        · simp only [Option.some.injEq] at hk'; subst hk'; simp at hcap
        · cases hk'
      · rw [if_neg e] at hk'; exact hk'
    obtain ⟨k3, h3, h4, h5⟩ : ∃ k3, H[i]? = some k3 ∧ k3.ro = false ∧ k3.cells ≠ [] := by
      rw [List.getElem?_set] at hk0
      by_cases e : n = i
      · subst e; exact ⟨k, hk, hr, hkn⟩
      · rw [if_neg e] at hk0; exact ⟨k0, hk0, hr0, hn0⟩
    obtain ⟨q1, q2⟩ := hH.room i b' c k3 k' hi hc h3 h4 h5 hk2 hcap j hj
    exact ⟨cell_setCells_isSome b vs o w _ hth q1, q2⟩
theorem below_setCells {B b : Nat} (hb : B ≤ b) : ∀ (vs : List Value) (o : Nat) (a w : World), Bel B a w → Bel B a (w.setCells b o vs)
  | [], _, _, _, h => h
  | v :: r, o, a, w, h => by rw [World.setCells]; exact below_setCells hb r (o + 1) a _ (h.setCell hb v)
theorem evStore_ok {P : Program} {ρ : Env} {ms : List Nat} {t : Tm} {H H' : List Blk} {B : Nat} {w : World} {a : Act} {T : TypeId} {x y : Operand}
    (hT : RelT ρ ms t a.tmps) (hH : Holds ρ ms H B w) (h : evStore P t H T x y = some H') : ∃ w', (Instr.storeAt T (a.eval x) (a.eval y)).run P w = .ok () w' ∧ Holds ρ ms H' B w' ∧ Bel B w w' := by
  unfold evStore at h
  split at h
  case h_2 => cases h
  rename_i n o l r s h1 h2 h3
  split at h
  case h_2 => cases h
  rename_i k hk
  split at h
  case isFalse => cases h
  rename_i hc
  obtain ⟨hro, hls, hs0, hle0⟩ := hc
  have hle : o + s ≤ k.cells.length := by
    rw [List.length_take, List.length_drop] at hle0
    omega
  simp only [Option.some.injEq] at h
  subst h
  obtain ⟨b, hb, he⟩ := gPtr_ok hT h1
  obtain ⟨vs, hv, hcs⟩ := gCells_ok hT h2
  obtain ⟨d, i, hu, hi, hd, hs⟩ := rowOf_ok h3
  have hlen : l.length = vs.length := by have := congrArg List.length hv; simpa using this
  refine ⟨w.setCells b o vs, ?_, hH.store hb hk hv (by omega) (by omega) hro, below_setCells (hH.low n b k hb hk hro) vs o w w (Bel.refl _ _)⟩
  have hth : w.there b o vs.length := fun j hj => by
    have hj2 : o + j < k.cells.length := by omega
    obtain ⟨v, _, h2, h3⟩ := hH.cell n b k hb hk (o + j) _ (List.getElem?_eq_getElem hj2)
    exact ⟨by rw [h2]; rfl, h3 hro⟩
  have hone : ∀ v ∈ vs, v.oneCell' = true := fun v hvv => by
    obtain ⟨j, hj, rfl⟩ := List.getElem_of_mem hvv
    have e1 : (l.map (SV.inst ρ ms))[j]? = (vs.map some)[j]? := by rw [hv]
    simp only [List.getElem?_map, List.getElem?_eq_getElem hj, List.getElem?_eq_getElem (show j < l.length by omega), Option.map_some, Option.some.injEq] at e1
    exact SV.inst_one e1
  have := run_storeCells_cells (P := P) b o vs 0 w (fun j hj => by simpa using (hth j hj).1) (fun j hj => by simpa using (hth j hj).2) hone
  simp only [Nat.add_zero] at this
  rw [he]
  have hsz : vs.length = i.size := by omega
  simp [Instr.storeAt, Instr.sureAddr, storeVar, sizeOf, typeInfo, hi, hcs, hsz, this]
end Go.Proofs.Ytmlhfjflkcenkaa.Ev
