/- ClockWalks, walked. -/
import Derived.Test.YtajdopmhdagehaaCkWkC
import Derived.Deep.RegionHeld
set_option linter.unusedVariables false
set_option linter.unusedSimpArgs false
namespace Go.Proofs.Ytajdopmhdagehaa.Rc
open Go.Proofs.Ytajdopmhdagehaa
open Go Go.RowKit Go.Shelf
attribute [local go_sem] Oper.semAt_some

theorem eql_func_nil : ∀ (w : World) (f : Fn) (a b : Array Value), (binOp .eql 53 (.func f a b) .nilFunc).run Try.prog w = .ok (.bool false) w := fun w f a b => by
  have h : ∀ d : Nat, (Op.equalIn (d + 1) 53 (.func f a b) .nilFunc).run Try.prog w = .ok false w := fun d => by
    simp [Op.equalIn, run_underlying Try.underlying53]
  simp only [binOp]
  simp [Op.equal, Op.maxDepth, h 9999]

theorem callR {P : Program} {lp n : Nat} {f : FuncId} {args : Array Value} {w : World} {R : Ending → World → Prop} (h : Calls P f args w R) : CallsIn (Fence.wide.inRound lp) n P f args w R := CallsIn.inRound lp (callsIn_wide.2 h)
theorem byte_at {w : World} {v : Value} {l : List Int} (h : HB w v l) (k : Nat) : 0 ≤ l.getD k 0 ∧ l.getD k 0 < 256 := by
  by_cases hk : k < l.length
  · have e : l.getD k 0 = l[k] := by simp [List.getD, hk]
    rw [e]
    exact h.2 _ (List.getElem_mem hk)
  · have e : l.getD k 0 = 0 := by simp [List.getD, hk]
    rw [e]
    omega
theorem region_held_n {P : Program} {ops : Array Oper} {Q : Exit → Act → World → Prop} {S : World → Prop} {id : Nat} {a : Act} {w : World} (hm : P.follows .mixedOrders = true) (hS : S w.drew)
    (h : S w.drew → wpAnyH P .any ops (fun e a' w' => e = .normal ∧ Q e a' w') S ops.size (Array.replicate ops.size false) a w.drew) : (Code.region id ops true).wp P Q a w :=
  Code.wp_mono (fun _ _ _ q => q.2) (wp_region_held_drew hm hS h)
section
variable {w : World} {B b7 : Nat} {dv : Value} {mo : Int} {c y i : Nat} {A : List (Rw Ds.Pr)} {l : List Tr} {S : Nat → Prop} {v : Value} {W W' : World}
theorem L1.below3 (h : L1 w B b7 dv mo c y i A l S v W) (hb : Below W.heap.size W W') : L1 w B b7 dv mo c y i A l S v W' :=
  ⟨h.ck.below hb, h.rc.below hb, h.rel, h.inc, h.num, h.len, h.bx.of fun k hk => hb.block k (h.bx.lt k hk), h.s1, h.s2, h.bel.trans (hb.mono h.bel.size)⟩
/-- The clock has one thing more. -/
structure L2 (w : World) (B b7 : Nat) (dv : Value) (mo : Int) (c y : Nat) (i : Nat) (A : List (Rw Ds.Pr)) (l : List Tr) (S : Nat → Prop) (v : Value) (t : Int) (bq : Nat) (W : World) : Prop where
  ck : Ds.CK W c 0 (⟨bq, i, ((i : Int), t, wordB (i : Int))⟩ :: A) (i + 1) S
  rc : HRc W y 0 i l v
  rel : (A.map (·.x)).Perm (l.map up)
  inc : Inc l
  num : ∀ p ∈ l, p.1 < (i : Int) ∧ 0 ≤ p.2.2 ∧ p.2.2 < 4294967296
  len : l.length = i
  bx : Bx W B b7 dv mo c
  s1 : ∀ k, S k → w.heap.size ≤ k ∧ ¬ bxD B b7 k ∧ ¬ rS y v k
  s2 : ∀ k, rS y v k → w.heap.size ≤ k ∧ ¬ bxD B b7 k
  bel : Below w.heap.size w W
theorem L1.set1 (h : L1 w B b7 dv mo c y i A l S v W) {t : Int} {bq : Nat} {S' : Nat → Prop} (hk : Ds.CK W' c 0 (⟨bq, i, ((i : Int), t, wordB (i : Int))⟩ :: A) (i + 1) S') (he : Ex S W W') (hs : ∀ k, S' k → S k ∨ W.heap.size ≤ k) : L2 w B b7 dv mo c y i A l S' v t bq W' where
  ck := hk
  rc := h.rc.ex he fun k hk q => (h.s1 k q).2.2 hk
  rel := h.rel
  inc := h.inc
  num := h.num
  len := h.len
  bx := h.bx.of fun k hk => he.block k (h.bx.lt k hk) fun q => (h.s1 k q).2.1 hk
  s1 := fun k hk => by
    rcases hs k hk with z | z
    · exact h.s1 k z
    · refine ⟨by have := h.bel.size; omega, fun q => by have := h.bx.lt k q; omega, fun q => by have := h.rc.vlt k q; omega⟩
  s2 := h.s2
  bel := h.bel.trans (he.below h.bel.size fun k q => (h.s1 k q).1)
theorem L2.set2 {t : Int} {bq : Nat} (h : L2 w B b7 dv mo c y i A l S v t bq W) (hi : i < 4294967296) {v' : Value} (hr : HRc W' y 0 (i + 1) (l ++ [((i : Int), t, (i : Int))]) v') (he : Ex (rS y v) W W') (hv : v'.ownBlock = v.ownBlock ∨ ∃ b, v'.ownBlock = some b ∧ W.heap.size ≤ b) : L1 w B b7 dv mo c y (i + 1) (⟨bq, i, ((i : Int), t, wordB (i : Int))⟩ :: A) (l ++ [((i : Int), t, (i : Int))]) S v' W' where
  ck := h.ck.ex he fun k hk q => (h.s1 k hk).2.2 q
  rc := hr
  rel := by
    rw [List.map_cons, List.map_append]
    exact (List.Perm.cons _ h.rel).trans (List.perm_append_comm (l₁ := [_]))
  inc := by
    unfold Inc
    rw [List.pairwise_append]
    exact ⟨h.inc, List.pairwise_singleton _ _, fun a ha b hb => by rw [List.mem_singleton.1 hb]; exact (h.num a ha).1⟩
  num := fun p hp => by
    rcases List.mem_append.1 hp with z | z
    · have := h.num p z; omega
    · rw [List.mem_singleton.1 z]; simp; omega
  len := by simp [h.len]
  bx := h.bx.of fun k hk => he.block k (h.bx.lt k hk) fun q => (h.s2 k q).2 hk
  s1 := fun k hk => ⟨(h.s1 k hk).1, (h.s1 k hk).2.1, fun q => by
    rcases q with z | z
    · exact (h.s1 k hk).2.2 (.inl z)
    · rcases hv with e | ⟨b, e, hb⟩
      · exact (h.s1 k hk).2.2 (.inr (by rw [← e]; exact z))
      · rw [e] at z
        cases z
        have := h.ck.lt _ hk
        omega⟩
  s2 := fun k hk => by
    rcases hk with z | z
    · exact h.s2 k (.inl z)
    · rcases hv with e | ⟨b, e, hb⟩
      · exact h.s2 k (.inr (by rw [← e]; exact z))
      · rw [e] at z
        cases z
        refine ⟨by have := h.bel.size; omega, fun q => by have := h.bx.lt _ q; omega⟩
  bel := h.bel.trans (he.below h.bel.size fun k q => (h.s2 k q).1)
end
set_option maxRecDepth 100000 in
set_option maxHeartbeats 32000000 in
theorem walks_walk (w : World) (tv : Value) (tl : List Int) (dv : Value) (dl : List Int) (mo : Int) (hm : 0 ≤ mo ∧ mo < 65536) (ht16 : H16 w tv tl) (hdb : HB w dv dl) (hn : tl.length ≤ 1048576) :
    Calls Try.prog 4 #[tv, dv, .int .u16 mo] w fun e w' => e = .returned (.bool true) ∧ Below w.heap.size w w' := by
  obtain ⟨⟨p, c0, rfl, hlc, hcm, hp0, hcell⟩, hls⟩ := ht16
  have HLS := hid (fun i => H16.at hls i)
  have HCELL := hid hcell
  have HDB := hid hdb
  have hmx : Try.prog.follows .mixedOrders = true := by kernel_rfl
  obtain ⟨pd, cd, hdv, hdl⟩ := hdb.open
  obtain ⟨n, HN⟩ : ∃ n, Hid (tl.length = n) := ⟨_, rfl⟩
  rw [HN.out] at hn hlc
  rw [HN.out]
  obtain ⟨nd, HND⟩ : ∃ nd, Hid (dl.length = nd) := ⟨_, rfl⟩
  rw [HND.out] at hdv hdl
  subst hdv
  clear hls hcell hdb
  have hsA : (((w.alloc (.cells #[.slice pd nd cd] 46)).alloc (.cells #[.int .u16 mo] 47)).alloc (.cells #[.bool false] 4)).heap.size = w.heap.size + 3 := by simp
  obtain ⟨w3, HW3⟩ : ∃ w3, Hid (((w.alloc (.cells #[.slice pd nd cd] 46)).alloc (.cells #[.int .u16 mo] 47)).alloc (.cells #[.bool false] 4) = w3) := ⟨_, rfl⟩
  have x40 : w3.heap[w.heap.size]? = some (.cells #[.slice pd nd cd] 46 (0, 0)) := by rw [← HW3.out]; exact (heap_alloc_old _ _ (by simp; omega)).trans ((heap_alloc_old _ _ (by simp)).trans (heap_alloc_new w _))
  have x50 : w3.heap[w.heap.size + 1]? = some (.cells #[.int .u16 mo] 47 (0, 0)) := by
    have := heap_alloc_new (w.alloc (.cells #[.slice pd nd cd] 46)) (.cells #[.int .u16 mo] 47)
    rw [show (w.alloc (.cells #[.slice pd nd cd] 46)).heap.size = w.heap.size + 1 by simp] at this
    rw [← HW3.out]
    exact (heap_alloc_old _ _ (by simp)).trans this
  have x60 : w3.heap[w.heap.size + 2]? = some (.cells #[.bool false] 4 (0, 0)) := by
    have := heap_alloc_new ((w.alloc (.cells #[.slice pd nd cd] 46)).alloc (.cells #[.int .u16 mo] 47)) (.cells #[.bool false] 4)
    rw [show ((w.alloc (.cells #[.slice pd nd cd] 46)).alloc (.cells #[.int .u16 mo] 47)).heap.size = w.heap.size + 2 by simp] at this
    rw [← HW3.out]
    exact this
  have B3 : Below w.heap.size w w3 := by rw [← HW3.out]; exact (((Below.refl _ _).alloc (Nat.le_refl _) _).alloc (by simp) _).alloc (by simp; omega) _
  rw [HW3.out] at hsA
  have C1 := hid (Ds.cnew_ok w3 0 (by decide))
  have HX3 := hid (And.intro x40 (And.intro x50 x60))
  have HB3 := hid B3
  have HSA := hid hsA
  clear x40 x50 x60 B3 hsA
  refine (callsIn_wide (n := 3)).1 ?_
  refine callsIn_of_wp_marks Try.func4 rfl trivial (wpIn_wide.2 ?_) rfl
  simp only [Try.ntmps4, List.size_toArray, List.length_cons, List.length_nil, Nat.reduceAdd, Nat.reduceSub, Array.replicate_succ, Array.replicate_zero, List.push_toArray, List.append_toArray, List.nil_append, List.cons_append]
  go_wp2_with fail
  rw [HW3.out]
  refine C1.out.mono ?_
  rintro e w4 ⟨c, rfl, hk4, hb4⟩
  have K4 := hid hk4
  have HB4 := hid hb4
  clear hk4 hb4 C1
  have C2 := hid (rnew_ok (w4.alloc (.cells #[ptr c] 23)) 0 (by decide))
  go_wp2_with fail
  refine C2.out.mono ?_
  rintro e w5 ⟨rfl, hr5, hb5⟩
  have hsW : (w4.alloc (.cells #[ptr c] 23)).heap.size = w4.heap.size + 1 := by simp
  rw [hsW] at hr5 hb5 ⊢
  have h34 := HB4.out.size
  rw [HSA.out] at h34
  have hb45 : Below w4.heap.size w4 w5 := ((Below.refl _ _).alloc (Nat.le_refl _) _).trans (hb5.mono (Nat.le_succ _))
  have hb35 : Below w3.heap.size w3 w5 := HB4.out.trans (hb45.mono HB4.out.size)
  have I5 : Hid (L1 w w.heap.size w4.heap.size (.slice pd nd cd) mo c (w4.heap.size + 1) 0 [] [] (fun k => w3.heap.size ≤ k ∧ k < w4.heap.size) (.slice none 0 0) w5) := hid (by
    obtain ⟨x4, x5, x6⟩ := HX3.out
    refine ⟨K4.out.below hb45, hr5, by simp, List.Pairwise.nil, fun p hp => (by cases hp), rfl, ⟨(hb35.block _ (Array.getElem?_eq_some_iff.1 x4).1).trans x4, (hb35.block _ (Array.getElem?_eq_some_iff.1 x5).1).trans x5, (hb35.block _ (Array.getElem?_eq_some_iff.1 x6).1).trans x6, (hb5.block _ (by omega)).trans (heap_alloc_new w4 _)⟩, ?_, ?_, HB3.out.trans (hb35.mono HB3.out.size)⟩
    · rintro k ⟨q1, q2⟩
      rw [HSA.out] at q1
      refine ⟨by omega, fun q => ?_, fun q => ?_⟩
      · unfold bxD at q; omega
      · rcases q with z | z
        · omega
        · cases z
    · rintro k (z | z)
      · exact ⟨by omega, fun q => by unfold bxD at q; omega⟩
      · cases z)
  obtain ⟨b7, HB7⟩ : ∃ b7, Hid (w4.heap.size = b7) := ⟨_, rfl⟩
  obtain ⟨y, HY⟩ : ∃ y, Hid (w4.heap.size + 1 = y) := ⟨_, rfl⟩
  obtain ⟨S0, HS0⟩ : ∃ S0, Hid ((fun k => w3.heap.size ≤ k ∧ k < w4.heap.size) = S0) := ⟨_, rfl⟩
  have HB7L : Hid (w.heap.size ≤ b7) := hid (by rw [← HB7.out]; omega)
  rw [HY.out, HS0.out, HB7.out] at I5
  rw [HY.out, HB7.out]
  have x75 : w5.cell? ⟨b7, 0, none⟩ = some (ptr c) := by rw [cell_of_row _ _ _ _ _ _ I5.out.bx.x7]; rfl
  have CA := hid (Ds.awake_any w5)
  clear hr5 hb5 hb45 hb35 hsW h34 K4 HB4 HX3 HB3 HSA C2 HW3 HY HS0 HB7
  go_wp2_with fail
  refine CA.out.mono ?_
  rintro e w6 ⟨rfl, hb6⟩
  have I6 := hid (I5.out.below3 hb6)
  clear hb6 CA x75 I5
  go_wp2_with fail
  go_loopw [40] (fun v40 wr => ∃ (i : Nat) (A : List (Rw Ds.Pr)) (l : List Tr) (S : Nat → Prop) (v : Value), v40 = .int .i64 (i : Int) ∧ i ≤ n ∧ Hid (L1 w w.heap.size b7 (.slice pd nd cd) mo c y i A l S v wr)) (fun v40 _ => n - (intOf v40).toNat)
  case atStart => exact ⟨0, [], [], S0, _, rfl, Nat.zero_le _, I6⟩
  case round =>
    clear I6
    obtain ⟨i, A, l, S, v, rfl, hi, HI⟩ := hrel
    by_cases hlt : i < n
    · have hlt' : (i : Int) < (n : Int) := by omega
      have hne : tl ≠ [] := fun e => by have := HN.out; rw [e] at this; simp at this; omega
      obtain ⟨b, off, rfl, hcc⟩ := HCELL.out hne
      have hc0 := hcc i (by rw [HN.out]; exact hlt)
      have hci : wr.cell? ⟨b, off + i, none⟩ = some (.int .u16 (tl.getD i 0)) := (HI.out.bel.cell (World.block_lt_of_cell? w _ hc0)).trans hc0
      obtain ⟨q1, q2⟩ := HLS.out i
      clear hcc hc0 hne
      obtain ⟨t, HT⟩ : ∃ t, Hid (tl.getD i 0 = t) := ⟨_, rfl⟩
      rw [HT.out] at hci q1 q2
      have ht : rcE 0 t = 0 := by unfold rcE tkB; rw [if_pos (by simp; omega), if_neg (by omega)]
      have HTT := hid ht
      clear ht
      have x7 : wr.drew.cell? ⟨b7, 0, none⟩ = some (ptr c) := by rw [show wr.drew.cell? ⟨b7, 0, none⟩ = wr.cell? ⟨b7, 0, none⟩ from rfl, cell_of_row _ _ _ _ _ _ HI.out.bx.x7]; rfl
      have hwi : IntKind.u32.wrap (i : Int) = (i : Int) := by rw [IntKind.wrap_u32]; omega
      have hwt : IntKind.i64.wrap t = t := by rw [IntKind.wrap_i64]; omega
      have CWD := hid (fun W => word_any W (i : Int) (by omega))
      go_wp2_with fail
      refine region_held_n (S := (fun W => W.cell? ⟨b7, 0, none⟩ = some (ptr c))) (by kernel_rfl) x7 (fun hHeld => ?_)
      have HS := hid hHeld
      clear hHeld
      change wpAnyH _ _ _ _ _ _ _ _ (World.drew _)
      refine wpAnyH_take (i := 0) (v := ?_) rfl (by kernel_rfl) (by kernel_rfl) (by kernel_rfl) (fun _ _ _ h => by cases h.1) (Or.inl ⟨by rfl, ?q0⟩) HS.out ?_
      case q0 => intro w hSw; have z0 := hSw; clear hSw; go_simp; rfl
      simp only [Act.put, List.getElem_toArray, List.getElem_cons_zero, List.getElem_cons_succ, List.setIfInBounds_toArray, List.set_cons_zero, List.set_cons_succ]
      refine wpAnyH_take (i := 1) (v := ?_) rfl (by kernel_rfl) (by kernel_rfl) (by kernel_rfl) (fun _ _ _ h => by cases h.1) (Or.inl ⟨by rfl, ?q1⟩) HS.out ?_
      case q1 => intro w hSw; have z0 := hSw; clear hSw; go_simp; rfl
      simp only [Act.put, List.getElem_toArray, List.getElem_cons_zero, List.getElem_cons_succ, List.setIfInBounds_toArray, List.set_cons_zero, List.set_cons_succ]
      refine wpAnyH_take (i := 2) (v := ?_) rfl (by kernel_rfl) (by kernel_rfl) (by kernel_rfl) (fun _ _ _ h => by cases h.1) (Or.inl ⟨by rfl, ?q2⟩) HS.out ?_
      case q2 => intro w hSw; have z0 := hSw; clear hSw; go_simp; rfl
      simp only [Act.put, List.getElem_toArray, List.getElem_cons_zero, List.getElem_cons_succ, List.setIfInBounds_toArray, List.set_cons_zero, List.set_cons_succ]
      refine wpAnyH_take (i := 3) (v := ?_) rfl (by kernel_rfl) (by kernel_rfl) (by kernel_rfl) (fun _ _ _ h => by cases h.1) (Or.inl ⟨by rfl, ?q3⟩) HS.out ?_
      case q3 => intro w hSw; have z0 := hSw; clear hSw; go_simp; rfl
      simp only [Act.put, List.getElem_toArray, List.getElem_cons_zero, List.getElem_cons_succ, List.setIfInBounds_toArray, List.set_cons_zero, List.set_cons_succ]
      refine wpAnyH_take (i := 4) (v := ?_) rfl (by kernel_rfl) (by kernel_rfl) (by kernel_rfl) (fun _ _ _ h => by cases h.1) (Or.inl ⟨by rfl, ?q4⟩) HS.out ?_
      case q4 => intro w hSw; have z0 := hSw; clear hSw; go_simp; rfl
      simp only [Act.put, List.getElem_toArray, List.getElem_cons_zero, List.getElem_cons_succ, List.setIfInBounds_toArray, List.set_cons_zero, List.set_cons_succ]
      refine wpAnyH_ready (rs := [5]) (by kernel_rfl) (by simp) ?_
      refine AllReadyH.cons rfl (fun K hK => ?_) AllReadyH.nil
      replace hK := hid hK
      go_simp
      refine (CWD.out _).mono ?_
      rintro e w3 ⟨rfl, hb3⟩
      have hbw : Below wr.heap.size wr w3 := Below.trans (b := wr.drew) (Below.drew (Below.refl _ wr)) hb3
      have I3 := hid (HI.out.below3 hbw)
      have x73 : w3.cell? ⟨b7, 0, none⟩ = some (ptr c) := by rw [cell_of_row _ _ _ _ _ _ I3.out.bx.x7]; rfl
      have CS := hid (Ds.cset_ok I3.out.ck t HTT.out (wordB (i : Int)) (by omega))
      clear HS hb3 hbw
      refine hK.out _ _ x73 (fun _ => ?_)
      clear hK K
      have HS := hid x73
      refine wpAnyH_ready (rs := [6]) (by kernel_rfl) (by simp) ?_
      refine AllReadyH.cons rfl (fun K hK => ?_) AllReadyH.nil
      replace hK := hid hK
      go_simp
      refine CS.out.mono ?_
      rintro e w4 ⟨rfl, bq, S4, hk4, he4, hs4⟩
      have I4 := hid (I3.out.set1 hk4 he4 hs4)
      have x74 : w4.cell? ⟨b7, 0, none⟩ = some (ptr c) := by rw [cell_of_row _ _ _ _ _ _ I4.out.bx.x7]; rfl
      clear HS hk4 he4 hs4 CS I3 x73 HI
      refine hK.out _ _ x74 (fun _ => ?_)
      clear hK K
      have HS := hid x74
      refine wpAnyH_take (i := 7) (v := ?_) rfl (by kernel_rfl) (by kernel_rfl) (by kernel_rfl) (fun _ _ _ h => by cases h.1) (Or.inl ⟨by rfl, ?q7⟩) HS.out ?_
      case q7 => intro w hSw; have z0 := hSw; clear hSw; go_simp; rfl
      simp only [Act.put, List.getElem_toArray, List.getElem_cons_zero, List.getElem_cons_succ, List.setIfInBounds_toArray, List.set_cons_zero, List.set_cons_succ]
      refine wpAnyH_take (i := 8) (v := ?_) rfl (by kernel_rfl) (by kernel_rfl) (by kernel_rfl) (fun _ _ _ h => by cases h.1) (Or.inl ⟨by rfl, ?q8⟩) HS.out ?_
      case q8 => intro w hSw; have z0 := hSw; clear hSw; go_simp; rfl
      simp only [Act.put, List.getElem_toArray, List.getElem_cons_zero, List.getElem_cons_succ, List.setIfInBounds_toArray, List.set_cons_zero, List.set_cons_succ]
      refine wpAnyH_take (i := 9) (v := ?_) rfl (by kernel_rfl) (by kernel_rfl) (by kernel_rfl) (fun _ _ _ h => by cases h.1) (Or.inl ⟨by rfl, ?q9⟩) HS.out ?_
      case q9 => intro w hSw; have z0 := hSw; clear hSw; go_simp; rfl
      simp only [Act.put, List.getElem_toArray, List.getElem_cons_zero, List.getElem_cons_succ, List.setIfInBounds_toArray, List.set_cons_zero, List.set_cons_succ]
      refine wpAnyH_take (i := 10) (v := ?_) rfl (by kernel_rfl) (by kernel_rfl) (by kernel_rfl) (fun _ _ _ h => by cases h.1) (Or.inl ⟨by rfl, ?q10⟩) HS.out ?_
      case q10 => intro w hSw; have z0 := hSw; clear hSw; go_simp; rfl
      simp only [Act.put, List.getElem_toArray, List.getElem_cons_zero, List.getElem_cons_succ, List.setIfInBounds_toArray, List.set_cons_zero, List.set_cons_succ]
      refine wpAnyH_take (i := 11) (v := ?_) rfl (by kernel_rfl) (by kernel_rfl) (by kernel_rfl) (fun _ _ _ h => by cases h.1) (Or.inl ⟨by rfl, ?q11⟩) HS.out ?_
      case q11 => intro w hSw; have z0 := hSw; clear hSw; go_simp; rfl
      simp only [Act.put, List.getElem_toArray, List.getElem_cons_zero, List.getElem_cons_succ, List.setIfInBounds_toArray, List.set_cons_zero, List.set_cons_succ]
      refine wpAnyH_done (by kernel_rfl) ⟨rfl, ?_⟩ _
      have CR := hid (rset_ok I4.out.rc t (i : Int) HTT.out (by omega) (by rw [I4.out.len]; omega))
      clear HS x74
      go_wp2_with fail
      refine CR.out.mono ?_
      rintro e w5 ⟨rfl, v', hr5, he5, hv5⟩
      have I5 := hid (I4.out.set2 (by omega) hr5 he5 hv5)
      clear hr5 he5 hv5 CR I4
      go_wp2_with fail
      exact ⟨⟨i + 1, _, _, S4, v', by go_num, by omega, I5⟩, by simp [intOf]; omega⟩
    · have hin : i = n := by omega
      have hge : ¬ (i : Int) < (n : Int) := by omega
      have CRA := hid (rall_ok HI.out.rc HI.out.inc (by rw [HI.out.len]; omega))
      have HIN := hid hin
      go_wp2_with fail
      refine CRA.out.mono ?_
      rintro e w7 ⟨vo, rfl, R, hown, hpm, hpw, hb7⟩
      have I7 := hid (HI.out.below3 hb7)
      obtain ⟨pv, cv, rfl⟩ := own3_slc hown
      have HOW := hid hown
      have HPM := hid hpm
      have HPW := hid hpw
      have HSL := hid HI.out.ck.lt
      have HLW := hid HI.out.bel.size
      obtain ⟨lo, HLO⟩ : ∃ lo, Hid (wr.heap.size = lo) := ⟨_, rfl⟩
      rw [HLO.out] at HOW HSL HLW
      have hRn : R.length = n := by rw [hpm.length_eq, HI.out.len]; exact hin
      have HRN := hid hRn
      rw [HRN.out]
      clear hown hpm hpw hb7 hRn HI CRA HLO hin hge
      have I8 := hid (I7.out.below3 ((Below.refl _ _).alloc (Nat.le_refl _) (.cells #[.slice pv n cv] 38)))
      have x78 : (w7.alloc (.cells #[.slice pv n cv] 38)).cell? ⟨b7, 0, none⟩ = some (ptr c) := by rw [cell_of_row _ _ _ _ _ _ I8.out.bx.x7]; rfl
      have CC := hid (Ds.call_ok I8.out.ck (by have := I8.out.ck.len; omega))
      go_wp2_with fail
      refine CC.out.mono ?_
      rintro e w9 ⟨ab, rfl, rb, vr, R', hcb, hlo, hpw', hpm', hb9⟩
      have hs8 : (w7.alloc (.cells #[.slice pv n cv] 38)).heap.size = w7.heap.size + 1 := by simp
      rw [hs8] at hlo hb9
      have HST : Hid (Dep w (Co w ⟨w.heap.size, b7, w7.heap.size, w9.heap.size, c, .slice pd nd cd, .slice pv n cv, mo, R⟩ i) 0 (Ds.caD ab rb vr R') (w9.alloc (.cells #[.int .i64 0] 3))) := hid (dep_start I7.out HB7L.out HLW.out HSL.out (by have := HOW.out; rwa [HRN.out] at this ⊢) hb9 (fun k hk => ⟨hlo k hk, hcb.lt k hk⟩))
      have HEQ : Hid (R'.map (·.x) = R.map up) := hid (both_lists I7.out.ck.num I7.out.rel hpm' hpw' HPM.out HPW.out)
      have HNUM : Hid (∀ p ∈ R, 0 ≤ p.2.2 ∧ p.2.2 < 4294967296) := hid fun p hp => (I7.out.num p (HPM.out.subset hp)).2
      have HCB : Hid (Ds.CaB (w9.alloc (.cells #[.int .i64 0] 3)) ab rb vr R') := hid (hcb.kept fun k hk => heap_alloc_old w9 _ (hcb.lt k hk))
      obtain ⟨b15, HB15⟩ : ∃ b15, Hid (w7.heap.size = b15) := ⟨_, rfl⟩
      have hRl : R'.length = n := by have := congrArg List.length HEQ.out; rw [List.length_map, List.length_map, HRN.out] at this; exact this
      rw [HB15.out] at HST
      rw [HB15.out]
      have HRL := hid hRl
      clear hRl hcb hlo hpw' hpm' hb9 hs8 CC x78 I8 I7 HOW HPM HPW HSL HLW HB15
      have hef := eql_func_nil w9 (.func 56) #[] #[ptr ab]
      go_wp2_with fail
      clear hef
      obtain ⟨w10, HW10⟩ : ∃ w10, Hid (w9.alloc (.cells #[.int .i64 0] 3) = w10) := ⟨_, rfl⟩
      rw [HW10.out] at HST HCB
      rw [HW10.out]
      obtain ⟨b17, HB17⟩ : ∃ b17, Hid (w9.heap.size = b17) := ⟨_, rfl⟩
      rw [HB17.out] at HST
      rw [HB17.out]
      clear HW10 HB17
      refine (wpIn_wide (n := 3)).1 ?_
      refine range_fitD rfl (by decide) (gf := 56) (lb := #[ptr ab]) rfl trivial Ds.enters2 (Ds.all2_iter (3 - 1) (by decide) w10 ab rb vr R' HCB.out (by rw [HRL.out]; omega)) ⟨Nat.le_refl _, fun _ _ => rfl⟩ (fun i hi => HCB.out.lt i hi) (fun _ _ => rfl)
        (Dep w (Co w ⟨w.heap.size, b7, b15, b17, c, .slice pd nd cd, .slice pv n cv, mo, R⟩ i)) (fun _ _ _ => False) (co_jn _ _ _) ⟨fun _ _ _ _ h _ => h, fun _ _ _ _ _ h _ _ _ => h, fun _ _ _ _ h _ => h⟩ HST.out 18 (fun k _ => .cells #[.int .i64 (rat R' k).x.1, .int .i64 (rat R' k).x.2.1, .string (rat R' k).x.2.2] 56) ?assign ?body ?done ?stop
      case stop => exact fun d e W _ h _ _ => h.elim
      case assign =>
        rintro lp k v W rfl hk
        gi_wp2
        refine ⟨?_, trivial⟩
        rw [dAct_one]
        simp only [List.setIfInBounds_toArray, List.set_cons_succ, List.set_cons_zero]
      case body =>
        rintro lp k v db E W hlp hEl hrec hI hndb hdb hDE hEs rfl hk
        obtain ⟨now, M, nx, SS, hnx, hq⟩ := co_in hI (fun i hi => hi.elim (hEs i) (fun z => by rw [z]; exact (Array.getElem?_eq_some_iff.1 hdb).1))
        have hx := rx_up HEQ.out hk
        have hkn : k < n := by rw [HRL.out] at hk; exact hk
        have hkR : k < R.length := by rw [HRN.out]; exact hkn
        have hzn := HNUM.out _ (List.mem_of_getElem? (tA_some hkR))
        have hown := hq.wx.own
        obtain ⟨bR, cR, hv, -, r0, r1, r2⟩ := own3_item hown hkR
        rw [hx] at hdb
        rw [hx]
        rcases hz : tA R k with ⟨z1, z2, z3⟩
        rw [hz] at hdb hzn r0 r1 r2
        have hpv : pv = some ⟨bR, 0, none⟩ := by simpa using congrArg (fun v => match v with | .slice p _ _ => p | _ => none) hv
        subst hpv
        clear hv
        dsimp only [up] at hdb ⊢
        have HQ := hid hq
        have X20 : Hid (S20 b17 b15 db (.slice (some ⟨bR, 0, none⟩) n cv) bR k (z1, z2, z3) W.drew) := hid ⟨(cell_of_row _ _ _ _ _ _ hq.wx.x17).trans rfl, (cell_of_row _ _ _ _ _ _ hq.wx.x15).trans rfl, (cell_of_row _ _ _ _ _ _ hdb).trans rfl, (cell_of_row _ _ _ _ _ _ hdb).trans rfl, (cell_of_row _ _ _ _ _ _ hdb).trans rfl, r0, r1, r2⟩
        have CAL := hid (alike_same W.drew z1 z2 z3 (wordB z3) (fun W => word_any W z3 hzn))
        have hkn' : ¬ (n : Int) ≤ (k : Int) := by omega
        have hkn2 : (k : Int) < (n : Int) := by omega
        have hk0 : (0 : Int) ≤ (k : Int) := by omega
        have HNX := hid hnx
        have HEE := hid (And.intro hndb hEs)
        clear hI hq hdb hzn r0 r1 r2 hown hlp hEl hrec hndb hDE hEs hx hz hnx
        rw [dAct_one]
        simp only [List.setIfInBounds_toArray, List.set_cons_succ, List.set_cons_zero]
        gi_wp2
        refine in_region_held (S := (S20 b17 b15 db (.slice (some ⟨bR, 0, none⟩) n cv) bR k (z1, z2, z3))) (by kernel_rfl) (by kernel_rfl) X20.out (fun hHeld => ?_)
        have HS := hid hHeld
        clear hHeld
        change wpAnyH _ _ _ _ _ _ _ _ (World.drew _)
        refine wpAnyH_take (i := 0) (v := ?_) rfl (by kernel_rfl) (by kernel_rfl) (by kernel_rfl) (fun _ _ _ h => by cases h.1) (Or.inl ⟨by rfl, ?q0⟩) HS.out ?_
        case q0 => intro w hSw; obtain ⟨y0, y1, y2, y3, y4, y5, y6, y7⟩ := hSw; go_simp; rfl
        simp only [Act.put, List.getElem_toArray, List.getElem_cons_zero, List.getElem_cons_succ, List.setIfInBounds_toArray, List.set_cons_zero, List.set_cons_succ]
        refine wpAnyH_take (i := 1) (v := ?_) rfl (by kernel_rfl) (by kernel_rfl) (by kernel_rfl) (fun _ _ _ h => by cases h.1) (Or.inl ⟨by rfl, ?q1⟩) HS.out ?_
        case q1 => intro w hSw; obtain ⟨y0, y1, y2, y3, y4, y5, y6, y7⟩ := hSw; go_simp; rfl
        simp only [Act.put, List.getElem_toArray, List.getElem_cons_zero, List.getElem_cons_succ, List.setIfInBounds_toArray, List.set_cons_zero, List.set_cons_succ]
        refine wpAnyH_take (i := 2) (v := ?_) rfl (by kernel_rfl) (by kernel_rfl) (by kernel_rfl) (fun _ _ _ h => by cases h.1) (Or.inl ⟨by rfl, ?q2⟩) HS.out ?_
        case q2 => intro w hSw; obtain ⟨y0, y1, y2, y3, y4, y5, y6, y7⟩ := hSw; go_simp; rfl
        simp only [Act.put, List.getElem_toArray, List.getElem_cons_zero, List.getElem_cons_succ, List.setIfInBounds_toArray, List.set_cons_zero, List.set_cons_succ]
        refine wpAnyH_take (i := 3) (v := Value.bool false) rfl (by kernel_rfl) (by kernel_rfl) (by kernel_rfl) (fun _ _ _ h => by cases h.1) (Or.inl ⟨by rfl, ?q3⟩) HS.out ?_
        case q3 => intro w hSw; obtain ⟨y0, y1, y2, y3, y4, y5, y6, y7⟩ := hSw; go_simp
        simp only [Act.put, List.getElem_toArray, List.getElem_cons_zero, List.getElem_cons_succ, List.setIfInBounds_toArray, List.set_cons_zero, List.set_cons_succ]
        refine wpAnyH_take (i := 4) (v := Value.bool false) rfl (by kernel_rfl) (by kernel_rfl) (by kernel_rfl) (fun _ _ _ h => by cases h.1) (Or.inl ⟨by rfl, ?q4⟩) HS.out ?_
        case q4 => intro w hSw; obtain ⟨y0, y1, y2, y3, y4, y5, y6, y7⟩ := hSw; go_simp
        simp only [Act.put, List.getElem_toArray, List.getElem_cons_zero, List.getElem_cons_succ, List.setIfInBounds_toArray, List.set_cons_zero, List.set_cons_succ]
        refine wpAnyH_take (i := 5) (v := ?_) rfl (by kernel_rfl) (by kernel_rfl) (by kernel_rfl) (fun _ _ _ h => by cases h.1) (Or.inl ⟨by rfl, ?q5⟩) HS.out ?_
        case q5 => intro w hSw; obtain ⟨y0, y1, y2, y3, y4, y5, y6, y7⟩ := hSw; go_simp; rfl
        simp only [Act.put, List.getElem_toArray, List.getElem_cons_zero, List.getElem_cons_succ, List.setIfInBounds_toArray, List.set_cons_zero, List.set_cons_succ]
        refine wpAnyH_take (i := 6) (v := ?_) rfl (by kernel_rfl) (by kernel_rfl) (by kernel_rfl) (fun _ _ _ h => by cases h.1) (Or.inl ⟨by rfl, ?q6⟩) HS.out ?_
        case q6 => intro w hSw; obtain ⟨y0, y1, y2, y3, y4, y5, y6, y7⟩ := hSw; go_simp; rfl
        simp only [Act.put, List.getElem_toArray, List.getElem_cons_zero, List.getElem_cons_succ, List.setIfInBounds_toArray, List.set_cons_zero, List.set_cons_succ]
        refine wpAnyH_take (i := 7) (v := ?_) rfl (by kernel_rfl) (by kernel_rfl) (by kernel_rfl) (fun _ _ _ h => by cases h.1) (Or.inl ⟨by rfl, ?q7⟩) HS.out ?_
        case q7 => intro w hSw; obtain ⟨y0, y1, y2, y3, y4, y5, y6, y7⟩ := hSw; go_simp; rfl
        simp only [Act.put, List.getElem_toArray, List.getElem_cons_zero, List.getElem_cons_succ, List.setIfInBounds_toArray, List.set_cons_zero, List.set_cons_succ]
        refine wpAnyH_take (i := 8) (v := ?_) rfl (by kernel_rfl) (by kernel_rfl) (by kernel_rfl) (fun _ _ _ h => by cases h.1) (Or.inl ⟨by rfl, ?q8⟩) HS.out ?_
        case q8 => intro w hSw; obtain ⟨y0, y1, y2, y3, y4, y5, y6, y7⟩ := hSw; go_simp; rfl
        simp only [Act.put, List.getElem_toArray, List.getElem_cons_zero, List.getElem_cons_succ, List.setIfInBounds_toArray, List.set_cons_zero, List.set_cons_succ]
        refine wpAnyH_take (i := 9) (v := ?_) rfl (by kernel_rfl) (by kernel_rfl) (by kernel_rfl) (fun _ _ _ h => by cases h.1) (Or.inl ⟨by rfl, ?q9⟩) HS.out ?_
        case q9 => intro w hSw; obtain ⟨y0, y1, y2, y3, y4, y5, y6, y7⟩ := hSw; go_simp; rfl
        simp only [Act.put, List.getElem_toArray, List.getElem_cons_zero, List.getElem_cons_succ, List.setIfInBounds_toArray, List.set_cons_zero, List.set_cons_succ]
        refine wpAnyH_ready (rs := [10]) (by kernel_rfl) (by simp) ?_
        refine AllReadyH.cons rfl (fun K hK => ?_) AllReadyH.nil
        replace hK := hid hK
        go_simp
        refine CAL.out.mono ?_
        rintro e w3 ⟨rfl, hb3⟩
        have X3 := hid (HS.out.below hb3)
        have hbw : Below W.heap.size W w3 := Below.trans (b := W.drew) (Below.drew (Below.refl _ W)) hb3
        have Q3 := hid (HQ.out.below hbw)
        clear HS hb3 hbw
        refine hK.out _ _ X3.out (fun _ => ?_)
        clear hK K
        have HS := X3
        refine wpAnyH_take (i := 11) (v := ?_) rfl (by kernel_rfl) (by kernel_rfl) (by kernel_rfl) (fun _ _ _ h => by cases h.1) (Or.inl ⟨by rfl, ?q11⟩) HS.out ?_
        case q11 => intro w hSw; obtain ⟨y0, y1, y2, y3, y4, y5, y6, y7⟩ := hSw; go_simp; rfl
        simp only [Act.put, List.getElem_toArray, List.getElem_cons_zero, List.getElem_cons_succ, List.setIfInBounds_toArray, List.set_cons_zero, List.set_cons_succ]
        refine wpAnyH_take (i := 12) (v := ?_) rfl (by kernel_rfl) (by kernel_rfl) (by kernel_rfl) (fun _ _ _ h => by cases h.1) (Or.inl ⟨by rfl, ?q12⟩) HS.out ?_
        case q12 => intro w hSw; obtain ⟨y0, y1, y2, y3, y4, y5, y6, y7⟩ := hSw; go_simp; rfl
        simp only [Act.put, List.getElem_toArray, List.getElem_cons_zero, List.getElem_cons_succ, List.setIfInBounds_toArray, List.set_cons_zero, List.set_cons_succ]
        refine wpAnyH_done (by kernel_rfl) ⟨rfl, ?_⟩ _
        have c17 : w3.cell? ⟨b17, 0, none⟩ = some (.int .i64 (k : Int)) := X3.out.1
        have c4 : w3.cell? ⟨w.heap.size, 0, none⟩ = some (.slice pd nd cd) := (cell_of_row _ _ _ _ _ _ Q3.out.wx.bx.x4).trans rfl
        clear HS X3 X20 CAL HQ
        by_cases hkd : k < nd
        · have hkd' : (k : Int) < (nd : Int) := by omega
          gi_wp2
          obtain ⟨bd, od, cdd, hpd, -, -, hcd⟩ := HDB.out.ne (by rw [HND.out]; omega)
          have hpd' : pd = some ⟨bd, od, none⟩ := by simpa using congrArg (fun v => match v with | .slice p _ _ => p | _ => none) hpd
          subst hpd'
          clear hpd c4
          obtain ⟨av, HAVE⟩ : ∃ av, Hid (dl.getD k 0 = av) := ⟨_, rfl⟩
          have hav := hcd k (by rw [HND.out]; exact hkd)
          rw [HAVE.out] at hav
          have hab : 0 ≤ av ∧ av < 256 := by rw [← HAVE.out]; exact byte_at HDB.out k
          have HAV := hid hav
          have hwa : IntKind.i64.wrap av = av := by rw [IntKind.wrap_i64]; omega
          have hwm : IntKind.i64.wrap mo = mo := by rw [IntKind.wrap_i64]; omega
          have Q3D := hid Q3.out.drew
          have X23 := hid (s23_of Q3D.out HAV.out)
          have CDR := hid (drop_an Q3D.out.ck av)
          clear hav hcd Q3 c17
          refine in_region_held (S := (S23 w.heap.size b7 b17 c (.slice (some ⟨bd, od, none⟩) nd cd) mo k ⟨bd, od + k, none⟩ av)) (by kernel_rfl) (by kernel_rfl) X23.out (fun hHeld => ?_)
          have HS := hid hHeld
          clear hHeld
          change wpAnyH _ _ _ _ _ _ _ _ (World.drew _)
          refine wpAnyH_take (i := 0) (v := ?_) rfl (by kernel_rfl) (by kernel_rfl) (by kernel_rfl) (fun _ _ _ h => by cases h.1) (Or.inl ⟨by rfl, ?q0⟩) HS.out ?_
          case q0 => intro w hSw; obtain ⟨y0, y1, y2, y3, y4⟩ := hSw; go_simp; rfl
          simp only [Act.put, List.getElem_toArray, List.getElem_cons_zero, List.getElem_cons_succ, List.setIfInBounds_toArray, List.set_cons_zero, List.set_cons_succ]
          refine wpAnyH_take (i := 1) (v := ?_) rfl (by kernel_rfl) (by kernel_rfl) (by kernel_rfl) (fun _ _ _ h => by cases h.1) (Or.inl ⟨by rfl, ?q1⟩) HS.out ?_
          case q1 => intro w hSw; obtain ⟨y0, y1, y2, y3, y4⟩ := hSw; go_simp; rfl
          simp only [Act.put, List.getElem_toArray, List.getElem_cons_zero, List.getElem_cons_succ, List.setIfInBounds_toArray, List.set_cons_zero, List.set_cons_succ]
          refine wpAnyH_take (i := 2) (v := ?_) rfl (by kernel_rfl) (by kernel_rfl) (by kernel_rfl) (fun _ _ _ h => by cases h.1) (Or.inl ⟨by rfl, ?q2⟩) HS.out ?_
          case q2 => intro w hSw; obtain ⟨y0, y1, y2, y3, y4⟩ := hSw; go_simp; rfl
          simp only [Act.put, List.getElem_toArray, List.getElem_cons_zero, List.getElem_cons_succ, List.setIfInBounds_toArray, List.set_cons_zero, List.set_cons_succ]
          refine wpAnyH_take (i := 3) (v := ?_) rfl (by kernel_rfl) (by kernel_rfl) (by kernel_rfl) (fun _ _ _ h => by cases h.1) (Or.inl ⟨by rfl, ?q3⟩) HS.out ?_
          case q3 => intro w hSw; obtain ⟨y0, y1, y2, y3, y4⟩ := hSw; go_simp; rfl
          simp only [Act.put, List.getElem_toArray, List.getElem_cons_zero, List.getElem_cons_succ, List.setIfInBounds_toArray, List.set_cons_zero, List.set_cons_succ]
          refine wpAnyH_take (i := 4) (v := ?_) rfl (by kernel_rfl) (by kernel_rfl) (by kernel_rfl) (fun _ _ _ h => by cases h.1) (Or.inl ⟨by rfl, ?q4⟩) HS.out ?_
          case q4 => intro w hSw; obtain ⟨y0, y1, y2, y3, y4⟩ := hSw; go_simp; rfl
          simp only [Act.put, List.getElem_toArray, List.getElem_cons_zero, List.getElem_cons_succ, List.setIfInBounds_toArray, List.set_cons_zero, List.set_cons_succ]
          refine wpAnyH_take (i := 5) (v := ?_) rfl (by kernel_rfl) (by kernel_rfl) (by kernel_rfl) (fun _ _ _ h => by cases h.1) (Or.inl ⟨by rfl, ?q5⟩) HS.out ?_
          case q5 => intro w hSw; obtain ⟨y0, y1, y2, y3, y4⟩ := hSw; go_simp; rfl
          simp only [Act.put, List.getElem_toArray, List.getElem_cons_zero, List.getElem_cons_succ, List.setIfInBounds_toArray, List.set_cons_zero, List.set_cons_succ]
          refine wpAnyH_ready (rs := [6]) (by kernel_rfl) (by simp) ?_
          refine AllReadyH.cons rfl (fun K hK => ?_) AllReadyH.nil
          replace hK := hid hK
          go_simp
          refine CDR.out.mono ?_
          rintro e w4 ⟨⟨rv, rfl⟩, now4, M4, nx4, S4, hk4, hn4, he4, hs4⟩
          have Q4 := hid (Q3D.out.ex hk4 he4 hs4)
          have X4 := hid (s23_of Q4.out HAV.out)
          clear HS hk4 he4 hs4 CDR Q3D X23
          refine hK.out _ _ X4.out (fun _ => ?_)
          clear hK K
          have HS := X4
          refine wpAnyH_done (by kernel_rfl) ⟨rfl, ?_⟩ _
          gi_wp2
          have Q4D := hid Q4.out.drew
          have X24 := hid (s23_of Q4D.out HAV.out)
          have htk := Q4D.out.ck.tick
          have hwn : IntKind.i64.wrap (now4 + mo) = now4 + mo := by rw [IntKind.wrap_i64]; omega
          have CNW := hid (Ds.cnow_ok Q4D.out.ck)
          have CST := hid (set_an Q4D.out.ck (by have := HNX.out; omega) (now4 + mo) ⟨#[109, 111, 114, 101]⟩)
          clear Q4 X4 HS
          refine in_region_held (S := (S23 w.heap.size b7 b17 c (.slice (some ⟨bd, od, none⟩) nd cd) mo k ⟨bd, od + k, none⟩ av)) (by kernel_rfl) (by kernel_rfl) X24.out (fun hHeld => ?_)
          have HS := hid hHeld
          clear hHeld
          change wpAnyH _ _ _ _ _ _ _ _ (World.drew _)
          refine wpAnyH_take (i := 0) (v := ?_) rfl (by kernel_rfl) (by kernel_rfl) (by kernel_rfl) (fun _ _ _ h => by cases h.1) (Or.inl ⟨by rfl, ?q0⟩) HS.out ?_
          case q0 => intro w hSw; obtain ⟨y0, y1, y2, y3, y4⟩ := hSw; go_simp; rfl
          simp only [Act.put, List.getElem_toArray, List.getElem_cons_zero, List.getElem_cons_succ, List.setIfInBounds_toArray, List.set_cons_zero, List.set_cons_succ]
          refine wpAnyH_take (i := 1) (v := ?_) rfl (by kernel_rfl) (by kernel_rfl) (by kernel_rfl) (fun _ _ _ h => by cases h.1) (Or.inl ⟨by rfl, ?q1⟩) HS.out ?_
          case q1 => intro w hSw; obtain ⟨y0, y1, y2, y3, y4⟩ := hSw; go_simp; rfl
          simp only [Act.put, List.getElem_toArray, List.getElem_cons_zero, List.getElem_cons_succ, List.setIfInBounds_toArray, List.set_cons_zero, List.set_cons_succ]
          refine wpAnyH_take (i := 3) (v := ?_) rfl (by kernel_rfl) (by kernel_rfl) (by kernel_rfl) (fun _ _ _ h => by cases h.1) (Or.inl ⟨by rfl, ?q3⟩) HS.out ?_
          case q3 => intro w hSw; obtain ⟨y0, y1, y2, y3, y4⟩ := hSw; go_simp; rfl
          simp only [Act.put, List.getElem_toArray, List.getElem_cons_zero, List.getElem_cons_succ, List.setIfInBounds_toArray, List.set_cons_zero, List.set_cons_succ]
          refine wpAnyH_take (i := 4) (v := ?_) rfl (by kernel_rfl) (by kernel_rfl) (by kernel_rfl) (fun _ _ _ h => by cases h.1) (Or.inl ⟨by rfl, ?q4⟩) HS.out ?_
          case q4 => intro w hSw; obtain ⟨y0, y1, y2, y3, y4⟩ := hSw; go_simp; rfl
          simp only [Act.put, List.getElem_toArray, List.getElem_cons_zero, List.getElem_cons_succ, List.setIfInBounds_toArray, List.set_cons_zero, List.set_cons_succ]
          refine wpAnyH_ready (rs := [2]) (by kernel_rfl) (by simp) ?_
          refine AllReadyH.cons rfl (fun K hK => ?_) AllReadyH.nil
          replace hK := hid hK
          go_simp
          refine CNW.out.mono ?_
          rintro e wz ⟨rfl, hw⟩
          rw [hw]
          clear hw CNW
          refine hK.out _ _ HS.out (fun _ => ?_)
          clear hK K
          refine wpAnyH_take (i := 5) (v := ?_) rfl (by kernel_rfl) (by kernel_rfl) (by kernel_rfl) (fun _ _ _ h => by cases h.1) (Or.inl ⟨by rfl, ?q5⟩) HS.out ?_
          case q5 => intro w hSw; obtain ⟨y0, y1, y2, y3, y4⟩ := hSw; go_simp; rfl
          simp only [Act.put, List.getElem_toArray, List.getElem_cons_zero, List.getElem_cons_succ, List.setIfInBounds_toArray, List.set_cons_zero, List.set_cons_succ]
          refine wpAnyH_ready (rs := [6]) (by kernel_rfl) (by simp) ?_
          refine AllReadyH.cons rfl (fun K hK => ?_) AllReadyH.nil
          replace hK := hid hK
          go_simp
          refine CST.out.mono ?_
          rintro e w5 ⟨⟨rv5, rfl⟩, now5, M5, nx5, S5, hk5, hn5, he5, hs5⟩
          have Q5 := hid (Q4D.out.ex hk5 he5 hs5)
          have X5 := hid (s23_of Q5.out HAV.out)
          clear HS hk5 he5 hs5 CST Q4D X24
          refine hK.out _ _ X5.out (fun _ => ?_)
          clear hK K
          have HS := X5
          refine wpAnyH_done (by kernel_rfl) ⟨rfl, ?_⟩ _
          have c7 : w5.cell? ⟨b7, 0, none⟩ = some (ptr c) := X5.out.1
          have CTK := hid (take_an Q5.out.ck)
          clear HS X5
          gi_wp2
          refine ⟨trivial, callR (CTK.out.mono ?_)⟩
          rintro e w6 ⟨⟨rv6, rfl⟩, now6, M6, nx6, S6, hk6, hn6, he6, hs6⟩
          have Q6 := hid (Q5.out.ex hk6 he6 hs6)
          clear hk6 he6 hs6 CTK c7 Q5
          have c17 : w6.cell? ⟨b17, 0, none⟩ = some (.int .i64 (k : Int)) := (cell_of_row _ _ _ _ _ _ Q6.out.wx.x17).trans rfl
          have f17 : w6.frozen? ⟨b17, 0, none⟩ = false := free_of Q6.out.wx.x17 0
          have hwk : IntKind.i64.wrap ((k : Int) + 1) = (k : Int) + 1 := by rw [IntKind.wrap_i64]; omega
          gi_wp2
          have Q9 := Q6.out.num (k + 1)
          rw [show ((k + 1 : Nat) : Int) = (k : Int) + 1 from by push_cast; rfl] at Q9
          exact ⟨Q9.ke.mono fun i hi => .inl hi, (co_jn _ _ _).less _ _ _ _ (co_out Q9 (by have := HNX.out; omega)) fun i hi => .inl hi⟩
        · have hkd' : ¬ (k : Int) < (nd : Int) := by omega
          clear c17
          have c17 : w3.cell? ⟨b17, 0, none⟩ = some (.int .i64 (k : Int)) := (cell_of_row _ _ _ _ _ _ Q3.out.wx.x17).trans rfl
          have f17 : w3.frozen? ⟨b17, 0, none⟩ = false := free_of Q3.out.wx.x17 0
          have hwk : IntKind.i64.wrap ((k : Int) + 1) = (k : Int) + 1 := by rw [IntKind.wrap_i64]; omega
          gi_wp2
          have Q9 := Q3.out.num (k + 1)
          rw [show ((k + 1 : Nat) : Int) = (k : Int) + 1 from by push_cast; rfl] at Q9
          exact ⟨Q9.ke.mono fun i hi => .inl hi, (co_jn _ _ _).less _ _ _ _ (co_out Q9 (by have := HNX.out; omega)) fun i hi => .inl hi⟩
      case done =>
        intro d W hd hI hm hke
        have hdW := (Array.getElem?_eq_some_iff.1 hm).1
        rw [HRL.out] at hI
        obtain ⟨now, M, nx, SS, hnx, hq⟩ := co_in hI (fun i hi => hi.elim (fun z => Nat.lt_of_lt_of_le (HCB.out.lt i z) hke.1) (fun z => by rw [z]; exact hdW))
        have c17 : W.cell? ⟨b17, 0, none⟩ = some (.int .i64 (n : Int)) := (cell_of_row _ _ _ _ _ _ hq.wx.x17).trans rfl
        have c15 : W.cell? ⟨b15, 0, none⟩ = some (.slice pv n cv) := (cell_of_row _ _ _ _ _ _ hq.wx.x15).trans rfl
        have f17 : W.frozen? ⟨b17, 0, none⟩ = false := free_of hq.wx.x17 0
        have HDN : Hid (¬ Ds.caD ab rb vr R' d) := hid fun q => by have := HCB.out.lt d q; omega
        have h17 : ¬ (Ds.caD ab rb vr R' b17 ∨ b17 = d) := (hq.d b17 (.inr (.inr (.inl rfl)))).2
        have HCB2 : Hid (Ds.CaB (W.setCell ⟨b17, 0, none⟩ (.int .i64 0)) ab rb vr R') := hid (HCB.out.kept fun i hi => (bk_other (fun e : b17 = i => h17 (.inl (by rw [e]; exact hi))) 0 _).trans (hke.2 i hi))
        have HM2 : Hid ((W.setCell ⟨b17, 0, none⟩ (.int .i64 0)).heap[d]? = some (.deferred (some []))) := hid ((heap_setCell_other _ _ _ _ (fun e => h17 (.inr e.symm))).trans hm)
        have hq2 := hq.num 0
        rw [show ((0 : Nat) : Int) = 0 from rfl] at hq2
        have HI2 : Hid (Dep w (Co w ⟨w.heap.size, b7, b15, b17, c, .slice pd nd cd, .slice pv n cv, mo, R⟩ (i + n)) 0 (Ed (Ds.caD ab rb vr R') d) (W.setCell ⟨b17, 0, none⟩ (.int .i64 0))) := hid (co_out hq2 hnx)
        clear hd hI hm hke hdW hq hq2 hnx h17 HST HCB
        go_wp2_with fail
        obtain ⟨W2, HW2⟩ : ∃ W2, Hid (W.setCell ⟨b17, 0, none⟩ (.int .i64 0) = W2) := ⟨_, rfl⟩
        rw [HW2.out] at HCB2 HM2 HI2
        rw [HW2.out]
        clear HW2 c17 c15 f17
        refine (wpIn_wide (n := 3)).1 ?_
        refine range_fitD rfl (by decide) (gf := 56) (lb := #[ptr ab]) rfl trivial Ds.enters2 ((Ds.all2_iter (3 - 1) (by decide) W2 ab rb vr R' HCB2.out (by rw [HRL.out]; omega)).one HDN.out HM2.out) ⟨Nat.le_refl _, fun _ _ => rfl⟩ (fun i hi => hi.elim (HCB2.out.lt i) (fun z => by rw [z]; exact (Array.getElem?_eq_some_iff.1 HM2.out).1)) (fun _ _ => rfl)
          (Dep w (Co w ⟨w.heap.size, b7, b15, b17, c, .slice pd nd cd, .slice pv n cv, mo, R⟩ (i + n))) (fun _ _ _ => False) (co_jn _ _ _) ⟨fun _ _ _ _ h _ => h, fun _ _ _ _ _ h _ _ _ => h, fun _ _ _ _ h _ => h⟩ HI2.out 19 (fun k _ => .cells #[.int .i64 (rat R' k).x.1, .int .i64 (rat R' k).x.2.1, .string (rat R' k).x.2.2] 56) ?assign ?body ?done ?stop
        case stop => exact fun d e W _ h _ _ => h.elim
        case assign =>
          rintro lp k v W rfl hk
          gi_wp2
          refine ⟨?_, trivial⟩
          rw [dAct_one]
          simp only [List.setIfInBounds_toArray, List.set_cons_succ, List.set_cons_zero]
        case body =>
          rintro lp k v db E W hlp hEl hrec hI hndb hdb hDE hEs rfl hk
          obtain ⟨now, M, nx, SS, hnx, hq⟩ := co_in hI (fun i hi => hi.elim (hEs i) (fun z => by rw [z]; exact (Array.getElem?_eq_some_iff.1 hdb).1))
          have hx := rx_up HEQ.out hk
          have hkn : k < n := by rw [HRL.out] at hk; exact hk
          have hkR : k < R.length := by rw [HRN.out]; exact hkn
          have hzn := HNUM.out _ (List.mem_of_getElem? (tA_some hkR))
          have hown := hq.wx.own
          obtain ⟨bR, cR, hv, -, r0, r1, r2⟩ := own3_item hown hkR
          rw [hx] at hdb
          rw [hx]
          rcases hz : tA R k with ⟨z1, z2, z3⟩
          rw [hz] at hdb hzn r0 r1 r2
          have hpv : pv = some ⟨bR, 0, none⟩ := by simpa using congrArg (fun v => match v with | .slice p _ _ => p | _ => none) hv
          subst hpv
          clear hv
          dsimp only [up] at hdb ⊢
          have HQ := hid hq
          have X20 : Hid (S20 b17 b15 db (.slice (some ⟨bR, 0, none⟩) n cv) bR k (z1, z2, z3) W.drew) := hid ⟨(cell_of_row _ _ _ _ _ _ hq.wx.x17).trans rfl, (cell_of_row _ _ _ _ _ _ hq.wx.x15).trans rfl, (cell_of_row _ _ _ _ _ _ hdb).trans rfl, (cell_of_row _ _ _ _ _ _ hdb).trans rfl, (cell_of_row _ _ _ _ _ _ hdb).trans rfl, r0, r1, r2⟩
          have CAL := hid (alike_same W.drew z1 z2 z3 (wordB z3) (fun W => word_any W z3 hzn))
          have hkn' : ¬ (n : Int) ≤ (k : Int) := by omega
          have hkn2 : (k : Int) < (n : Int) := by omega
          have hk0 : (0 : Int) ≤ (k : Int) := by omega
          have HNX := hid hnx
          have HEE := hid (And.intro hndb hEs)
          clear hI hq hdb hzn r0 r1 r2 hown hlp hEl hrec hndb hDE hEs hx hz hnx
          rw [dAct_one]
          simp only [List.setIfInBounds_toArray, List.set_cons_succ, List.set_cons_zero]
          gi_wp2
          refine in_region_held (S := (S20 b17 b15 db (.slice (some ⟨bR, 0, none⟩) n cv) bR k (z1, z2, z3))) (by kernel_rfl) (by kernel_rfl) X20.out (fun hHeld => ?_)
          have HS := hid hHeld
          clear hHeld
          change wpAnyH _ _ _ _ _ _ _ _ (World.drew _)
          refine wpAnyH_take (i := 0) (v := ?_) rfl (by kernel_rfl) (by kernel_rfl) (by kernel_rfl) (fun _ _ _ h => by cases h.1) (Or.inl ⟨by rfl, ?q0⟩) HS.out ?_
          case q0 => intro w hSw; obtain ⟨y0, y1, y2, y3, y4, y5, y6, y7⟩ := hSw; go_simp; rfl
          simp only [Act.put, List.getElem_toArray, List.getElem_cons_zero, List.getElem_cons_succ, List.setIfInBounds_toArray, List.set_cons_zero, List.set_cons_succ]
          refine wpAnyH_take (i := 1) (v := ?_) rfl (by kernel_rfl) (by kernel_rfl) (by kernel_rfl) (fun _ _ _ h => by cases h.1) (Or.inl ⟨by rfl, ?q1⟩) HS.out ?_
          case q1 => intro w hSw; obtain ⟨y0, y1, y2, y3, y4, y5, y6, y7⟩ := hSw; go_simp; rfl
          simp only [Act.put, List.getElem_toArray, List.getElem_cons_zero, List.getElem_cons_succ, List.setIfInBounds_toArray, List.set_cons_zero, List.set_cons_succ]
          refine wpAnyH_take (i := 2) (v := ?_) rfl (by kernel_rfl) (by kernel_rfl) (by kernel_rfl) (fun _ _ _ h => by cases h.1) (Or.inl ⟨by rfl, ?q2⟩) HS.out ?_
          case q2 => intro w hSw; obtain ⟨y0, y1, y2, y3, y4, y5, y6, y7⟩ := hSw; go_simp; rfl
          simp only [Act.put, List.getElem_toArray, List.getElem_cons_zero, List.getElem_cons_succ, List.setIfInBounds_toArray, List.set_cons_zero, List.set_cons_succ]
          refine wpAnyH_take (i := 3) (v := Value.bool false) rfl (by kernel_rfl) (by kernel_rfl) (by kernel_rfl) (fun _ _ _ h => by cases h.1) (Or.inl ⟨by rfl, ?q3⟩) HS.out ?_
          case q3 => intro w hSw; obtain ⟨y0, y1, y2, y3, y4, y5, y6, y7⟩ := hSw; go_simp
          simp only [Act.put, List.getElem_toArray, List.getElem_cons_zero, List.getElem_cons_succ, List.setIfInBounds_toArray, List.set_cons_zero, List.set_cons_succ]
          refine wpAnyH_take (i := 4) (v := Value.bool false) rfl (by kernel_rfl) (by kernel_rfl) (by kernel_rfl) (fun _ _ _ h => by cases h.1) (Or.inl ⟨by rfl, ?q4⟩) HS.out ?_
          case q4 => intro w hSw; obtain ⟨y0, y1, y2, y3, y4, y5, y6, y7⟩ := hSw; go_simp
          simp only [Act.put, List.getElem_toArray, List.getElem_cons_zero, List.getElem_cons_succ, List.setIfInBounds_toArray, List.set_cons_zero, List.set_cons_succ]
          refine wpAnyH_take (i := 5) (v := ?_) rfl (by kernel_rfl) (by kernel_rfl) (by kernel_rfl) (fun _ _ _ h => by cases h.1) (Or.inl ⟨by rfl, ?q5⟩) HS.out ?_
          case q5 => intro w hSw; obtain ⟨y0, y1, y2, y3, y4, y5, y6, y7⟩ := hSw; go_simp; rfl
          simp only [Act.put, List.getElem_toArray, List.getElem_cons_zero, List.getElem_cons_succ, List.setIfInBounds_toArray, List.set_cons_zero, List.set_cons_succ]
          refine wpAnyH_take (i := 6) (v := ?_) rfl (by kernel_rfl) (by kernel_rfl) (by kernel_rfl) (fun _ _ _ h => by cases h.1) (Or.inl ⟨by rfl, ?q6⟩) HS.out ?_
          case q6 => intro w hSw; obtain ⟨y0, y1, y2, y3, y4, y5, y6, y7⟩ := hSw; go_simp; rfl
          simp only [Act.put, List.getElem_toArray, List.getElem_cons_zero, List.getElem_cons_succ, List.setIfInBounds_toArray, List.set_cons_zero, List.set_cons_succ]
          refine wpAnyH_take (i := 7) (v := ?_) rfl (by kernel_rfl) (by kernel_rfl) (by kernel_rfl) (fun _ _ _ h => by cases h.1) (Or.inl ⟨by rfl, ?q7⟩) HS.out ?_
          case q7 => intro w hSw; obtain ⟨y0, y1, y2, y3, y4, y5, y6, y7⟩ := hSw; go_simp; rfl
          simp only [Act.put, List.getElem_toArray, List.getElem_cons_zero, List.getElem_cons_succ, List.setIfInBounds_toArray, List.set_cons_zero, List.set_cons_succ]
          refine wpAnyH_take (i := 8) (v := ?_) rfl (by kernel_rfl) (by kernel_rfl) (by kernel_rfl) (fun _ _ _ h => by cases h.1) (Or.inl ⟨by rfl, ?q8⟩) HS.out ?_
          case q8 => intro w hSw; obtain ⟨y0, y1, y2, y3, y4, y5, y6, y7⟩ := hSw; go_simp; rfl
          simp only [Act.put, List.getElem_toArray, List.getElem_cons_zero, List.getElem_cons_succ, List.setIfInBounds_toArray, List.set_cons_zero, List.set_cons_succ]
          refine wpAnyH_take (i := 9) (v := ?_) rfl (by kernel_rfl) (by kernel_rfl) (by kernel_rfl) (fun _ _ _ h => by cases h.1) (Or.inl ⟨by rfl, ?q9⟩) HS.out ?_
          case q9 => intro w hSw; obtain ⟨y0, y1, y2, y3, y4, y5, y6, y7⟩ := hSw; go_simp; rfl
          simp only [Act.put, List.getElem_toArray, List.getElem_cons_zero, List.getElem_cons_succ, List.setIfInBounds_toArray, List.set_cons_zero, List.set_cons_succ]
          refine wpAnyH_ready (rs := [10]) (by kernel_rfl) (by simp) ?_
          refine AllReadyH.cons rfl (fun K hK => ?_) AllReadyH.nil
          replace hK := hid hK
          go_simp
          refine CAL.out.mono ?_
          rintro e w3 ⟨rfl, hb3⟩
          have X3 := hid (HS.out.below hb3)
          have hbw : Below W.heap.size W w3 := Below.trans (b := W.drew) (Below.drew (Below.refl _ W)) hb3
          have Q3 := hid (HQ.out.below hbw)
          clear HS hb3 hbw
          refine hK.out _ _ X3.out (fun _ => ?_)
          clear hK K
          have HS := X3
          refine wpAnyH_take (i := 11) (v := ?_) rfl (by kernel_rfl) (by kernel_rfl) (by kernel_rfl) (fun _ _ _ h => by cases h.1) (Or.inl ⟨by rfl, ?q11⟩) HS.out ?_
          case q11 => intro w hSw; obtain ⟨y0, y1, y2, y3, y4, y5, y6, y7⟩ := hSw; go_simp; rfl
          simp only [Act.put, List.getElem_toArray, List.getElem_cons_zero, List.getElem_cons_succ, List.setIfInBounds_toArray, List.set_cons_zero, List.set_cons_succ]
          refine wpAnyH_take (i := 12) (v := ?_) rfl (by kernel_rfl) (by kernel_rfl) (by kernel_rfl) (fun _ _ _ h => by cases h.1) (Or.inl ⟨by rfl, ?q12⟩) HS.out ?_
          case q12 => intro w hSw; obtain ⟨y0, y1, y2, y3, y4, y5, y6, y7⟩ := hSw; go_simp; rfl
          simp only [Act.put, List.getElem_toArray, List.getElem_cons_zero, List.getElem_cons_succ, List.setIfInBounds_toArray, List.set_cons_zero, List.set_cons_succ]
          refine wpAnyH_done (by kernel_rfl) ⟨rfl, ?_⟩ _
          clear HS X3 X20 CAL HQ
          have c17 : w3.cell? ⟨b17, 0, none⟩ = some (.int .i64 (k : Int)) := (cell_of_row _ _ _ _ _ _ Q3.out.wx.x17).trans rfl
          have f17 : w3.frozen? ⟨b17, 0, none⟩ = false := free_of Q3.out.wx.x17 0
          have hwk : IntKind.i64.wrap ((k : Int) + 1) = (k : Int) + 1 := by rw [IntKind.wrap_i64]; omega
          gi_wp2
          have Q9 := Q3.out.num (k + 1)
          rw [show ((k + 1 : Nat) : Int) = (k : Int) + 1 from by push_cast; rfl] at Q9
          exact ⟨Q9.ke.mono fun i hi => .inl hi, (co_jn _ _ _).less _ _ _ _ (co_out Q9 (by have := HNX.out; omega)) fun i hi => .inl hi⟩
        case done =>
          intro d2 W3 hd2 hI3 hm3 hke3
          have hm0 : W3.heap[d]? = some (.deferred (some [])) := (hke3.2 d (.inr rfl)).trans HM2.out
          have hdW := (Array.getElem?_eq_some_iff.1 hm3).1
          have hdd : d ≠ d2 := fun e => by have := (Array.getElem?_eq_some_iff.1 HM2.out).1; omega
          rw [HRL.out] at hI3
          obtain ⟨now, M, nx, SS, hnx, hq⟩ := co_in hI3 (fun i hi => hi.elim (fun z => z.elim (fun z => Nat.lt_of_lt_of_le (HCB2.out.lt i z) hke3.1) (fun z => by rw [z]; exact (Array.getElem?_eq_some_iff.1 hm0).1)) (fun z => by rw [z]; exact hdW))
          have c17 : W3.cell? ⟨b17, 0, none⟩ = some (.int .i64 (n : Int)) := (cell_of_row _ _ _ _ _ _ hq.wx.x17).trans rfl
          have c15 : W3.cell? ⟨b15, 0, none⟩ = some (.slice pv n cv) := (cell_of_row _ _ _ _ _ _ hq.wx.x15).trans rfl
          have x6 : W3.heap[w.heap.size + 1 + 1]? = some (.cells #[.bool false] 4 (0, 0)) := hq.wx.bx.x6
          have c6 : W3.cell? ⟨w.heap.size + 1 + 1, 0, none⟩ = some (.bool false) := (cell_of_row _ _ _ _ _ _ x6).trans rfl
          have f6 : W3.frozen? ⟨w.heap.size + 1 + 1, 0, none⟩ = false := free_of x6 0
          have h6 := hq.d (w.heap.size + 1 + 1) (.inl (.inr (.inr (.inl rfl))))
          have hn6 : w.heap.size + 1 + 1 ≠ d ∧ w.heap.size + 1 + 1 ≠ d2 := ⟨fun e => h6.2 (.inl (.inr e)), fun e => h6.2 (.inr e)⟩
          have HM4 : Hid ((W3.setCell ⟨w.heap.size + 1 + 1, 0, none⟩ (.bool true)).heap[d2]? = some (.deferred (some []))) := hid ((heap_setCell_other _ _ _ _ (fun e => hn6.2 e.symm)).trans hm3)
          have HM5 : Hid ((W3.setCell ⟨w.heap.size + 1 + 1, 0, none⟩ (.bool true)).heap[d]? = some (.deferred (some []))) := hid ((heap_setCell_other _ _ _ _ (fun e => hn6.1 e.symm)).trans hm0)
          have CX : Hid ((W3.setCell ⟨w.heap.size + 1 + 1, 0, none⟩ (.bool true)).cell? ⟨w.heap.size + 1 + 1, 0, none⟩ = some (.bool true)) := hid (World.cell?_setCell_same _ _ _ c6)
          have B4 : Hid (Below w.heap.size w (W3.setCell ⟨w.heap.size + 1 + 1, 0, none⟩ (.bool true))) := hid (hq.bel.setCell (p := ⟨w.heap.size + 1 + 1, 0, none⟩) (by show w.heap.size ≤ w.heap.size + 1 + 1; omega) _)
          have HDD := hid (And.intro hdd (And.intro hn6 (And.intro (hq.el d (.inl (.inr rfl))).2 (hq.el d2 (.inr rfl)).2)))
          clear hI3 hm3 hke3 hm0 hdW hdd hnx hq x6 h6 hn6 hd2 HI2 HM2 HCB2
          go_wp2
          obtain ⟨e0, ⟨e1, e2⟩, e3, e4⟩ := HDD.out
          refine ⟨by simp, .inl ⟨_, _, rfl, run_takeDeferred HM4.out, ?_⟩⟩
          refine ⟨by simp, .inl ⟨_, _, rfl, run_takeDeferred ((World.putObj_heap_other e0).trans HM5.out), ?_⟩⟩
          exact ⟨_, results_bool rfl _ _ (w.heap.size + 1 + 1) true rfl ((cell_put e1 _).trans ((cell_put e2 _).trans CX.out)), rfl, below_put (below_put B4.out e4 _) e3 _⟩
end Go.Proofs.Ytajdopmhdagehaa.Rc
