/- Set, Next, Take, Drop of a clock. -/
import Derived.Test.YtajdopmhdagehaaCksA
import Derived.Deep.RegionHeld
import Derived.BigRegion
set_option linter.unusedVariables false
set_option linter.unusedSimpArgs false
namespace Go.Proofs.Ytajdopmhdagehaa.Ds
open Go.Proofs.Ytajdopmhdagehaa
open Go Go.RowKit
section
variable {w w' : World} {c : Nat} {now : Int} {M : List (Rw Pr)} {nx : Nat} {S : Nat → Prop} {g m : Nat} {L : List (Rw Pr)} {v : Value} {S0 : Nat → Prop}
theorem CkI.nc (h : CkI w c now M nx S g m L v S0) : ¬ SU S0 (fun _ => False) c := fun q => by
  rcases q with q | q
  · exact (h.s0 c q).2 rfl
  · exact q
theorem CkI.peek (h : CkI w c now M nx S g m L v S0) (hl : Lv (fun _ => True) (fun _ => False) DmD 43 #[] w' g (ptr g) (some m) L nx (-1) v S0) (he : Ex S0 w w') : CkI w' c now M nx S g m L v S0 where
  top := (he.block c (h.lt c h.sc) (fun q => (h.s0 c q).2 rfl)).trans h.top
  lv := hl
  hp := h.hp
  perm := h.perm
  sc := h.sc
  s0 := h.s0
  lt := fun k hS => Nat.lt_of_lt_of_le (h.lt k hS) he.size
  num := h.num
  lo := h.lo
  hi := h.hi
  tk := h.tk
theorem rcE_zero {now t : Int} (h : rcE now t = 0) : now ≤ t ∧ t ≤ 1099511627776 := by
  unfold rcE tkB at h
  split at h
  · rename_i q
    split at h
    · cases h
    · simp at q
      omega
  · cases h
/-- What Set has come to. -/
def SeQ (w : World) (c : Nat) (now : Int) (M : List (Rw Pr)) (nx : Nat) (S : Nat → Prop) (t : Int) (x : ByteArray) (w' : World) : Prop :=
  ∃ b S', CK w' c now (⟨b, nx, ((nx : Int), t, x)⟩ :: M) (nx + 1) S' ∧ Ex S w w' ∧ ∀ k, S' k → S k ∨ w.heap.size ≤ k
set_option maxRecDepth 100000 in
set_option maxHeartbeats 8000000 in
theorem cset_ok (h : CK w c now M nx S) (t : Int) (ht : rcE now t = 0) (x : ByteArray) (hroom : nx < 17592186044416) :
    Calls Try.prog 18 #[ptr c, .int .i64 t, .string x] w fun e w' => e = .returned (.tuple #[.int .i64 (nx : Int), .int .i64 0]) ∧ SeQ w c now M nx S t x w' := by
  have CR := hid (creach_ok h t)
  rw [ht] at CR
  have HT := hid (rcE_zero ht)
  clear ht
  obtain ⟨g, m, L, v, S0, h⟩ := h
  have HI := hid h
  have c3 := h.cc.2.2.2
  have f3 := free_of h.top 3
  have lc := h.lt c h.sc
  clear h
  go_enter Try.func18, Try.ntmps18
  go_wp2_with fail
  refine CR.out.mono ?_
  rintro e w1 ⟨rfl, hw⟩
  rw [hw]
  clear hw CR
  go_wp2_with fail
  have hs1 : ((w.setCell ⟨c, 3, none⟩ (.int .i64 ((nx : Int) + 1))).alloc (.cells #[.int .i64 (nx : Int), .int .i64 t, .string x] 56)).heap.size = w.heap.size + 1 := by simp [sz_set]
  have ht1 := (heap_alloc_old (w.setCell ⟨c, 3, none⟩ (.int .i64 ((nx : Int) + 1))) (.cells #[.int .i64 (nx : Int), .int .i64 t, .string x] 56) (by rw [sz_set]; exact lc)).trans (bk_set HI.out.top 3 (.int .i64 ((nx : Int) + 1)))
  have hd1 : ((w.setCell ⟨c, 3, none⟩ (.int .i64 ((nx : Int) + 1))).alloc (.cells #[.int .i64 (nx : Int), .int .i64 t, .string x] 56)).heap[w.heap.size]? = some (.cells #[.int .i64 (nx : Int), .int .i64 t, .string x] 56 (0, 0)) := by
    have := heap_alloc_new (w.setCell ⟨c, 3, none⟩ (.int .i64 ((nx : Int) + 1))) (.cells #[.int .i64 (nx : Int), .int .i64 t, .string x] 56)
    rw [sz_set] at this
    exact this
  have ho1 : ∀ k, k < w.heap.size → k ≠ c → ((w.setCell ⟨c, 3, none⟩ (.int .i64 ((nx : Int) + 1))).alloc (.cells #[.int .i64 (nx : Int), .int .i64 t, .string x] 56)).heap[k]? = w.heap[k]? := fun k hk hn => (heap_alloc_old _ _ (by rw [sz_set]; exact hk)).trans (bk_other (Ne.symm hn) _ _)
  have he1 : Ex S w ((w.setCell ⟨c, 3, none⟩ (.int .i64 ((nx : Int) + 1))).alloc (.cells #[.int .i64 (nx : Int), .int .i64 t, .string x] 56)) := ((Ex.refl S w).setCell HI.out.sc _).alloc _
  obtain ⟨W1, HW1⟩ : ∃ W1, Hid ((w.setCell ⟨c, 3, none⟩ (.int .i64 ((nx : Int) + 1))).alloc (.cells #[.int .i64 (nx : Int), .int .i64 t, .string x] 56) = W1) := ⟨_, rfl⟩
  rw [HW1.out] at hs1 ht1 hd1 ho1 he1
  rw [HW1.out]
  have HND : Hid (¬ S w.heap.size) := hid fun q => by have := HI.out.lt _ q; omega
  have lv1 : Lv (fun _ => True) (fun _ => False) DmD 43 #[] W1.drew g (ptr g) (some m) L nx (-1) v S0 := ⟨HI.out.lv.hp.of (fun k hk => ho1 k (HI.out.lt k (HI.out.s0 k hk).1) (HI.out.s0 k hk).2), trivial, HI.out.lv.ap, HI.out.lv.dm⟩
  have CP := hid (push_ok clk_orc clk_ord lv1 rfl ((nx : Int), t, x) trivial hroom)
  obtain ⟨dd, HDD⟩ : ∃ dd, Hid (w.heap.size = dd) := ⟨_, rfl⟩
  rw [HDD.out] at hd1 HND
  rw [HDD.out]
  have HT1 : Hid (W1.drew.heap[c]? = _) := hid ht1
  have HD1 : Hid (W1.drew.heap[dd]? = _) := hid hd1
  have HS0 : Hid (W1.cell? ⟨c, 2, none⟩ = some (ptr g) ∧ W1.cell? ⟨dd, 0, none⟩ = some (.int .i64 (nx : Int)) ∧ W1.cell? ⟨dd, 1, none⟩ = some (.int .i64 t) ∧ W1.cell? ⟨dd, 2, none⟩ = some (.string x)) := hid (by
    refine ⟨?_, ?_, ?_, ?_⟩
    · rw [cell_of_row _ _ _ _ _ _ ht1]; rfl
    · rw [cell_of_row _ _ _ _ _ _ hd1]; rfl
    · rw [cell_of_row _ _ _ _ _ _ hd1]; rfl
    · rw [cell_of_row _ _ _ _ _ _ hd1]; rfl)
  have HE1 := hid he1
  have HO1 := hid hs1
  clear HW1 hs1 ht1 hd1 ho1 he1 lv1 c3 f3
  refine wp_region_held_drew (S := (fun W => W.cell? ⟨c, 2, none⟩ = some (ptr g) ∧ W.cell? ⟨dd, 0, none⟩ = some (.int .i64 (nx : Int)) ∧ W.cell? ⟨dd, 1, none⟩ = some (.int .i64 t) ∧ W.cell? ⟨dd, 2, none⟩ = some (.string x))) (by kernel_rfl) HS0.out (fun hHeld => ?_)
  have HS := hid hHeld
  clear hHeld
  change wpAnyH _ _ _ _ _ _ _ _ (World.drew _)
  refine wpAnyH_take (i := 0) (v := ?_) rfl (by kernel_rfl) (by kernel_rfl) (by kernel_rfl) (fun _ _ _ h => h) (Or.inl ⟨by rfl, ?q0⟩) HS.out ?_
  case q0 => intro w hSw; obtain ⟨z0, z1, z2, z3⟩ := hSw; go_simp; rfl
  simp only [Act.put, List.getElem_toArray, List.getElem_cons_zero, List.getElem_cons_succ, List.setIfInBounds_toArray, List.set_cons_zero, List.set_cons_succ]
  refine wpAnyH_take (i := 1) (v := ?_) rfl (by kernel_rfl) (by kernel_rfl) (by kernel_rfl) (fun _ _ _ h => h) (Or.inl ⟨by rfl, ?q1⟩) HS.out ?_
  case q1 => intro w hSw; obtain ⟨z0, z1, z2, z3⟩ := hSw; go_simp; rfl
  simp only [Act.put, List.getElem_toArray, List.getElem_cons_zero, List.getElem_cons_succ, List.setIfInBounds_toArray, List.set_cons_zero, List.set_cons_succ]
  refine wpAnyH_take (i := 2) (v := ?_) rfl (by kernel_rfl) (by kernel_rfl) (by kernel_rfl) (fun _ _ _ h => h) (Or.inl ⟨by rfl, ?q2⟩) HS.out ?_
  case q2 => intro w hSw; obtain ⟨z0, z1, z2, z3⟩ := hSw; go_simp; rfl
  simp only [Act.put, List.getElem_toArray, List.getElem_cons_zero, List.getElem_cons_succ, List.setIfInBounds_toArray, List.set_cons_zero, List.set_cons_succ]
  refine wpAnyH_take (i := 3) (v := ?_) rfl (by kernel_rfl) (by kernel_rfl) (by kernel_rfl) (fun _ _ _ h => h) (Or.inl ⟨by rfl, ?q3⟩) HS.out ?_
  case q3 => intro w hSw; obtain ⟨z0, z1, z2, z3⟩ := hSw; go_simp; rfl
  simp only [Act.put, List.getElem_toArray, List.getElem_cons_zero, List.getElem_cons_succ, List.setIfInBounds_toArray, List.set_cons_zero, List.set_cons_succ]
  refine wpAnyH_take (i := 4) (v := ?_) rfl (by kernel_rfl) (by kernel_rfl) (by kernel_rfl) (fun _ _ _ h => h) (Or.inl ⟨by rfl, ?q4⟩) HS.out ?_
  case q4 => intro w hSw; obtain ⟨z0, z1, z2, z3⟩ := hSw; go_simp; rfl
  simp only [Act.put, List.getElem_toArray, List.getElem_cons_zero, List.getElem_cons_succ, List.setIfInBounds_toArray, List.set_cons_zero, List.set_cons_succ]
  refine wpAnyH_ready (rs := [5]) (by kernel_rfl) (by simp) ?_
  refine AllReadyH.cons rfl (fun K hK => ?_) AllReadyH.nil
  replace hK := hid hK
  go_simp
  refine CP.out.mono ?_
  rintro e w2 ⟨rfl, L', v', S', b, hL', hE', hP', hq', hs'⟩
  have nc : ¬ SU S0 (fun _ => False) c := fun q => by rcases q with q | q; exact (HI.out.s0 c q).2 rfl; exact q
  have nd : ¬ SU S0 (fun _ => False) dd := fun q => by rcases q with q | q; exact HND.out (HI.out.s0 dd q).1; exact q
  have ht2 := (hE'.block c (Array.getElem?_eq_some_iff.1 HT1.out).1 nc).trans HT1.out
  have hd2 := (hE'.block dd (Array.getElem?_eq_some_iff.1 HD1.out).1 nd).trans HD1.out
  have HS2 : Hid (w2.cell? ⟨c, 2, none⟩ = some (ptr g) ∧ w2.cell? ⟨dd, 0, none⟩ = some (.int .i64 (nx : Int)) ∧ w2.cell? ⟨dd, 1, none⟩ = some (.int .i64 t) ∧ w2.cell? ⟨dd, 2, none⟩ = some (.string x)) := hid (by
    refine ⟨?_, ?_, ?_, ?_⟩
    · rw [cell_of_row _ _ _ _ _ _ ht2]; rfl
    · rw [cell_of_row _ _ _ _ _ _ hd2]; rfl
    · rw [cell_of_row _ _ _ _ _ _ hd2]; rfl
    · rw [cell_of_row _ _ _ _ _ _ hd2]; rfl)
  have HT2 := hid ht2
  have HL' := hid hL'
  have HE' := hid hE'
  have HP' := hid hP'
  have HQ' := hid (hq' trivial HI.out.hp)
  have HS' := hid hs'
  clear ht2 hd2 hL' hE' hP' hq' hs' CP HS
  refine hK.out _ _ HS2.out (fun _ => ?_)
  clear hK K
  have HS := HS2
  clear HS2
  refine wpAnyH_take (i := 6) (v := ?_) rfl (by kernel_rfl) (by kernel_rfl) (by kernel_rfl) (fun _ _ _ h => h) (Or.inl ⟨by rfl, ?q6⟩) HS.out ?_
  case q6 => intro w hSw; obtain ⟨z0, z1, z2, z3⟩ := hSw; go_simp; rfl
  simp only [Act.put, List.getElem_toArray, List.getElem_cons_zero, List.getElem_cons_succ, List.setIfInBounds_toArray, List.set_cons_zero, List.set_cons_succ]
  refine wpAnyH_take (i := 7) (v := ?_) rfl (by kernel_rfl) (by kernel_rfl) (by kernel_rfl) (fun _ _ _ h => h) (Or.inl ⟨by rfl, ?q7⟩) HS.out ?_
  case q7 => intro w hSw; obtain ⟨z0, z1, z2, z3⟩ := hSw; go_simp; rfl
  simp only [Act.put, List.getElem_toArray, List.getElem_cons_zero, List.getElem_cons_succ, List.setIfInBounds_toArray, List.set_cons_zero, List.set_cons_succ]
  refine wpAnyH_take (i := 8) (v := ?_) rfl (by kernel_rfl) (by kernel_rfl) (by kernel_rfl) (fun _ _ _ h => h) (Or.inl ⟨by rfl, ?q8⟩) HS.out ?_
  case q8 => intro w hSw; obtain ⟨z0, z1, z2, z3⟩ := hSw; go_simp; rfl
  simp only [Act.put, List.getElem_toArray, List.getElem_cons_zero, List.getElem_cons_succ, List.setIfInBounds_toArray, List.set_cons_zero, List.set_cons_succ]
  refine wpAnyH_take (i := 9) (v := ?_) rfl (by kernel_rfl) (by kernel_rfl) (by kernel_rfl) (fun _ _ _ h => h) (Or.inl ⟨by rfl, ?q9⟩) HS.out ?_
  case q9 => intro w hSw; obtain ⟨z0, z1, z2, z3⟩ := hSw; go_simp; rfl
  simp only [Act.put, List.getElem_toArray, List.getElem_cons_zero, List.getElem_cons_succ, List.setIfInBounds_toArray, List.set_cons_zero, List.set_cons_succ]
  refine wpAnyH_done (by kernel_rfl) ?_ _
  clear HS
  go_wp2_with fail
  go_ret2
  refine ⟨rfl, b, (fun k => S k ∨ (w.heap.size ≤ k ∧ k < w2.heap.size)), ⟨g, m, L', v', S', ?_, HL'.out, HQ'.out, HP'.out.trans (List.Perm.cons _ HI.out.perm), .inl HI.out.sc, fun k hk => ?_, fun k hk => ?_, fun r hr => ?_, HI.out.lo, HI.out.hi, fun r hr => ?_⟩, ?_, fun k hk => ?_⟩
  · have := HT2.out
    simpa using this
  · have hl := HL'.out.hp.lt k hk
    rcases HS'.out k hk with q | q
    · exact ⟨.inl (HI.out.s0 k q).1, (HI.out.s0 k q).2⟩
    · have q' : W1.heap.size ≤ k := q
      rw [HO1.out] at q'
      exact ⟨.inr ⟨by omega, hl⟩, by omega⟩
  · have z := HE'.out.size
    have z' : W1.heap.size ≤ w2.heap.size := z
    rw [HO1.out] at z'
    rcases hk with q | q
    · have := HI.out.lt k q; omega
    · exact q.2
  · rcases List.mem_cons.1 hr with q | q
    · rw [q]
    · exact HI.out.num r q
  · rcases List.mem_cons.1 hr with q | q
    · rw [q]; exact HT.out
    · exact HI.out.tk r q
  · refine HE1.out.trans (a := w) (b := W1) (S' := S) ?_ (fun k q => .inl q)
    have e0 : Ex (SU S0 (fun _ => False)) W1.drew w2 := HE'.out
    exact ⟨e0.os, e0.tape, e0.output, e0.size, fun k hk hn => e0.block k hk (fun q => by
      rcases q with q | q
      · exact hn (HI.out.s0 k q).1
      · exact q)⟩
  · rcases hk with q | q
    · exact .inl q
    · exact .inr q.1
set_option maxRecDepth 100000 in
set_option maxHeartbeats 8000000 in
theorem cset_bad (h : CK w c now M nx S) (t : Int) (ht : rcE now t ≠ 0) (x : ByteArray) :
    Calls Try.prog 18 #[ptr c, .int .i64 t, .string x] w fun e w' => e = .returned (.tuple #[.int .i64 0, .int .i64 (rcE now t)]) ∧ CK w' c now M nx S ∧ Ex S w w' := by
  have CR := hid (creach_ok h t)
  have HI := hid h
  clear h
  obtain ⟨e0, he0⟩ : ∃ e0, Hid (rcE now t = e0) := ⟨_, rfl⟩
  rw [he0.out] at CR ht
  rw [he0.out]
  have hne : (e0 == 0) = false := by simpa using ht
  go_enter Try.func18, Try.ntmps18
  go_wp2_with fail
  refine CR.out.mono ?_
  rintro e w1 ⟨rfl, hw⟩
  rw [hw]
  clear hw CR
  go_wp2_with fail
  go_ret2
  exact ⟨rfl, HI.out, Ex.refl _ _⟩
set_option maxRecDepth 100000 in
set_option maxHeartbeats 8000000 in
theorem cnext_some (h : CK w c now M nx S) {r : Rw Pr} {M2 : List (Rw Pr)} (hM : M.Perm (r :: M2)) (hr : ∀ q ∈ M2, ahd keyD r q) :
    Calls Try.prog 45 #[ptr c] w fun e w' => e = .returned (.tuple #[.int .i64 r.x.2.1, .bool true]) ∧ CK w' c now M nx S ∧ Ex S w w' := by
  obtain ⟨g, m, L, v, S0, h⟩ := h
  obtain ⟨hl, e0⟩ := h.first hM hr
  have CM := hid (cmade_ok h)
  have CP := hid (peek_some clk_orc h.lv hl)
  rw [e0] at CP
  have HI := hid h
  have c2 := h.cc.2.2.1
  clear h hl e0 hM hr
  go_enter Try.func45, Try.ntmps45
  go_wp2_with fail
  refine CM.out.mono ?_
  rintro e w1 ⟨rfl, hw⟩
  rw [hw]
  clear hw
  go_wp2_with fail
  refine CP.out.mono ?_
  rintro e w2 ⟨rfl, hl2, he2⟩
  have H2 := hid (HI.out.peek hl2 he2)
  have HE2 := hid he2
  clear hl2 he2 CP
  go_wp2_with fail
  go_ret2
  refine ⟨rfl, ⟨g, m, L, v, S0, H2.out.of (fun k hk => heap_alloc_old _ _ (H2.out.lt k hk))⟩, Ex.alloc (HE2.out.mono (fun k hk => (HI.out.s0 k hk).1)) _⟩
set_option maxRecDepth 100000 in
set_option maxHeartbeats 8000000 in
theorem cnext_none (h : CK w c now [] nx S) :
    Calls Try.prog 45 #[ptr c] w fun e w' => e = .returned (.tuple #[.int .i64 0, .bool false]) ∧ CK w' c now [] nx S ∧ Ex S w w' := by
  obtain ⟨g, m, L, v, S0, h⟩ := h
  obtain rfl := List.perm_nil.1 h.perm
  have CM := hid (cmade_ok h)
  have CP := hid (peek_none clk_orc h.lv)
  have HI := hid h
  have c2 := h.cc.2.2.1
  clear h
  go_enter Try.func45, Try.ntmps45
  go_wp2_with fail
  refine CM.out.mono ?_
  rintro e w1 ⟨rfl, hw⟩
  rw [hw]
  clear hw
  go_wp2_with fail
  refine CP.out.mono ?_
  rintro e w2 ⟨rfl, hl2, he2⟩
  have H2 := hid (HI.out.peek hl2 he2)
  have HE2 := hid he2
  clear hl2 he2 CP
  go_wp2_with fail
  go_ret2
  refine ⟨rfl, ⟨g, m, [], v, S0, H2.out.of (fun k hk => heap_alloc_old _ _ (H2.out.lt k hk))⟩, Ex.alloc (HE2.out.mono (fun k hk => (HI.out.s0 k hk).1)) _⟩
end
end Go.Proofs.Ytajdopmhdagehaa.Ds
