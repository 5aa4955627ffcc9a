/- A clock in memory: its tick, and a heap of what waits. -/
import Derived.Test.YtajdopmhdagehaaHsPop
import Derived.Test.YtajdopmhdagehaaCkT
import Derived.Shelf.Abstract
set_option linter.unusedVariables false
set_option linter.unusedSimpArgs false
namespace Go.Proofs.Ytajdopmhdagehaa.Ds
open Go.Proofs.Ytajdopmhdagehaa
open Go Go.RowKit

def keyD (x : Pr) : Int := x.2.1
def DmD (x : Pr) : Prop := True
set_option maxRecDepth 100000 in
set_option maxHeartbeats 4000000 in
theorem ord_any (w : World) (a b : Pr) : Calls Try.prog 43 #[.agg #[.int .i64 a.1, .int .i64 a.2.1, .string a.2.2], .agg #[.int .i64 b.1, .int .i64 b.2.1, .string b.2.2]] w fun e w' => e = .returned (.bool (decide (keyD a < keyD b))) ∧ Below w.heap.size w w' := by
  unfold keyD
  obtain ⟨n, t, x⟩ := a
  obtain ⟨n', t', x'⟩ := b
  simp only
  go_enter Try.func43, Try.ntmps43
  go_wp2
  go_ret
  exact ⟨rfl, ((Below.refl _ _).alloc (Nat.le_refl _) _).alloc (by simp) _⟩
theorem clk_orc : Orc 43 #[] (fun _ => True) (fun _ => False) DmD (fun x y r => r = decide (keyD x < keyD y)) where
  ask := fun w x y _ hx hy => (ord_any w x y).mono fun e w' ⟨q1, q2⟩ => ⟨_, q1, rfl, trivial, Ex.of_below q2⟩
  stay := fun w w' h hk => trivial
  lt := fun w h k hk => hk.elim
  ent := fun args w => enters_of Try.func43 (by kernel_rfl) rfl args w
theorem clk_ord : Ord True keyD (fun x y r => r = decide (keyD x < keyD y)) := fun _ a b r h => by rw [h]; simp
/-- At c stands a clock at the tick now; in its heap wait the things M; all of it lies in S. -/
structure CkI (w : World) (c : Nat) (now : Int) (M : List (Rw Pr)) (nx : Nat) (S : Nat → Prop) (g m : Nat) (L : List (Rw Pr)) (v : Value) (S0 : Nat → Prop) : Prop where
  top : w.heap[c]? = some (.cells #[ptr c, .int .i64 now, ptr g, .int .i64 (nx : Int)] 110 (0, 0))
  lv : Lv (fun _ => True) (fun _ => False) DmD 43 #[] w g (ptr g) (some m) L nx (-1) v S0
  hp : hp keyD L
  perm : L.Perm M
  sc : S c
  s0 : ∀ k, S0 k → S k ∧ k ≠ c
  lt : ∀ k, S k → k < w.heap.size
  num : ∀ r ∈ M, r.x.1 = (r.t : Int)
  lo : 0 ≤ now
  hi : now ≤ 1099511627776
  tk : ∀ r ∈ M, now ≤ r.x.2.1 ∧ r.x.2.1 ≤ 1099511627776
def CK (w : World) (c : Nat) (now : Int) (M : List (Rw Pr)) (nx : Nat) (S : Nat → Prop) : Prop := ∃ g m L v S0, CkI w c now M nx S g m L v S0
section
variable {w w' : World} {c : Nat} {now : Int} {M : List (Rw Pr)} {nx : Nat} {S : Nat → Prop} {g m : Nat} {L : List (Rw Pr)} {v : Value} {S0 : Nat → Prop}
theorem CkI.of (h : CkI w c now M nx S g m L v S0) (hk : ∀ k, S k → w'.heap[k]? = w.heap[k]?) : CkI w' c now M nx S g m L v S0 where
  top := (hk c h.sc).trans h.top
  lv := ⟨h.lv.hp.of (fun k q => hk k (h.s0 k q).1), trivial, h.lv.ap, h.lv.dm⟩
  hp := h.hp
  perm := h.perm
  sc := h.sc
  s0 := h.s0
  lt := fun k hS => by
    have h1 := h.lt k hS
    have h2 := hk k hS
    rw [Array.getElem?_eq_getElem h1] at h2
    exact (Array.getElem?_eq_some_iff.1 h2).1
  num := h.num
  lo := h.lo
  hi := h.hi
  tk := h.tk
theorem CK.of (h : CK w c now M nx S) (hk : ∀ k, S k → w'.heap[k]? = w.heap[k]?) : CK w' c now M nx S := by
  obtain ⟨g, m, L, v, S0, q⟩ := h
  exact ⟨g, m, L, v, S0, q.of hk⟩
theorem CK.lt (h : CK w c now M nx S) : ∀ k, S k → k < w.heap.size := by
  obtain ⟨g, m, L, v, S0, q⟩ := h
  exact q.lt
theorem CK.ex (h : CK w c now M nx S) {U : Nat → Prop} (he : Ex U w w') (hd : ∀ k, S k → ¬ U k) : CK w' c now M nx S := h.of fun k hk => he.block k (h.lt k hk) (hd k hk)
theorem CK.below (h : CK w c now M nx S) (he : Below w.heap.size w w') : CK w' c now M nx S := h.of fun k hk => he.block k (h.lt k hk)
theorem CK.perm (h : CK w c now M nx S) {M' : List (Rw Pr)} (hp : M.Perm M') : CK w c now M' nx S := by
  obtain ⟨g, m, L, v, S0, q⟩ := h
  exact ⟨g, m, L, v, S0, q.top, q.lv, q.hp, q.perm.trans hp, q.sc, q.s0, q.lt, fun r hr => q.num r (hp.symm.subset hr), q.lo, q.hi, fun r hr => q.tk r (hp.symm.subset hr)⟩
theorem CK.mono (h : CK w c now M nx S) {S' : Nat → Prop} (hs : ∀ k, S k → S' k) (hl : ∀ k, S' k → k < w.heap.size) : CK w c now M nx S' := by
  obtain ⟨g, m, L, v, S0, q⟩ := h
  exact ⟨g, m, L, v, S0, q.top, q.lv, q.hp, q.perm, hs _ q.sc, fun k hk => ⟨hs k (q.s0 k hk).1, (q.s0 k hk).2⟩, hl, q.num, q.lo, q.hi, q.tk⟩
theorem CkI.cc (h : CkI w c now M nx S g m L v S0) : w.cell? ⟨c, 0, none⟩ = some (ptr c) ∧ w.cell? ⟨c, 1, none⟩ = some (.int .i64 now) ∧ w.cell? ⟨c, 2, none⟩ = some (ptr g) ∧ w.cell? ⟨c, 3, none⟩ = some (.int .i64 (nx : Int)) := by
  refine ⟨?_, ?_, ?_, ?_⟩ <;> (rw [cell_of_row _ _ _ _ _ _ h.top]; rfl)
/-- What is due first. -/
theorem CkI.first (h : CkI w c now M nx S g m L v S0) {r : Rw Pr} {M2 : List (Rw Pr)} (hM : M.Perm (r :: M2)) (hr : ∀ q ∈ M2, ahd keyD r q) : 0 < L.length ∧ rat L 0 = r := by
  have hl : 0 < L.length := by rw [(h.perm.trans hM).length_eq]; simp
  refine ⟨hl, ?_⟩
  have h1 := (h.perm.trans hM).subset (rat_mem hl)
  rcases List.mem_cons.1 h1 with q | q
  · exact q
  · exfalso
    obtain ⟨i, hi⟩ := List.mem_iff_getElem?.1 ((h.perm.trans hM).symm.subset (List.mem_cons_self))
    have h2 := h.hp.first i (List.getElem?_eq_some_iff.1 hi).1
    rw [rat_eq hi] at h2
    exact h2 (hr _ q)
theorem CK.one (h : CK w c now M nx S) : (M.map (·.t)).Nodup := by
  obtain ⟨g, m, L, v, S0, q⟩ := h
  exact (q.perm.map _).nodup_iff.1 q.lv.hp.one
theorem CK.few (h : CK w c now M nx S) : ∀ r ∈ M, r.t < nx := by
  obtain ⟨g, m, L, v, S0, q⟩ := h
  exact fun r hr => q.lv.hp.tk r (q.perm.symm.subset hr)
theorem CK.len (h : CK w c now M nx S) : M.length ≤ nx := by
  obtain ⟨g, m, L, v, S0, q⟩ := h
  rw [← q.perm.length_eq]
  exact q.lv.hp.len
theorem CK.sc (h : CK w c now M nx S) : S c := by
  obtain ⟨g, m, L, v, S0, q⟩ := h
  exact q.sc
theorem CK.num (h : CK w c now M nx S) : ∀ r ∈ M, r.x.1 = (r.t : Int) := by
  obtain ⟨g, m, L, v, S0, q⟩ := h
  exact q.num
theorem CK.tk (h : CK w c now M nx S) : ∀ r ∈ M, now ≤ r.x.2.1 ∧ r.x.2.1 ≤ 1099511627776 := by
  obtain ⟨g, m, L, v, S0, q⟩ := h
  exact q.tk
theorem CK.tick (h : CK w c now M nx S) : 0 ≤ now ∧ now ≤ 1099511627776 := by
  obtain ⟨g, m, L, v, S0, q⟩ := h
  exact ⟨q.lo, q.hi⟩
/-- Of things there is one that is due first. -/
theorem first_of : ∀ (M : List (Rw Pr)), M ≠ [] → (M.map (·.t)).Nodup → ∃ r M2, M.Perm (r :: M2) ∧ ∀ q ∈ M2, ahd keyD r q
  | [], h, _ => absurd rfl h
  | [r], _, _ => ⟨r, [], List.Perm.refl _, fun q hq => by cases hq⟩
  | r :: s :: M, _, hN => by
    have hN' : ((s :: M).map (·.t)).Nodup := by rw [List.map_cons, List.nodup_cons] at hN; exact hN.2
    obtain ⟨q, M2, hP, hq⟩ := first_of (s :: M) (by simp) hN'
    have hne : r.t ≠ q.t := by
      rw [List.map_cons, List.nodup_cons] at hN
      exact fun e => hN.1 (List.mem_map.2 ⟨q, hP.symm.subset List.mem_cons_self, e.symm⟩)
    rcases ahd_total (key := keyD) hne with z | z
    · refine ⟨r, s :: M, List.Perm.refl _, fun x hx => ?_⟩
      rcases List.mem_cons.1 (hP.subset hx) with e | e
      · rw [e]; exact z
      · exact ahd_trans z (hq x e)
    · refine ⟨q, r :: M2, (List.Perm.cons r hP).trans (List.Perm.swap q r M2), fun x hx => ?_⟩
      rcases List.mem_cons.1 hx with e | e
      · rw [e]; exact z
      · exact hq x e
theorem info_ck : ∃ j, Try.prog.info? 110 = some j := Option.isSome_iff_exists.1 (by kernel_rfl)
theorem eq_ck (a : Addr) (w : World) : (binOp .eql 23 (.pointer (some a)) (.pointer (some a))).run Try.prog w = .ok (.bool true) w := by
  obtain ⟨j, hj⟩ := info_ck
  exact run_eql_ptr_same w a Try.underlying23 hj
theorem eq_ck0 (a : Addr) (w : World) : (binOp .eql 23 (.pointer none) (.pointer (some a))).run Try.prog w = .ok (.bool false) w := by
  have h : ∀ d : Nat, (Op.equalIn (d + 1) 23 (.pointer none) (.pointer (some a))).run Try.prog w = .ok false w := fun d => by simp [Op.equalIn, run_underlying Try.underlying23]
  simp only [binOp]
  simp [Op.equal, Op.maxDepth, h 9999]
set_option maxRecDepth 100000 in
theorem cmade_ok (h : CkI w c now M nx S g m L v S0) : Calls Try.prog 50 #[ptr c] w fun e w' => e = .returned (.bool true) ∧ w' = w := by
  have c0 := h.cc.1
  have he := eq_ck
  clear h
  go_enter Try.func50, Try.ntmps50
  go_wp2
  go_ret
  exact ⟨rfl, rfl⟩
set_option maxRecDepth 100000 in
theorem cmade_nil (w : World) : Calls Try.prog 50 #[.pointer none] w fun e w' => e = .returned (.bool false) ∧ w' = w := by
  go_enter Try.func50, Try.ntmps50
  go_wp2
  go_ret
  exact ⟨rfl, rfl⟩
set_option maxRecDepth 100000 in
theorem cmade_zero (c0 : w.cell? ⟨c, 0, none⟩ = some (.pointer none)) : Calls Try.prog 50 #[ptr c] w fun e w' => e = .returned (.bool false) ∧ w' = w := by
  have he := eq_ck0
  go_enter Try.func50, Try.ntmps50
  go_wp2
  go_ret
  exact ⟨rfl, rfl⟩
set_option maxRecDepth 100000 in
set_option maxHeartbeats 4000000 in
theorem cnow_ok (h : CK w c now M nx S) : Calls Try.prog 13 #[ptr c] w fun e w' => e = .returned (.int .i64 now) ∧ w' = w := by
  obtain ⟨g, m, L, v, S0, h⟩ := h
  have CM := hid (cmade_ok h)
  have c1 := h.cc.2.1
  clear h
  go_enter Try.func13, Try.ntmps13
  go_wp2_with fail
  refine CM.out.mono ?_
  rintro e w1 ⟨rfl, hw⟩
  rw [hw]
  clear hw
  go_wp2_with fail
  go_ret
  exact ⟨rfl, rfl⟩
set_option maxRecDepth 100000 in
set_option maxHeartbeats 4000000 in
theorem clen_ok (h : CK w c now M nx S) : Calls Try.prog 14 #[ptr c] w fun e w' => e = .returned (.int .i64 (M.length : Int)) ∧ w' = w := by
  obtain ⟨g, m, L, v, S0, h⟩ := h
  have CM := hid (cmade_ok h)
  have c2 := h.cc.2.2.1
  have CL := hid (len_ok h.lv.hp)
  rw [h.perm.length_eq] at CL
  clear h
  obtain ⟨n, hn⟩ : ∃ n, Hid (M.length = n) := ⟨_, rfl⟩
  rw [hn.out] at CL
  rw [hn.out]
  go_enter Try.func14, Try.ntmps14
  go_wp2_with fail
  refine CM.out.mono ?_
  rintro e w1 ⟨rfl, hw⟩
  rw [hw]
  clear hw
  go_wp2_with fail
  refine CL.out.mono ?_
  rintro e w1 ⟨rfl, hw⟩
  rw [hw]
  clear hw
  go_wp2_with fail
  go_ret
  exact ⟨rfl, rfl⟩
set_option maxRecDepth 100000 in
set_option maxHeartbeats 4000000 in
theorem creach_ok (h : CK w c now M nx S) (t : Int) : Calls Try.prog 52 #[ptr c, .int .i64 t] w fun e w' => e = .returned (.int .i64 (rcE now t)) ∧ w' = w := by
  obtain ⟨g, m, L, v, S0, h⟩ := h
  have CM := hid (cmade_ok h)
  have CI := hid (isTick_any w t)
  have c1 := h.cc.2.1
  clear h
  unfold rcE
  by_cases htk : tkB t = true
  · rw [if_pos htk]
    rw [htk] at CI
    clear htk
    by_cases hlt : t < now
    · rw [if_pos hlt]
      go_enter Try.func52, Try.ntmps52
      go_wp2_with fail
      refine CM.out.mono ?_
      rintro e w1 ⟨rfl, hw⟩
      rw [hw]
      clear hw
      go_wp2_with fail
      refine CI.out.mono ?_
      rintro e w1 ⟨rfl, hw⟩
      rw [hw]
      clear hw
      go_wp2_with fail
      go_ret
      exact ⟨rfl, rfl⟩
    · rw [if_neg hlt]
      have hle : now ≤ t := by omega
      go_enter Try.func52, Try.ntmps52
      go_wp2_with fail
      refine CM.out.mono ?_
      rintro e w1 ⟨rfl, hw⟩
      rw [hw]
      clear hw
      go_wp2_with fail
      refine CI.out.mono ?_
      rintro e w1 ⟨rfl, hw⟩
      rw [hw]
      clear hw
      go_wp2_with fail
      go_ret
      exact ⟨rfl, rfl⟩
  · rw [if_neg htk]
    have htk' : tkB t = false := by simpa using htk
    rw [htk'] at CI
    clear htk htk'
    go_enter Try.func52, Try.ntmps52
    go_wp2_with fail
    refine CM.out.mono ?_
    rintro e w1 ⟨rfl, hw⟩
    rw [hw]
    clear hw
    go_wp2_with fail
    refine CI.out.mono ?_
    rintro e w1 ⟨rfl, hw⟩
    rw [hw]
    clear hw
    go_wp2_with fail
    go_ret
    exact ⟨rfl, rfl⟩
set_option maxRecDepth 100000 in
set_option maxHeartbeats 4000000 in
theorem cnew_bad (w : World) (t : Int) (h : tkB t = false) : Calls Try.prog 9 #[.int .i64 t] w fun e w' => e = .returned (.tuple #[.pointer none, .int .i64 2]) ∧ w' = w := by
  have CI := hid (isTick_any w t)
  rw [h] at CI
  clear h
  go_enter Try.func9, Try.ntmps9
  go_wp2_with fail
  refine CI.out.mono ?_
  rintro e w1 ⟨rfl, hw⟩
  rw [hw]
  clear hw
  go_wp2_with fail
  go_ret2
  exact ⟨rfl, rfl⟩
set_option maxRecDepth 100000 in
set_option maxHeartbeats 4000000 in
theorem cnew_ok (w : World) (t : Int) (h : tkB t = true) : Calls Try.prog 9 #[.int .i64 t] w fun e w' => ∃ c, e = .returned (.tuple #[ptr c, .int .i64 0]) ∧ CK w' c t [] 0 (fun k => w.heap.size ≤ k ∧ k < w'.heap.size) ∧ Below w.heap.size w w' := by
  have CI := hid (isTick_any w t)
  have HT : Hid (0 ≤ t ∧ t ≤ 1099511627776) := hid (by unfold tkB at h; simpa using h)
  rw [h] at CI
  clear h
  have CN := hid (new_ok w 43 #[])
  have LN := hid (nh_lv clk_orc w trivial)
  go_enter Try.func9, Try.ntmps9
  go_wp2_with fail
  refine CI.out.mono ?_
  rintro e w1 ⟨rfl, hw⟩
  rw [hw]
  clear hw
  go_wp2_with fail
  refine CN.out.mono ?_
  rintro e w2 ⟨rfl, hw2⟩
  have HSZ : Hid (w2.heap.size = w.heap.size + 2) := hid (by rw [hw2, nh_size])
  have BN : Hid (Below w.heap.size w w2) := hid (by rw [hw2]; exact (nh_ex (fun _ => False) w _).below (Nat.le_refl _) (fun k hk => hk.elim))
  rw [← hw2] at LN
  clear hw2 CN CI
  obtain ⟨G, HG⟩ : ∃ G, Hid (w.heap.size + 1 = G) := ⟨_, rfl⟩
  rw [HG.out] at LN
  rw [HG.out]
  go_wp2_with fail
  go_ret2
  have q1 : (w2.alloc (.cells #[ptr w2.heap.size, .int .i64 t, ptr G, .int .i64 0] 110)).heap.size = w2.heap.size + 1 := by simp
  have q2 := heap_alloc_new w2 (.cells #[ptr w2.heap.size, .int .i64 t, ptr G, .int .i64 0] 110)
  have q3 : ∀ k, k < w2.heap.size → (w2.alloc (.cells #[ptr w2.heap.size, .int .i64 t, ptr G, .int .i64 0] 110)).heap[k]? = w2.heap[k]? := fun k hk => heap_alloc_old _ _ hk
  obtain ⟨W, HW⟩ : ∃ W, Hid (w2.alloc (.cells #[ptr w2.heap.size, .int .i64 t, ptr G, .int .i64 0] 110) = W) := ⟨_, rfl⟩
  rw [HW.out] at q1 q2 q3
  have hsz := HSZ.out
  have fin : ∃ c, Ending.returned (.tuple #[ptr w2.heap.size, .int .i64 0]) = Ending.returned (.tuple #[ptr c, .int .i64 0]) ∧ CK W c t [] 0 (fun k => w.heap.size ≤ k ∧ k < W.heap.size) ∧ Below w.heap.size w W := by
    refine ⟨w2.heap.size, rfl, ⟨G, w.heap.size, [], _, _, q2, ⟨LN.out.hp.of (fun k hk => q3 k hk.2), trivial, LN.out.ap, LN.out.dm⟩, hp_nilq, List.Perm.refl _, ⟨by omega, by omega⟩, fun k hk => ⟨⟨hk.1, by omega⟩, by omega⟩, fun k hk => hk.2, (fun r hr => by cases hr), HT.out.1, HT.out.2, fun r hr => by cases hr⟩, ?_⟩
    have B := BN.out
    have e : Below w2.heap.size w2 W := by rw [← HW.out]; exact (Below.refl _ _).alloc (Nat.le_refl _) _
    exact B.trans (e.mono B.size)
  rw [← HW.out] at fin
  exact fin
end
end Go.Proofs.Ytajdopmhdagehaa.Ds
