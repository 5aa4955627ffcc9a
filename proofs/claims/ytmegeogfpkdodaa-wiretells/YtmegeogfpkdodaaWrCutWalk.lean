/- WireCut, walked. -/
import Derived.Test.YtmegeogfpkdodaaWrLives
set_option linter.unusedVariables false
set_option linter.unusedSimpArgs false
namespace Go.Proofs.Ytmegeogfpkdodaa
open Go Go.RowKit

theorem emod_tmod {x n : Int} (hn : 1 ≤ n) : (Int.tmod x n < 0 → x % n = Int.tmod x n + n) ∧ (¬ Int.tmod x n < 0 → x % n = Int.tmod x n) := by
  have b1 := Int.lt_tmod_of_pos x (show 0 < n by omega)
  have b2 := Int.tmod_lt_of_pos x (show 0 < n by omega)
  have e := Int.mul_tdiv_add_tmod x n
  have u : ∀ q r : Int, n * q + r = x → 0 ≤ r → r < n → x % n = r := fun q r h1 h2 h3 => by
    rw [← h1, Int.add_comm, Int.add_mul_emod_self_left, Int.emod_eq_of_lt h2 h3]
  constructor
  · intro h
    refine u (x.tdiv n - 1) _ ?_ (by omega) (by omega)
    rw [Int.mul_sub]
    omega
  · intro h
    exact u (x.tdiv n) _ e (by omega) b2
set_option maxHeartbeats 1000000 in
theorem pick_any (w : World) (x n : Int) (h1 : 1 ≤ n) (h2 : n ≤ 140737488355328) : Calls Try.prog 21 #[.int .i64 x, .int .i64 n] w fun e w' => e = .returned (.int .i64 (x % n)) ∧ w' = w := by
  have b1 : -n < Int.tmod x n := Int.lt_tmod_of_pos x (by omega)
  have b2 : Int.tmod x n < n := Int.tmod_lt_of_pos x (by omega)
  have hn1 : ¬ (n < 1) := by omega
  have hn0 : ¬ (n = 0) := by omega
  obtain ⟨E1, E2⟩ := emod_tmod (x := x) h1
  obtain ⟨y, hy⟩ : ∃ y, Int.tmod x n = y := ⟨_, rfl⟩
  rw [hy] at b1 b2 E1 E2
  have HE1 := hid E1
  have HE2 := hid E2
  clear E1 E2
  by_cases hneg : y < 0
  · go_enter Try.func21, Try.ntmps21
    go_wp2
    go_ret
    rw [HE1.out hneg]
    exact ⟨rfl, rfl⟩
  · go_enter Try.func21, Try.ntmps21
    go_wp2
    go_ret
    rw [HE2.out hneg]
    exact ⟨rfl, rfl⟩
/-- Request, as far as its error and its place go. -/
theorem reqE_any (w : World) (v : Value) (l : List Int) (h : HB w v l) (hbig : l.length ≤ 140737488355328) :
    Calls Try.prog 15 #[v] w fun e w' => ∃ (m : Array Value) (p er : Int), e = .returned (.tuple #[.agg m, .int .i64 p, .int .i64 er]) ∧ m.size = 23 ∧ m.all (·.oneCell') = true ∧ ((er = 0 ∧ ∃ r b, rqGood l r b) ∨ (er = 200 ∧ rqBad l p)) ∧ Below w.heap.size w w' := by
  refine (request_any w v l h hbig).mono ?_
  rintro e w' ⟨⟨p, q1, rfl⟩ | ⟨r, b, u, B, q1, q2, rfl, q3, _⟩, hb⟩
  · exact ⟨_, p, 200, rfl, rqA_size rq0_ok _, rqA_one _ _ rfl, .inr ⟨rfl, q1⟩, hb⟩
  · exact ⟨_, 0, 0, rfl, rqA_size q2 _, rqA_one _ _ (by obtain ⟨p, c, rfl⟩ := own_slice q3; rfl), .inl ⟨rfl, r, b, q1⟩, hb⟩
theorem repE_any (w : World) (v : Value) (l : List Int) (h : HB w v l) (hbig : l.length ≤ 140737488355328) :
    Calls Try.prog 19 #[v] w fun e w' => ∃ (m : Array Value) (p er : Int), e = .returned (.tuple #[.agg m, .int .i64 p, .int .i64 er]) ∧ m.size = 3 ∧ m.all (·.oneCell') = true ∧ ((er = 0 ∧ ∃ k ns b, rpGood l k ns b) ∨ (er = 201 ∧ rpBad l p)) ∧ Below w.heap.size w w' := by
  refine (reply_any w v l h hbig).mono ?_
  rintro e w' ⟨⟨p, q1, rfl⟩ | ⟨k, ns, b, vn, u, B, B', q1, rfl, n1, _, _, q3, _⟩, hb⟩
  · exact ⟨_, p, 201, rfl, rfl, rpA_one 0 _ _ rfl rfl, .inr ⟨rfl, q1⟩, hb⟩
  · exact ⟨_, 0, 0, rfl, rfl, rpA_one _ _ _ (by obtain ⟨p, c, rfl⟩ := own_slice n1; rfl) (by obtain ⟨p, c, rfl⟩ := own_slice q3; rfl), .inl ⟨rfl, k, ns, b, q1⟩, hb⟩
theorem setRow_new (w : World) (c c' : Array Value) (t : TypeId) : (w.alloc (.cells c t)).setRow w.heap.size c' = w.alloc (.cells c' t) := by
  simp only [World.setRow, World.alloc]
  congr 1
  apply Array.ext_getElem?
  intro i
  rw [Array.getElem?_modify, Array.getElem?_push, Array.getElem?_push]
  by_cases e : w.heap.size = i
  · subst e; simp
  · rw [if_neg e, if_neg (Ne.symm e), if_neg (Ne.symm e)]
theorem HB.preQ {w : World} {b off c : Nat} {l : List Int} (h : HB w (.slice (some ⟨b, off, none⟩) l.length c) l) (i : Nat) (hi : i ≤ l.length) : HB w (.slice (some ⟨b, off, none⟩) i c) (l.take i) := by
  obtain ⟨⟨p, c', e, h1, h2, h3, h4⟩, h5⟩ := h
  cases e
  refine ⟨⟨_, c, by rw [List.length_take, Nat.min_eq_left hi], by rw [List.length_take]; omega, h2, (fun e => by cases e), fun hne => ⟨b, off, rfl, fun j hj => ?_⟩⟩, fun x hx => h5 x (List.mem_of_mem_take hx)⟩
  have hj2 : j < i := by rw [List.length_take] at hj; omega
  obtain ⟨b', off', e, hh⟩ := h4 (by intro e; rw [e] at hi; simp at hi; omega)
  cases e
  rw [hh j (by omega)]
  simp [List.getD, List.getElem?_take, hj2]
theorem elmB : Try.prog.elem 36 = 5 := by kernel_rfl
theorem slice_hB (W : World) (b off n c hi : Nat) (h1 : hi ≤ c) (h2 : 0 < c) : (Instr.slice 36 (.slice (some ⟨b, off, none⟩) n c) none (some (.int .i64 (hi : Int))) none).run Try.prog W = .ok (.slice (some ⟨b, off, none⟩) hi c) W := by
  have h := run_slice_h (P := Try.prog) W 36 (some ⟨b, off, none⟩) n c (by rw [elmB]; exact Try.underlying36) .i64 (hi : Int) (by omega) (by omega)
  rw [h, elmB, size_u8, Result.andThen_ok, Int.toNat_natCast]
  unfold sliced
  rw [if_neg (by omega)]
  simp [Go.WideShapes.add_plain]
/-- No beginning of a request's bytes is a request. -/
theorem cut_req {l : List Int} (hl : ∀ x ∈ l, 0 ≤ x ∧ x < 256) {r : Rq} {b : List Int} (g : rqGood l r b) {k : Nat} (hk : k < l.length) : ∀ r' b', ¬ rqGood (l.take k) r' b' := fun r' b' g' => by
  obtain ⟨q1, q2, q3, q4, q5, q6, q7⟩ := lay_read (fun x hx => hl x (List.mem_of_mem_take hx)) g'
  have := (more_bad r' b' (l.drop k) q3 ⟨q4, q5⟩ q1 (by intro e; have := congrArg List.length e; simp at this; omega)).1 r b
  rw [← q2, List.take_append_drop] at this
  exact this g
theorem long_req {l : List Int} (hl : ∀ x ∈ l, 0 ≤ x ∧ x < 256) {r : Rq} {b : List Int} (g : rqGood l r b) (x : Int) : (∀ r' b', ¬ rqGood (l ++ [x]) r' b') ∧ ∀ p, rqBad (l ++ [x]) p → p = l.length := by
  obtain ⟨q1, q2, q3, q4, q5, q6, q7⟩ := lay_read hl g
  have := more_bad r b [x] q3 ⟨q4, q5⟩ q1 (by simp)
  rw [← q2] at this
  exact this
theorem cut_rep {l : List Int} (hl : ∀ x ∈ l, 0 ≤ x ∧ x < 256) {k0 : Int} {ns b : List Int} (g : rpGood l k0 ns b) {k : Nat} (hk : k < l.length) : ∀ k' ns' b', ¬ rpGood (l.take k) k' ns' b' := fun k' ns' b' g' => by
  obtain ⟨q1, q2, q3, q4⟩ := lay_readP (fun x hx => hl x (List.mem_of_mem_take hx)) g'
  have hb' : ∀ x ∈ b', 0 ≤ x := fun x hx => by
    have : x ∈ l.take k := by
      rw [q2]
      unfold layP
      unfold mayP at q1
      split at q1
      · simp at q1
        obtain ⟨_, rfl⟩ := q1
        simp at hx
      · rename_i h1
        split at q1
        · rename_i h5
          rw [if_neg h1, if_pos h5]
          simp [hx]
        · simp at q1
          obtain ⟨_, _, rfl⟩ := q1
          simp at hx
    exact (hl x (List.mem_of_mem_take this)).1
  have := (more_badP k' ns' b' (l.drop k) q3 (fun x hx => (hl x (List.mem_of_mem_drop hx)).1) hb' q1 (by intro e; have := congrArg List.length e; simp at this; omega)).1 k0 ns b
  rw [← q2, List.take_append_drop] at this
  exact this g
theorem lay_b {k : Int} {ns b : List Int} (q1 : mayP k ns b.length = true) : ∀ x ∈ b, x ∈ layP k ns b := fun x hx => by
  unfold layP
  unfold mayP at q1
  split at q1
  · simp at q1
    obtain ⟨_, rfl⟩ := q1
    simp at hx
  · rename_i h1
    split at q1
    · rename_i h5
      rw [if_neg h1, if_pos h5]
      simp [hx]
    · simp at q1
      obtain ⟨_, _, rfl⟩ := q1
      simp at hx
theorem long_rep {l : List Int} (hl : ∀ x ∈ l, 0 ≤ x ∧ x < 256) {k0 : Int} {ns b : List Int} (g : rpGood l k0 ns b) (x : Int) (hx : 0 ≤ x) : (∀ k' ns' b', ¬ rpGood (l ++ [x]) k' ns' b') ∧ ∀ p, rpBad (l ++ [x]) p → p = l.length := by
  obtain ⟨q1, q2, q3, q4⟩ := lay_readP hl g
  have := more_badP k0 ns b [x] q3 (by simpa using hx) (fun y hy => (hl y (by rw [q2]; exact lay_b q1 y hy)).1) q1 (by simp)
  rw [← q2] at this
  exact this
set_option maxRecDepth 100000 in
set_option maxHeartbeats 32000000 in
theorem wcut_walk (w : World) (v : Value) (l : List Int) (hv : HB w v l) (hbig : l.length ≤ 140737488351232) (n : Int) (x : Int) (hx : 0 ≤ x ∧ x < 256) :
    Calls Try.prog 6 #[v, .int .i64 n, .int .u8 x] w fun e w' => e = .returned (.bool true) ∧ Below w.heap.size w w' := by
  have C0 := hid (lives_any w)
  have HL := hid hv.2
  have SR : Hid ((Try.prog.info? 38).map (·.size) = some 23) := hid (by kernel_rfl)
  have SP : Hid ((Try.prog.info? 42).map (·.size) = some 3) := hid (by kernel_rfl)
  obtain ⟨pv, cv, hve, hcl, hcm⟩ := hv.open
  have VV : Hid (∀ W, Below w.heap.size w W → HB W v l) := hid (fun W hW => hv.below hW)
  have hlI : (l.length : Int) ≤ 140737488351232 := by omega
  have hwr1 : IntKind.i64.wrap ((l.length : Int) + 1) = (l.length : Int) + 1 := by rw [IntKind.wrap_i64]; omega
  have CP := hid (fun W => pick_any W n ((l.length : Int) + 1) (by omega) (by omega))
  have hk0 := Int.emod_nonneg n (show (l.length : Int) + 1 ≠ 0 by omega)
  have hk1 := Int.emod_lt_of_pos n (show 0 < (l.length : Int) + 1 by omega)
  obtain ⟨k, hk⟩ := Int.eq_ofNat_of_zero_le hk0
  rw [hk] at hk1 CP
  have hkl : k ≤ l.length := by omega
  clear hk hk0 hk1
  subst hve
  go_enter Try.func6, Try.ntmps6
  go_wp2_with fail
  refine C0.out.mono ?_
  rintro e w1 ⟨rfl, hb1⟩
  have B1 := hid hb1
  clear hb1 C0
  have C1 := hid (reqE_any w1 _ l (VV.out w1 B1.out) (by omega))
  go_wp2_with fail
  refine C1.out.mono ?_
  rintro e w2 ⟨m2, p2, er2, rfl, z2, o2, g2, hb2⟩
  obtain ⟨W2, HW2⟩ : ∃ W : World, Hid (w2.alloc (.cells m2 38) = W) := ⟨_, hid rfl⟩
  have B2 : Hid (Below w.heap.size w W2) := hid (by rw [← HW2.out]; exact (B1.out.trans (hb2.mono B1.out.size)).alloc (Nat.le_trans B1.out.size hb2.size) _)
  have ZQ2 : Hid (23 = m2.size ∧ m2.all (·.oneCell') = true) := hid ⟨z2.symm, o2⟩
  have G2 := hid g2
  have C2 := hid (repE_any W2 _ l (VV.out W2 B2.out) (by omega))
  clear z2 o2 g2 hb2 C1
  go_wp2_with (first | (refine wpList_store_row rfl 38 _ _ rfl w2.heap.size m2 rfl rfl 38 zreq (heap_alloc_new w2 _) (by rw [← ZQ2.out.1]; exact SR.out) (by rw [← ZQ2.out.1]; rfl) ZQ2.out.2 ?_; rw [setRow_new, HW2.out]) | fail)
  refine C2.out.mono ?_
  rintro e w3 ⟨m3, p3, er3, rfl, z3, o3, g3, hb3⟩
  obtain ⟨W3, HW3⟩ : ∃ W : World, Hid (w3.alloc (.cells m3 42) = W) := ⟨_, hid rfl⟩
  have B3 : Hid (Below w.heap.size w W3) := hid (by rw [← HW3.out]; exact (B2.out.trans (hb3.mono B2.out.size)).alloc (Nat.le_trans B2.out.size hb3.size) _)
  have ZQ3 : Hid (3 = m3.size ∧ m3.all (·.oneCell') = true) := hid ⟨z3.symm, o3⟩
  have G3 := hid g3
  have CPK := hid (CP.out W3)
  clear z3 o3 g3 hb3 C2
  go_wp2_with (first | (refine wpList_store_row rfl 42 _ _ rfl w3.heap.size m3 rfl rfl 42 zrep (heap_alloc_new w3 _) (by rw [← ZQ3.out.1]; exact SP.out) (by rw [← ZQ3.out.1]; rfl) ZQ3.out.2 ?_; rw [setRow_new, HW3.out]) | rw [hwr1] | fail)
  refine CPK.out.mono ?_
  rintro e w4 ⟨rfl, hw4⟩
  subst hw4
  have ON : Hid (w4.ownsRow w4.heap.size 5 1 (.slice none 0 0) 0 ([] : List Value)) := hid ⟨rfl, .inl ⟨rfl, rfl⟩⟩
  clear CPK CP
  go_wp2_with (first | (at_builtin; refine wpList_append_HB rfl _ _ rfl w4.heap.size _ _ _ rfl ON.out _ _ rfl (VV.out w4 B3.out) ?q1 (Nat.le_refl _) ?_) | fail)
  case q1 => omega
  intro v5 w5 ho5 hg5
  have B5 : Hid (Below w.heap.size w w5) := hid (B3.out.grown hg5 B3.out.size (fun k e => by cases e))
  have O5 : Hid (w5.ownsRow w4.heap.size 5 1 v5 l.length (l.map (Value.int .u8))) := hid (by simpa using ho5)
  have hs5 : Hid (w4.heap.size ≤ w5.heap.size) := hid hg5.size
  obtain ⟨p5, c5, e5⟩ := own_slice O5.out
  obtain ⟨W6, HW6⟩ : ∃ W : World, Hid (w5.alloc (.cells #[.int .u8 x] 5) = W) := ⟨_, hid rfl⟩
  have B56 : Hid (Below w5.heap.size w5 W6) := by rw [← HW6.out]; exact hid ((Below.refl _ w5).alloc (Nat.le_refl _) _)
  have B6 : Hid (Below w.heap.size w W6) := hid (B5.out.trans (B56.out.mono B5.out.size))
  have O6 : Hid (W6.ownsRow w4.heap.size 5 1 v5 l.length (l.map (Value.int .u8))) := hid (own_ex O5.out (Ex.of_below (S := fun _ => False) B56.out) (fun _ _ _ e => e))
  have L6 : Hid (HB W6 (.slice (some ⟨w5.heap.size, 0, none⟩) 1 1) [x]) := hid (HB.lit (l := [x]) (by rw [← HW6.out]; exact heap_alloc_new w5 _) (by simp) (by simpa using hx))
  clear ho5 hg5 ON
  subst e5
  go_wp2_with (first | rw [HW6.out] | (at_builtin; refine wpList_append_HB rfl _ _ rfl w4.heap.size _ _ _ rfl O6.out _ _ rfl L6.out ?q2 (Nat.le_trans hs5.out B56.out.size) ?_) | fail)
  case q2 => simp; omega
  intro v7 w7 ho7 hg7
  have B7 : Hid (Below w.heap.size w w7) := hid (B6.out.grown hg7 B6.out.size (fun k e => Nat.le_trans B3.out.size (O6.out.lt k e).1))
  have H7 : Hid (∀ W, Below w7.heap.size w7 W → HB W v7 (l ++ [x])) := hid (fun W hW => (HB.of_own (by rw [List.length_append, List.map_append]; exact ho7) (fun y hy => by
    rcases List.mem_append.1 hy with h | h
    · exact HL.out y h
    · obtain rfl : y = x := by simpa using h
      exact hx)).below hW)
  obtain ⟨p7, c7, e7⟩ := own_slice ho7
  have V7 : Hid (∀ W, Below w7.heap.size w7 W → HB W (.slice pv l.length cv) l) := hid (fun W hW => VV.out W (B7.out.trans (hW.mono B7.out.size)))
  have BB7 : Hid (Below w7.heap.size w7 w7) := hid (Below.refl _ _)
  clear ho7 hg7 O5 O6 L6 B56 hs5
  subst e7
  rcases G2.out with ⟨h20, G2x⟩ | ⟨h20, -⟩ <;> subst h20 <;> rcases G3.out with ⟨h30, G3x⟩ | ⟨h30, -⟩ <;> subst h30 <;> clear G2 G3 <;> by_cases hlt : k < l.length
  ·
    have hltI : (k : Int) < (l.length : Int) := by omega
    obtain ⟨r, b, g⟩ := G2x
    have hlt0 : 0 < l.length := by omega
    obtain ⟨bb1, off1, cc1, hve1, -, -, -⟩ := (V7.out w7 BB7.out).ne hlt0
    obtain ⟨hpv1, hcv1⟩ : pv = some ⟨bb1, off1, none⟩ ∧ cv = cc1 := by cases hve1; exact ⟨rfl, rfl⟩
    subst hpv1 hcv1
    clear hve1
    have hsl := fun W => slice_hB W bb1 off1 l.length cv k (by omega) (by omega)
    have CA1 := hid (reqE_any w7 _ (l.take k) ((V7.out w7 BB7.out).preQ k (by omega)) (by rw [List.length_take]; omega))
    have NC1 := hid (cut_req HL.out g hlt)
    have NL1 := hid (long_req HL.out g x)
    clear g
    go_wp2_with fail
    refine CA1.out.mono ?_
    rintro e wa1 ⟨ma1, pa1, ea1, rfl, za1, oa1, ga1, hba1⟩
    obtain ⟨Wa1, HWa1⟩ : ∃ W : World, Hid (wa1.alloc (.cells ma1 38) = W) := ⟨_, hid rfl⟩
    have BWa1 : Hid (Below w7.heap.size w7 Wa1) := hid (by rw [← HWa1.out]; exact (BB7.out.trans (hba1.mono BB7.out.size)).alloc (Nat.le_trans BB7.out.size hba1.size) _)
    have ZQa1 : Hid (23 = ma1.size ∧ ma1.all (·.oneCell') = true) := hid ⟨za1.symm, oa1⟩
    have EA1 : ea1 = 200 := by
      rcases ga1 with ⟨_, q⟩ | ⟨q, _⟩
      · exact absurd q (by rintro ⟨r0, b0, q0⟩; exact NC1.out _ _ q0)
      · exact q
    have CB1 := hid (reqE_any Wa1 _ (l ++ [x]) (H7.out Wa1 BWa1.out) (by simp; omega))
    clear za1 oa1 ga1 hba1 CA1 NC1 hsl
    subst EA1
    go_wp2_with (first | (refine wpList_store_row rfl 38 _ _ rfl wa1.heap.size ma1 rfl rfl 38 zreq (heap_alloc_new wa1 _) (by rw [← ZQa1.out.1]; exact SR.out) (by rw [← ZQa1.out.1]; rfl) ZQa1.out.2 ?_; rw [setRow_new, HWa1.out]) | fail)
    refine CB1.out.mono ?_
    rintro e wb1 ⟨mb1, pb1, eb1, rfl, zb1, ob1, gb1, hbb1⟩
    obtain ⟨Wb1, HWb1⟩ : ∃ W : World, Hid (wb1.alloc (.cells mb1 38) = W) := ⟨_, hid rfl⟩
    have BWb1 : Hid (Below w7.heap.size w7 Wb1) := hid (by rw [← HWb1.out]; exact (BWa1.out.trans (hbb1.mono BWa1.out.size)).alloc (Nat.le_trans BWa1.out.size hbb1.size) _)
    have ZQb1 : Hid (23 = mb1.size ∧ mb1.all (·.oneCell') = true) := hid ⟨zb1.symm, ob1⟩
    have EB1 : eb1 = 200 ∧ pb1 = (l.length : Int) := by
      rcases gb1 with ⟨_, q⟩ | ⟨q, q'⟩
      · exact absurd q (by rintro ⟨r0, b0, q0⟩; exact NL1.out.1 _ _ q0)
      · exact ⟨q, NL1.out.2 _ q'⟩
    obtain ⟨EB11, EB21⟩ := EB1
    clear zb1 ob1 gb1 hbb1 CB1 NL1
    subst EB11 EB21
    go_wp2_with (first | (refine wpList_store_row rfl 38 _ _ rfl wb1.heap.size mb1 rfl rfl 38 zreq (heap_alloc_new wb1 _) (by rw [← ZQb1.out.1]; exact SR.out) (by rw [← ZQb1.out.1]; rfl) ZQb1.out.2 ?_; rw [setRow_new, HWb1.out]) | fail)
    obtain ⟨k0, ns, b, g⟩ := G3x
    have hsl := fun W => slice_hB W bb1 off1 l.length cv k (by omega) (by omega)
    have CA2 := hid (repE_any Wb1 _ (l.take k) ((V7.out Wb1 BWb1.out).preQ k (by omega)) (by rw [List.length_take]; omega))
    have NC2 := hid (cut_rep HL.out g hlt)
    have NL2 := hid (long_rep HL.out g x hx.1)
    clear g
    go_wp2_with fail
    refine CA2.out.mono ?_
    rintro e wa2 ⟨ma2, pa2, ea2, rfl, za2, oa2, ga2, hba2⟩
    obtain ⟨Wa2, HWa2⟩ : ∃ W : World, Hid (wa2.alloc (.cells ma2 42) = W) := ⟨_, hid rfl⟩
    have BWa2 : Hid (Below w7.heap.size w7 Wa2) := hid (by rw [← HWa2.out]; exact (BWb1.out.trans (hba2.mono BWb1.out.size)).alloc (Nat.le_trans BWb1.out.size hba2.size) _)
    have ZQa2 : Hid (3 = ma2.size ∧ ma2.all (·.oneCell') = true) := hid ⟨za2.symm, oa2⟩
    have EA2 : ea2 = 201 := by
      rcases ga2 with ⟨_, q⟩ | ⟨q, _⟩
      · exact absurd q (by rintro ⟨k1, n1, b1, q0⟩; exact NC2.out _ _ _ q0)
      · exact q
    have CB2 := hid (repE_any Wa2 _ (l ++ [x]) (H7.out Wa2 BWa2.out) (by simp; omega))
    clear za2 oa2 ga2 hba2 CA2 NC2 hsl
    subst EA2
    go_wp2_with (first | (refine wpList_store_row rfl 42 _ _ rfl wa2.heap.size ma2 rfl rfl 42 zrep (heap_alloc_new wa2 _) (by rw [← ZQa2.out.1]; exact SP.out) (by rw [← ZQa2.out.1]; rfl) ZQa2.out.2 ?_; rw [setRow_new, HWa2.out]) | fail)
    refine CB2.out.mono ?_
    rintro e wb2 ⟨mb2, pb2, eb2, rfl, zb2, ob2, gb2, hbb2⟩
    obtain ⟨Wb2, HWb2⟩ : ∃ W : World, Hid (wb2.alloc (.cells mb2 42) = W) := ⟨_, hid rfl⟩
    have BWb2 : Hid (Below w7.heap.size w7 Wb2) := hid (by rw [← HWb2.out]; exact (BWa2.out.trans (hbb2.mono BWa2.out.size)).alloc (Nat.le_trans BWa2.out.size hbb2.size) _)
    have ZQb2 : Hid (3 = mb2.size ∧ mb2.all (·.oneCell') = true) := hid ⟨zb2.symm, ob2⟩
    have EB2 : eb2 = 201 ∧ pb2 = (l.length : Int) := by
      rcases gb2 with ⟨_, q⟩ | ⟨q, q'⟩
      · exact absurd q (by rintro ⟨k1, n1, b1, q0⟩; exact NL2.out.1 _ _ _ q0)
      · exact ⟨q, NL2.out.2 _ q'⟩
    obtain ⟨EB12, EB22⟩ := EB2
    clear zb2 ob2 gb2 hbb2 CB2 NL2
    subst EB12 EB22
    go_wp2_with (first | (refine wpList_store_row rfl 42 _ _ rfl wb2.heap.size mb2 rfl rfl 42 zrep (heap_alloc_new wb2 _) (by rw [← ZQb2.out.1]; exact SP.out) (by rw [← ZQb2.out.1]; rfl) ZQb2.out.2 ?_; rw [setRow_new, HWb2.out]) | fail)
    go_ret
    exact ⟨rfl, B7.out.trans (BWb2.out.mono B7.out.size)⟩
  ·
    have hltI : ¬ ((k : Int) < (l.length : Int)) := by omega
    go_wp2_with fail
    go_ret
    exact ⟨rfl, B7.out.trans (BB7.out.mono B7.out.size)⟩
  ·
    have hltI : (k : Int) < (l.length : Int) := by omega
    obtain ⟨r, b, g⟩ := G2x
    have hlt0 : 0 < l.length := by omega
    obtain ⟨bb1, off1, cc1, hve1, -, -, -⟩ := (V7.out w7 BB7.out).ne hlt0
    obtain ⟨hpv1, hcv1⟩ : pv = some ⟨bb1, off1, none⟩ ∧ cv = cc1 := by cases hve1; exact ⟨rfl, rfl⟩
    subst hpv1 hcv1
    clear hve1
    have hsl := fun W => slice_hB W bb1 off1 l.length cv k (by omega) (by omega)
    have CA1 := hid (reqE_any w7 _ (l.take k) ((V7.out w7 BB7.out).preQ k (by omega)) (by rw [List.length_take]; omega))
    have NC1 := hid (cut_req HL.out g hlt)
    have NL1 := hid (long_req HL.out g x)
    clear g
    go_wp2_with fail
    refine CA1.out.mono ?_
    rintro e wa1 ⟨ma1, pa1, ea1, rfl, za1, oa1, ga1, hba1⟩
    obtain ⟨Wa1, HWa1⟩ : ∃ W : World, Hid (wa1.alloc (.cells ma1 38) = W) := ⟨_, hid rfl⟩
    have BWa1 : Hid (Below w7.heap.size w7 Wa1) := hid (by rw [← HWa1.out]; exact (BB7.out.trans (hba1.mono BB7.out.size)).alloc (Nat.le_trans BB7.out.size hba1.size) _)
    have ZQa1 : Hid (23 = ma1.size ∧ ma1.all (·.oneCell') = true) := hid ⟨za1.symm, oa1⟩
    have EA1 : ea1 = 200 := by
      rcases ga1 with ⟨_, q⟩ | ⟨q, _⟩
      · exact absurd q (by rintro ⟨r0, b0, q0⟩; exact NC1.out _ _ q0)
      · exact q
    have CB1 := hid (reqE_any Wa1 _ (l ++ [x]) (H7.out Wa1 BWa1.out) (by simp; omega))
    clear za1 oa1 ga1 hba1 CA1 NC1 hsl
    subst EA1
    go_wp2_with (first | (refine wpList_store_row rfl 38 _ _ rfl wa1.heap.size ma1 rfl rfl 38 zreq (heap_alloc_new wa1 _) (by rw [← ZQa1.out.1]; exact SR.out) (by rw [← ZQa1.out.1]; rfl) ZQa1.out.2 ?_; rw [setRow_new, HWa1.out]) | fail)
    refine CB1.out.mono ?_
    rintro e wb1 ⟨mb1, pb1, eb1, rfl, zb1, ob1, gb1, hbb1⟩
    obtain ⟨Wb1, HWb1⟩ : ∃ W : World, Hid (wb1.alloc (.cells mb1 38) = W) := ⟨_, hid rfl⟩
    have BWb1 : Hid (Below w7.heap.size w7 Wb1) := hid (by rw [← HWb1.out]; exact (BWa1.out.trans (hbb1.mono BWa1.out.size)).alloc (Nat.le_trans BWa1.out.size hbb1.size) _)
    have ZQb1 : Hid (23 = mb1.size ∧ mb1.all (·.oneCell') = true) := hid ⟨zb1.symm, ob1⟩
    have EB1 : eb1 = 200 ∧ pb1 = (l.length : Int) := by
      rcases gb1 with ⟨_, q⟩ | ⟨q, q'⟩
      · exact absurd q (by rintro ⟨r0, b0, q0⟩; exact NL1.out.1 _ _ q0)
      · exact ⟨q, NL1.out.2 _ q'⟩
    obtain ⟨EB11, EB21⟩ := EB1
    clear zb1 ob1 gb1 hbb1 CB1 NL1
    subst EB11 EB21
    go_wp2_with (first | (refine wpList_store_row rfl 38 _ _ rfl wb1.heap.size mb1 rfl rfl 38 zreq (heap_alloc_new wb1 _) (by rw [← ZQb1.out.1]; exact SR.out) (by rw [← ZQb1.out.1]; rfl) ZQb1.out.2 ?_; rw [setRow_new, HWb1.out]) | fail)
    go_ret
    exact ⟨rfl, B7.out.trans (BWb1.out.mono B7.out.size)⟩
  ·
    have hltI : ¬ ((k : Int) < (l.length : Int)) := by omega
    go_wp2_with fail
    go_ret
    exact ⟨rfl, B7.out.trans (BB7.out.mono B7.out.size)⟩
  ·
    have hltI : (k : Int) < (l.length : Int) := by omega
    obtain ⟨k0, ns, b, g⟩ := G3x
    have hlt0 : 0 < l.length := by omega
    obtain ⟨bb3, off3, cc3, hve3, -, -, -⟩ := (V7.out w7 BB7.out).ne hlt0
    obtain ⟨hpv3, hcv3⟩ : pv = some ⟨bb3, off3, none⟩ ∧ cv = cc3 := by cases hve3; exact ⟨rfl, rfl⟩
    subst hpv3 hcv3
    clear hve3
    have hsl := fun W => slice_hB W bb3 off3 l.length cv k (by omega) (by omega)
    have CA3 := hid (repE_any w7 _ (l.take k) ((V7.out w7 BB7.out).preQ k (by omega)) (by rw [List.length_take]; omega))
    have NC3 := hid (cut_rep HL.out g hlt)
    have NL3 := hid (long_rep HL.out g x hx.1)
    clear g
    go_wp2_with fail
    refine CA3.out.mono ?_
    rintro e wa3 ⟨ma3, pa3, ea3, rfl, za3, oa3, ga3, hba3⟩
    obtain ⟨Wa3, HWa3⟩ : ∃ W : World, Hid (wa3.alloc (.cells ma3 42) = W) := ⟨_, hid rfl⟩
    have BWa3 : Hid (Below w7.heap.size w7 Wa3) := hid (by rw [← HWa3.out]; exact (BB7.out.trans (hba3.mono BB7.out.size)).alloc (Nat.le_trans BB7.out.size hba3.size) _)
    have ZQa3 : Hid (3 = ma3.size ∧ ma3.all (·.oneCell') = true) := hid ⟨za3.symm, oa3⟩
    have EA3 : ea3 = 201 := by
      rcases ga3 with ⟨_, q⟩ | ⟨q, _⟩
      · exact absurd q (by rintro ⟨k1, n1, b1, q0⟩; exact NC3.out _ _ _ q0)
      · exact q
    have CB3 := hid (repE_any Wa3 _ (l ++ [x]) (H7.out Wa3 BWa3.out) (by simp; omega))
    clear za3 oa3 ga3 hba3 CA3 NC3 hsl
    subst EA3
    go_wp2_with (first | (refine wpList_store_row rfl 42 _ _ rfl wa3.heap.size ma3 rfl rfl 42 zrep (heap_alloc_new wa3 _) (by rw [← ZQa3.out.1]; exact SP.out) (by rw [← ZQa3.out.1]; rfl) ZQa3.out.2 ?_; rw [setRow_new, HWa3.out]) | fail)
    refine CB3.out.mono ?_
    rintro e wb3 ⟨mb3, pb3, eb3, rfl, zb3, ob3, gb3, hbb3⟩
    obtain ⟨Wb3, HWb3⟩ : ∃ W : World, Hid (wb3.alloc (.cells mb3 42) = W) := ⟨_, hid rfl⟩
    have BWb3 : Hid (Below w7.heap.size w7 Wb3) := hid (by rw [← HWb3.out]; exact (BWa3.out.trans (hbb3.mono BWa3.out.size)).alloc (Nat.le_trans BWa3.out.size hbb3.size) _)
    have ZQb3 : Hid (3 = mb3.size ∧ mb3.all (·.oneCell') = true) := hid ⟨zb3.symm, ob3⟩
    have EB3 : eb3 = 201 ∧ pb3 = (l.length : Int) := by
      rcases gb3 with ⟨_, q⟩ | ⟨q, q'⟩
      · exact absurd q (by rintro ⟨k1, n1, b1, q0⟩; exact NL3.out.1 _ _ _ q0)
      · exact ⟨q, NL3.out.2 _ q'⟩
    obtain ⟨EB13, EB23⟩ := EB3
    clear zb3 ob3 gb3 hbb3 CB3 NL3
    subst EB13 EB23
    go_wp2_with (first | (refine wpList_store_row rfl 42 _ _ rfl wb3.heap.size mb3 rfl rfl 42 zrep (heap_alloc_new wb3 _) (by rw [← ZQb3.out.1]; exact SP.out) (by rw [← ZQb3.out.1]; rfl) ZQb3.out.2 ?_; rw [setRow_new, HWb3.out]) | fail)
    go_ret
    exact ⟨rfl, B7.out.trans (BWb3.out.mono B7.out.size)⟩
  ·
    have hltI : ¬ ((k : Int) < (l.length : Int)) := by omega
    go_wp2_with fail
    go_ret
    exact ⟨rfl, B7.out.trans (BB7.out.mono B7.out.size)⟩
  ·
    have hltI : (k : Int) < (l.length : Int) := by omega
    go_wp2_with fail
    go_ret
    exact ⟨rfl, B7.out.trans (BB7.out.mono B7.out.size)⟩
  ·
    have hltI : ¬ ((k : Int) < (l.length : Int)) := by omega
    go_wp2_with fail
    go_ret
    exact ⟨rfl, B7.out.trans (BB7.out.mono B7.out.size)⟩
end Go.Proofs.Ytmegeogfpkdodaa
