/- Of the road to ringRoundCard_holds: RgRdW, ShaLaid. -/
import Derived.Test.YtjdfclbjmmmcfaaDoorG09
import Derived.Test.YtjdfclbjmmmcfaaDoorRows
import Derived.Test.YtjdfclbjmmmcfaaDoorG00
import Derived.ProofKit
import Derived.OpenShut
import Derived.LaidLaws
import Derived.Lay
import Derived.MakeChecks
set_option linter.unusedVariables false
set_option linter.unusedSimpArgs false
namespace Go.Proofs.YtjdfclbjmmmcfaaDoor
open Go Go.RowKit Go.Shelf
theorem run_stF22 (w : World) (a : Addr) (fn : Fn) (fi ca : Array Value) (m : Mode) : (store a (.func fn fi ca) m).run Tryd.prog w = stored Tryd.prog w a (.func fn fi ca) m := run_store _ w a _ m rfl
attribute [local go_sem] Oper.semAt_some run_stF22
theorem own_row1 {w : World} {B n c : Nat} {p : Option Addr} {xs : List Value} (h : w.ownsRow B 3 1 (.slice p n c) n xs) (h1 : 1 ≤ n) : ∃ g cur, p = some ⟨g, 0, none⟩ ∧ B ≤ g ∧ w.heap[g]? = some (.cells cur 3 (0, 0)) ∧ ∀ k, k < n → cur[k]? = xs[k]? := by
  rcases h.2 with ⟨_, e⟩ | ⟨g, cap, cur, e, hb, hh, _, _, _, ht⟩
  · omega
  · simp only [Value.slice.injEq] at e
    refine ⟨g, cur, e.1, hb, hh, fun k hk => ?_⟩
    rw [← ht, List.getElem?_take, if_pos (by omega), Array.getElem?_toList]
structure B3 (w : World) (cx : Array Value) (s : Int) (W : World) : Prop where
  hx : W.heap[w.heap.size]? = some (.cells cx 23 (0, 0))
  hs : W.heap[w.heap.size + 1]? = some (.cells #[.int .i64 s] 3 (0, 0))
  hr : W.heap[w.heap.size + 2]? = some (.cells #[.bool false] 4 (0, 0))
  bel : Below w.heap.size w W
theorem B3.below {w W W' : World} {cx : Array Value} {s : Int} (h : B3 w cx s W) (hB : Below W.heap.size W W') : B3 w cx s W' :=
  ⟨(hB.block _ (hp_lt h.hx)).trans h.hx, (hB.block _ (hp_lt h.hs)).trans h.hs, (hB.block _ (hp_lt h.hr)).trans h.hr, h.bel.trans (hB.mono h.bel.size)⟩
theorem B3.start (w : World) (cx : Array Value) (s : Int) : B3 w cx s (((w.alloc (.cells cx 23)).alloc (.cells #[.int .i64 s] 3)).alloc (.cells #[.bool false] 4)) := by
  have e0 : (w.alloc (.cells cx 23)).heap.size = w.heap.size + 1 := by simp
  have e1 : ((w.alloc (.cells cx 23)).alloc (.cells #[.int .i64 s] 3)).heap.size = w.heap.size + 2 := by simp
  refine ⟨?_, ?_, ?_, (((Below.refl _ w).alloc (Nat.le_refl _) _).alloc (by simp) _).alloc (by simp; omega) _⟩
  · rw [heap_alloc_old _ _ (by simp; omega), heap_alloc_old _ _ (by simp)]; exact heap_alloc_new w _
  · rw [heap_alloc_old _ _ (by rw [e1]; omega), ← e0]; exact heap_alloc_new _ _
  · rw [← e1]; exact heap_alloc_new _ _
set_option maxRecDepth 100000 in
set_option maxHeartbeats 16000000 in
theorem rdlaw_ok (w : World) (x : List Int) (n f0 : Nat) (f s : Int) (l : List Nat) (hx : X16 x) (h1 : 1 ≤ n) (h2 : n ≤ 32) (hf : -9223372036854775808 ≤ f ∧ f < 9223372036854775808) (hf0 : f % (n : Int) = (f0 : Int)) (hO : IsO (rgL x) n l) (hk : KC w) :
    Calls Tryd.prog 4 #[.agg (cellsB x), .int .i64 (n : Int), .int .i64 f, .int .i64 s] w fun e w' => e = .returned (.bool true) ∧ Below w.heap.size w w' := by
  have HIx := hid (size_ix hx)
  obtain ⟨cx, HCX⟩ : ∃ c, Hid (cellsB x = c) := ⟨_, rfl⟩
  rw [HCX.out] at HIx
  rw [HCX.out]
  have HK := hid hk
  have PL := hid hO.len
  have hfl : f0 < n := by have := Int.emod_lt_of_pos f (show (0 : Int) < n by omega); omega
  obtain ⟨W1, HW1⟩ : ∃ W1, Hid (((w.alloc (.cells cx 23)).alloc (.cells #[.int .i64 s] 3)).alloc (.cells #[.bool false] 4) = W1) := ⟨_, rfl⟩
  have Q1 : Hid (B3 w cx s W1) := by rw [← HW1.out]; exact B3.start w cx s
  have s1 : w.heap.size + 2 < W1.heap.size := hp_lt Q1.out.hr
  have C1 := hid (rround_ok W1 x n f0 f l hx h1 h2 hf hf0 hO)
  rw [HCX.out] at C1
  have CR : Hid (∀ W, KC W → Calls Tryd.prog 15 #[.agg cx, .int .i64 (n : Int), .int .i64 f] W fun e w' => ∃ a b c g l', e = .returned (.func (.func 25) #[] #[.pointer (some ⟨a, 0, none⟩), .pointer (some ⟨b, 0, none⟩), .pointer (some ⟨c, 0, none⟩)]) ∧ (W.heap.size ≤ a ∧ W.heap.size ≤ b ∧ W.heap.size ≤ c ∧ W.heap.size ≤ g) ∧ IsO (rgL x) n l' ∧ HRd w' a b c g n f0 l' ∧ Below W.heap.size W w') := hid fun W hW => by
    have := round_ok W x n f hx h1 h2 hf hW
    rw [HCX.out, hf0, Int.toNat_natCast] at this
    exact this
  have PO := hid hO
  clear hx hk hO hf0
  refine (callsIn_wide (n := 9)).1 ?_
  refine callsIn_of_wp_marks Tryd.func4 rfl trivial (wpIn_wide.2 ?_) rfl
  simp only [Tryd.ntmps4, List.size_toArray, List.length_cons, List.length_nil, Nat.reduceAdd, Nat.reduceSub, Array.replicate_succ, Array.replicate_zero, List.push_toArray, List.append_toArray, List.nil_append, List.cons_append]
  go_wp2_with (refine wpList_load_row rfl 23 _ rfl w.heap.size rfl 23 cx (0, 0) _ (by rw [HW1.out]; exact Q1.out.hx) Tryd.underlying23 rfl HIx.out ?_; rw [HW1.out])
  refine C1.out.mono ?_
  rintro e W2 ⟨v1, v2, rfl, ho1, ho2, hB2⟩
  obtain ⟨p1, c1, ev1⟩ := own_slcI ho1
  obtain ⟨p2, c2, ev2⟩ := own_slcI ho2
  subst ev1 ev2
  have O1 := hid ho1
  have O2 := hid ho2
  have Q2 := hid (Q1.out.below hB2)
  have s2 := hB2.size
  clear ho1 ho2 hB2 C1
  obtain ⟨W3, HW3⟩ : ∃ W3, Hid ((W2.alloc (.cells #[.slice p1 n c1] 24)).alloc (.cells #[.slice p2 n c2] 24) = W3) := ⟨_, rfl⟩
  have B23 : Hid (Below W2.heap.size W2 W3) := by rw [← HW3.out]; exact ((Below.refl _ W2).alloc (Nat.le_refl _) _).alloc (by simp) _
  have Q3 := hid (Q2.out.below B23.out)
  go_wp2_with (refine wpList_load_row rfl 23 _ rfl w.heap.size rfl 23 cx (0, 0) _ (by rw [HW3.out]; exact Q3.out.hx) Tryd.underlying23 rfl HIx.out ?_; rw [HW3.out])
  refine (CR.out W3 (HK.out.below Q3.out.bel)).mono ?_
  rintro e W4 ⟨a, b, c, g, l', rfl, ⟨hA, hB, hC, hG⟩, hO', hR', hB4⟩
  have el : l' = l := hO'.uniq PO.out
  rw [el] at hR'
  have Q4 := hid (Q3.out.below hB4)
  have s3 := B23.out.size
  have s4 := hB4.size
  have B24 : Hid (Below W2.heap.size W2 W4) := B23.out.trans (hB4.mono s3)
  have P9 : W4.heap[W2.heap.size]? = some (.cells #[.slice p1 n c1] 24 (0, 0)) := by
    rw [hB4.block _ (by rw [← HW3.out]; simp; omega), ← HW3.out, heap_alloc_old _ _ (by simp)]
    exact heap_alloc_new W2 _
  have P10 : W4.heap[W2.heap.size + 1]? = some (.cells #[.slice p2 n c2] 24 (0, 0)) := by
    rw [hB4.block _ (by rw [← HW3.out]; simp), ← HW3.out]
    have := heap_alloc_new (W2.alloc (.cells #[.slice p1 n c1] 24)) (.cells #[.slice p2 n c2] 24)
    rw [show (W2.alloc (.cells #[.slice p1 n c1] 24)).heap.size = W2.heap.size + 1 by simp] at this
    exact this
  have R4 := hid hR'
  obtain ⟨g1, cur1, eg1, hg1, G1, T1⟩ := own_row1 O1.out h1
  obtain ⟨g2, cur2, eg2, hg2, G2, T2⟩ := own_row1 O2.out h1
  have G14 : W4.heap[g1]? = some (.cells cur1 3 (0, 0)) := (B24.out.block _ (hp_lt G1)).trans G1
  have G24 : W4.heap[g2]? = some (.cells cur2 3 (0, 0)) := (B24.out.block _ (hp_lt G2)).trans G2
  have C1t : Hid (∀ k, k < n → cur1[k]? = some (.int .i64 (((f0 + k) % n : Nat) : Int))) := hid fun k hk => by
    have := T1 k hk
    rw [this]
    simp [rkL, hk]
  have C2t : Hid (∀ k, k < n → cur2[k]? = some (.int .i64 ((l.getD ((f0 + k) % n) 0 : Nat) : Int))) := hid fun k hk => by
    have := T2 k hk
    rw [this]
    simp [svL, hk]
  subst eg1 eg2
  have hws : w.heap.size + 2 < W1.heap.size := s1
  have lt1 := hp_lt G1
  have lt2 := hp_lt G2
  have hDl : Hid (∀ i, rdD a b c g i → i < W4.heap.size ∧ W3.heap.size ≤ i) := hid fun i hi => by
    rcases hi with rfl | rfl | rfl | rfl
    · exact ⟨hp_lt hR'.ha, hA⟩
    · exact ⟨hp_lt hR'.hb, hB⟩
    · exact ⟨hp_lt hR'.hc, hC⟩
    · exact ⟨hp_lt hR'.hg, hG⟩
  obtain ⟨W5, HW5⟩ : ∃ W5, Hid (W4.alloc (.cells #[.func (.func 25) #[] #[.pointer (some ⟨a, 0, none⟩), .pointer (some ⟨b, 0, none⟩), .pointer (some ⟨c, 0, none⟩)]] 37) = W5) := ⟨_, rfl⟩
  obtain ⟨B, HBB⟩ : ∃ B : List (Nat × Obj), Hid (B = [(w.heap.size + 1, Obj.cells #[.int .i64 s] 3 (0, 0)), (w.heap.size + 1 + 1, Obj.cells #[.bool false] 4 (0, 0)), (W2.heap.size, Obj.cells #[.slice (some ⟨g1, 0, none⟩) n c1] 24 (0, 0)), (W2.heap.size + 1, Obj.cells #[.slice (some ⟨g2, 0, none⟩) n c2] 24 (0, 0)), (g1, Obj.cells cur1 3 (0, 0)), (g2, Obj.cells cur2 3 (0, 0))] ++ [(W4.heap.size, Obj.cells #[.func (.func 25) #[] #[.pointer (some ⟨a, 0, none⟩), .pointer (some ⟨b, 0, none⟩), .pointer (some ⟨c, 0, none⟩)]] 37 (0, 0))]) := ⟨_, rfl⟩
  have M5 : Hid (MQ w B (rdD a b c g) W5) := by
    rw [← HW5.out, HBB.out]
    refine hid (MQ.alloc (w := w) (W := W4) ⟨fun p hp => ?_, fun i hi => by have := (hDl.out i hi).2; have := Q3.out.bel.size; omega, Q4.out.bel⟩ (fun i hi => (hDl.out i hi).1) _ _)
    simp only [List.mem_cons, List.not_mem_nil, or_false] at hp
    rcases hp with rfl | rfl | rfl | rfl | rfl | rfl
    · exact ⟨Q4.out.hs, fun q => by have := (hDl.out _ q).2; simp at this; omega⟩
    · exact ⟨Q4.out.hr, fun q => by have := (hDl.out _ q).2; simp at this; omega⟩
    · exact ⟨P9, fun q => by have := (hDl.out _ q).2; rw [← HW3.out] at this; simp only [World.size_alloc] at this; omega⟩
    · exact ⟨P10, fun q => by have := (hDl.out _ q).2; rw [← HW3.out] at this; simp only [World.size_alloc] at this; omega⟩
    · exact ⟨G14, fun q => by have := (hDl.out _ q).2; simp at this; omega⟩
    · exact ⟨G24, fun q => by have := (hDl.out _ q).2; simp at this; omega⟩
  have m1 : Hid ((w.heap.size + 1, Obj.cells #[.int .i64 s] 3 (0, 0)) ∈ B) := by rw [HBB.out]; refine hid ?_; simp
  have m2 : Hid ((w.heap.size + 1 + 1, Obj.cells #[.bool false] 4 (0, 0)) ∈ B) := by rw [HBB.out]; refine hid ?_; simp
  have m3 : Hid ((W2.heap.size, Obj.cells #[.slice (some ⟨g1, 0, none⟩) n c1] 24 (0, 0)) ∈ B) := by rw [HBB.out]; refine hid ?_; simp
  have m4 : Hid ((W2.heap.size + 1, Obj.cells #[.slice (some ⟨g2, 0, none⟩) n c2] 24 (0, 0)) ∈ B) := by rw [HBB.out]; refine hid ?_; simp
  have m5 : Hid ((g1, Obj.cells cur1 3 (0, 0)) ∈ B) := by rw [HBB.out]; refine hid ?_; simp
  have m6 : Hid ((g2, Obj.cells cur2 3 (0, 0)) ∈ B) := by rw [HBB.out]; refine hid ?_; simp
  have m7 : Hid ((W4.heap.size, Obj.cells #[.func (.func 25) #[] #[.pointer (some ⟨a, 0, none⟩), .pointer (some ⟨b, 0, none⟩), .pointer (some ⟨c, 0, none⟩)]] 37 (0, 0)) ∈ B) := by rw [HBB.out]; refine hid ?_; simp
  have K5 : Hid (KE (rdD a b c g) W4 W5) := hid (by rw [← HW5.out]; exact ⟨by simp, fun i hi => Below.heap_alloc _ _ _ (hDl.out i hi).1⟩)
  have R5 := hid (R4.out.keptE K5.out)
  have HD5 : Hid (∀ i, rdD a b c g i → i < W5.heap.size) := hid fun i hi => Nat.lt_of_lt_of_le (hDl.out i hi).1 K5.out.1
  clear hO' el hR' hB4 P9 P10 G1 G2 T1 T2 G14 G24 hA hB hC hG lt1 lt2 s1 s2 s3 s4 hws hg1 hg2
  have hnil := eql_seq2_nil
  go_wp2
  rw [HW5.out]
  obtain ⟨V0, HV0⟩ : ∃ V, Hid (W5.alloc (.cells #[.int .i64 0] 3) = V) := ⟨_, rfl⟩
  have s5 : W5.heap.size = W4.heap.size + 1 := by rw [← HW5.out]; simp
  have M0 : Hid (MQ w (B ++ [(W4.heap.size + 1, Obj.cells #[.int .i64 0] 3 (0, 0))]) (rdD a b c g) V0) := by rw [← HV0.out, ← s5]; exact hid (M5.out.alloc HD5.out _ _)
  have K0 : Hid (KE (rdD a b c g) W5 V0) := hid (by rw [← HV0.out]; exact ⟨by simp, fun i hi => Below.heap_alloc _ _ _ (HD5.out i hi)⟩)
  clear s5
  rw [HV0.out]
  refine wp_loop_rounds 4 ?_
  rw [rounds_succ]
  have c12 : V0.cell? ⟨W4.heap.size + 1, 0, none⟩ = some (.int .i64 0) := M0.out.cell (t := 3) (List.mem_append_right _ (by simp))
  have c11 : V0.cell? ⟨W4.heap.size, 0, none⟩ = some (.func (.func 25) #[] #[.pointer (some ⟨a, 0, none⟩), .pointer (some ⟨b, 0, none⟩), .pointer (some ⟨c, 0, none⟩)]) := M0.out.cell (t := 37) (List.mem_append_left _ m7.out)
  obtain ⟨Va0, HVa⟩ : ∃ Va, Hid (V0.alloc (.cells #[.int .i64 0] 3) = Va) := ⟨_, rfl⟩
  have HDV : Hid (∀ i, rdD a b c g i → i < V0.heap.size) := hid fun i hi => Nat.lt_of_lt_of_le (HD5.out i hi) K0.out.1
  have MA : Hid (MQ w ((B ++ [(W4.heap.size + 1, Obj.cells #[.int .i64 0] 3 (0, 0))]) ++ [(V0.heap.size, Obj.cells #[.int .i64 0] 3 (0, 0))]) (rdD a b c g) Va0) := by rw [← HVa.out]; exact hid (M0.out.alloc HDV.out _ _)
  have KA0 : Hid (KE (rdD a b c g) W5 Va0) := hid (K0.out.trans (by rw [← HVa.out]; exact ⟨by simp, fun i hi => Below.heap_alloc _ _ _ (HDV.out i hi)⟩))
  have sVa : Va0.heap.size = V0.heap.size + 1 := by rw [← HVa.out]; simp
  have HsVa0 := hid sVa
  obtain ⟨Mf0, HMf⟩ : ∃ Mf : Nat → List (Nat × Obj), Hid (∀ k : Nat, Mf k = ((B ++ [(W4.heap.size + 1, Obj.cells #[.int .i64 0] 3 (0, 0))]) ++ [(V0.heap.size, Obj.cells #[.int .i64 (k : Int)] 3 (0, 0))])) := ⟨_, fun _ => rfl⟩
  have hVw0 : w.heap.size ≤ V0.heap.size := M0.out.2.2.size
  have HN13 : Hid (∀ p ∈ (B ++ [(W4.heap.size + 1, Obj.cells #[.int .i64 0] 3 (0, 0))]), p.1 ≠ V0.heap.size) := hid fun p hp e => by have := hp_lt (M0.out.1 p hp).1; omega
  have c11a : (V0.alloc (.cells #[.int .i64 0] 3)).cell? ⟨W4.heap.size, 0, none⟩ = some (.func (.func 25) #[] #[.pointer (some ⟨a, 0, none⟩), .pointer (some ⟨b, 0, none⟩), .pointer (some ⟨c, 0, none⟩)]) := by
    rw [HVa.out]
    exact MA.out.cell (t := 37) (List.mem_append_left _ (List.mem_append_left _ m7.out))
  clear sVa c11
  go_wp2
  rename_i Kx hKx
  rw [HVa.out]
  clear c11a c12
  refine keyed (P := fun d W => (∃ k : Nat, k = n ∧ MQ w (Mf0 k) (fun i => rdD a b c g i ∨ i = d) W) ∧ Va0.heap.size ≤ d ∧ W.heap[d]? = some (.deferred (some [])) ∧ KE (rdD a b c g) Va0 W) (K := Kx) ?A0 ?key0 (fun key => ?main0)
  case main0 =>
    refine (wpIn_wide (n := 9)).1 ?_
    apply range_fitM rfl (by decide) (gf := 25) (lb := #[.pointer (some ⟨a, 0, none⟩), .pointer (some ⟨b, 0, none⟩), .pointer (some ⟨c, 0, none⟩)]) rfl trivial (enters_of Tryd.func25 (by kernel_rfl) rfl)
      (round_iterN (9 - 1) W5 a b c g n f0 l R5.out h1 h2 hfl PL.out) KA0.out (fun i hi => Nat.lt_of_lt_of_le (HD5.out i hi) KA0.out.1) (fun _ _ => rfl)
      w Mf0 (fun _ => True) (fun _ _ _ => False) ⟨fun _ _ _ _ h _ => h, fun _ _ _ _ _ h _ _ _ => h, fun _ _ _ _ h _ => h⟩ ⟨trivial, by rw [HMf.out 0]; exact MA.out⟩
    case hassign =>
      intro l k v W K hK
      gi_wp2
      exact hK
    case hdone =>
      intro d W hd _ hM hdf hke
      show Kx _ _
      exact key d W ⟨⟨n, rfl, hM⟩, hd, hdf, hke⟩
    case hstop =>
      intro d cc W _ h _ _
      exact h.elim
    case hbody =>
      rintro lp k v E W hEl hrl - hM hfit hDE hE hke hk
      subst hfit
      rw [HMf.out k] at hM
      obtain ⟨qr, HQr⟩ : ∃ q, Hid ((f0 + k) % n = q) := ⟨_, rfl⟩
      have hqi : ((f0 : Int) + (k : Int)) % (n : Int) = (qr : Int) := by
        rw [← HQr.out]
        simp
      have cg1 : W.cell? ⟨g1, k, none⟩ = some (.int .i64 (((f0 + k) % n : Nat) : Int)) := (cell_of_row _ _ _ _ _ _ (hM.at (List.mem_append_left _ (List.mem_append_left _ m5.out)))).trans (C1t.out k hk)
      have cg2 : W.cell? ⟨g2, k, none⟩ = some (.int .i64 ((l.getD ((f0 + k) % n) 0 : Nat) : Int)) := (cell_of_row _ _ _ _ _ _ (hM.at (List.mem_append_left _ (List.mem_append_left _ m6.out)))).trans (C2t.out k hk)
      rw [HQr.out] at cg1 cg2 ⊢
      rw [hqi]
      generalize l.getD qr 0 = y at cg2 ⊢
      have c9 : W.cell? ⟨W2.heap.size, 0, none⟩ = some (.slice (some ⟨g1, 0, none⟩) n c1) := hM.cell (t := 24) (List.mem_append_left _ (List.mem_append_left _ m3.out))
      have c10 : W.cell? ⟨W2.heap.size + 1, 0, none⟩ = some (.slice (some ⟨g2, 0, none⟩) n c2) := hM.cell (t := 24) (List.mem_append_left _ (List.mem_append_left _ m4.out))
      have c7 : W.cell? ⟨w.heap.size + 1, 0, none⟩ = some (.int .i64 s) := hM.cell (t := 3) (List.mem_append_left _ (List.mem_append_left _ m1.out))
      have c12 : W.cell? ⟨W4.heap.size + 1, 0, none⟩ = some (.int .i64 0) := hM.cell (t := 3) (List.mem_append_left _ (List.mem_append_right _ (by simp)))
      have c13 : W.cell? ⟨V0.heap.size, 0, none⟩ = some (.int .i64 (k : Int)) := hM.cell (t := 3) (List.mem_append_right _ (by simp))
      have f13 : W.frozen? ⟨V0.heap.size, 0, none⟩ = false := hM.free (cs := #[.int .i64 (k : Int)]) (t := 3) (List.mem_append_right _ (by simp)) 0
      have nE13 : ¬ E V0.heap.size := (hM.1 (V0.heap.size, Obj.cells #[.int .i64 (k : Int)] 3 (0, 0)) (List.mem_append_right _ (by simp))).2
      have nq13 : ¬ (W4.heap.size + 1 = V0.heap.size) := HN13.out (W4.heap.size + 1, Obj.cells #[.int .i64 0] 3 (0, 0)) (List.mem_append_right _ (by simp))
      have nw13 : ¬ (w.heap.size + 1 = V0.heap.size) := HN13.out _ (List.mem_append_left _ m1.out)
      have n11 : ¬ (W4.heap.size = V0.heap.size) := HN13.out _ (List.mem_append_left _ m7.out)
      have n9 : ¬ (W2.heap.size = V0.heap.size) := HN13.out _ (List.mem_append_left _ m3.out)
      have n10 : ¬ (W2.heap.size + 1 = V0.heap.size) := HN13.out _ (List.mem_append_left _ m4.out)
      have FM : Hid (MQ w ((B ++ [(W4.heap.size + 1, Obj.cells #[.int .i64 0] 3 (0, 0))]) ++ [(V0.heap.size, Obj.cells #[.int .i64 ((k + 1 : Nat) : Int)] 3 (0, 0))]) E (W.setCell ⟨V0.heap.size, 0, none⟩ (.int .i64 ((k + 1 : Nat) : Int)))) := hid (hM.set hVw0 HN13.out)
      rw [← HMf.out (k + 1), show ((k + 1 : Nat) : Int) = (k : Int) + 1 by omega] at FM
      obtain ⟨W', HW'⟩ : ∃ W', Hid (W.setCell ⟨V0.heap.size, 0, none⟩ (.int .i64 ((k : Int) + 1)) = W') := ⟨_, rfl⟩
      rw [HW'.out] at FM
      have FE : Hid (KE E W W') := hid (by
        rw [← HW'.out]
        exact ⟨by simp, fun i hi => heap_setCell_other _ _ _ _ (fun e => nE13 (by simp at e; rw [← e]; exact hi))⟩)
      have HM := hid hM
      have hkn : ¬ ((n : Int) ≤ (k : Int)) := by omega
      have hkb : (k : Int) + 1 ≤ 33 := by omega
      clear hM hqi
      gi_wp2
      rw [HW'.out]
      first | exact ⟨FE.out, trivial, FM.out⟩ | exact ⟨FE.out, FM.out⟩
  case key0 =>
    rintro d0 Wd0 ⟨⟨k, hkc, hM⟩, hd, hdf, hke⟩
    have Hd0 := hid hd
    refine hKx _ _ ?_
    clear hKx
    rw [HMf.out k] at hM
    rw [hkc] at hM
    clear hkc
    have c10 : Wd0.cell? ⟨W2.heap.size + 1, 0, none⟩ = some (.slice (some ⟨g2, 0, none⟩) n c2) := hM.cell (t := 24) (List.mem_append_left _ (List.mem_append_left _ m4.out))
    have c12 : Wd0.cell? ⟨W4.heap.size + 1, 0, none⟩ = some (.int .i64 0) := hM.cell (t := 3) (List.mem_append_left _ (List.mem_append_right _ (by simp)))
    have c13 : Wd0.cell? ⟨V0.heap.size, 0, none⟩ = some (.int .i64 (n : Int)) := hM.cell (t := 3) (List.mem_append_right _ (by simp))
    have MB : Hid (MQ w (B ++ [(d0, Obj.deferred (some []))]) (rdD a b c g) Wd0) := hid ⟨fun p hp => by
      rcases List.mem_append.1 hp with z | z
      · have := hM.1 p (List.mem_append_left _ (List.mem_append_left _ z))
        exact ⟨this.1, fun q => this.2 (.inl q)⟩
      · obtain rfl : p = (d0, Obj.deferred (some [])) := by simpa using z
        exact ⟨hdf, fun q => by have := HDV.out _ q; have := HsVa0.out; simp at *; omega⟩, fun i hi => hM.2.1 i (.inl hi), hM.2.2⟩
    have KD0 : Hid (KE (rdD a b c g) W5 Wd0) := hid (KA0.out.trans hke)
    have HDd : Hid (∀ i, rdD a b c g i → i < Wd0.heap.size) := hid fun i hi => Nat.lt_of_lt_of_le (HD5.out i hi) KD0.out.1
    obtain ⟨V1, HV⟩ : ∃ V, Hid (Wd0.alloc (.cells #[.int .i64 1] 3) = V) := ⟨_, rfl⟩
    have M1 : Hid (MQ w ((B ++ [(d0, Obj.deferred (some []))]) ++ [(Wd0.heap.size, Obj.cells #[.int .i64 1] 3 (0, 0))]) (rdD a b c g) V1) := by rw [← HV.out]; exact hid (MB.out.alloc HDd.out _ _)
    have K1 : Hid (KE (rdD a b c g) W5 V1) := hid (KD0.out.trans (by rw [← HV.out]; exact ⟨by simp, fun i hi => Below.heap_alloc _ _ _ (HDd.out i hi)⟩))
    clear hM hdf hke hd
    go_wp2
    rw [HV.out]
    clear c10 c12 c13
    rw [rounds_succ]
    have c12 : V1.cell? ⟨Wd0.heap.size, 0, none⟩ = some (.int .i64 1) := M1.out.cell (t := 3) (List.mem_append_right _ (by simp))
    have c11 : V1.cell? ⟨W4.heap.size, 0, none⟩ = some (.func (.func 25) #[] #[.pointer (some ⟨a, 0, none⟩), .pointer (some ⟨b, 0, none⟩), .pointer (some ⟨c, 0, none⟩)]) := M1.out.cell (t := 37) (List.mem_append_left _ (List.mem_append_left _ m7.out))
    obtain ⟨Va1, HVa⟩ : ∃ Va, Hid (V1.alloc (.cells #[.int .i64 0] 3) = Va) := ⟨_, rfl⟩
    have HDV : Hid (∀ i, rdD a b c g i → i < V1.heap.size) := hid fun i hi => Nat.lt_of_lt_of_le (HD5.out i hi) K1.out.1
    have MA : Hid (MQ w (((B ++ [(d0, Obj.deferred (some []))]) ++ [(Wd0.heap.size, Obj.cells #[.int .i64 1] 3 (0, 0))]) ++ [(V1.heap.size, Obj.cells #[.int .i64 0] 3 (0, 0))]) (rdD a b c g) Va1) := by rw [← HVa.out]; exact hid (M1.out.alloc HDV.out _ _)
    have KA1 : Hid (KE (rdD a b c g) W5 Va1) := hid (K1.out.trans (by rw [← HVa.out]; exact ⟨by simp, fun i hi => Below.heap_alloc _ _ _ (HDV.out i hi)⟩))
    have sVa : Va1.heap.size = V1.heap.size + 1 := by rw [← HVa.out]; simp
    have HsVa1 := hid sVa
    obtain ⟨Mf1, HMf⟩ : ∃ Mf : Nat → List (Nat × Obj), Hid (∀ k : Nat, Mf k = (((B ++ [(d0, Obj.deferred (some []))]) ++ [(Wd0.heap.size, Obj.cells #[.int .i64 1] 3 (0, 0))]) ++ [(V1.heap.size, Obj.cells #[.int .i64 (k : Int)] 3 (0, 0))])) := ⟨_, fun _ => rfl⟩
    have hVw1 : w.heap.size ≤ V1.heap.size := M1.out.2.2.size
    have HN13 : Hid (∀ p ∈ ((B ++ [(d0, Obj.deferred (some []))]) ++ [(Wd0.heap.size, Obj.cells #[.int .i64 1] 3 (0, 0))]), p.1 ≠ V1.heap.size) := hid fun p hp e => by have := hp_lt (M1.out.1 p hp).1; omega
    have c11a : (V1.alloc (.cells #[.int .i64 0] 3)).cell? ⟨W4.heap.size, 0, none⟩ = some (.func (.func 25) #[] #[.pointer (some ⟨a, 0, none⟩), .pointer (some ⟨b, 0, none⟩), .pointer (some ⟨c, 0, none⟩)]) := by
      rw [HVa.out]
      exact MA.out.cell (t := 37) (List.mem_append_left _ (List.mem_append_left _ (List.mem_append_left _ m7.out)))
    clear sVa c11
    go_wp2
    rename_i Kx hKx
    rw [HVa.out]
    clear c11a c12
    refine keyed (P := fun d W => (∃ k : Nat, True ∧ MQ w (Mf1 k) (fun i => rdD a b c g i ∨ i = d) W) ∧ Va1.heap.size ≤ d ∧ W.heap[d]? = some (.deferred (some [])) ∧ KE (rdD a b c g) Va1 W) (K := Kx) ?A1 ?key1 (fun key => ?main1)
    case main1 =>
      refine (wpIn_wide (n := 9)).1 ?_
      apply range_fitM rfl (by decide) (gf := 25) (lb := #[.pointer (some ⟨a, 0, none⟩), .pointer (some ⟨b, 0, none⟩), .pointer (some ⟨c, 0, none⟩)]) rfl trivial (enters_of Tryd.func25 (by kernel_rfl) rfl)
        (round_iterN (9 - 1) W5 a b c g n f0 l R5.out h1 h2 hfl PL.out) KA1.out (fun i hi => Nat.lt_of_lt_of_le (HD5.out i hi) KA1.out.1) (fun _ _ => rfl)
        w Mf1 (fun _ => True) (fun c E W => c = Code.exit 2 ∧ ∃ k : Nat, MQ w (Mf1 k) E W) (jn_MX w Mf1 (fun c => c = Code.exit 2)) ⟨trivial, by rw [HMf.out 0]; exact MA.out⟩
      case hassign =>
        intro l k v W K hK
        gi_wp2
        exact hK
      case hdone =>
        intro d W hd _ hM hdf hke
        show Kx _ _
        exact key d W ⟨⟨n, trivial, hM⟩, hd, hdf, hke⟩
      case hstop =>
        rintro d cc W hd ⟨rfl, k, hM⟩ hdf hke
        refine wpIn_wide.2 ?_
        refine wp_exit ?_
        show Kx _ _
        exact key d W ⟨⟨k, trivial, hM⟩, hd, hdf, hke⟩
      case hbody =>
        rintro lp k v E W hEl hrl - hM hfit hDE hE hke hk
        subst hfit
        rw [HMf.out k] at hM
        obtain ⟨qr, HQr⟩ : ∃ q, Hid ((f0 + k) % n = q) := ⟨_, rfl⟩
        have hqi : ((f0 : Int) + (k : Int)) % (n : Int) = (qr : Int) := by
          rw [← HQr.out]
          simp
        have cg1 : W.cell? ⟨g1, k, none⟩ = some (.int .i64 (((f0 + k) % n : Nat) : Int)) := (cell_of_row _ _ _ _ _ _ (hM.at (List.mem_append_left _ (List.mem_append_left _ (List.mem_append_left _ m5.out))))).trans (C1t.out k hk)
        have cg2 : W.cell? ⟨g2, k, none⟩ = some (.int .i64 ((l.getD ((f0 + k) % n) 0 : Nat) : Int)) := (cell_of_row _ _ _ _ _ _ (hM.at (List.mem_append_left _ (List.mem_append_left _ (List.mem_append_left _ m6.out))))).trans (C2t.out k hk)
        rw [HQr.out] at cg1 cg2 ⊢
        rw [hqi]
        generalize l.getD qr 0 = y at cg2 ⊢
        have c9 : W.cell? ⟨W2.heap.size, 0, none⟩ = some (.slice (some ⟨g1, 0, none⟩) n c1) := hM.cell (t := 24) (List.mem_append_left _ (List.mem_append_left _ (List.mem_append_left _ m3.out)))
        have c10 : W.cell? ⟨W2.heap.size + 1, 0, none⟩ = some (.slice (some ⟨g2, 0, none⟩) n c2) := hM.cell (t := 24) (List.mem_append_left _ (List.mem_append_left _ (List.mem_append_left _ m4.out)))
        have c7 : W.cell? ⟨w.heap.size + 1, 0, none⟩ = some (.int .i64 s) := hM.cell (t := 3) (List.mem_append_left _ (List.mem_append_left _ (List.mem_append_left _ m1.out)))
        have c12 : W.cell? ⟨Wd0.heap.size, 0, none⟩ = some (.int .i64 1) := hM.cell (t := 3) (List.mem_append_left _ (List.mem_append_right _ (by simp)))
        have c13 : W.cell? ⟨V1.heap.size, 0, none⟩ = some (.int .i64 (k : Int)) := hM.cell (t := 3) (List.mem_append_right _ (by simp))
        have f13 : W.frozen? ⟨V1.heap.size, 0, none⟩ = false := hM.free (cs := #[.int .i64 (k : Int)]) (t := 3) (List.mem_append_right _ (by simp)) 0
        have nE13 : ¬ E V1.heap.size := (hM.1 (V1.heap.size, Obj.cells #[.int .i64 (k : Int)] 3 (0, 0)) (List.mem_append_right _ (by simp))).2
        have nq13 : ¬ (Wd0.heap.size = V1.heap.size) := HN13.out (Wd0.heap.size, Obj.cells #[.int .i64 1] 3 (0, 0)) (List.mem_append_right _ (by simp))
        have nw13 : ¬ (w.heap.size + 1 = V1.heap.size) := HN13.out _ (List.mem_append_left _ (List.mem_append_left _ m1.out))
        have n11 : ¬ (W4.heap.size = V1.heap.size) := HN13.out _ (List.mem_append_left _ (List.mem_append_left _ m7.out))
        have n9 : ¬ (W2.heap.size = V1.heap.size) := HN13.out _ (List.mem_append_left _ (List.mem_append_left _ m3.out))
        have n10 : ¬ (W2.heap.size + 1 = V1.heap.size) := HN13.out _ (List.mem_append_left _ (List.mem_append_left _ m4.out))
        have FM : Hid (MQ w (((B ++ [(d0, Obj.deferred (some []))]) ++ [(Wd0.heap.size, Obj.cells #[.int .i64 1] 3 (0, 0))]) ++ [(V1.heap.size, Obj.cells #[.int .i64 ((k + 1 : Nat) : Int)] 3 (0, 0))]) E (W.setCell ⟨V1.heap.size, 0, none⟩ (.int .i64 ((k + 1 : Nat) : Int)))) := hid (hM.set hVw1 HN13.out)
        rw [← HMf.out (k + 1), show ((k + 1 : Nat) : Int) = (k : Int) + 1 by omega] at FM
        obtain ⟨W', HW'⟩ : ∃ W', Hid (W.setCell ⟨V1.heap.size, 0, none⟩ (.int .i64 ((k : Int) + 1)) = W') := ⟨_, rfl⟩
        rw [HW'.out] at FM
        have FE : Hid (KE E W W') := hid (by
          rw [← HW'.out]
          exact ⟨by simp, fun i hi => heap_setCell_other _ _ _ _ (fun e => nE13 (by simp at e; rw [← e]; exact hi))⟩)
        have HM := hid hM
        have hkn : ¬ ((n : Int) ≤ (k : Int)) := by omega
        have hkb : (k : Int) + 1 ≤ 33 := by omega
        clear hM hqi
        by_cases hst : s ≤ (k : Int) + 1
        · gi_wp2
          rw [HW'.out]
          first | exact ⟨FE.out, rfl, k + 1, FM.out⟩ | exact ⟨FE.out, k + 1, FM.out⟩
        · gi_wp2
          rw [HW'.out]
          first | exact ⟨FE.out, trivial, FM.out⟩ | exact ⟨FE.out, FM.out⟩
    case key1 =>
      rintro d1 Wd1 ⟨⟨k, hkc, hM⟩, hd, hdf, hke⟩
      have Hd1 := hid hd
      refine hKx _ _ ?_
      clear hKx
      rw [HMf.out k] at hM
      have c10 : Wd1.cell? ⟨W2.heap.size + 1, 0, none⟩ = some (.slice (some ⟨g2, 0, none⟩) n c2) := hM.cell (t := 24) (List.mem_append_left _ (List.mem_append_left _ (List.mem_append_left _ m4.out)))
      have c12 : Wd1.cell? ⟨Wd0.heap.size, 0, none⟩ = some (.int .i64 1) := hM.cell (t := 3) (List.mem_append_left _ (List.mem_append_right _ (by simp)))
      have c13 : Wd1.cell? ⟨V1.heap.size, 0, none⟩ = some (.int .i64 (k : Int)) := hM.cell (t := 3) (List.mem_append_right _ (by simp))
      have MB : Hid (MQ w ((B ++ [(d0, Obj.deferred (some []))]) ++ [(d1, Obj.deferred (some []))]) (rdD a b c g) Wd1) := hid ⟨fun p hp => by
        rcases List.mem_append.1 hp with z | z
        · have := hM.1 p (List.mem_append_left _ (List.mem_append_left _ z))
          exact ⟨this.1, fun q => this.2 (.inl q)⟩
        · obtain rfl : p = (d1, Obj.deferred (some [])) := by simpa using z
          exact ⟨hdf, fun q => by have := HDV.out _ q; have := HsVa1.out; simp at *; omega⟩, fun i hi => hM.2.1 i (.inl hi), hM.2.2⟩
      have KD1 : Hid (KE (rdD a b c g) W5 Wd1) := hid (KA1.out.trans hke)
      have HDd : Hid (∀ i, rdD a b c g i → i < Wd1.heap.size) := hid fun i hi => Nat.lt_of_lt_of_le (HD5.out i hi) KD1.out.1
      obtain ⟨V2, HV⟩ : ∃ V, Hid (Wd1.alloc (.cells #[.int .i64 2] 3) = V) := ⟨_, rfl⟩
      have M2 : Hid (MQ w (((B ++ [(d0, Obj.deferred (some []))]) ++ [(d1, Obj.deferred (some []))]) ++ [(Wd1.heap.size, Obj.cells #[.int .i64 2] 3 (0, 0))]) (rdD a b c g) V2) := by rw [← HV.out]; exact hid (MB.out.alloc HDd.out _ _)
      have K2 : Hid (KE (rdD a b c g) W5 V2) := hid (KD1.out.trans (by rw [← HV.out]; exact ⟨by simp, fun i hi => Below.heap_alloc _ _ _ (HDd.out i hi)⟩))
      clear hM hdf hke hd
      go_wp2
      rw [HV.out]
      clear c10 c12 c13
      rw [rounds_succ]
      have c12 : V2.cell? ⟨Wd1.heap.size, 0, none⟩ = some (.int .i64 2) := M2.out.cell (t := 3) (List.mem_append_right _ (by simp))
      have c11 : V2.cell? ⟨W4.heap.size, 0, none⟩ = some (.func (.func 25) #[] #[.pointer (some ⟨a, 0, none⟩), .pointer (some ⟨b, 0, none⟩), .pointer (some ⟨c, 0, none⟩)]) := M2.out.cell (t := 37) (List.mem_append_left _ (List.mem_append_left _ (List.mem_append_left _ m7.out)))
      obtain ⟨Va2, HVa⟩ : ∃ Va, Hid (V2.alloc (.cells #[.int .i64 0] 3) = Va) := ⟨_, rfl⟩
      have HDV : Hid (∀ i, rdD a b c g i → i < V2.heap.size) := hid fun i hi => Nat.lt_of_lt_of_le (HD5.out i hi) K2.out.1
      have MA : Hid (MQ w ((((B ++ [(d0, Obj.deferred (some []))]) ++ [(d1, Obj.deferred (some []))]) ++ [(Wd1.heap.size, Obj.cells #[.int .i64 2] 3 (0, 0))]) ++ [(V2.heap.size, Obj.cells #[.int .i64 0] 3 (0, 0))]) (rdD a b c g) Va2) := by rw [← HVa.out]; exact hid (M2.out.alloc HDV.out _ _)
      have KA2 : Hid (KE (rdD a b c g) W5 Va2) := hid (K2.out.trans (by rw [← HVa.out]; exact ⟨by simp, fun i hi => Below.heap_alloc _ _ _ (HDV.out i hi)⟩))
      have sVa : Va2.heap.size = V2.heap.size + 1 := by rw [← HVa.out]; simp
      have HsVa2 := hid sVa
      obtain ⟨Mf2, HMf⟩ : ∃ Mf : Nat → List (Nat × Obj), Hid (∀ k : Nat, Mf k = ((((B ++ [(d0, Obj.deferred (some []))]) ++ [(d1, Obj.deferred (some []))]) ++ [(Wd1.heap.size, Obj.cells #[.int .i64 2] 3 (0, 0))]) ++ [(V2.heap.size, Obj.cells #[.int .i64 (k : Int)] 3 (0, 0))])) := ⟨_, fun _ => rfl⟩
      have hVw2 : w.heap.size ≤ V2.heap.size := M2.out.2.2.size
      have HN13 : Hid (∀ p ∈ (((B ++ [(d0, Obj.deferred (some []))]) ++ [(d1, Obj.deferred (some []))]) ++ [(Wd1.heap.size, Obj.cells #[.int .i64 2] 3 (0, 0))]), p.1 ≠ V2.heap.size) := hid fun p hp e => by have := hp_lt (M2.out.1 p hp).1; omega
      have c11a : (V2.alloc (.cells #[.int .i64 0] 3)).cell? ⟨W4.heap.size, 0, none⟩ = some (.func (.func 25) #[] #[.pointer (some ⟨a, 0, none⟩), .pointer (some ⟨b, 0, none⟩), .pointer (some ⟨c, 0, none⟩)]) := by
        rw [HVa.out]
        exact MA.out.cell (t := 37) (List.mem_append_left _ (List.mem_append_left _ (List.mem_append_left _ (List.mem_append_left _ m7.out))))
      clear sVa c11
      go_wp2
      rename_i Kx hKx
      rw [HVa.out]
      clear c11a c12
      refine keyed (P := fun d W => (∃ k : Nat, k = n ∧ MQ w (Mf2 k) (fun i => rdD a b c g i ∨ i = d) W) ∧ Va2.heap.size ≤ d ∧ W.heap[d]? = some (.deferred (some [])) ∧ KE (rdD a b c g) Va2 W) (K := Kx) ?A2 ?key2 (fun key => ?main2)
      case main2 =>
        refine (wpIn_wide (n := 9)).1 ?_
        apply range_fitM rfl (by decide) (gf := 25) (lb := #[.pointer (some ⟨a, 0, none⟩), .pointer (some ⟨b, 0, none⟩), .pointer (some ⟨c, 0, none⟩)]) rfl trivial (enters_of Tryd.func25 (by kernel_rfl) rfl)
          (round_iterN (9 - 1) W5 a b c g n f0 l R5.out h1 h2 hfl PL.out) KA2.out (fun i hi => Nat.lt_of_lt_of_le (HD5.out i hi) KA2.out.1) (fun _ _ => rfl)
          w Mf2 (fun _ => True) (fun _ _ _ => False) ⟨fun _ _ _ _ h _ => h, fun _ _ _ _ _ h _ _ _ => h, fun _ _ _ _ h _ => h⟩ ⟨trivial, by rw [HMf.out 0]; exact MA.out⟩
        case hassign =>
          intro l k v W K hK
          gi_wp2
          exact hK
        case hdone =>
          intro d W hd _ hM hdf hke
          show Kx _ _
          exact key d W ⟨⟨n, rfl, hM⟩, hd, hdf, hke⟩
        case hstop =>
          intro d cc W _ h _ _
          exact h.elim
        case hbody =>
          rintro lp k v E W hEl hrl - hM hfit hDE hE hke hk
          subst hfit
          rw [HMf.out k] at hM
          obtain ⟨qr, HQr⟩ : ∃ q, Hid ((f0 + k) % n = q) := ⟨_, rfl⟩
          have hqi : ((f0 : Int) + (k : Int)) % (n : Int) = (qr : Int) := by
            rw [← HQr.out]
            simp
          have cg1 : W.cell? ⟨g1, k, none⟩ = some (.int .i64 (((f0 + k) % n : Nat) : Int)) := (cell_of_row _ _ _ _ _ _ (hM.at (List.mem_append_left _ (List.mem_append_left _ (List.mem_append_left _ (List.mem_append_left _ m5.out)))))).trans (C1t.out k hk)
          have cg2 : W.cell? ⟨g2, k, none⟩ = some (.int .i64 ((l.getD ((f0 + k) % n) 0 : Nat) : Int)) := (cell_of_row _ _ _ _ _ _ (hM.at (List.mem_append_left _ (List.mem_append_left _ (List.mem_append_left _ (List.mem_append_left _ m6.out)))))).trans (C2t.out k hk)
          rw [HQr.out] at cg1 cg2 ⊢
          rw [hqi]
          generalize l.getD qr 0 = y at cg2 ⊢
          have c9 : W.cell? ⟨W2.heap.size, 0, none⟩ = some (.slice (some ⟨g1, 0, none⟩) n c1) := hM.cell (t := 24) (List.mem_append_left _ (List.mem_append_left _ (List.mem_append_left _ (List.mem_append_left _ m3.out))))
          have c10 : W.cell? ⟨W2.heap.size + 1, 0, none⟩ = some (.slice (some ⟨g2, 0, none⟩) n c2) := hM.cell (t := 24) (List.mem_append_left _ (List.mem_append_left _ (List.mem_append_left _ (List.mem_append_left _ m4.out))))
          have c7 : W.cell? ⟨w.heap.size + 1, 0, none⟩ = some (.int .i64 s) := hM.cell (t := 3) (List.mem_append_left _ (List.mem_append_left _ (List.mem_append_left _ (List.mem_append_left _ m1.out))))
          have c12 : W.cell? ⟨Wd1.heap.size, 0, none⟩ = some (.int .i64 2) := hM.cell (t := 3) (List.mem_append_left _ (List.mem_append_right _ (by simp)))
          have c13 : W.cell? ⟨V2.heap.size, 0, none⟩ = some (.int .i64 (k : Int)) := hM.cell (t := 3) (List.mem_append_right _ (by simp))
          have f13 : W.frozen? ⟨V2.heap.size, 0, none⟩ = false := hM.free (cs := #[.int .i64 (k : Int)]) (t := 3) (List.mem_append_right _ (by simp)) 0
          have nE13 : ¬ E V2.heap.size := (hM.1 (V2.heap.size, Obj.cells #[.int .i64 (k : Int)] 3 (0, 0)) (List.mem_append_right _ (by simp))).2
          have nq13 : ¬ (Wd1.heap.size = V2.heap.size) := HN13.out (Wd1.heap.size, Obj.cells #[.int .i64 2] 3 (0, 0)) (List.mem_append_right _ (by simp))
          have nw13 : ¬ (w.heap.size + 1 = V2.heap.size) := HN13.out _ (List.mem_append_left _ (List.mem_append_left _ (List.mem_append_left _ m1.out)))
          have n11 : ¬ (W4.heap.size = V2.heap.size) := HN13.out _ (List.mem_append_left _ (List.mem_append_left _ (List.mem_append_left _ m7.out)))
          have n9 : ¬ (W2.heap.size = V2.heap.size) := HN13.out _ (List.mem_append_left _ (List.mem_append_left _ (List.mem_append_left _ m3.out)))
          have n10 : ¬ (W2.heap.size + 1 = V2.heap.size) := HN13.out _ (List.mem_append_left _ (List.mem_append_left _ (List.mem_append_left _ m4.out)))
          have FM : Hid (MQ w ((((B ++ [(d0, Obj.deferred (some []))]) ++ [(d1, Obj.deferred (some []))]) ++ [(Wd1.heap.size, Obj.cells #[.int .i64 2] 3 (0, 0))]) ++ [(V2.heap.size, Obj.cells #[.int .i64 ((k + 1 : Nat) : Int)] 3 (0, 0))]) E (W.setCell ⟨V2.heap.size, 0, none⟩ (.int .i64 ((k + 1 : Nat) : Int)))) := hid (hM.set hVw2 HN13.out)
          rw [← HMf.out (k + 1), show ((k + 1 : Nat) : Int) = (k : Int) + 1 by omega] at FM
          obtain ⟨W', HW'⟩ : ∃ W', Hid (W.setCell ⟨V2.heap.size, 0, none⟩ (.int .i64 ((k : Int) + 1)) = W') := ⟨_, rfl⟩
          rw [HW'.out] at FM
          have FE : Hid (KE E W W') := hid (by
            rw [← HW'.out]
            exact ⟨by simp, fun i hi => heap_setCell_other _ _ _ _ (fun e => nE13 (by simp at e; rw [← e]; exact hi))⟩)
          have HM := hid hM
          have hkn : ¬ ((n : Int) ≤ (k : Int)) := by omega
          have hkb : (k : Int) + 1 ≤ 33 := by omega
          clear hM hqi
          have c11 : W.cell? ⟨W4.heap.size, 0, none⟩ = some (.func (.func 25) #[] #[.pointer (some ⟨a, 0, none⟩), .pointer (some ⟨b, 0, none⟩), .pointer (some ⟨c, 0, none⟩)]) := HM.out.cell (t := 37) (List.mem_append_left _ (List.mem_append_left _ (List.mem_append_left _ (List.mem_append_left _ m7.out))))
          obtain ⟨r0, hl0⟩ := hrl
          have hl0' : W'.heap[lp]? = some (.loop r0) := (FE.out.2 lp hEl).trans hl0
          have HL0 := hid hl0'
          have KW : Hid (KE (rdD a b c g) W5 W') := hid ((KA2.out.trans hke).trans (FE.out.mono hDE))
          have RW := hid (R5.out.keptE KW.out)
          have HE1 := hid hE
          have HDE := hid hDE
          have hsz : W.heap.size ≤ W'.heap.size := FE.out.1
          have HEl : Hid (∀ i, E i → i < W'.heap.size) := hid fun i hi => Nat.lt_of_lt_of_le (hE i hi) hsz
          have HDD : Hid (∀ i, E i → rdD a b c g i ∨ (E i ∧ ¬ rdD a b c g i)) := hid fun i hi => (Classical.em (rdD a b c g i)).elim .inl (fun z => .inr ⟨hi, z⟩)
          have HDD2 : Hid (∀ i, rdD a b c g i ∨ (E i ∧ ¬ rdD a b c g i) → E i) := hid fun i hi => hi.elim (hDE i) (·.1)
          clear hl0 hl0' hE hDE hsz
          gi_wp2
          rw [HW'.out]
          clear c7 c9 c10 c12 c13 c11 f13
          apply range_fitMR (l0 := lp) (r0 := r0) rfl HL0.out (fun h => absurd h (by simp [Fence.wide, Fence.inRound])) (gf := 25) (lb := #[.pointer (some ⟨a, 0, none⟩), .pointer (some ⟨b, 0, none⟩), .pointer (some ⟨c, 0, none⟩)]) rfl trivial (enters_of Tryd.func25 (by kernel_rfl) rfl)
            (((round_iterN (7 - 1) W' a b c g n f0 l RW.out h1 h2 hfl PL.out).more (fun i => E i ∧ ¬ rdD a b c g i) (fun i h => h.2) (fun i h => HEl.out i h.1)).inRound lp) (KE.refl _ _) (fun i hi => HEl.out i (HDD2.out i hi)) (fun _ _ => rfl)
            w (fun _ => Mf2 (k + 1)) (fun j => j = 0) (fun c E W => c = Code.exit 4 ∧ ∃ j : Nat, MQ w (Mf2 (k + 1)) E W) (jn_MX w (fun _ => Mf2 (k + 1)) (fun c => c = Code.exit 4)) ⟨rfl, FM.out.less HDD2.out⟩
          case hassign =>
            intro l k v W K hK
            gi_wp2
            exact hK
          case hdone =>
            intro X hR0 _ _
            omega
          case hstop =>
            rintro cc X ⟨rfl, j, hMX⟩ hkX
            have FX := hid (hMX.less HDD.out)
            have KX : Hid (KE E W X) := hid (FE.out.trans (hkX.mono HDD.out))
            clear hMX hkX
            gi_wp2
            first | exact ⟨KX.out, trivial, FX.out⟩ | exact ⟨KX.out, FX.out⟩
          case hbody =>
            rintro lq j v E2 X hEl2 hrl2 hj hMX hfit2 hDE2 hE2 hke2 hjn
            subst hfit2
            obtain ⟨q0, HQ0⟩ : ∃ q, Hid ((f0 + j) % n = q) := ⟨_, rfl⟩
            have hqi2 : ((f0 : Int) + (j : Int)) % (n : Int) = (q0 : Int) := by
              rw [← HQ0.out]
              simp
            have hMX2 := hMX
            rw [HMf.out (k + 1)] at hMX2
            have cg10 : X.cell? ⟨g1, 0, none⟩ = some (.int .i64 (((f0 + j) % n : Nat) : Int)) := by
              rw [hj]
              exact (cell_of_row _ _ _ _ _ _ (hMX2.at (List.mem_append_left _ (List.mem_append_left _ (List.mem_append_left _ (List.mem_append_left _ m5.out)))))).trans (C1t.out 0 (by omega))
            have cg20 : X.cell? ⟨g2, 0, none⟩ = some (.int .i64 ((l.getD ((f0 + j) % n) 0 : Nat) : Int)) := by
              rw [hj]
              exact (cell_of_row _ _ _ _ _ _ (hMX2.at (List.mem_append_left _ (List.mem_append_left _ (List.mem_append_left _ (List.mem_append_left _ m6.out)))))).trans (C2t.out 0 (by omega))
            rw [HQ0.out] at cg10 cg20 ⊢
            rw [hqi2]
            generalize l.getD q0 0 = y0 at cg20 ⊢
            have c9 : X.cell? ⟨W2.heap.size, 0, none⟩ = some (.slice (some ⟨g1, 0, none⟩) n c1) := hMX2.cell (t := 24) (List.mem_append_left _ (List.mem_append_left _ (List.mem_append_left _ (List.mem_append_left _ m3.out))))
            have c10 : X.cell? ⟨W2.heap.size + 1, 0, none⟩ = some (.slice (some ⟨g2, 0, none⟩) n c2) := hMX2.cell (t := 24) (List.mem_append_left _ (List.mem_append_left _ (List.mem_append_left _ (List.mem_append_left _ m4.out))))
            have HMX := hid hMX
            have hn0 : ¬ (n = 0) := by omega
            have h0n : 0 < n := by omega
            clear hMX hMX2 hqi2 hj
            gi_wp2
            first | exact ⟨KE.refl _ _, rfl, 0, HMX.out⟩ | exact ⟨KE.refl _ _, HMX.out⟩
      case key2 =>
        rintro d2 Wd2 ⟨⟨k, hkc, hM⟩, hd, hdf, hke⟩
        have Hd2 := hid hd
        refine hKx _ _ ?_
        clear hKx
        rw [HMf.out k] at hM
        rw [hkc] at hM
        clear hkc
        have c10 : Wd2.cell? ⟨W2.heap.size + 1, 0, none⟩ = some (.slice (some ⟨g2, 0, none⟩) n c2) := hM.cell (t := 24) (List.mem_append_left _ (List.mem_append_left _ (List.mem_append_left _ (List.mem_append_left _ m4.out))))
        have c12 : Wd2.cell? ⟨Wd1.heap.size, 0, none⟩ = some (.int .i64 2) := hM.cell (t := 3) (List.mem_append_left _ (List.mem_append_right _ (by simp)))
        have c13 : Wd2.cell? ⟨V2.heap.size, 0, none⟩ = some (.int .i64 (n : Int)) := hM.cell (t := 3) (List.mem_append_right _ (by simp))
        have MB : Hid (MQ w (((B ++ [(d0, Obj.deferred (some []))]) ++ [(d1, Obj.deferred (some []))]) ++ [(d2, Obj.deferred (some []))]) (rdD a b c g) Wd2) := hid ⟨fun p hp => by
          rcases List.mem_append.1 hp with z | z
          · have := hM.1 p (List.mem_append_left _ (List.mem_append_left _ z))
            exact ⟨this.1, fun q => this.2 (.inl q)⟩
          · obtain rfl : p = (d2, Obj.deferred (some [])) := by simpa using z
            exact ⟨hdf, fun q => by have := HDV.out _ q; have := HsVa2.out; simp at *; omega⟩, fun i hi => hM.2.1 i (.inl hi), hM.2.2⟩
        have KD2 : Hid (KE (rdD a b c g) W5 Wd2) := hid (KA2.out.trans hke)
        have HDd : Hid (∀ i, rdD a b c g i → i < Wd2.heap.size) := hid fun i hi => Nat.lt_of_lt_of_le (HD5.out i hi) KD2.out.1
        obtain ⟨V3, HV⟩ : ∃ V, Hid (Wd2.alloc (.cells #[.int .i64 3] 3) = V) := ⟨_, rfl⟩
        have M3 : Hid (MQ w ((((B ++ [(d0, Obj.deferred (some []))]) ++ [(d1, Obj.deferred (some []))]) ++ [(d2, Obj.deferred (some []))]) ++ [(Wd2.heap.size, Obj.cells #[.int .i64 3] 3 (0, 0))]) (rdD a b c g) V3) := by rw [← HV.out]; exact hid (MB.out.alloc HDd.out _ _)
        have K3 : Hid (KE (rdD a b c g) W5 V3) := hid (KD2.out.trans (by rw [← HV.out]; exact ⟨by simp, fun i hi => Below.heap_alloc _ _ _ (HDd.out i hi)⟩))
        clear hM hdf hke hd
        go_wp2
        rw [HV.out]
        clear c10 c12 c13
        rw [rounds_succ]
        have c12 : V3.cell? ⟨Wd2.heap.size, 0, none⟩ = some (.int .i64 3) := M3.out.cell (t := 3) (List.mem_append_right _ (by simp))
        have h8 : V3.heap[w.heap.size + 1 + 1]? = some (.cells #[.bool false] 4 (0, 0)) := M3.out.at (List.mem_append_left _ (List.mem_append_left _ (List.mem_append_left _ (List.mem_append_left _ m2.out))))
        have c8 : V3.cell? ⟨w.heap.size + 1 + 1, 0, none⟩ = some (.bool false) := (cell_of_row _ _ _ _ _ _ h8).trans rfl
        have f8 : V3.frozen? ⟨w.heap.size + 1 + 1, 0, none⟩ = false := frozen_of_row _ _ _ _ _ h8
        have t0 : V3.heap[d0]? = some (.deferred (some [])) := M3.out.at (List.mem_append_left _ (List.mem_append_left _ (List.mem_append_left _ (List.mem_append_right _ (by simp)))))
        have t1 : V3.heap[d1]? = some (.deferred (some [])) := M3.out.at (List.mem_append_left _ (List.mem_append_left _ (List.mem_append_right _ (by simp))))
        have t2 : V3.heap[d2]? = some (.deferred (some [])) := M3.out.at (List.mem_append_left _ (List.mem_append_right _ (by simp)))
        have ne : ∀ d, V3.heap[d]? = some (.deferred (some [])) → w.heap.size + 1 + 1 ≠ d := fun d hd e => by rw [← e, h8] at hd; cases hd
        have T0 : Hid ((V3.setCell ⟨w.heap.size + 1 + 1, 0, none⟩ (.bool true)).heap[d0]? = some (.deferred (some []))) := hid ((heap_setCell_other _ _ _ _ (fun e => ne d0 t0 e.symm)).trans t0)
        have T1 : Hid ((V3.setCell ⟨w.heap.size + 1 + 1, 0, none⟩ (.bool true)).heap[d1]? = some (.deferred (some []))) := hid ((heap_setCell_other _ _ _ _ (fun e => ne d1 t1 e.symm)).trans t1)
        have T2 : Hid ((V3.setCell ⟨w.heap.size + 1 + 1, 0, none⟩ (.bool true)).heap[d2]? = some (.deferred (some []))) := hid ((heap_setCell_other _ _ _ _ (fun e => ne d2 t2 e.symm)).trans t2)
        have CX : Hid ((V3.setCell ⟨w.heap.size + 1 + 1, 0, none⟩ (.bool true)).cell? ⟨w.heap.size + 1 + 1, 0, none⟩ = some (.bool true)) := hid (World.cell?_setCell_same _ _ _ c8)
        have B8 : Hid (Below w.heap.size w (V3.setCell ⟨w.heap.size + 1 + 1, 0, none⟩ (.bool true))) := hid (M3.out.2.2.setCell (p := ⟨w.heap.size + 1 + 1, 0, none⟩) (by show w.heap.size ≤ w.heap.size + 1 + 1; omega) _)
        have N8 := hid (And.intro (ne d0 t0) (And.intro (ne d1 t1) (ne d2 t2)))
        have hdis : Hid (d0 ≠ d1 ∧ d0 ≠ d2 ∧ d1 ≠ d2) := by
          have a01 : d0 < V1.heap.size := hp_lt (M1.out.at (List.mem_append_left _ (List.mem_append_right _ (by simp))) : V1.heap[d0]? = some (.deferred (some [])))
          have a02 : d0 < V2.heap.size := hp_lt (M2.out.at (List.mem_append_left _ (List.mem_append_left _ (List.mem_append_right _ (by simp)))) : V2.heap[d0]? = some (.deferred (some [])))
          have a12 : d1 < V2.heap.size := hp_lt (M2.out.at (List.mem_append_left _ (List.mem_append_right _ (by simp))) : V2.heap[d1]? = some (.deferred (some [])))
          have b1 := Hd1.out
          have b2 := Hd2.out
          have z1 := HsVa1.out
          have z2 := HsVa2.out
          exact hid ⟨by omega, by omega, by omega⟩
        have hdww : Hid (w.heap.size ≤ d0 ∧ w.heap.size ≤ d1 ∧ w.heap.size ≤ d2) := by
          have b0 := Hd0.out
          have b1 := Hd1.out
          have b2 := Hd2.out
          have z0 := HsVa0.out
          have z1 := HsVa1.out
          have z2 := HsVa2.out
          exact hid ⟨by omega, by omega, by omega⟩
        clear h8 t0 t1 t2 ne
        go_wp2
        obtain ⟨e0, e1, e2⟩ := N8.out
        obtain ⟨n01, n02, n12⟩ := hdis.out
        obtain ⟨w0, w1, w2⟩ := hdww.out
        refine ⟨by simp, .inl ⟨_, _, rfl, run_takeDeferred T2.out, ?_⟩⟩
        refine ⟨by simp, .inl ⟨_, _, rfl, run_takeDeferred ((World.putObj_heap_other n12).trans T1.out), ?_⟩⟩
        refine ⟨by simp, .inl ⟨_, _, rfl, run_takeDeferred ((World.putObj_heap_other n01).trans ((World.putObj_heap_other n02).trans T0.out)), ?_⟩⟩
        exact ⟨_, rbool_res rfl _ _ (w.heap.size + 1 + 1) true rfl ((rcell_put e0 _).trans ((rcell_put e1 _).trans ((rcell_put e2 _).trans CX.out))), rfl, rbel_put (rbel_put (rbel_put B8.out w2 _) w1 _) w0 _⟩
set_option maxRecDepth 100000 in
set_option maxHeartbeats 16000000 in
theorem rdlaw_bad (w : World) (x : List Int) (n f s : Int) (hx : X16 x) (hn : n < 1 ∨ 32 < n) (hk : KC w) :
    Calls Tryd.prog 4 #[.agg (cellsB x), .int .i64 n, .int .i64 f, .int .i64 s] w fun e w' => e = .returned (.bool true) ∧ Below w.heap.size w w' := by
  have HIx := hid (size_ix hx)
  obtain ⟨cx, HCX⟩ : ∃ c, Hid (cellsB x = c) := ⟨_, rfl⟩
  rw [HCX.out] at HIx
  rw [HCX.out]
  have HK := hid hk
  obtain ⟨W1, HW1⟩ : ∃ W1, Hid (((w.alloc (.cells cx 23)).alloc (.cells #[.int .i64 s] 3)).alloc (.cells #[.bool false] 4) = W1) := ⟨_, rfl⟩
  have Q1 : Hid (B3 w cx s W1) := by rw [← HW1.out]; exact B3.start w cx s
  have C1 := hid (rround_bad W1 x n f hx hn)
  rw [HCX.out] at C1
  have CR : Hid (∀ W, Calls Tryd.prog 15 #[.agg cx, .int .i64 n, .int .i64 f] W fun e w' => e = .returned (.func (.func 24) #[] #[]) ∧ Below W.heap.size W w') := hid fun W => by
    rw [← HCX.out]
    exact round_bad W x n f hx hn
  clear hx hk hn
  refine (callsIn_wide (n := 3)).1 ?_
  refine callsIn_of_wp_marks Tryd.func4 rfl trivial (wpIn_wide.2 ?_) rfl
  simp only [Tryd.ntmps4, List.size_toArray, List.length_cons, List.length_nil, Nat.reduceAdd, Nat.reduceSub, Array.replicate_succ, Array.replicate_zero, List.push_toArray, List.append_toArray, List.nil_append, List.cons_append]
  go_wp2_with (refine wpList_load_row rfl 23 _ rfl w.heap.size rfl 23 cx (0, 0) _ (by rw [HW1.out]; exact Q1.out.hx) Tryd.underlying23 rfl HIx.out ?_; rw [HW1.out])
  refine C1.out.mono ?_
  rintro e W2 ⟨rfl, hB2⟩
  have Q2 := hid (Q1.out.below hB2)
  clear hB2 C1
  obtain ⟨W3, HW3⟩ : ∃ W3, Hid ((W2.alloc (.cells #[.slice none 0 0] 24)).alloc (.cells #[.slice none 0 0] 24) = W3) := ⟨_, rfl⟩
  have B23 : Hid (Below W2.heap.size W2 W3) := by rw [← HW3.out]; exact ((Below.refl _ W2).alloc (Nat.le_refl _) _).alloc (by simp) _
  have Q3 := hid (Q2.out.below B23.out)
  go_wp2_with (refine wpList_load_row rfl 23 _ rfl w.heap.size rfl 23 cx (0, 0) _ (by rw [HW3.out]; exact Q3.out.hx) Tryd.underlying23 rfl HIx.out ?_; rw [HW3.out])
  refine (CR.out W3).mono ?_
  rintro e W4 ⟨rfl, hB4⟩
  have Q4 := hid (Q3.out.below hB4)
  have P9 : W4.heap[W2.heap.size]? = some (.cells #[.slice none 0 0] 24 (0, 0)) := by
    rw [hB4.block _ (by rw [← HW3.out]; simp; omega), ← HW3.out, heap_alloc_old _ _ (by simp)]
    exact heap_alloc_new W2 _
  have P10 : W4.heap[W2.heap.size + 1]? = some (.cells #[.slice none 0 0] 24 (0, 0)) := by
    rw [hB4.block _ (by rw [← HW3.out]; simp), ← HW3.out]
    have := heap_alloc_new (W2.alloc (.cells #[.slice none 0 0] 24)) (.cells #[.slice none 0 0] 24)
    rw [show (W2.alloc (.cells #[.slice none 0 0] 24)).heap.size = W2.heap.size + 1 by simp] at this
    exact this
  obtain ⟨W5, HW5⟩ : ∃ W5, Hid (W4.alloc (.cells #[.func (.func 24) #[] #[]] 37) = W5) := ⟨_, rfl⟩
  obtain ⟨B, HBB⟩ : ∃ B : List (Nat × Obj), Hid (B = [(w.heap.size + 1 + 1, Obj.cells #[.bool false] 4 (0, 0)), (W2.heap.size + 1, Obj.cells #[.slice none 0 0] 24 (0, 0))] ++ [(W4.heap.size, Obj.cells #[.func (.func 24) #[] #[]] 37 (0, 0))]) := ⟨_, rfl⟩
  have M5 : Hid (MQ w B (fun _ => False) W5) := by
    rw [← HW5.out, HBB.out]
    refine hid (MQ.alloc (w := w) (W := W4) ⟨fun p hp => ?_, fun i h => h.elim, Q4.out.bel⟩ (fun i h => h.elim) _ _)
    simp only [List.mem_cons, List.not_mem_nil, or_false] at hp
    rcases hp with rfl | rfl
    · exact ⟨Q4.out.hr, fun q => q⟩
    · exact ⟨P10, fun q => q⟩
  have m2 : Hid ((w.heap.size + 1 + 1, Obj.cells #[.bool false] 4 (0, 0)) ∈ B) := by rw [HBB.out]; refine hid ?_; simp
  have m4 : Hid ((W2.heap.size + 1, Obj.cells #[.slice none 0 0] 24 (0, 0)) ∈ B) := by rw [HBB.out]; refine hid ?_; simp
  have m7 : Hid ((W4.heap.size, Obj.cells #[.func (.func 24) #[] #[]] 37 (0, 0)) ∈ B) := by rw [HBB.out]; refine hid ?_; simp
  clear hB4 P9 P10
  have hnil := eql_seq2_nil
  go_wp2
  rw [HW5.out]
  obtain ⟨V0, HV0⟩ : ∃ V, Hid (W5.alloc (.cells #[.int .i64 0] 3) = V) := ⟨_, rfl⟩
  have s5 : W5.heap.size = W4.heap.size + 1 := by rw [← HW5.out]; simp
  have M0 : Hid (MQ w (B ++ [(W4.heap.size + 1, Obj.cells #[.int .i64 0] 3 (0, 0))]) (fun _ => False) V0) := by rw [← HV0.out, ← s5]; exact hid (M5.out.alloc (fun i h => h.elim) _ _)
  clear s5
  rw [HV0.out]
  refine wp_loop_rounds 4 ?_
  rw [rounds_succ]
  have c12 : V0.cell? ⟨W4.heap.size + 1, 0, none⟩ = some (.int .i64 0) := M0.out.cell (t := 3) (List.mem_append_right _ (by simp))
  obtain ⟨Va0, HVa⟩ : ∃ Va, Hid (V0.alloc (.cells #[.int .i64 0] 3) = Va) := ⟨_, rfl⟩
  have MA : Hid (MQ w ((B ++ [(W4.heap.size + 1, Obj.cells #[.int .i64 0] 3 (0, 0))]) ++ [(V0.heap.size, Obj.cells #[.int .i64 0] 3 (0, 0))]) (fun _ => False) Va0) := by rw [← HVa.out]; exact hid (M0.out.alloc (fun i h => h.elim) _ _)
  have HsVa0 : Hid (Va0.heap.size = V0.heap.size + 1) := by rw [← HVa.out]; refine hid ?_; simp
  have c11a : (V0.alloc (.cells #[.int .i64 0] 3)).cell? ⟨W4.heap.size, 0, none⟩ = some (.func (.func 24) #[] #[]) := by
    rw [HVa.out]
    exact MA.out.cell (t := 37) (List.mem_append_left _ (List.mem_append_left _ m7.out))
  go_wp2
  rw [HVa.out]
  clear c11a c12
  refine wp_range_none rfl rd1_enter rd1_any fun Wd0 hg hdf => ?_
  have hM : MQ w ((B ++ [(W4.heap.size + 1, Obj.cells #[.int .i64 0] 3 (0, 0))]) ++ [(V0.heap.size, Obj.cells #[.int .i64 0] 3 (0, 0))]) (fun _ => False) Wd0 := (MA.out.more hg).less (fun i h => h.elim)
  have c10 : Wd0.cell? ⟨W2.heap.size + 1, 0, none⟩ = some (.slice none 0 0) := hM.cell (t := 24) (List.mem_append_left _ (List.mem_append_left _ m4.out))
  have c12 : Wd0.cell? ⟨W4.heap.size + 1, 0, none⟩ = some (.int .i64 0) := hM.cell (t := 3) (List.mem_append_left _ (List.mem_append_right _ (by simp)))
  have c13 : Wd0.cell? ⟨V0.heap.size, 0, none⟩ = some (.int .i64 0) := hM.cell (t := 3) (List.mem_append_right _ (by simp))
  have MB : Hid (MQ w (B ++ [(Va0.heap.size, Obj.deferred (some []))]) (fun _ => False) Wd0) := hid ⟨fun p hp => by
    rcases List.mem_append.1 hp with z | z
    · have := hM.1 p (List.mem_append_left _ (List.mem_append_left _ z))
      exact this
    · obtain rfl : p = (Va0.heap.size, Obj.deferred (some [])) := by simpa using z
      exact ⟨hdf, fun q => q⟩, hM.2.1, hM.2.2⟩
  obtain ⟨V1, HV⟩ : ∃ V, Hid (Wd0.alloc (.cells #[.int .i64 1] 3) = V) := ⟨_, rfl⟩
  have M1 : Hid (MQ w ((B ++ [(Va0.heap.size, Obj.deferred (some []))]) ++ [(Wd0.heap.size, Obj.cells #[.int .i64 1] 3 (0, 0))]) (fun _ => False) V1) := by rw [← HV.out]; exact hid (MB.out.alloc (fun i h => h.elim) _ _)
  have hs0 := hid hg.size
  clear hM hdf hg
  go_wp2
  rw [HV.out]
  clear c10 c12 c13
  rw [rounds_succ]
  have c12 : V1.cell? ⟨Wd0.heap.size, 0, none⟩ = some (.int .i64 1) := M1.out.cell (t := 3) (List.mem_append_right _ (by simp))
  obtain ⟨Va1, HVa⟩ : ∃ Va, Hid (V1.alloc (.cells #[.int .i64 0] 3) = Va) := ⟨_, rfl⟩
  have MA : Hid (MQ w (((B ++ [(Va0.heap.size, Obj.deferred (some []))]) ++ [(Wd0.heap.size, Obj.cells #[.int .i64 1] 3 (0, 0))]) ++ [(V1.heap.size, Obj.cells #[.int .i64 0] 3 (0, 0))]) (fun _ => False) Va1) := by rw [← HVa.out]; exact hid (M1.out.alloc (fun i h => h.elim) _ _)
  have HsVa1 : Hid (Va1.heap.size = V1.heap.size + 1) := by rw [← HVa.out]; refine hid ?_; simp
  have c11a : (V1.alloc (.cells #[.int .i64 0] 3)).cell? ⟨W4.heap.size, 0, none⟩ = some (.func (.func 24) #[] #[]) := by
    rw [HVa.out]
    exact MA.out.cell (t := 37) (List.mem_append_left _ (List.mem_append_left _ (List.mem_append_left _ m7.out)))
  go_wp2
  rw [HVa.out]
  clear c11a c12
  refine wp_range_none rfl rd1_enter rd1_any fun Wd1 hg hdf => ?_
  have hM : MQ w (((B ++ [(Va0.heap.size, Obj.deferred (some []))]) ++ [(Wd0.heap.size, Obj.cells #[.int .i64 1] 3 (0, 0))]) ++ [(V1.heap.size, Obj.cells #[.int .i64 0] 3 (0, 0))]) (fun _ => False) Wd1 := (MA.out.more hg).less (fun i h => h.elim)
  have c10 : Wd1.cell? ⟨W2.heap.size + 1, 0, none⟩ = some (.slice none 0 0) := hM.cell (t := 24) (List.mem_append_left _ (List.mem_append_left _ (List.mem_append_left _ m4.out)))
  have c12 : Wd1.cell? ⟨Wd0.heap.size, 0, none⟩ = some (.int .i64 1) := hM.cell (t := 3) (List.mem_append_left _ (List.mem_append_right _ (by simp)))
  have c13 : Wd1.cell? ⟨V1.heap.size, 0, none⟩ = some (.int .i64 0) := hM.cell (t := 3) (List.mem_append_right _ (by simp))
  have MB : Hid (MQ w ((B ++ [(Va0.heap.size, Obj.deferred (some []))]) ++ [(Va1.heap.size, Obj.deferred (some []))]) (fun _ => False) Wd1) := hid ⟨fun p hp => by
    rcases List.mem_append.1 hp with z | z
    · have := hM.1 p (List.mem_append_left _ (List.mem_append_left _ z))
      exact this
    · obtain rfl : p = (Va1.heap.size, Obj.deferred (some [])) := by simpa using z
      exact ⟨hdf, fun q => q⟩, hM.2.1, hM.2.2⟩
  obtain ⟨V2, HV⟩ : ∃ V, Hid (Wd1.alloc (.cells #[.int .i64 2] 3) = V) := ⟨_, rfl⟩
  have M2 : Hid (MQ w (((B ++ [(Va0.heap.size, Obj.deferred (some []))]) ++ [(Va1.heap.size, Obj.deferred (some []))]) ++ [(Wd1.heap.size, Obj.cells #[.int .i64 2] 3 (0, 0))]) (fun _ => False) V2) := by rw [← HV.out]; exact hid (MB.out.alloc (fun i h => h.elim) _ _)
  have hs1 := hid hg.size
  clear hM hdf hg
  go_wp2
  rw [HV.out]
  clear c10 c12 c13
  rw [rounds_succ]
  have c12 : V2.cell? ⟨Wd1.heap.size, 0, none⟩ = some (.int .i64 2) := M2.out.cell (t := 3) (List.mem_append_right _ (by simp))
  obtain ⟨Va2, HVa⟩ : ∃ Va, Hid (V2.alloc (.cells #[.int .i64 0] 3) = Va) := ⟨_, rfl⟩
  have MA : Hid (MQ w ((((B ++ [(Va0.heap.size, Obj.deferred (some []))]) ++ [(Va1.heap.size, Obj.deferred (some []))]) ++ [(Wd1.heap.size, Obj.cells #[.int .i64 2] 3 (0, 0))]) ++ [(V2.heap.size, Obj.cells #[.int .i64 0] 3 (0, 0))]) (fun _ => False) Va2) := by rw [← HVa.out]; exact hid (M2.out.alloc (fun i h => h.elim) _ _)
  have HsVa2 : Hid (Va2.heap.size = V2.heap.size + 1) := by rw [← HVa.out]; refine hid ?_; simp
  have c11a : (V2.alloc (.cells #[.int .i64 0] 3)).cell? ⟨W4.heap.size, 0, none⟩ = some (.func (.func 24) #[] #[]) := by
    rw [HVa.out]
    exact MA.out.cell (t := 37) (List.mem_append_left _ (List.mem_append_left _ (List.mem_append_left _ (List.mem_append_left _ m7.out))))
  go_wp2
  rw [HVa.out]
  clear c11a c12
  refine wp_range_none rfl rd1_enter rd1_any fun Wd2 hg hdf => ?_
  have hM : MQ w ((((B ++ [(Va0.heap.size, Obj.deferred (some []))]) ++ [(Va1.heap.size, Obj.deferred (some []))]) ++ [(Wd1.heap.size, Obj.cells #[.int .i64 2] 3 (0, 0))]) ++ [(V2.heap.size, Obj.cells #[.int .i64 0] 3 (0, 0))]) (fun _ => False) Wd2 := (MA.out.more hg).less (fun i h => h.elim)
  have c10 : Wd2.cell? ⟨W2.heap.size + 1, 0, none⟩ = some (.slice none 0 0) := hM.cell (t := 24) (List.mem_append_left _ (List.mem_append_left _ (List.mem_append_left _ (List.mem_append_left _ m4.out))))
  have c12 : Wd2.cell? ⟨Wd1.heap.size, 0, none⟩ = some (.int .i64 2) := hM.cell (t := 3) (List.mem_append_left _ (List.mem_append_right _ (by simp)))
  have c13 : Wd2.cell? ⟨V2.heap.size, 0, none⟩ = some (.int .i64 0) := hM.cell (t := 3) (List.mem_append_right _ (by simp))
  have MB : Hid (MQ w (((B ++ [(Va0.heap.size, Obj.deferred (some []))]) ++ [(Va1.heap.size, Obj.deferred (some []))]) ++ [(Va2.heap.size, Obj.deferred (some []))]) (fun _ => False) Wd2) := hid ⟨fun p hp => by
    rcases List.mem_append.1 hp with z | z
    · have := hM.1 p (List.mem_append_left _ (List.mem_append_left _ z))
      exact this
    · obtain rfl : p = (Va2.heap.size, Obj.deferred (some [])) := by simpa using z
      exact ⟨hdf, fun q => q⟩, hM.2.1, hM.2.2⟩
  obtain ⟨V3, HV⟩ : ∃ V, Hid (Wd2.alloc (.cells #[.int .i64 3] 3) = V) := ⟨_, rfl⟩
  have M3 : Hid (MQ w ((((B ++ [(Va0.heap.size, Obj.deferred (some []))]) ++ [(Va1.heap.size, Obj.deferred (some []))]) ++ [(Va2.heap.size, Obj.deferred (some []))]) ++ [(Wd2.heap.size, Obj.cells #[.int .i64 3] 3 (0, 0))]) (fun _ => False) V3) := by rw [← HV.out]; exact hid (MB.out.alloc (fun i h => h.elim) _ _)
  have hs2 := hid hg.size
  clear hM hdf hg
  go_wp2
  rw [HV.out]
  clear c10 c12 c13
  rw [rounds_succ]
  have c12 : V3.cell? ⟨Wd2.heap.size, 0, none⟩ = some (.int .i64 3) := M3.out.cell (t := 3) (List.mem_append_right _ (by simp))
  have h8 : V3.heap[w.heap.size + 1 + 1]? = some (.cells #[.bool false] 4 (0, 0)) := M3.out.at (List.mem_append_left _ (List.mem_append_left _ (List.mem_append_left _ (List.mem_append_left _ m2.out))))
  have c8 : V3.cell? ⟨w.heap.size + 1 + 1, 0, none⟩ = some (.bool false) := (cell_of_row _ _ _ _ _ _ h8).trans rfl
  have f8 : V3.frozen? ⟨w.heap.size + 1 + 1, 0, none⟩ = false := frozen_of_row _ _ _ _ _ h8
  have t0 : V3.heap[Va0.heap.size]? = some (.deferred (some [])) := M3.out.at (List.mem_append_left _ (List.mem_append_left _ (List.mem_append_left _ (List.mem_append_right _ (by simp)))))
  have t1 : V3.heap[Va1.heap.size]? = some (.deferred (some [])) := M3.out.at (List.mem_append_left _ (List.mem_append_left _ (List.mem_append_right _ (by simp))))
  have t2 : V3.heap[Va2.heap.size]? = some (.deferred (some [])) := M3.out.at (List.mem_append_left _ (List.mem_append_right _ (by simp)))
  have ne : ∀ d, V3.heap[d]? = some (.deferred (some [])) → w.heap.size + 1 + 1 ≠ d := fun d hd e => by rw [← e, h8] at hd; cases hd
  have T0 : Hid ((V3.setCell ⟨w.heap.size + 1 + 1, 0, none⟩ (.bool true)).heap[Va0.heap.size]? = some (.deferred (some []))) := hid ((heap_setCell_other _ _ _ _ (fun e => ne Va0.heap.size t0 e.symm)).trans t0)
  have T1 : Hid ((V3.setCell ⟨w.heap.size + 1 + 1, 0, none⟩ (.bool true)).heap[Va1.heap.size]? = some (.deferred (some []))) := hid ((heap_setCell_other _ _ _ _ (fun e => ne Va1.heap.size t1 e.symm)).trans t1)
  have T2 : Hid ((V3.setCell ⟨w.heap.size + 1 + 1, 0, none⟩ (.bool true)).heap[Va2.heap.size]? = some (.deferred (some []))) := hid ((heap_setCell_other _ _ _ _ (fun e => ne Va2.heap.size t2 e.symm)).trans t2)
  have CX : Hid ((V3.setCell ⟨w.heap.size + 1 + 1, 0, none⟩ (.bool true)).cell? ⟨w.heap.size + 1 + 1, 0, none⟩ = some (.bool true)) := hid (World.cell?_setCell_same _ _ _ c8)
  have B8 : Hid (Below w.heap.size w (V3.setCell ⟨w.heap.size + 1 + 1, 0, none⟩ (.bool true))) := hid (M3.out.2.2.setCell (p := ⟨w.heap.size + 1 + 1, 0, none⟩) (by show w.heap.size ≤ w.heap.size + 1 + 1; omega) _)
  have N8 := hid (And.intro (ne Va0.heap.size t0) (And.intro (ne Va1.heap.size t1) (ne Va2.heap.size t2)))
  have hdis : Hid (Va0.heap.size ≠ Va1.heap.size ∧ Va0.heap.size ≠ Va2.heap.size ∧ Va1.heap.size ≠ Va2.heap.size) := by
    have a01 : Va0.heap.size < V1.heap.size := hp_lt (M1.out.at (List.mem_append_left _ (List.mem_append_right _ (by simp))) : V1.heap[Va0.heap.size]? = some (.deferred (some [])))
    have a02 : Va0.heap.size < V2.heap.size := hp_lt (M2.out.at (List.mem_append_left _ (List.mem_append_left _ (List.mem_append_right _ (by simp)))) : V2.heap[Va0.heap.size]? = some (.deferred (some [])))
    have a12 : Va1.heap.size < V2.heap.size := hp_lt (M2.out.at (List.mem_append_left _ (List.mem_append_right _ (by simp))) : V2.heap[Va1.heap.size]? = some (.deferred (some [])))
    have z1 := HsVa1.out
    have z2 := HsVa2.out
    exact hid ⟨by omega, by omega, by omega⟩
  have hdww : Hid (w.heap.size ≤ Va0.heap.size ∧ w.heap.size ≤ Va1.heap.size ∧ w.heap.size ≤ Va2.heap.size) := by
    have b0 := M0.out.2.2.size
    have b1 := M1.out.2.2.size
    have b2 := M2.out.2.2.size
    have z0 := HsVa0.out
    have z1 := HsVa1.out
    have z2 := HsVa2.out
    exact hid ⟨by omega, by omega, by omega⟩
  clear h8 t0 t1 t2 ne
  go_wp2
  obtain ⟨e0, e1, e2⟩ := N8.out
  obtain ⟨n01, n02, n12⟩ := hdis.out
  obtain ⟨w0, w1, w2⟩ := hdww.out
  refine ⟨by simp, .inl ⟨_, _, rfl, run_takeDeferred T2.out, ?_⟩⟩
  refine ⟨by simp, .inl ⟨_, _, rfl, run_takeDeferred ((World.putObj_heap_other n12).trans T1.out), ?_⟩⟩
  refine ⟨by simp, .inl ⟨_, _, rfl, run_takeDeferred ((World.putObj_heap_other n01).trans ((World.putObj_heap_other n02).trans T0.out)), ?_⟩⟩
  exact ⟨_, rbool_res rfl _ _ (w.heap.size + 1 + 1) true rfl ((rcell_put e0 _).trans ((rcell_put e1 _).trans ((rcell_put e2 _).trans CX.out))), rfl, rbel_put (rbel_put (rbel_put B8.out w2 _) w1 _) w0 _⟩
theorem rdlaw_walk (w : World) (x : List Int) (n f s : Int) (hx : X16 x) (hf : -9223372036854775808 ≤ f ∧ f < 9223372036854775808) (hk : KC w) :
    Calls Tryd.prog 4 #[.agg (cellsB x), .int .i64 n, .int .i64 f, .int .i64 s] w fun e w' => e = .returned (.bool true) ∧ Below w.heap.size w w' := by
  by_cases hn : 1 ≤ n ∧ n ≤ 32
  · obtain ⟨m, rfl⟩ : ∃ m : Nat, n = (m : Int) := ⟨n.toNat, by omega⟩
    obtain ⟨l, hO⟩ := IsO.there (rgL x) m
    obtain ⟨f0, hf0⟩ : ∃ f0 : Nat, f % (m : Int) = (f0 : Int) := ⟨(f % (m : Int)).toNat, by have := Int.emod_nonneg f (show (m : Int) ≠ 0 by omega); omega⟩
    exact rdlaw_ok w x m f0 f s l hx (by omega) (by omega) hf hf0 hO hk
  · exact rdlaw_bad w x n f s hx (by omega) hk
end Go.Proofs.YtjdfclbjmmmcfaaDoor
namespace Go.Proofs.YtjdfclbjmmmcfaaDoor
open Go Go.RowKit Go.ChangeShapes Go.WideShapes Go.ChangeAt
def shaLaid : List (String × DataW Unit) := [("strongroom/sha.constants", Rows.laid_strongroom_sha_constants)]
theorem gK : Tryd.prog.globalNamed "strongroom/sha.constants" = some 1 := by kernel_rfl
theorem tK : (Tryd.prog.globals[1]?).map (·.type) = some 115 := by kernel_rfl
theorem cK : Tryd.prog.cellsOf 45 = 1 := by kernel_rfl
theorem dK : (Rows.laid_strongroom_sha_constants : DataW Unit) = .agg (kW.map fun x : Nat => .lit (.int .u32 (x : Int))) := by kernel_rfl
theorem kc_of_laid {W : World} (h : laidMetH Tryd.prog shaLaid W) : KC W := by
  rw [MakeChecks.laidMetH_plain _ _ _ (by kernel_rfl)] at h
  obtain ⟨ps, ⟨g0, t0, cs0, f0, p0, q0, hg0, ht0, hv0, hd0, _, _⟩, _, _⟩ := h
  obtain rfl := Option.some.inj (gK.symm.trans hg0)
  obtain rfl := Option.some.inj (tK.symm.trans ht0)
  obtain ⟨xs, m, rfl, hx, hlen, hn, hel⟩ := DataW.trod_array Tryd.underlying115 hd0
  intro t ht
  have h1 := hel t ht
  have hxt : xs[t]? = some xs[t] := List.getElem?_eq_getElem (by omega)
  rw [cK, hxt] at h1
  obtain ⟨k, e1, e2, _⟩ := DataW.trod_int Tryd.underlying45 h1
  simp only [Prod.mk.injEq] at hx
  have hd := hx.1
  rw [dK] at hd
  simp only [DataW.agg.injEq] at hd
  have hd2 : (kW.map fun x : Nat => (DataW.lit (.int .u32 (x : Int)) : DataW Unit))[t]? = (xs.map (·.1))[t]? := by rw [hd]
  have hkt : t < kW.length := by rw [kW_length]; exact ht
  rw [List.getElem?_map, List.getElem?_map, hxt, List.getElem?_eq_getElem hkt] at hd2
  simp only [Option.map_some, Option.some.injEq, e2, DataW.lit.injEq, Lit.int.injEq, true_and] at hd2
  have hv := World.var?_cell hg0 hv0 t
  have hcs : cs0[t]? = some (.int .u32 k) := by
    have : ((cs0.toList.drop (t * 1)).take 1)[0]? = some (.int .u32 k) := by rw [e1]; rfl
    simpa using this
  rw [hv, hcs, ← hd2]
  simp [List.getD, List.getElem?_eq_getElem hkt]
end Go.Proofs.YtjdfclbjmmmcfaaDoor
