/- Of the road to ctrCiphers_holds: CaWalk. -/
import Derived.Test.YtmpdmkckjajhiaaG08
import Derived.Test.YtmpdmkckjajhiaaG06
set_option linter.unusedVariables false
set_option linter.unusedSimpArgs false
namespace Go.Proofs.Ytmpdmkckjajhiaa
open Go Go.RowKit
open Classical
theorem elmC2 : Try.prog.elem 31 = 5 := by kernel_rfl
theorem slice_hC (W : World) (g n c m : Nat) (hm : m ≤ c) : (Instr.slice 31 (.slice (some ⟨g, 0, none⟩) n c) none (some (.int .i64 (m : Int))) none).run Try.prog W = .ok (.slice (some ⟨g, 0, none⟩) m c) W := by
  have h := run_slice_h (P := Try.prog) W 31 (some ⟨g, 0, none⟩) n c (by rw [elmC2]; exact Try.underlying31) .i64 (m : Int) (by omega) (by omega)
  rw [h, elmC2, size_u8, Result.andThen_ok, Int.toNat_natCast]
  simp [sliced, Addr.add]
theorem wpList_run_appendC {w : World} {ops : Array Oper} {rest : List Oper} {o : Oper} {a : Act} {Q : Exit → Act → World → Prop} (hgd : o.guard = none) (s x : Operand)
    (ho : o.op = .call { callee := .builtin .append, args := #[s, x], argTypes := #[30, 30] }) {v u v' : Value} {w' : World} (hs : a.eval s = v) (hx : a.eval x = u)
    (hr : (Builtin.append_ #[30, 30] 30 #[v, u]).run Try.prog w = .ok v' w') (ht : o.type = 30)
    (h : wpList Try.prog ops Q rest (a.put o.dst v') w') : wpList Try.prog ops Q (o :: rest) a w := by
  refine wpList_plain hgd fun K hK => ?_
  unfold Oper.wp execOp
  simp only [ho, ht, resolve, invoke, builtin, Sem.run_bind, Sem.run_pure, Result.andThen_ok, List.map_toArray, List.map_cons, List.map_nil, hs, hx, hr]
  exact hK _ _ h
theorem wpList_ldk1 {ops : Array Oper} {rest : List Oper} {o : Oper} {a : Act} {w : World} {Q : Exit → Act → World → Prop} {x : Operand} {b : Nat} {m : Array Value} (hg : o.guard = none) (ho : o.op = .load 23 x) (hx : a.eval x = .pointer (some ⟨b, 0, none⟩))
    (hr : (Instr.loadAt 23 (.pointer (some ⟨b, 0, none⟩))).run Try.prog w = .ok (.agg m) w) (hc : wpList Try.prog ops Q rest (a.put o.dst (.agg m)) w) : wpList Try.prog ops Q (o :: rest) a w :=
  wpList_plain hg fun _ hK => by
    unfold Oper.wp execOp
    simp only [ho, hx, hr, Sem.run_bind, Sem.run_pure, Result.andThen_ok]
    exact hK _ _ hc
theorem wpList_litk {ops : Array Oper} {rest : List Oper} {o : Oper} {a : Act} {w w' : World} {Q : Exit → Act → World → Prop} {x y : Operand} {u1 u2 v : Value} (hg : o.guard = none) (ho : o.op = .buildSlice 28 2 #[(0, x), (1, y)]) (hx : a.eval x = u1) (hy : a.eval y = u2)
    (hr : (Instr.buildSlice 28 2 #[(0, u1), (1, u2)]).run Try.prog w = .ok v w') (hc : wpList Try.prog ops Q rest (a.put o.dst v) w') : wpList Try.prog ops Q (o :: rest) a w :=
  wpList_plain hg fun _ hK => by
    unfold Oper.wp execOp
    simp only [ho, List.map_toArray, List.map_cons, List.map_nil, hx, hy, hr, Sem.run_bind, Sem.run_pure, Result.andThen_ok]
    exact hK _ _ hc
theorem size_keyC : (Try.prog.info? 23).map (·.size) = some 16 := by kernel_rfl
theorem yieldsIf_load_keyC {ops : Array Oper} {S : World → Prop} {op : Oper} {a : Act} (hw : Region.wanted op (yielded ops a.tmps) = true) (x : Operand) (ho : op.op = .load 23 x)
    (b o : Nat) (hx : a.eval x = .pointer (some ⟨b, o, none⟩)) (k : List Nat) (hk : k.length = 16) (hS : ∀ w, S w → w.rangeAt b o (kcl k)) : YieldsIf Try.prog ops S op (.agg (cells8 k)) a :=
  yieldsIf_load_mid hw 23 x ho b o hx (kcl k) _ hS Try.underlying23 rfl (by rw [kcl, List.length_map, hk]; exact size_keyC)
set_option maxRecDepth 100000 in
set_option maxHeartbeats 16000000 in
theorem ciphers_walk (w : World) (k1 k2 : List Nat) (v : Value) (os : List Ca) (h : HCa w v os) (hn : os.length ≤ 2932031007403) (hl1 : k1.length = 16) (hl2 : k2.length = 16) (hy1 : Byt k1) (hy2 : Byt k2) :
    Calls Try.prog 3 #[.agg (cells8 k1), .agg (cells8 k2), v] w fun e w' => e = .returned (.bool true) ∧ Below w.heap.size w w' := by
  obtain ⟨⟨p, c, rfl, hlc, hcm, hcell⟩, hels⟩ := h
  unfold maxLen at hcm
  have HC := hid hcell
  have HE := hid hels
  obtain ⟨n, HN⟩ : ∃ n, Hid (os.length = n) := ⟨_, rfl⟩
  rw [HN.out] at hlc hn ⊢
  have Y1 := hid hy1
  have Y2 := hid hy2
  obtain ⟨W1, HW1⟩ : ∃ x, Hid ((w.alloc (.cells (cells8 k1) 23)).alloc (.cells (cells8 k2) 23) = x) := ⟨_, rfl⟩
  have B1 : Hid (Below w.heap.size w W1) := by rw [← HW1.out]; exact hid (((Below.refl _ w).alloc (Nat.le_refl _) _).alloc (by simp) _)
  have K1 : Hid (KeyIn W1 w.heap.size k1) := by
    rw [← HW1.out]
    exact hid ((Below.heap_alloc _ _ _ (by simp)).trans (World.alloc_heap_new w _))
  have K2 : Hid (KeyIn W1 (w.heap.size + 1) k2) := by
    rw [← HW1.out]
    have := World.alloc_heap_new (w.alloc (.cells (cells8 k1) 23)) (.cells (cells8 k2) 23)
    rw [show (w.alloc (.cells (cells8 k1) 23)).heap.size = w.heap.size + 1 by simp] at this
    exact hid this
  have hz1 : W1.heap.size = w.heap.size + 2 := by rw [← HW1.out]; simp
  have HZ1 := hid hz1
  have d1 : Hid (Below W1.heap.size W1 W1.drew) := (Dr.one W1 1).below _
  have CN := hid (cnew_any W1.drew k1 hy1 hl1)
  obtain ⟨c8a, HCA⟩ : ∃ x, Hid (cells8 k1 = x) := ⟨_, rfl⟩
  obtain ⟨c8b, HCB⟩ : ∃ x, Hid (cells8 k2 = x) := ⟨_, rfl⟩
  rw [HCA.out, HCB.out] at HW1
  rw [HCA.out] at CN
  rw [HCA.out, HCB.out]
  clear hcell hels hy1 hy2 hz1
  go_enter Try.func3, Try.ntmps3
  go_wp2_with fail
  rw [HW1.out]
  refine wp_region_held_drew (S := (fun W : World => KeyIn W w.heap.size k1 ∧ KeyIn W (w.heap.size + 1) k2)) (by kernel_rfl) ⟨K1.out, K2.out⟩ (fun hHeld => ?_)
  have HS := hid hHeld
  clear hHeld
  change wpAnyH _ _ _ _ _ _ _ _ (World.drew _)
  refine wpAnyH_take (i := 0) (v := .agg c8a) rfl (by kernel_rfl) (by kernel_rfl) (by kernel_rfl) (fun _ _ _ h => h) (Or.inl ⟨by rfl, fun w hSw => by rw [← HCA.out]; exact ldk_exec hSw.1 hl1 rfl rfl⟩) HS.out ?_
  simp only [Act.put, List.getElem_toArray, List.getElem_cons_zero, List.getElem_cons_succ, List.setIfInBounds_toArray, List.set_cons_zero, List.set_cons_succ]
  refine wpAnyH_take (i := 2) (v := .agg c8b) rfl (by kernel_rfl) (by kernel_rfl) (by kernel_rfl) (fun _ _ _ h => h) (Or.inl ⟨by rfl, fun w hSw => by rw [← HCB.out]; exact ldk_exec hSw.2 hl2 rfl rfl⟩) HS.out ?_
  simp only [Act.put, List.getElem_toArray, List.getElem_cons_zero, List.getElem_cons_succ, List.setIfInBounds_toArray, List.set_cons_zero, List.set_cons_succ]
  refine wpAnyH_ready (rs := [1]) (by kernel_rfl) (by simp) ?_
  refine AllReadyH.cons rfl (fun K hK => ?_) AllReadyH.nil
  replace hK := hid hK
  go_simp
  refine CN.out.mono ?_
  rintro e w5 ⟨g0, rfl, hc0, hg0, hb5⟩
  have b5 := hid (d1.out.trans (show Below W1.heap.size W1.drew w5 from hb5))
  have HC0 := hid hc0
  have HG0 := hid hg0
  have CM := hid (cnew_any w5 k2 Y2.out hl2)
  rw [HCB.out] at CM
  clear hb5 hc0 hg0 HS CN
  have HS : Hid (KeyIn w5 w.heap.size k1 ∧ KeyIn w5 (w.heap.size + 1) k2) := hid ⟨K1.out.below b5.out, K2.out.below b5.out⟩
  refine hK.out _ _ HS.out (fun _ => ?_)
  clear hK K
  try (simp only [Act.put, List.getElem_toArray, List.getElem_cons_zero, List.getElem_cons_succ, List.setIfInBounds_toArray, List.set_cons_zero, List.set_cons_succ])
  refine wpAnyH_ready (rs := [3]) (by kernel_rfl) (by simp) ?_
  refine AllReadyH.cons rfl (fun K hK => ?_) AllReadyH.nil
  replace hK := hid hK
  go_simp
  refine CM.out.mono ?_
  rintro e w6 ⟨g1, rfl, hc1, hg1, hb6⟩
  have b6 := hid (b5.out.trans (hb6.mono b5.out.size))
  have HC01 := hid (HC0.out.below hb6)
  have HC1 := hid hc1
  have HG1 := hid hg1
  have S56 := hid hb6.size
  clear hb6 hc1 hg1 HS CM
  have HS : Hid (KeyIn w6 w.heap.size k1 ∧ KeyIn w6 (w.heap.size + 1) k2) := hid ⟨K1.out.below b6.out, K2.out.below b6.out⟩
  refine hK.out _ _ HS.out (fun _ => ?_)
  clear hK K
  try (simp only [Act.put, List.getElem_toArray, List.getElem_cons_zero, List.getElem_cons_succ, List.setIfInBounds_toArray, List.set_cons_zero, List.set_cons_succ])
  refine wpAnyH_ready (rs := [4]) (by kernel_rfl) (by simp) ?_
  refine AllReadyH.cons rfl (fun K hK => ?_) AllReadyH.nil
  replace hK := hid hK
  go_simp
  obtain ⟨w7, HW7⟩ : ∃ x, Hid (w6.alloc (.cells #[.pointer (some ⟨g0, 0, none⟩), .pointer (some ⟨g1, 0, none⟩)] 25) = x) := ⟨_, rfl⟩
  rw [HW7.out]
  have b67 : Hid (Below w6.heap.size w6 w7) := by rw [← HW7.out]; exact hid ((Below.refl _ _).alloc (Nat.le_refl _) _)
  have b7 := hid (b6.out.trans (b67.out.mono b6.out.size))
  have L7 : Hid (w7.heap[w6.heap.size]? = some (.cells #[.pointer (some ⟨g0, 0, none⟩), .pointer (some ⟨g1, 0, none⟩)] 25 (0, 0))) := by rw [← HW7.out]; exact hid (heap_alloc_new w6 _)
  clear HS
  have HS : Hid (KeyIn w7 w.heap.size k1 ∧ KeyIn w7 (w.heap.size + 1) k2) := hid ⟨K1.out.below b7.out, K2.out.below b7.out⟩
  refine hK.out _ _ HS.out (fun _ => ?_)
  clear hK K
  try (simp only [Act.put, List.getElem_toArray, List.getElem_cons_zero, List.getElem_cons_succ, List.setIfInBounds_toArray, List.set_cons_zero, List.set_cons_succ])
  refine wpAnyH_take (i := 5) (v := ?_) rfl (by kernel_rfl) (by kernel_rfl) (by kernel_rfl) (fun _ _ _ h => h) (Or.inl ⟨by rfl, ?q5⟩) HS.out ?_
  case q5 => intro w hSw; go_simp; rfl
  simp only [Act.put, List.getElem_toArray, List.getElem_cons_zero, List.getElem_cons_succ, List.setIfInBounds_toArray, List.set_cons_zero, List.set_cons_succ]
  refine wpAnyH_done (by kernel_rfl) ?_ _
  have K17 := hid HS.out.1
  have K27 := hid HS.out.2
  have RL : Hid (∀ W : World, (Instr.buildSlice 28 2 #[(0, .agg c8a), (1, .agg c8b)]).run Try.prog W = .ok (.slice (some ⟨W.heap.size, 0, none⟩) 2 2) (W.alloc (.cells (kcl k1 ++ kcl k2).toArray 23))) := hid fun W => by rw [← HCA.out, ← HCB.out]; exact run_lit_keys W k1 k2 hl1 hl2
  have LK1 : Hid (∀ W, KeyIn W w.heap.size k1 → (Instr.loadAt 23 (.pointer (some ⟨w.heap.size, 0, none⟩))).run Try.prog W = .ok (.agg c8a) W) := hid fun W hW => by rw [← HCA.out]; exact run_ldk hW hl1
  have LK2 : Hid (∀ W, KeyIn W (w.heap.size + 1) k2 → (Instr.loadAt 23 (.pointer (some ⟨w.heap.size + 1, 0, none⟩))).run Try.prog W = .ok (.agg c8b) W) := hid fun W hW => by rw [← HCB.out]; exact run_ldk hW hl2
  clear HS K1 K2 d1
  obtain ⟨KK, HKK⟩ : ∃ x, Hid ((kcl k1 ++ kcl k2).toArray = x) := ⟨_, rfl⟩
  rw [HKK.out] at RL
  obtain ⟨W0, HW0⟩ : ∃ x, Hid ((w7.alloc (.cells KK 23)).alloc (.cells #[.int .i64 0, .int .i64 0] 3) = x) := ⟨_, rfl⟩
  have b70 : Below w7.heap.size w7 W0 := by rw [← HW0.out]; exact ((Below.refl _ _).alloc (Nat.le_refl _) _).alloc (by simp) _
  have L0 : Hid (W0.heap[w6.heap.size]? = some (.cells #[.pointer (some ⟨g0, 0, none⟩), .pointer (some ⟨g1, 0, none⟩)] 25 (0, 0))) := hid ((b70.block _ (Array.getElem?_eq_some_iff.1 L7.out).1).trans L7.out)
  have KB : Hid (W0.heap[w7.heap.size]? = some (.cells KK 23 (0, 0))) := by
    rw [← HW0.out, Below.heap_alloc _ _ _ (by simp)]
    exact hid (heap_alloc_new w7 _)
  have IB : Hid (W0.heap[w7.heap.size + 1]? = some (.cells #[.int .i64 0, .int .i64 0] 3 (0, 0))) := by
    have := heap_alloc_new (w7.alloc (.cells KK 23)) (.cells #[.int .i64 0, .int .i64 0] 3)
    rw [HW0.out, show (w7.alloc (.cells KK 23)).heap.size = w7.heap.size + 1 by simp] at this
    exact hid this
  have hz0 : Hid (W0.heap.size = w7.heap.size + 2) := by rw [← HW0.out]; exact hid (by simp)
  have l70 : ((w7.alloc (.cells KK 23)).alloc (.cells #[.int .i64 0, .int .i64 0] 3)).cell? ⟨w6.heap.size, 0, none⟩ = some (.pointer (some ⟨g0, 0, none⟩)) := by rw [HW0.out, cell_of_row _ _ _ _ _ _ L0.out]; rfl
  have l71 : ((w7.alloc (.cells KK 23)).alloc (.cells #[.int .i64 0, .int .i64 0] 3)).cell? ⟨w6.heap.size, 1, none⟩ = some (.pointer (some ⟨g1, 0, none⟩)) := by rw [HW0.out, cell_of_row _ _ _ _ _ _ L0.out]; rfl
  have B0 : Hid (Below w.heap.size w W0) := hid (B1.out.trans ((b7.out.trans (b70.mono b7.out.size)).mono B1.out.size))
  have S0 : Hid (CS W0.heap.size w6.heap.size w7.heap.size (w7.heap.size + 1) (fun i => if i = 0 then g0 else g1) (fun i => if i = 0 then k1 else k2) (fun _ => 0) (fun _ => 0) W0) := by
    have e2 : ∀ i, i < 2 → i = 0 ∨ i = 1 := fun i hi => by omega
    have q0 := hz0.out
    have q6 : w6.heap.size < w7.heap.size := (Array.getElem?_eq_some_iff.1 L7.out).1
    have c0 := (HC01.out.below b67.out).below b70
    have c1 := (HC1.out.below b67.out).below b70
    have t0 := HC01.out.lt
    have t1 := HC1.out.lt
    have t2 := HC0.out.lt
    have t3 := HG1.out
    refine hid ⟨fun i hi => ?_, fun i hi j u hu => ?_, fun i hi => ?_, fun i hi => ?_, ⟨by omega, by omega, by omega, fun i hi => ?_⟩, ⟨by omega, by omega, fun i hi => ?_, ?_⟩, Nat.le_refl _⟩
    · rw [cell_of_row _ _ _ _ _ _ L0.out]
      rcases e2 i hi with rfl | rfl <;> rfl
    · rw [cell_of_row _ _ _ _ _ _ KB.out, ← HKK.out, List.getElem?_toArray]
      have hj := (List.getElem?_eq_some_iff.1 hu).1
      rcases e2 i hi with rfl | rfl
      · have hj' : j < (kcl k1).length := hj
        rw [Nat.zero_mul, Nat.zero_add, List.getElem?_append_left hj']
        exact hu
      · have hl : (kcl k1).length = 16 := by rw [kcl, List.length_map, hl1]
        rw [List.getElem?_append_right (by omega), hl, show 1 * 16 + j - 16 = j by omega]
        exact hu
    · rcases e2 i hi with rfl | rfl <;> (simp [World.cell?, World.frozen?, IB.out])
    · rcases e2 i hi with rfl | rfl
      · exact c0
      · exact c1
    · rcases e2 i hi with rfl | rfl
      · show g0 < _; omega
      · show g1 < _; omega
    · rcases e2 i hi with rfl | rfl
      · show g0 ≠ _ ∧ g0 ≠ _ ∧ g0 ≠ _; omega
      · show g1 ≠ _ ∧ g1 ≠ _ ∧ g1 ≠ _; omega
    · show g0 ≠ g1; omega
  have BLH : Hid (w.heap.size ≤ g0 ∧ w.heap.size ≤ g1 ∧ w.heap.size ≤ w7.heap.size) := hid (by
    have a1 := HG0.out; have a2 := HG1.out; have a3 := HZ1.out; have a4 := b7.out.size; have a5 := b5.out.size; have a6 : W1.drew.heap.size = W1.heap.size := rfl; omega)
  clear b70
  go_wp2_with (first | (refine wpList_ldk1 rfl rfl rfl (LK1.out _ K17.out) ?_) | (refine wpList_ldk1 rfl rfl rfl (LK2.out _ K27.out) ?_) | (refine wpList_litk (u1 := .agg c8a) (u2 := .agg c8b) rfl rfl rfl rfl (RL.out _) ?_) | fail)
  rw [HW0.out]
  clear l70 l71 RL LK1 LK2 K17 K27 L0 KB IB L7 HC0 HC01 HC1 HG0 HG1 b67 b7 B1
  obtain ⟨N0, HN0⟩ : ∃ x, Hid (W0.heap.size = x) := ⟨_, rfl⟩
  obtain ⟨bl, Hbl⟩ : ∃ x, Hid (w6.heap.size = x) := ⟨_, rfl⟩
  obtain ⟨bk, Hbk⟩ : ∃ x, Hid (w7.heap.size = x) := ⟨_, rfl⟩
  rw [HN0.out, Hbl.out, Hbk.out] at S0
  rw [Hbl.out, Hbk.out]
  have PK : Hid (∀ i, i < 2 → Byt ((fun i => if i = 0 then k1 else k2) i) ∧ ((fun i => if i = 0 then k1 else k2) i).length = 16) := hid fun i hi => by
    rcases (show i = 0 ∨ i = 1 by omega) with rfl | rfl
    · exact ⟨Y1.out, hl1⟩
    · exact ⟨Y2.out, hl2⟩
  obtain ⟨KF, HKF⟩ : ∃ x : Nat → List Nat, Hid ((fun i => if i = 0 then k1 else k2) = x) := ⟨_, rfl⟩
  rw [HKF.out] at S0 PK
  have BLG : Hid ((∀ i, i < 2 → w.heap.size ≤ (fun i => if i = 0 then g0 else g1) i) ∧ w.heap.size ≤ bk + 1) := by
    have h1 := BLH.out.1
    have h2 := BLH.out.2.1
    have h3 := BLH.out.2.2
    rw [Hbk.out] at h3
    refine hid ⟨fun i hi => ?_, by omega⟩
    rcases (show i = 0 ∨ i = 1 by omega) with rfl | rfl
    · show _ ≤ g0; omega
    · show _ ≤ g1; omega
  have DN : Hid (DP N0 W0 (.slice none 0 0) (.slice none 0 0) [] [] [] []) := hid (DP.nil _ _)
  obtain ⟨GF, HGF⟩ : ∃ x : Nat → Nat, Hid ((fun i => if i = 0 then g0 else g1) = x) := ⟨_, rfl⟩
  rw [HGF.out] at S0 BLG
  have NW : Hid (w.heap.size ≤ N0) := by rw [← HN0.out]; exact hid B0.out.size
  go_loopw [10, 11, 12] (fun v1 v2 i wr => ∃ k : Nat, k ≤ n ∧ i = .int .i64 (k : Int) ∧ ∃ x1 x2 l pc, Hid (CS N0 bl bk (bk + 1) GF KF pc pc wr) ∧ Hid (DP N0 wr v1 v2 x1 x2 l l) ∧ Hid (l.length ≤ k) ∧ Hid (∀ j, (l.getD j []).length ≤ 3000) ∧ Hid (∀ i, i < 2 → 0 ≤ pc i ∧ pc i ≤ 4611686018427387904) ∧ Hid (Below w.heap.size w wr)) (fun _ _ i _ => n - (intOf i).toNat)
  case atStart => exact ⟨0, Nat.zero_le _, rfl, [], [], [], _, S0, DN, Nat.zero_le _, (fun j => by simp), (fun i _ => by simp), B0⟩
  case round =>
    clear S0 DN B0 HW0 hz0
    obtain ⟨k, hkn, rfl, x1, x2, l, pc, SR, DR, LL, LE, PR, BR⟩ := hrel
    obtain ⟨p1, c1, e1⟩ := own_slice DR.out.r1
    obtain ⟨p2, c2, e2⟩ := own_slice DR.out.r2
    obtain ⟨N, HNl⟩ : ∃ x, Hid (l.length = x) := ⟨_, rfl⟩
    rw [HNl.out] at e1 e2
    subst e1 e2
    by_cases hlt : k < n
    · obtain ⟨b, off, rfl, hh⟩ := HC.out (by rw [HN.out]; omega)
      have RG : Hid (wr.rangeAt b (off + k * 4) (os.getD k Ca.zz).cs) := hid fun j u hj => by
        have := hh k (by rw [HN.out]; exact hlt) j u hj
        exact (BR.out.cell (World.block_lt_of_cell? w _ this)).trans this
      obtain ⟨hov, hon, hat⟩ := HE.out k (by rw [HN.out]; exact hlt)
      generalize os.getD k Ca.zz = o at *
      obtain ⟨on, cl, at0, ov, ol⟩ := o
      replace hov : HB w ov ol := hov
      replace hon : -9223372036854775808 ≤ on ∧ on ≤ 9223372036854775807 := hon
      replace hat : -9223372036854775808 ≤ at0 ∧ at0 ≤ 9223372036854775807 := hat
      obtain ⟨pv, cv, rfl, hlv, hmv⟩ := hov.open
      unfold maxLen at hmv
      obtain ⟨LV, HL⟩ : ∃ x, Hid (ol.length = x) := ⟨_, rfl⟩
      rw [HL.out] at hlv
      have HOV0 := hid hov
      rw [HL.out] at HOV0 RG
      have CPK := hid fun W => kpick_any W on 2 (by decide) (by decide)
      rw [show ((2 : Nat) : Int) = 2 from rfl] at CPK
      clear hh hov
      go_wp2_with (first | (refine wpList_load_mid rfl 33 _ rfl b (off + k * 4) rfl _ _ RG.out Try.underlying33 rfl (by kernel_rfl) ?_; rw [show (Ca.cs ⟨on, cl, at0, .slice pv LV cv, ol⟩).toArray = #[.int .i64 on, .int .i64 cl, .int .i64 at0, .slice pv LV cv] from rfl]) | fail)
      refine (CPK.out _).mono ?_
      rintro e wq ⟨⟨P, hP, rfl⟩, hwq⟩
      rw [hwq]
      clear hwq wq
      obtain ⟨wA, HWA⟩ : ∃ x, Hid (wr.alloc (.cells #[.int .i64 on, .int .i64 cl, .int .i64 at0, .slice pv LV cv] 33) = x) := ⟨_, rfl⟩
      rw [HWA.out]
      have bA : Below wr.heap.size wr wA := by rw [← HWA.out]; exact (Below.refl _ _).alloc (Nat.le_refl _) _
      have SA := hid (SR.out.below bA)
      have BA := hid (BR.out.trans (bA.mono BR.out.size))
      have FA : Hid (Fm N0 wr wA) := hid (Fm.below bA)
      have X6 : Hid (wA.heap[wr.heap.size]? = some (.cells #[.int .i64 on, .int .i64 cl, .int .i64 at0, .slice pv LV cv] 33 (0, 0))) := by rw [← HWA.out]; exact hid (heap_alloc_new wr _)
      have SZ6 := hid (And.intro SR.out.sz (show wr.heap.size < wA.heap.size by rw [← HWA.out]; simp))
      have HRZ : Hid (wr.heap.size ≤ wA.heap.size) := hid bA.size
      obtain ⟨t6, H6⟩ : ∃ x, Hid (wr.heap.size = x) := ⟨_, rfl⟩
      rw [H6.out] at X6 SZ6
      rw [H6.out]
      have hPi : (P : Int) < 2 := by omega
      have BLO : Hid ((∀ i, i < 2 → w.heap.size ≤ GF i) ∧ w.heap.size ≤ bk + 1) := BLG
      have T6 : Hid (bk + 1 < t6) := hid (Nat.lt_of_lt_of_le SA.out.lt.2.2.1 SZ6.out.1)
      have ch := SA.out.lc P hP
      have q1 : wA.cell? ⟨t6, 1, none⟩ = some (.int .i64 cl) := (cell_of_row _ _ _ _ _ _ X6.out).trans rfl
      have q2 : wA.cell? ⟨t6, 2, none⟩ = some (.int .i64 at0) := (cell_of_row _ _ _ _ _ _ X6.out).trans rfl
      have q3 : wA.cell? ⟨t6, 3, none⟩ = some (.slice pv LV cv) := (cell_of_row _ _ _ _ _ _ X6.out).trans rfl
      clear bA HWA SR
      have DA := hid (DR.out.fm FA.out)
      by_cases hL3 : 3000 < LV
      · have hL3i : (3000 : Int) < (LV : Int) := by omega
        clear q1 q2
        go_wp2
        exact ⟨⟨k + 1, by omega, by go_num, _, _, _, pc, SA, DA, hid (by have := LL.out; omega), LE, PR, BA⟩, by simp [intOf]; omega⟩
      have hL3i : ¬ ((3000 : Int) < (LV : Int)) := by omega
      by_cases z0 : cl = 0
      · subst z0
        by_cases hbad : at0 < 0 ∨ 4611686018427387904 < at0
        · have CB := hid (cseek_bad wA _ _ _ at0 (SA.out.c P hP) hbad hat)
          have HBAD := hid hbad
          clear hbad
          by_cases hb0 : at0 < 0
          · clear q1
            have q1 : wA.cell? ⟨t6, 1, none⟩ = some (.int .i64 0) := (cell_of_row _ _ _ _ _ _ X6.out).trans rfl
            go_wp2_with fail
            refine CB.out.mono ?_
            rintro e wq ⟨rfl, hwq⟩
            rw [hwq]
            clear hwq wq CB
            go_wp2
            exact ⟨⟨k + 1, by omega, by go_num, _, _, _, pc, SA, DA, hid (by have := LL.out; omega), LE, PR, BA⟩, by simp [intOf]; omega⟩
          · have hb1 : 4611686018427387904 < at0 := by have := HBAD.out; omega
            go_wp2_with fail
            refine CB.out.mono ?_
            rintro e wq ⟨rfl, hwq⟩
            rw [hwq]
            clear hwq wq CB
            go_wp2
            exact ⟨⟨k + 1, by omega, by go_num, _, _, _, pc, SA, DA, hid (by have := LL.out; omega), LE, PR, BA⟩, by simp [intOf]; omega⟩
        · have hb0 : ¬ at0 < 0 := by omega
          have hb1 : ¬ (4611686018427387904 < at0) := by omega
          obtain ⟨a, ha⟩ : ∃ a : Nat, at0 = (a : Int) := ⟨at0.toNat, by omega⟩
          have HA0 := hid ha
          obtain ⟨ci, fi⟩ := SA.out.ic P hP
          have S5 := hid (SA.out.seti hP at0)
          have CB := hid (cseek_ok _ _ _ _ a (S5.out.c P hP) (by omega))
          rw [← ha] at CB
          have S6 := hid (S5.out.next hP (grown_sets _ _ 17 (.int .i64 at0)) ((S5.out.c P hP).set at0))
          have F6 : Hid (Fm N0 wr ((wA.setCell ⟨bk + 1, P, none⟩ (.int .i64 at0)).setCell ⟨GF P, 17, none⟩ (.int .i64 at0))) := hid ((FA.out.set _ SA.out.lt.2.2.1).set _ (SA.out.lt.2.2.2 P hP))
          have D6 := hid (DR.out.fm F6.out)
          have B6 : Hid (Below w.heap.size w ((wA.setCell ⟨bk + 1, P, none⟩ (.int .i64 at0)).setCell ⟨GF P, 17, none⟩ (.int .i64 at0))) := hid ((BA.out.setCell (p := ⟨bk + 1, P, none⟩) BLO.out.2 _).setCell (p := ⟨GF P, 17, none⟩) (BLO.out.1 P hP) _)
          have PR6 : Hid (∀ i, i < 2 → 0 ≤ updC pc P at0 i ∧ updC pc P at0 i ≤ 4611686018427387904) := hid fun i hi => by
            by_cases e : i = P
            · rw [e, updC_same]; omega
            · rw [updC_other _ _ e]; exact PR.out i hi
          have qs2 : (wA.setCell ⟨bk + 1, P, none⟩ (.int .i64 at0)).cell? ⟨t6, 2, none⟩ = some (.int .i64 at0) := (World.cell?_setCell_other _ _ _ _ (fun z => by have := T6.out; cases z; omega)).trans q2
          clear ha
          go_wp2_with fail
          refine CB.out.mono ?_
          rintro e wq ⟨rfl, hwq⟩
          rw [hwq]
          clear hwq wq CB
          go_wp2
          exact ⟨⟨k + 1, by omega, by go_num, _, _, _, _, S6, D6, hid (by have := LL.out; omega), LE, PR6, B6⟩, by simp [intOf]; omega⟩
      by_cases z1 : cl = 1
      · subst z1
        obtain ⟨ci, fi⟩ := SA.out.ic P hP
        have CI := hid ci
        have CT := hid fun W hW => cat_any W (GF P) (KF P) (pc P) hW
        obtain ⟨PV, HPV⟩ : ∃ x, Hid (pc P = x) := ⟨_, rfl⟩
        rw [HPV.out] at CI CT
        have hpv : (PV != PV) = false := by simp
        have SC := hid (SA.out.c P hP)
        rw [HPV.out] at SC
        clear ci fi q2
        go_wp2_with fail
        refine wp_region_held_drew (S := (fun W : World => W.cell? ⟨bk + 1, P, none⟩ = some (.int .i64 PV))) (by kernel_rfl) CI.out (fun hHeld => ?_)
        have HS := hid hHeld
        clear hHeld
        change wpAnyH _ _ _ _ _ _ _ _ (World.drew _)
        refine wpAnyH_take (i := 0) (v := ?_) rfl (by kernel_rfl) (by kernel_rfl) (by kernel_rfl) (fun _ _ _ h => h) (Or.inl ⟨by rfl, ?q0⟩) HS.out ?_
        case q0 => intro w hSw; have hc0 := hSw; go_simp; rfl
        simp only [Act.put, List.getElem_toArray, List.getElem_cons_zero, List.getElem_cons_succ, List.setIfInBounds_toArray, List.set_cons_zero, List.set_cons_succ]
        refine wpAnyH_take (i := 2) (v := ?_) rfl (by kernel_rfl) (by kernel_rfl) (by kernel_rfl) (fun _ _ _ h => h) (Or.inl ⟨by rfl, ?q2⟩) HS.out ?_
        case q2 => intro w hSw; have hc0 := hSw; go_simp; rfl
        simp only [Act.put, List.getElem_toArray, List.getElem_cons_zero, List.getElem_cons_succ, List.setIfInBounds_toArray, List.set_cons_zero, List.set_cons_succ]
        refine wpAnyH_take (i := 3) (v := ?_) rfl (by kernel_rfl) (by kernel_rfl) (by kernel_rfl) (fun _ _ _ h => h) (Or.inl ⟨by rfl, ?q3⟩) HS.out ?_
        case q3 => intro w hSw; have hc0 := hSw; go_simp; rfl
        simp only [Act.put, List.getElem_toArray, List.getElem_cons_zero, List.getElem_cons_succ, List.setIfInBounds_toArray, List.set_cons_zero, List.set_cons_succ]
        refine wpAnyH_take (i := 4) (v := ?_) rfl (by kernel_rfl) (by kernel_rfl) (by kernel_rfl) (fun _ _ _ h => h) (Or.inl ⟨by rfl, ?q4⟩) HS.out ?_
        case q4 => intro w hSw; have hc0 := hSw; go_simp; rfl
        simp only [Act.put, List.getElem_toArray, List.getElem_cons_zero, List.getElem_cons_succ, List.setIfInBounds_toArray, List.set_cons_zero, List.set_cons_succ]
        refine wpAnyH_take (i := 5) (v := ?_) rfl (by kernel_rfl) (by kernel_rfl) (by kernel_rfl) (fun _ _ _ h => h) (Or.inl ⟨by rfl, ?q5⟩) HS.out ?_
        case q5 => intro w hSw; have hc0 := hSw; go_simp; rfl
        simp only [Act.put, List.getElem_toArray, List.getElem_cons_zero, List.getElem_cons_succ, List.setIfInBounds_toArray, List.set_cons_zero, List.set_cons_succ]
        refine wpAnyH_ready (rs := [1]) (by kernel_rfl) (by simp) ?_
        refine AllReadyH.cons rfl (fun K hK => ?_) AllReadyH.nil
        replace hK := hid hK
        go_simp
        refine (CT.out wA.drew (SC.out.below ((Dr.one wA 1).below _))).mono ?_
        rintro e wq ⟨rfl, hwq⟩
        rw [hwq]
        clear hwq wq
        refine hK.out _ _ CI.out (fun _ => ?_)
        clear hK K
        try (simp only [Act.put, List.getElem_toArray, List.getElem_cons_zero, List.getElem_cons_succ, List.setIfInBounds_toArray, List.set_cons_zero, List.set_cons_succ])
        refine wpAnyH_take (i := 6) (v := ?_) rfl (by kernel_rfl) (by kernel_rfl) (by kernel_rfl) (fun _ _ _ h => h) (Or.inl ⟨by rfl, ?q6⟩) HS.out ?_
        case q6 => intro w hSw; have hc0 := hSw; go_simp; rfl
        simp only [Act.put, List.getElem_toArray, List.getElem_cons_zero, List.getElem_cons_succ, List.setIfInBounds_toArray, List.set_cons_zero, List.set_cons_succ]
        refine wpAnyH_done (by kernel_rfl) ?_ _
        have dA := hid ((Dr.one wA 1).below wA.heap.size)
        have S6 := hid (SA.out.below dA.out)
        have D6 := hid (DA.out.fm (Fm.below dA.out))
        have B6 := hid (BA.out.trans (dA.out.mono BA.out.size))
        go_wp2
        exact ⟨⟨k + 1, by omega, by go_num, _, _, _, pc, S6, D6, hid (by have := LL.out; omega), LE, PR, B6⟩, by simp [intOf]; omega⟩
      have e0 : (cl == 0) = false := by simpa using z0
      have e1 : (cl == 1) = false := by simpa using z1
      have LV3 : LV ≤ 3000 := by omega
      have HV := HOV0.out
      have CL := hid (lent_any wA _ ol (HV.below BA.out) (by rw [HL.out]; omega))
      clear z0 z1 q2
      go_wp2_with fail
      refine CL.out.mono ?_
      rintro e w5 ⟨v5, rfl, ho5, hb5⟩
      obtain ⟨gl, c5, e5, hg1, hg2, hc5, hm5, hp5, hf5⟩ := lent_part ho5 HOV0.out.2
      have HO5 := hid ho5
      rw [HL.out] at e5 hc5 hp5 hf5
      subst e5
      have HF5 := hid hf5
      have HG := hid (And.intro hg1 hg2)
      have S5 := hid (SA.out.below hb5)
      have B5 := hid (BA.out.trans (hb5.mono BA.out.size))
      have F5 := hid (FA.out.trans (Fm.below hb5))
      have q35 : w5.cell? ⟨t6, 3, none⟩ = some (.slice pv LV cv) := (hb5.cell (p := ⟨t6, 3, none⟩) SZ6.out.2).trans q3
      have Q35 := hid q35
      have hPR := PR.out P hP
      obtain ⟨PV, HPV⟩ : ∃ x, Hid (pc P = x) := ⟨_, rfl⟩
      rw [HPV.out] at hPR
      have SC5 := S5.out.c P hP
      have hgN := S5.out.lt.2.2.2 P hP
      rw [HPV.out] at SC5
      have CX := hid (cnext_gen w5 (GF P) (KF P) PV _ ol (PK.out P hP).1 (PK.out P hP).2 SC5 hp5 (by omega) (by rw [HL.out]; omega))
      obtain ⟨AL, HAL⟩ : ∃ x, Hid (apL (KF P) PV ol = x) := ⟨_, rfl⟩
      obtain ⟨AE, HAE⟩ : ∃ x, Hid (apE PV ol = x) := ⟨_, rfl⟩
      have HALl : Hid (AL.length ≤ 3000) := by rw [← HAL.out]; exact hid (Nat.le_trans (apL_len _ _ _) (by rw [HL.out]; exact LV3))
      rw [HAL.out, HAE.out] at CX
      clear ho5 hb5 hp5 hf5 CL q3 SC5 HV
      go_wp2_with fail
      refine CX.out.mono ?_
      rintro e w6 ⟨v6, rfl, her6, hct6, hgr6⟩
      have O6 := hid her6.1
      have Y6 := hid her6.2
      have S6 := hid (S5.out.next hP hgr6 hct6)
      have B6 : Hid (Below w.heap.size w w6) := hid (B5.out.grown hgr6 B5.out.size (fun q e => by cases e; exact BLO.out.1 P hP))
      have F6 := hid (F5.out.low hgr6 hgN)
      have tg : t6 ≠ GF P := by have := SZ6.out.1; omega
      have Q36 : Hid (w6.cell? ⟨t6, 3, none⟩ = some (.slice pv LV cv)) := hid (hgr6.cell (a := ⟨t6, 3, none⟩) Q35.out (fun e => tg (Option.some.inj e)))
      have HG6 := hid hgr6
      obtain ⟨p6, c6, e6⟩ := own_slice her6.1
      obtain ⟨M6, HM6⟩ : ∃ x, Hid (AL.length = x) := ⟨_, rfl⟩
      rw [HM6.out] at e6
      subst e6
      have q36 := Q36.out
      have CK := hid (kept_any w6 (.slice (some ⟨gl, 0, none⟩) (LV + 70) c5) (.slice pv LV cv) (lent ol) ol (HF5.out.other HG6.out (.inr (by have := SZ6.out.1; have := HG.out.1; have := HRZ.out; have := SA.out.sz; simp [Value.ownBlock]; omega))) (HOV0.out.below B6.out) (by rw [HL.out]; omega))
      rw [decide_eq_true rfl] at CK
      clear her6 hct6 hgr6 CX q35
      go_wp2_with fail
      refine CK.out.mono ?_
      rintro e w7 ⟨rfl, hb7⟩
      have S7 := hid (S6.out.below hb7)
      have B7 := hid (B6.out.trans (hb7.mono B6.out.size))
      have F7 := hid (F6.out.trans (Fm.below hb7))
      have Q37 : Hid (w7.cell? ⟨t6, 3, none⟩ = some (.slice pv LV cv)) := hid ((hb7.cell (p := ⟨t6, 3, none⟩) (World.block_lt_of_cell? w6 _ Q36.out)).trans Q36.out)
      have SZ67 := hid hb7.size
      have O67 := hid (own_blkD O6.out fun k e => hb7.block _ (O6.out.lt k e).2)
      have HO7 := hid (own_blkD (own_blkD HO5.out fun k e => HG6.out.block k (HO5.out.lt k e).2 (fun q => by have h1 := (HO5.out.lt k e).1; have h2 := Option.some.inj q; have h3 := SA.out.sz; omega)) fun k e => hb7.block _ (Nat.lt_of_lt_of_le (HO5.out.lt k e).2 HG6.out.size))
      have CO := hid (over_byt w7 _ _ (lent ol) HO7.out (lent_byt HOV0.out.2) (by rw [lent_length, HL.out]; omega))
      clear hb7 CK q36
      go_wp2_with fail
      refine CO.out.mono ?_
      rintro e w8 ⟨rfl, _, hgr8⟩
      have hgr8' : w7.grownBy w8 (some gl) := hgr8
      have hglN : N0 ≤ gl := Nat.le_trans SA.out.sz HG.out.1
      have hglw : wr.heap.size ≤ gl := Nat.le_trans HRZ.out HG.out.1
      have S8 := hid (S7.out.away hgr8' hglN)
      have B8 : Hid (Below w.heap.size w w8) := hid (B7.out.grown hgr8' B7.out.size (fun q e => by cases e; have := NW.out; omega))
      have F8 := hid (F7.out.high hgr8' hglw)
      have Q38 : Hid (w8.cell? ⟨t6, 3, none⟩ = some (.slice pv LV cv)) := hid (hgr8'.cell (a := ⟨t6, 3, none⟩) Q37.out (fun e => absurd (Option.some.inj e) (by have := SZ6.out.2; have := HG.out.1; show t6 ≠ gl; omega)))
      have O68 := hid (own_blkD O67.out fun k e => hgr8'.block k (O67.out.lt k e).2 (fun q => by have h1 := (O67.out.lt k e).1; have h2 := Option.some.inj q; have := HG.out.2; omega))
      have SZ56 := hid HG6.out.size
      have HSZ58 : Hid (w5.heap.size ≤ w8.heap.size) := hid (by
        by_cases hq : ∃ k, (Value.slice p6 M6 c6).ownBlock = some k
        · obtain ⟨k, hk⟩ := hq
          have h1 := (O68.out.lt k hk).1
          have h2 := (O68.out.lt k hk).2
          omega
        · have h1 := hgr8'.size
          have h2 := S7.out.sz
          exact Nat.le_trans SZ56.out (Nat.le_trans SZ67.out h1))
      clear hgr8 hgr8' CO
      have d8 : Hid (Below w8.heap.size w8 w8.drew) := (Dr.one w8 1).below _
      have CA := hid (rapply_gen w8.drew (KF P) PV _ ol (PK.out P hP).1 (PK.out P hP).2 ((HOV0.out.below B8.out).below d8.out) (by omega) (by rw [HL.out]; omega))
      rw [HAL.out, HAE.out] at CA
      have KC8 := hid (S8.out.kc P hP)
      have IC8 : Hid (w8.cell? ⟨bk + 1, P, none⟩ = some (.int .i64 PV)) := by rw [← HPV.out]; exact hid (S8.out.ic P hP).1
      go_wp2_with fail
      refine wp_region_held_drew (S := (fun W : World => W.rangeAt bk (P * 16) (kcl (KF P)) ∧ W.cell? ⟨bk + 1, P, none⟩ = some (.int .i64 PV) ∧ W.cell? ⟨t6, 3, none⟩ = some (.slice pv LV cv))) (by kernel_rfl) ⟨KC8.out, IC8.out, Q38.out⟩ (fun hHeld => ?_)
      have HS := hid hHeld
      clear hHeld
      change wpAnyH _ _ _ _ _ _ _ _ (World.drew _)
      refine wpAnyH_take (i := 0) (v := ?_) rfl (by kernel_rfl) (by kernel_rfl) (by kernel_rfl) (fun _ _ _ h => h) (Or.inl ⟨by rfl, ?q0⟩) HS.out ?_
      case q0 => intro w hSw; obtain ⟨hr0, hc0, hc1⟩ := hSw; go_simp; rfl
      simp only [Act.put, List.getElem_toArray, List.getElem_cons_zero, List.getElem_cons_succ, List.setIfInBounds_toArray, List.set_cons_zero, List.set_cons_succ]
      refine wpAnyH_take (i := 1) (v := ?_) rfl (by kernel_rfl) (by kernel_rfl) (by kernel_rfl) (fun _ _ _ h => h) (Or.inl ⟨by rfl, ?q1⟩) HS.out ?_
      case q1 => intro w hSw; obtain ⟨hr0, hc0, hc1⟩ := hSw; go_simp; rfl
      simp only [Act.put, List.getElem_toArray, List.getElem_cons_zero, List.getElem_cons_succ, List.setIfInBounds_toArray, List.set_cons_zero, List.set_cons_succ]
      refine wpAnyH_take (i := 2) (v := ?_) rfl (by kernel_rfl) (by kernel_rfl) (by kernel_rfl) (fun _ _ _ h => h) (Or.inl ⟨by rfl, ?q2⟩) HS.out ?_
      case q2 => intro w hSw; obtain ⟨hr0, hc0, hc1⟩ := hSw; go_simp; rfl
      simp only [Act.put, List.getElem_toArray, List.getElem_cons_zero, List.getElem_cons_succ, List.setIfInBounds_toArray, List.set_cons_zero, List.set_cons_succ]
      refine wpAnyH_take (i := 3) rfl (by kernel_rfl) (by kernel_rfl) (by kernel_rfl) (fun _ _ _ h => h) (yieldsIf_load_keyC (by rfl) _ rfl bk (P * 16) rfl (KF P) (PK.out P hP).2 (fun _ hw => hw.1)) HS.out ?_
      simp only [Act.put, List.getElem_toArray, List.getElem_cons_zero, List.getElem_cons_succ, List.setIfInBounds_toArray, List.set_cons_zero, List.set_cons_succ]
      refine wpAnyH_take (i := 4) (v := ?_) rfl (by kernel_rfl) (by kernel_rfl) (by kernel_rfl) (fun _ _ _ h => h) (Or.inl ⟨by rfl, ?q4⟩) HS.out ?_
      case q4 => intro w hSw; obtain ⟨hr0, hc0, hc1⟩ := hSw; go_simp; rfl
      simp only [Act.put, List.getElem_toArray, List.getElem_cons_zero, List.getElem_cons_succ, List.setIfInBounds_toArray, List.set_cons_zero, List.set_cons_succ]
      refine wpAnyH_take (i := 5) (v := ?_) rfl (by kernel_rfl) (by kernel_rfl) (by kernel_rfl) (fun _ _ _ h => h) (Or.inl ⟨by rfl, ?q5⟩) HS.out ?_
      case q5 => intro w hSw; obtain ⟨hr0, hc0, hc1⟩ := hSw; go_simp; rfl
      simp only [Act.put, List.getElem_toArray, List.getElem_cons_zero, List.getElem_cons_succ, List.setIfInBounds_toArray, List.set_cons_zero, List.set_cons_succ]
      refine wpAnyH_take (i := 6) (v := ?_) rfl (by kernel_rfl) (by kernel_rfl) (by kernel_rfl) (fun _ _ _ h => h) (Or.inl ⟨by rfl, ?q6⟩) HS.out ?_
      case q6 => intro w hSw; obtain ⟨hr0, hc0, hc1⟩ := hSw; go_simp; rfl
      simp only [Act.put, List.getElem_toArray, List.getElem_cons_zero, List.getElem_cons_succ, List.setIfInBounds_toArray, List.set_cons_zero, List.set_cons_succ]
      refine wpAnyH_take (i := 7) (v := ?_) rfl (by kernel_rfl) (by kernel_rfl) (by kernel_rfl) (fun _ _ _ h => h) (Or.inl ⟨by rfl, ?q7⟩) HS.out ?_
      case q7 => intro w hSw; obtain ⟨hr0, hc0, hc1⟩ := hSw; go_simp; rfl
      simp only [Act.put, List.getElem_toArray, List.getElem_cons_zero, List.getElem_cons_succ, List.setIfInBounds_toArray, List.set_cons_zero, List.set_cons_succ]
      refine wpAnyH_take (i := 8) (v := ?_) rfl (by kernel_rfl) (by kernel_rfl) (by kernel_rfl) (fun _ _ _ h => h) (Or.inl ⟨by rfl, ?q8⟩) HS.out ?_
      case q8 => intro w hSw; obtain ⟨hr0, hc0, hc1⟩ := hSw; go_simp; rfl
      simp only [Act.put, List.getElem_toArray, List.getElem_cons_zero, List.getElem_cons_succ, List.setIfInBounds_toArray, List.set_cons_zero, List.set_cons_succ]
      refine wpAnyH_take (i := 9) (v := ?_) rfl (by kernel_rfl) (by kernel_rfl) (by kernel_rfl) (fun _ _ _ h => h) (Or.inl ⟨by rfl, ?q9⟩) HS.out ?_
      case q9 => intro w hSw; obtain ⟨hr0, hc0, hc1⟩ := hSw; go_simp; rfl
      simp only [Act.put, List.getElem_toArray, List.getElem_cons_zero, List.getElem_cons_succ, List.setIfInBounds_toArray, List.set_cons_zero, List.set_cons_succ]
      refine wpAnyH_ready (rs := [10]) (by kernel_rfl) (by simp) ?_
      refine AllReadyH.cons rfl (fun K hK => ?_) AllReadyH.nil
      replace hK := hid hK
      go_simp
      refine CA.out.mono ?_
      rintro e w9 ⟨v9, rfl, her9, hb9⟩
      have b9 := hid (d8.out.trans (show Below w8.heap.size w8.drew w9 from hb9))
      have O9 := hid her9.1
      have S9 := hid (S8.out.below b9.out)
      have Q39 : Hid (w9.cell? ⟨t6, 3, none⟩ = some (.slice pv LV cv)) := hid ((b9.out.cell (p := ⟨t6, 3, none⟩) (World.block_lt_of_cell? w8 _ Q38.out)).trans Q38.out)
      have IC9 : Hid (w9.cell? ⟨bk + 1, P, none⟩ = some (.int .i64 PV)) := by rw [← HPV.out]; exact hid (S9.out.ic P hP).1
      have O69 := hid (own_blkD O68.out fun k e => b9.out.block _ (O68.out.lt k e).2)
      have F9 := hid (F8.out.trans (Fm.below b9.out))
      have B9 := hid (B8.out.trans (b9.out.mono B8.out.size))
      obtain ⟨p9, c9, e9⟩ := own_slice her9.1
      rw [HM6.out] at e9
      subst e9
      clear her9 hb9 HS CA
      have HS : Hid (w9.rangeAt bk (P * 16) (kcl (KF P)) ∧ w9.cell? ⟨bk + 1, P, none⟩ = some (.int .i64 PV) ∧ w9.cell? ⟨t6, 3, none⟩ = some (.slice pv LV cv)) := hid ⟨S9.out.kc P hP, IC9.out, Q39.out⟩
      refine hK.out _ _ HS.out (fun _ => ?_)
      clear hK K
      try (simp only [Act.put, List.getElem_toArray, List.getElem_cons_zero, List.getElem_cons_succ, List.setIfInBounds_toArray, List.set_cons_zero, List.set_cons_succ])
      refine wpAnyH_take (i := 11) (v := ?_) rfl (by kernel_rfl) (by kernel_rfl) (by kernel_rfl) (fun _ _ _ h => h) (Or.inl ⟨by rfl, ?q11⟩) HS.out ?_
      case q11 => intro w hSw; obtain ⟨hr0, hc0, hc1⟩ := hSw; go_simp; rfl
      simp only [Act.put, List.getElem_toArray, List.getElem_cons_zero, List.getElem_cons_succ, List.setIfInBounds_toArray, List.set_cons_zero, List.set_cons_succ]
      refine wpAnyH_take (i := 12) (v := ?_) rfl (by kernel_rfl) (by kernel_rfl) (by kernel_rfl) (fun _ _ _ h => h) (Or.inl ⟨by rfl, ?q12⟩) HS.out ?_
      case q12 => intro w hSw; obtain ⟨hr0, hc0, hc1⟩ := hSw; go_simp; rfl
      simp only [Act.put, List.getElem_toArray, List.getElem_cons_zero, List.getElem_cons_succ, List.setIfInBounds_toArray, List.set_cons_zero, List.set_cons_succ]
      refine wpAnyH_take (i := 13) (v := ?_) rfl (by kernel_rfl) (by kernel_rfl) (by kernel_rfl) (fun _ _ _ h => h) (Or.inl ⟨by rfl, ?q13⟩) HS.out ?_
      case q13 => intro w hSw; obtain ⟨hr0, hc0, hc1⟩ := hSw; go_simp; rfl
      simp only [Act.put, List.getElem_toArray, List.getElem_cons_zero, List.getElem_cons_succ, List.setIfInBounds_toArray, List.set_cons_zero, List.set_cons_succ]
      refine wpAnyH_take (i := 14) (v := ?_) rfl (by kernel_rfl) (by kernel_rfl) (by kernel_rfl) (fun _ _ _ h => h) (Or.inl ⟨by rfl, ?q14⟩) HS.out ?_
      case q14 => intro w hSw; obtain ⟨hr0, hc0, hc1⟩ := hSw; go_simp; rfl
      simp only [Act.put, List.getElem_toArray, List.getElem_cons_zero, List.getElem_cons_succ, List.setIfInBounds_toArray, List.set_cons_zero, List.set_cons_succ]
      refine wpAnyH_take (i := 15) (v := ?_) rfl (by kernel_rfl) (by kernel_rfl) (by kernel_rfl) (fun _ _ _ h => h) (Or.inl ⟨by rfl, ?q15⟩) HS.out ?_
      case q15 => intro w hSw; obtain ⟨hr0, hc0, hc1⟩ := hSw; go_simp; rfl
      simp only [Act.put, List.getElem_toArray, List.getElem_cons_zero, List.getElem_cons_succ, List.setIfInBounds_toArray, List.set_cons_zero, List.set_cons_succ]
      refine wpAnyH_done (by kernel_rfl) ?_ _
      clear HS
      have hne : (AE != AE) = false := by simp
      have HNX : Hid ((AE = 0 ∧ nxP PV ol = PV + LV ∧ PV + LV ≤ 4611686018427387904) ∨ (AE = 40 ∧ nxP PV ol = PV)) := by
        rw [← HAE.out]
        unfold apE nxP
        by_cases h : okPl PV ol.length
        · rw [if_pos h, if_pos h, HL.out]
          have := h.2
          rw [HL.out] at this
          exact hid (.inl ⟨rfl, rfl, this⟩)
        · rw [if_neg h, if_neg h]
          exact hid (.inr ⟨rfl, rfl⟩)
      by_cases hae : AE = 0
      · have hnx : nxP PV ol = PV + LV ∧ PV + LV ≤ 4611686018427387904 := by rcases HNX.out with h | h; exact h.2; omega
        have hae0 : (AE == 0) = true := by rw [hae]; rfl
        have hwr : IntKind.i64.wrap (PV + (LV : Int)) = PV + (LV : Int) := by rw [IntKind.wrap_i64]; omega
        have FI9 : Hid (w9.frozen? ⟨bk + 1, P, none⟩ = false) := hid (S9.out.ic P hP).2
        go_wp2_with fail
        refine wp_region_last (S := (fun W : World => W.cell? ⟨bk + 1, P, none⟩ = some (.int .i64 PV) ∧ W.cell? ⟨t6, 3, none⟩ = some (.slice pv LV cv))) 11 (by kernel_rfl) ⟨IC9.out, Q39.out⟩ (fun hHeld => ?_)
        have HS := hid hHeld
        clear hHeld
        change wpAnyL _ _ _ _ _ _ _ _ _ (World.drew _)
        refine wpAnyL_take (i := 0) (v := ?_) rfl (by kernel_rfl) (by kernel_rfl) (by kernel_rfl) (by kernel_rfl) (by kernel_rfl) (fun _ _ _ h => h) (Or.inl ⟨by rfl, ?q0⟩) HS.out ?_
        case q0 => intro w hSw; obtain ⟨hc0, hc1⟩ := hSw; go_simp; rfl
        simp only [Act.put, List.getElem_toArray, List.getElem_cons_zero, List.getElem_cons_succ, List.setIfInBounds_toArray, List.set_cons_zero, List.set_cons_succ]
        refine wpAnyL_take (i := 1) (v := ?_) rfl (by kernel_rfl) (by kernel_rfl) (by kernel_rfl) (by kernel_rfl) (by kernel_rfl) (fun _ _ _ h => h) (Or.inl ⟨by rfl, ?q1⟩) HS.out ?_
        case q1 => intro w hSw; obtain ⟨hc0, hc1⟩ := hSw; go_simp; rfl
        simp only [Act.put, List.getElem_toArray, List.getElem_cons_zero, List.getElem_cons_succ, List.setIfInBounds_toArray, List.set_cons_zero, List.set_cons_succ]
        refine wpAnyL_take (i := 2) (v := ?_) rfl (by kernel_rfl) (by kernel_rfl) (by kernel_rfl) (by kernel_rfl) (by kernel_rfl) (fun _ _ _ h => h) (Or.inl ⟨by rfl, ?q2⟩) HS.out ?_
        case q2 => intro w hSw; obtain ⟨hc0, hc1⟩ := hSw; go_simp; rfl
        simp only [Act.put, List.getElem_toArray, List.getElem_cons_zero, List.getElem_cons_succ, List.setIfInBounds_toArray, List.set_cons_zero, List.set_cons_succ]
        refine wpAnyL_take (i := 3) (v := ?_) rfl (by kernel_rfl) (by kernel_rfl) (by kernel_rfl) (by kernel_rfl) (by kernel_rfl) (fun _ _ _ h => h) (Or.inl ⟨by rfl, ?q3⟩) HS.out ?_
        case q3 => intro w hSw; obtain ⟨hc0, hc1⟩ := hSw; go_simp; rfl
        simp only [Act.put, List.getElem_toArray, List.getElem_cons_zero, List.getElem_cons_succ, List.setIfInBounds_toArray, List.set_cons_zero, List.set_cons_succ]
        refine wpAnyL_take (i := 4) (v := ?_) rfl (by kernel_rfl) (by kernel_rfl) (by kernel_rfl) (by kernel_rfl) (by kernel_rfl) (fun _ _ _ h => h) (Or.inl ⟨by rfl, ?q4⟩) HS.out ?_
        case q4 => intro w hSw; obtain ⟨hc0, hc1⟩ := hSw; go_simp; rfl
        simp only [Act.put, List.getElem_toArray, List.getElem_cons_zero, List.getElem_cons_succ, List.setIfInBounds_toArray, List.set_cons_zero, List.set_cons_succ]
        refine wpAnyL_take (i := 5) (v := ?_) rfl (by kernel_rfl) (by kernel_rfl) (by kernel_rfl) (by kernel_rfl) (by kernel_rfl) (fun _ _ _ h => h) (Or.inl ⟨by rfl, ?q5⟩) HS.out ?_
        case q5 => intro w hSw; obtain ⟨hc0, hc1⟩ := hSw; go_simp; rfl
        simp only [Act.put, List.getElem_toArray, List.getElem_cons_zero, List.getElem_cons_succ, List.setIfInBounds_toArray, List.set_cons_zero, List.set_cons_succ]
        refine wpAnyL_take (i := 6) (v := ?_) rfl (by kernel_rfl) (by kernel_rfl) (by kernel_rfl) (by kernel_rfl) (by kernel_rfl) (fun _ _ _ h => h) (Or.inl ⟨by rfl, ?q6⟩) HS.out ?_
        case q6 => intro w hSw; obtain ⟨hc0, hc1⟩ := hSw; go_simp; rfl
        simp only [Act.put, List.getElem_toArray, List.getElem_cons_zero, List.getElem_cons_succ, List.setIfInBounds_toArray, List.set_cons_zero, List.set_cons_succ]
        refine wpAnyL_take (i := 7) (v := ?_) rfl (by kernel_rfl) (by kernel_rfl) (by kernel_rfl) (by kernel_rfl) (by kernel_rfl) (fun _ _ _ h => h) (Or.inl ⟨by rfl, ?q7⟩) HS.out ?_
        case q7 => intro w hSw; obtain ⟨hc0, hc1⟩ := hSw; go_simp; rfl
        simp only [Act.put, List.getElem_toArray, List.getElem_cons_zero, List.getElem_cons_succ, List.setIfInBounds_toArray, List.set_cons_zero, List.set_cons_succ]
        refine wpAnyL_take (i := 8) (v := ?_) rfl (by kernel_rfl) (by kernel_rfl) (by kernel_rfl) (by kernel_rfl) (by kernel_rfl) (fun _ _ _ h => h) (Or.inl ⟨by rfl, ?q8⟩) HS.out ?_
        case q8 => intro w hSw; obtain ⟨hc0, hc1⟩ := hSw; go_simp; rfl
        simp only [Act.put, List.getElem_toArray, List.getElem_cons_zero, List.getElem_cons_succ, List.setIfInBounds_toArray, List.set_cons_zero, List.set_cons_succ]
        refine wpAnyL_take (i := 9) (v := ?_) rfl (by kernel_rfl) (by kernel_rfl) (by kernel_rfl) (by kernel_rfl) (by kernel_rfl) (fun _ _ _ h => h) (Or.inl ⟨by rfl, ?q9⟩) HS.out ?_
        case q9 => intro w hSw; obtain ⟨hc0, hc1⟩ := hSw; go_simp; rfl
        simp only [Act.put, List.getElem_toArray, List.getElem_cons_zero, List.getElem_cons_succ, List.setIfInBounds_toArray, List.set_cons_zero, List.set_cons_succ]
        refine wpAnyL_take (i := 10) (v := ?_) rfl (by kernel_rfl) (by kernel_rfl) (by kernel_rfl) (by kernel_rfl) (by kernel_rfl) (fun _ _ _ h => h) (Or.inl ⟨by rfl, ?q10⟩) HS.out ?_
        case q10 => intro w hSw; obtain ⟨hc0, hc1⟩ := hSw; go_simp; rfl
        simp only [Act.put, List.getElem_toArray, List.getElem_cons_zero, List.getElem_cons_succ, List.setIfInBounds_toArray, List.set_cons_zero, List.set_cons_succ]
        refine wpAnyL_one (i := 11) (by kernel_rfl) rfl (fun K hK => ?_)
        have cu : w9.drew.cell? ⟨bk + 1, P, none⟩ = some (.int .i64 PV) := IC9.out
        have fu : w9.drew.frozen? ⟨bk + 1, P, none⟩ = false := FI9.out
        clear HS
        go_simp
        obtain ⟨w10, HW10⟩ : ∃ W : World, Hid ((w9.setCell ⟨bk + 1, P, none⟩ (.int .i64 (PV + (LV : Int)))).drew = W) := ⟨_, hid rfl⟩
        rw [HW10.out]
        refine hK.out _ _ (fun e => absurd rfl e) ?_
        clear hK K cu fu
        try simp only [Act.put, List.getElem_toArray, List.getElem_cons_zero, List.getElem_cons_succ, List.setIfInBounds_toArray, List.set_cons_zero, List.set_cons_succ]
        refine wpAnyL_done (by kernel_rfl) ?_ _
        have g10 : Hid (w9.grownBy w10 (some (bk + 1))) := by rw [← HW10.out]; exact hid (grown_setd _ _ _ _)
        have S10a := hid ((S9.out.seti hP (PV + (LV : Int))).below ((Dr.one (w9.setCell ⟨bk + 1, P, none⟩ (.int .i64 (PV + (LV : Int)))) 1).below _))
        rw [show World.drewN (w9.setCell ⟨bk + 1, P, none⟩ (.int .i64 (PV + (LV : Int)))) 1 = (w9.setCell ⟨bk + 1, P, none⟩ (.int .i64 (PV + (LV : Int)))).drew from rfl] at S10a
        rw [HW10.out, hnx.1] at S10a
        have S10 : Hid (CS N0 bl bk (bk + 1) GF KF (updC pc P (PV + (LV : Int))) (updC pc P (PV + (LV : Int))) w10) := S10a
        have FX : Hid (Fm N0 wr w10) := hid (F9.out.low g10.out S9.out.lt.2.2.1)
        have BX : Hid (Below w.heap.size w w10) := hid (B9.out.grown g10.out B9.out.size (fun q e => by cases e; exact BLO.out.2))
        have PRX : Hid (∀ i, i < 2 → 0 ≤ updC pc P (PV + (LV : Int)) i ∧ updC pc P (PV + (LV : Int)) i ≤ 4611686018427387904) := hid fun i hi => by
          by_cases e : i = P
          · rw [e, updC_same]; omega
          · rw [updC_other _ _ e]; exact PR.out i hi
        have S10Z := g10.out.size
        have ST : ∀ k, w5.heap.size ≤ k → k < w9.heap.size → w10.heap[k]? = w9.heap[k]? := fun k h1 h2 => g10.out.block k h2 (fun e => by have h3 := Option.some.inj e; have h4 := S9.out.lt.2.2.1; have h5 := S5.out.sz; omega)
        clear hae0 hwr
        have OA := hid (own_blkD O69.out fun k e => ST k (O69.out.lt k e).1 (O69.out.lt k e).2)
        have OB := hid (own_blkD O9.out fun k e => ST k (Nat.le_trans HSZ58.out (O9.out.lt k e).1) (O9.out.lt k e).2)
        have DX := hid (DR.out.fm FX.out)
        have FR1 := hid (DR.out.fresh (u := .slice p6 M6 c6) fun k e => by have h1 := (O6.out.lt k e).1; have h2 := HG.out; omega)
        have FR2 := hid (DR.out.swap.fresh (u := .slice p9 M6 c9) fun k e => by have h1 := (O9.out.lt k e).1; have h2 := HG.out; have h3 := HSZ58.out; have h4 : w8.drew.heap.size = w8.heap.size := rfl; omega)
        have hNb : N + 1 ≤ 2932031007404 := by have := LL.out; have := HNl.out; omega
        have hXN : N0 ≤ w10.heap.size := S10.out.sz
        have SYX := S10Z
        obtain ⟨wa, HWa⟩ : ∃ x, Hid (w10.alloc (.cells #[.slice p6 M6 c6] 31) = x) := ⟨_, rfl⟩
        have ba : Below w10.heap.size w10 wa := by rw [← HWa.out]; exact (Below.refl _ _).alloc (Nat.le_refl _) _
        have hca : wa.cell? ⟨w10.heap.size, 0, none⟩ = some (.slice p6 M6 c6) := by rw [← HWa.out, cell_of_row _ _ _ _ _ _ (heap_alloc_new w10 _)]; rfl
        have hza : wa.heap.size = w10.heap.size + 1 := by rw [← HWa.out]; simp
        have R1 : w10.ownsRow N0 31 1 (.slice p1 N c1) N x1 := by have := DX.out.r1; rwa [HNl.out] at this
        obtain ⟨vb, wb, hrb, hownb, hgrb, hlocb⟩ := run_append_slice wa N0 30 (.slice p1 N c1) N x1 (own_blkD R1 fun k e => ba.block _ (R1.lt k e).2) ⟨w10.heap.size, 0, none⟩ 1 (.slice p6 M6 c6) hca rfl (by omega) (by omega)
        rw [hza] at hlocb
        have Db := hid (DX.out.push (u := .slice p6 M6 c6) (l := AL) (o := .cells #[.slice p6 M6 c6] 31) (own_mono4D OA.out (by have := HG.out; have := SA.out.sz; omega)) Y6.out FR1.out (by rw [HNl.out]; exact hownb) (by rw [HWa.out]; exact hgrb) hlocb)
        have Sb := hid (((S10.out).below ba).keep hgrb.size fun b q => hgrb.block b (by omega) fun e => by have := (R1.lt b e.symm).1; omega)
        have Bb : Hid (Below w.heap.size w wb) := hid ((BX.out.trans (ba.mono BX.out.size)).grown hgrb (by have := BX.out.size; omega) (fun k e => by have := (R1.lt k e).1; have := NW.out; omega))
        have O9b := hid (own_blkD OB.out fun k e => by
          have l6 := (OB.out.lt k e).2
          have l5 := (OB.out.lt k e).1
          refine (hgrb.block k (by omega) fun q => ?_).trans (ba.block k l6)
          have := (DR.out.r1.lt k q.symm).2
          have h1 := HG.out; have h2 := HSZ58.out; have h4 : w8.drew.heap.size = w8.heap.size := rfl; have h5 := HRZ.out
          omega)
        obtain ⟨qb, capb, eb⟩ := own_slice hownb
        have Rb := hid hrb
        have Szb := hid hgrb.size
        clear hownb hgrb hlocb hca ba R1 hrb
        subst eb
        obtain ⟨wc, HWc⟩ : ∃ x, Hid (wb.alloc (.cells #[.slice p9 M6 c9] 31) = x) := ⟨_, rfl⟩
        have bc : Below wb.heap.size wb wc := by rw [← HWc.out]; exact (Below.refl _ _).alloc (Nat.le_refl _) _
        have hcc : wc.cell? ⟨wb.heap.size, 0, none⟩ = some (.slice p9 M6 c9) := by rw [← HWc.out, cell_of_row _ _ _ _ _ _ (heap_alloc_new wb _)]; rfl
        have hzc : wc.heap.size = wb.heap.size + 1 := by rw [← HWc.out]; simp
        have R2 : wb.ownsRow N0 31 1 (.slice p2 N c2) N x2 := by have := Db.out.r2; rwa [HNl.out] at this
        have hbN := Sb.out.sz
        obtain ⟨vd, wd, hrd, hownd, hgrd, hlocd⟩ := run_append_slice wc N0 30 (.slice p2 N c2) N x2 (own_blkD R2 fun k e => bc.block _ (R2.lt k e).2) ⟨wb.heap.size, 0, none⟩ 1 (.slice p9 M6 c9) hcc rfl (by omega) (by omega)
        rw [hzc] at hlocd
        have Dd := hid (Db.out.swap.push (u := .slice p9 M6 c9) (l := AL) (o := .cells #[.slice p9 M6 c9] 31) (own_mono4D O9b.out (by have h4 : w8.drew.heap.size = w8.heap.size := rfl; have := S8.out.sz; omega)) Y6.out FR2.out (by rw [HNl.out]; exact hownd) (by rw [HWc.out]; exact hgrd) hlocd).swap
        have Sd := hid ((Sb.out.below bc).keep hgrd.size fun b q => hgrd.block b (by omega) fun e => by have := (R2.lt b e.symm).1; omega)
        have Bd : Hid (Below w.heap.size w wd) := hid ((Bb.out.trans (bc.mono Bb.out.size)).grown hgrd (by have := Bb.out.size; omega) (fun k e => by have := (R2.lt k e).1; have := NW.out; omega))
        obtain ⟨qd, capd, ed⟩ := own_slice hownd
        have Rd := hid hrd
        clear hownd hgrd hlocd hcc bc R2 hrd hza hzc
        subst ed
        have LL2 : Hid ((l ++ [AL]).length ≤ k + 1) := hid (by rw [List.length_append, List.length_singleton]; have := LL.out; omega)
        have LE2 : Hid (∀ j, ((l ++ [AL]).getD j []).length ≤ 3000) := hid fun j => by
          by_cases hj : j < l.length
          · rw [getD_app, if_pos hj]; exact LE.out j
          · rw [getD_app, if_neg hj]
            cases h : j - l.length with
            | zero => exact HALl.out
            | succ n => simp [List.getD]
        go_wp2_with (first | rw [HWa.out] | rw [HWc.out] | (refine wpList_run_appendC rfl _ _ rfl rfl rfl Rb.out rfl ?_) | (refine wpList_run_appendC rfl _ _ rfl rfl rfl Rd.out rfl ?_) | fail)
        exact ⟨⟨k + 1, by omega, by go_num, _, _, _, _, Sd, Dd, LL2, LE2, PRX, Bd⟩, by simp [intOf]; omega⟩
      · have hnx : AE = 40 ∧ nxP PV ol = PV := by rcases HNX.out with h | h; exact absurd h.1 hae; exact h
        have hae0 : (AE == 0) = false := by rw [hnx.1]; rfl
        have hup : updC pc P PV = pc := funext fun i => by
          by_cases e : i = P
          · rw [e, updC_same, HPV.out]
          · rw [updC_other _ _ e]
        have S10a := S9
        rw [hnx.2, hup] at S10a
        have S10 : Hid (CS N0 bl bk (bk + 1) GF KF pc pc w9) := S10a
        have FX := F9
        have BX := B9
        have PRX := PR
        have S10Z := Nat.le_refl w9.heap.size
        have ST : ∀ k, w5.heap.size ≤ k → k < w9.heap.size → w9.heap[k]? = w9.heap[k]? := fun k h1 h2 => rfl
        have OA := hid (own_blkD O69.out fun k e => ST k (O69.out.lt k e).1 (O69.out.lt k e).2)
        have OB := hid (own_blkD O9.out fun k e => ST k (Nat.le_trans HSZ58.out (O9.out.lt k e).1) (O9.out.lt k e).2)
        have DX := hid (DR.out.fm FX.out)
        have FR1 := hid (DR.out.fresh (u := .slice p6 M6 c6) fun k e => by have h1 := (O6.out.lt k e).1; have h2 := HG.out; omega)
        have FR2 := hid (DR.out.swap.fresh (u := .slice p9 M6 c9) fun k e => by have h1 := (O9.out.lt k e).1; have h2 := HG.out; have h3 := HSZ58.out; have h4 : w8.drew.heap.size = w8.heap.size := rfl; omega)
        have hNb : N + 1 ≤ 2932031007404 := by have := LL.out; have := HNl.out; omega
        have hXN : N0 ≤ w9.heap.size := S10.out.sz
        have SYX := S10Z
        obtain ⟨wa, HWa⟩ : ∃ x, Hid (w9.alloc (.cells #[.slice p6 M6 c6] 31) = x) := ⟨_, rfl⟩
        have ba : Below w9.heap.size w9 wa := by rw [← HWa.out]; exact (Below.refl _ _).alloc (Nat.le_refl _) _
        have hca : wa.cell? ⟨w9.heap.size, 0, none⟩ = some (.slice p6 M6 c6) := by rw [← HWa.out, cell_of_row _ _ _ _ _ _ (heap_alloc_new w9 _)]; rfl
        have hza : wa.heap.size = w9.heap.size + 1 := by rw [← HWa.out]; simp
        have R1 : w9.ownsRow N0 31 1 (.slice p1 N c1) N x1 := by have := DX.out.r1; rwa [HNl.out] at this
        obtain ⟨vb, wb, hrb, hownb, hgrb, hlocb⟩ := run_append_slice wa N0 30 (.slice p1 N c1) N x1 (own_blkD R1 fun k e => ba.block _ (R1.lt k e).2) ⟨w9.heap.size, 0, none⟩ 1 (.slice p6 M6 c6) hca rfl (by omega) (by omega)
        rw [hza] at hlocb
        have Db := hid (DX.out.push (u := .slice p6 M6 c6) (l := AL) (o := .cells #[.slice p6 M6 c6] 31) (own_mono4D OA.out (by have := HG.out; have := SA.out.sz; omega)) Y6.out FR1.out (by rw [HNl.out]; exact hownb) (by rw [HWa.out]; exact hgrb) hlocb)
        have Sb := hid (((S10.out).below ba).keep hgrb.size fun b q => hgrb.block b (by omega) fun e => by have := (R1.lt b e.symm).1; omega)
        have Bb : Hid (Below w.heap.size w wb) := hid ((BX.out.trans (ba.mono BX.out.size)).grown hgrb (by have := BX.out.size; omega) (fun k e => by have := (R1.lt k e).1; have := NW.out; omega))
        have O9b := hid (own_blkD OB.out fun k e => by
          have l6 := (OB.out.lt k e).2
          have l5 := (OB.out.lt k e).1
          refine (hgrb.block k (by omega) fun q => ?_).trans (ba.block k l6)
          have := (DR.out.r1.lt k q.symm).2
          have h1 := HG.out; have h2 := HSZ58.out; have h4 : w8.drew.heap.size = w8.heap.size := rfl; have h5 := HRZ.out
          omega)
        obtain ⟨qb, capb, eb⟩ := own_slice hownb
        have Rb := hid hrb
        have Szb := hid hgrb.size
        clear hownb hgrb hlocb hca ba R1 hrb
        subst eb
        obtain ⟨wc, HWc⟩ : ∃ x, Hid (wb.alloc (.cells #[.slice p9 M6 c9] 31) = x) := ⟨_, rfl⟩
        have bc : Below wb.heap.size wb wc := by rw [← HWc.out]; exact (Below.refl _ _).alloc (Nat.le_refl _) _
        have hcc : wc.cell? ⟨wb.heap.size, 0, none⟩ = some (.slice p9 M6 c9) := by rw [← HWc.out, cell_of_row _ _ _ _ _ _ (heap_alloc_new wb _)]; rfl
        have hzc : wc.heap.size = wb.heap.size + 1 := by rw [← HWc.out]; simp
        have R2 : wb.ownsRow N0 31 1 (.slice p2 N c2) N x2 := by have := Db.out.r2; rwa [HNl.out] at this
        have hbN := Sb.out.sz
        obtain ⟨vd, wd, hrd, hownd, hgrd, hlocd⟩ := run_append_slice wc N0 30 (.slice p2 N c2) N x2 (own_blkD R2 fun k e => bc.block _ (R2.lt k e).2) ⟨wb.heap.size, 0, none⟩ 1 (.slice p9 M6 c9) hcc rfl (by omega) (by omega)
        rw [hzc] at hlocd
        have Dd := hid (Db.out.swap.push (u := .slice p9 M6 c9) (l := AL) (o := .cells #[.slice p9 M6 c9] 31) (own_mono4D O9b.out (by have h4 : w8.drew.heap.size = w8.heap.size := rfl; have := S8.out.sz; omega)) Y6.out FR2.out (by rw [HNl.out]; exact hownd) (by rw [HWc.out]; exact hgrd) hlocd).swap
        have Sd := hid ((Sb.out.below bc).keep hgrd.size fun b q => hgrd.block b (by omega) fun e => by have := (R2.lt b e.symm).1; omega)
        have Bd : Hid (Below w.heap.size w wd) := hid ((Bb.out.trans (bc.mono Bb.out.size)).grown hgrd (by have := Bb.out.size; omega) (fun k e => by have := (R2.lt k e).1; have := NW.out; omega))
        obtain ⟨qd, capd, ed⟩ := own_slice hownd
        have Rd := hid hrd
        clear hownd hgrd hlocd hcc bc R2 hrd hza hzc
        subst ed
        have LL2 : Hid ((l ++ [AL]).length ≤ k + 1) := hid (by rw [List.length_append, List.length_singleton]; have := LL.out; omega)
        have LE2 : Hid (∀ j, ((l ++ [AL]).getD j []).length ≤ 3000) := hid fun j => by
          by_cases hj : j < l.length
          · rw [getD_app, if_pos hj]; exact LE.out j
          · rw [getD_app, if_neg hj]
            cases h : j - l.length with
            | zero => exact HALl.out
            | succ n => simp [List.getD]
        go_wp2_with (first | rw [HWa.out] | rw [HWc.out] | (refine wpList_run_appendC rfl _ _ rfl rfl rfl Rb.out rfl ?_) | (refine wpList_run_appendC rfl _ _ rfl rfl rfl Rd.out rfl ?_) | fail)
        exact ⟨⟨k + 1, by omega, by go_num, _, _, _, _, Sd, Dd, LL2, LE2, PRX, Bd⟩, by simp [intOf]; omega⟩
    · have hk' : k = n := by omega
      subst hk'
      have cc0 := hid (SR.out.lc 0 (by decide))
      have cc1 := hid (SR.out.lc 1 (by decide))
      have i0 := hid (SR.out.ic 0 (by decide)).1
      have i1 := hid (SR.out.ic 1 (by decide)).1
      have CT0 := hid fun W (hW : CS N0 bl bk (bk + 1) GF KF pc pc W) => cat_any W _ _ _ (hW.c 0 (by decide))
      have CT1 := hid fun W (hW : CS N0 bl bk (bk + 1) GF KF pc pc W) => cat_any W _ _ _ (hW.c 1 (by decide))
      obtain ⟨PV0, HPV0⟩ : ∃ x, Hid (pc 0 = x) := ⟨_, rfl⟩
      obtain ⟨PV1, HPV1⟩ : ∃ x, Hid (pc 1 = x) := ⟨_, rfl⟩
      obtain ⟨G0, HG0⟩ : ∃ x, Hid (GF 0 = x) := ⟨_, rfl⟩
      obtain ⟨G1, HG1⟩ : ∃ x, Hid (GF 1 = x) := ⟨_, rfl⟩
      rw [HPV0.out] at i0 CT0
      rw [HPV1.out] at i1 CT1
      rw [HG0.out] at cc0 CT0
      rw [HG1.out] at cc1 CT1
      have he0 : (PV0 == PV0) = true := by simp
      have he1 : (PV1 == PV1) = true := by simp
      have dR := hid ((Dr.one wr 1).below wr.heap.size)
      have SRd : Hid (CS N0 bl bk (bk + 1) GF KF pc pc wr.drew) := hid (SR.out.below dR.out)
      have DRd : Hid (DP N0 wr.drew (.slice p1 N c1) (.slice p2 N c2) x1 x2 l l) := hid (DR.out.below dR.out)
      have CL := hid (sameLists_any wr.drew _ _ l l DRd.out.hl DRd.out.swap.hl)
      rw [decide_eq_true rfl] at CL
      have CZ := hid fun W (hW : DP N0 W (.slice p1 N c1) (.slice p2 N c2) x1 x2 l l) (hz : N0 ≤ W.heap.size) => apart_any N0 W _ x1 l hW.hv hW.a1 hz (by have h1 := hW.a1.1; have h2 := LL.out; omega) (fun j => by have := LE.out j; omega)
      clear hlt HC HE
      go_wp2_with fail
      refine wp_region_held_drew (S := (fun W : World => W.cell? ⟨bl, 0, none⟩ = some (.pointer (some ⟨G0, 0, none⟩)) ∧ W.cell? ⟨bl, 1, none⟩ = some (.pointer (some ⟨G1, 0, none⟩)) ∧ W.cell? ⟨bk + 1, 0, none⟩ = some (.int .i64 PV0) ∧ W.cell? ⟨bk + 1, 1, none⟩ = some (.int .i64 PV1))) (by kernel_rfl) ⟨cc0.out, cc1.out, i0.out, i1.out⟩ (fun hHeld => ?_)
      have HS := hid hHeld
      clear hHeld
      change wpAnyH _ _ _ _ _ _ _ _ (World.drew _)
      refine wpAnyH_take (i := 0) (v := ?_) rfl (by kernel_rfl) (by kernel_rfl) (by kernel_rfl) (fun _ _ _ h => h) (Or.inl ⟨by rfl, ?q0⟩) HS.out ?_
      case q0 => intro w hSw; obtain ⟨hc0, hc1, hi0, hi1⟩ := hSw; go_simp; rfl
      simp only [Act.put, List.getElem_toArray, List.getElem_cons_zero, List.getElem_cons_succ, List.setIfInBounds_toArray, List.set_cons_zero, List.set_cons_succ]
      refine wpAnyH_take (i := 1) (v := ?_) rfl (by kernel_rfl) (by kernel_rfl) (by kernel_rfl) (fun _ _ _ h => h) (Or.inl ⟨by rfl, ?q1⟩) HS.out ?_
      case q1 => intro w hSw; obtain ⟨hc0, hc1, hi0, hi1⟩ := hSw; go_simp; rfl
      simp only [Act.put, List.getElem_toArray, List.getElem_cons_zero, List.getElem_cons_succ, List.setIfInBounds_toArray, List.set_cons_zero, List.set_cons_succ]
      refine wpAnyH_take (i := 2) (v := ?_) rfl (by kernel_rfl) (by kernel_rfl) (by kernel_rfl) (fun _ _ _ h => h) (Or.inl ⟨by rfl, ?q2⟩) HS.out ?_
      case q2 => intro w hSw; obtain ⟨hc0, hc1, hi0, hi1⟩ := hSw; go_simp; rfl
      simp only [Act.put, List.getElem_toArray, List.getElem_cons_zero, List.getElem_cons_succ, List.setIfInBounds_toArray, List.set_cons_zero, List.set_cons_succ]
      refine wpAnyH_take (i := 4) (v := ?_) rfl (by kernel_rfl) (by kernel_rfl) (by kernel_rfl) (fun _ _ _ h => h) (Or.inl ⟨by rfl, ?q4⟩) HS.out ?_
      case q4 => intro w hSw; obtain ⟨hc0, hc1, hi0, hi1⟩ := hSw; go_simp; rfl
      simp only [Act.put, List.getElem_toArray, List.getElem_cons_zero, List.getElem_cons_succ, List.setIfInBounds_toArray, List.set_cons_zero, List.set_cons_succ]
      refine wpAnyH_take (i := 5) (v := ?_) rfl (by kernel_rfl) (by kernel_rfl) (by kernel_rfl) (fun _ _ _ h => h) (Or.inl ⟨by rfl, ?q5⟩) HS.out ?_
      case q5 => intro w hSw; obtain ⟨hc0, hc1, hi0, hi1⟩ := hSw; go_simp; rfl
      simp only [Act.put, List.getElem_toArray, List.getElem_cons_zero, List.getElem_cons_succ, List.setIfInBounds_toArray, List.set_cons_zero, List.set_cons_succ]
      refine wpAnyH_take (i := 6) (v := ?_) rfl (by kernel_rfl) (by kernel_rfl) (by kernel_rfl) (fun _ _ _ h => h) (Or.inl ⟨by rfl, ?q6⟩) HS.out ?_
      case q6 => intro w hSw; obtain ⟨hc0, hc1, hi0, hi1⟩ := hSw; go_simp; rfl
      simp only [Act.put, List.getElem_toArray, List.getElem_cons_zero, List.getElem_cons_succ, List.setIfInBounds_toArray, List.set_cons_zero, List.set_cons_succ]
      refine wpAnyH_ready (rs := [3]) (by kernel_rfl) (by simp) ?_
      refine AllReadyH.cons rfl (fun K hK => ?_) AllReadyH.nil
      replace hK := hid hK
      go_simp
      refine (CT0.out _ SRd.out).mono ?_
      rintro e wq ⟨rfl, hwq⟩
      rw [hwq]
      clear hwq wq
      refine hK.out _ _ HS.out (fun _ => ?_)
      clear hK K
      try (simp only [Act.put, List.getElem_toArray, List.getElem_cons_zero, List.getElem_cons_succ, List.setIfInBounds_toArray, List.set_cons_zero, List.set_cons_succ])
      refine wpAnyH_take (i := 7) (v := ?_) rfl (by kernel_rfl) (by kernel_rfl) (by kernel_rfl) (fun _ _ _ h => h) (Or.inl ⟨by rfl, ?q7⟩) HS.out ?_
      case q7 => intro w hSw; obtain ⟨hc0, hc1, hi0, hi1⟩ := hSw; go_simp; rfl
      simp only [Act.put, List.getElem_toArray, List.getElem_cons_zero, List.getElem_cons_succ, List.setIfInBounds_toArray, List.set_cons_zero, List.set_cons_succ]
      refine wpAnyH_take (i := 8) (v := ?_) rfl (by kernel_rfl) (by kernel_rfl) (by kernel_rfl) (fun _ _ _ h => h) (Or.inl ⟨by rfl, ?q8⟩) HS.out ?_
      case q8 => intro w hSw; obtain ⟨hc0, hc1, hi0, hi1⟩ := hSw; go_simp; rfl
      simp only [Act.put, List.getElem_toArray, List.getElem_cons_zero, List.getElem_cons_succ, List.setIfInBounds_toArray, List.set_cons_zero, List.set_cons_succ]
      refine wpAnyH_take (i := 9) (v := ?_) rfl (by kernel_rfl) (by kernel_rfl) (by kernel_rfl) (fun _ _ _ h => h) (Or.inl ⟨by rfl, ?q9⟩) HS.out ?_
      case q9 => intro w hSw; obtain ⟨hc0, hc1, hi0, hi1⟩ := hSw; go_simp; rfl
      simp only [Act.put, List.getElem_toArray, List.getElem_cons_zero, List.getElem_cons_succ, List.setIfInBounds_toArray, List.set_cons_zero, List.set_cons_succ]
      refine wpAnyH_take (i := 10) (v := ?_) rfl (by kernel_rfl) (by kernel_rfl) (by kernel_rfl) (fun _ _ _ h => h) (Or.inl ⟨by rfl, ?q10⟩) HS.out ?_
      case q10 => intro w hSw; obtain ⟨hc0, hc1, hi0, hi1⟩ := hSw; go_simp; rfl
      simp only [Act.put, List.getElem_toArray, List.getElem_cons_zero, List.getElem_cons_succ, List.setIfInBounds_toArray, List.set_cons_zero, List.set_cons_succ]
      refine wpAnyH_take (i := 11) (v := ?_) rfl (by kernel_rfl) (by kernel_rfl) (by kernel_rfl) (fun _ _ _ h => h) (Or.inl ⟨by rfl, ?q11⟩) HS.out ?_
      case q11 => intro w hSw; obtain ⟨hc0, hc1, hi0, hi1⟩ := hSw; go_simp; rfl
      simp only [Act.put, List.getElem_toArray, List.getElem_cons_zero, List.getElem_cons_succ, List.setIfInBounds_toArray, List.set_cons_zero, List.set_cons_succ]
      refine wpAnyH_take (i := 13) (v := ?_) rfl (by kernel_rfl) (by kernel_rfl) (by kernel_rfl) (fun _ _ _ h => h) (Or.inl ⟨by rfl, ?q13⟩) HS.out ?_
      case q13 => intro w hSw; obtain ⟨hc0, hc1, hi0, hi1⟩ := hSw; go_simp; rfl
      simp only [Act.put, List.getElem_toArray, List.getElem_cons_zero, List.getElem_cons_succ, List.setIfInBounds_toArray, List.set_cons_zero, List.set_cons_succ]
      refine wpAnyH_take (i := 14) (v := ?_) rfl (by kernel_rfl) (by kernel_rfl) (by kernel_rfl) (fun _ _ _ h => h) (Or.inl ⟨by rfl, ?q14⟩) HS.out ?_
      case q14 => intro w hSw; obtain ⟨hc0, hc1, hi0, hi1⟩ := hSw; go_simp; rfl
      simp only [Act.put, List.getElem_toArray, List.getElem_cons_zero, List.getElem_cons_succ, List.setIfInBounds_toArray, List.set_cons_zero, List.set_cons_succ]
      refine wpAnyH_take (i := 15) (v := ?_) rfl (by kernel_rfl) (by kernel_rfl) (by kernel_rfl) (fun _ _ _ h => h) (Or.inl ⟨by rfl, ?q15⟩) HS.out ?_
      case q15 => intro w hSw; obtain ⟨hc0, hc1, hi0, hi1⟩ := hSw; go_simp; rfl
      simp only [Act.put, List.getElem_toArray, List.getElem_cons_zero, List.getElem_cons_succ, List.setIfInBounds_toArray, List.set_cons_zero, List.set_cons_succ]
      refine wpAnyH_ready (rs := [12]) (by kernel_rfl) (by simp) ?_
      refine AllReadyH.cons rfl (fun K hK => ?_) AllReadyH.nil
      replace hK := hid hK
      go_simp
      refine (CT1.out _ SRd.out).mono ?_
      rintro e wq ⟨rfl, hwq⟩
      rw [hwq]
      clear hwq wq
      refine hK.out _ _ HS.out (fun _ => ?_)
      clear hK K
      try (simp only [Act.put, List.getElem_toArray, List.getElem_cons_zero, List.getElem_cons_succ, List.setIfInBounds_toArray, List.set_cons_zero, List.set_cons_succ])
      refine wpAnyH_take (i := 16) (v := ?_) rfl (by kernel_rfl) (by kernel_rfl) (by kernel_rfl) (fun _ _ _ h => h) (Or.inl ⟨by rfl, ?q16⟩) HS.out ?_
      case q16 => intro w hSw; obtain ⟨hc0, hc1, hi0, hi1⟩ := hSw; go_simp; rfl
      simp only [Act.put, List.getElem_toArray, List.getElem_cons_zero, List.getElem_cons_succ, List.setIfInBounds_toArray, List.set_cons_zero, List.set_cons_succ]
      refine wpAnyH_take (i := 17) (v := ?_) rfl (by kernel_rfl) (by kernel_rfl) (by kernel_rfl) (fun _ _ _ h => h) (Or.inl ⟨by rfl, ?q17⟩) HS.out ?_
      case q17 => intro w hSw; obtain ⟨hc0, hc1, hi0, hi1⟩ := hSw; go_simp; rfl
      simp only [Act.put, List.getElem_toArray, List.getElem_cons_zero, List.getElem_cons_succ, List.setIfInBounds_toArray, List.set_cons_zero, List.set_cons_succ]
      refine wpAnyH_take (i := 18) (v := ?_) rfl (by kernel_rfl) (by kernel_rfl) (by kernel_rfl) (fun _ _ _ h => h) (Or.inl ⟨by rfl, ?q18⟩) HS.out ?_
      case q18 => intro w hSw; obtain ⟨hc0, hc1, hi0, hi1⟩ := hSw; go_simp; rfl
      simp only [Act.put, List.getElem_toArray, List.getElem_cons_zero, List.getElem_cons_succ, List.setIfInBounds_toArray, List.set_cons_zero, List.set_cons_succ]
      refine wpAnyH_take (i := 19) (v := ?_) rfl (by kernel_rfl) (by kernel_rfl) (by kernel_rfl) (fun _ _ _ h => h) (Or.inl ⟨by rfl, ?q19⟩) HS.out ?_
      case q19 => intro w hSw; obtain ⟨hc0, hc1, hi0, hi1⟩ := hSw; go_simp; rfl
      simp only [Act.put, List.getElem_toArray, List.getElem_cons_zero, List.getElem_cons_succ, List.setIfInBounds_toArray, List.set_cons_zero, List.set_cons_succ]
      refine wpAnyH_take (i := 20) (v := ?_) rfl (by kernel_rfl) (by kernel_rfl) (by kernel_rfl) (fun _ _ _ h => h) (Or.inl ⟨by rfl, ?q20⟩) HS.out ?_
      case q20 => intro w hSw; obtain ⟨hc0, hc1, hi0, hi1⟩ := hSw; go_simp; rfl
      simp only [Act.put, List.getElem_toArray, List.getElem_cons_zero, List.getElem_cons_succ, List.setIfInBounds_toArray, List.set_cons_zero, List.set_cons_succ]
      refine wpAnyH_ready (rs := [21]) (by kernel_rfl) (by simp) ?_
      refine AllReadyH.cons rfl (fun K hK => ?_) AllReadyH.nil
      replace hK := hid hK
      go_simp
      refine CL.out.mono ?_
      rintro e wq ⟨rfl, q, hwq⟩
      rw [hwq]
      clear hwq wq
      refine hK.out _ _ HS.out (fun _ => ?_)
      clear hK K
      try (simp only [Act.put, List.getElem_toArray, List.getElem_cons_zero, List.getElem_cons_succ, List.setIfInBounds_toArray, List.set_cons_zero, List.set_cons_succ])
      refine wpAnyH_take (i := 22) (v := ?_) rfl (by kernel_rfl) (by kernel_rfl) (by kernel_rfl) (fun _ _ _ h => h) (Or.inl ⟨by rfl, ?q22⟩) HS.out ?_
      case q22 => intro w hSw; obtain ⟨hc0, hc1, hi0, hi1⟩ := hSw; go_simp; rfl
      simp only [Act.put, List.getElem_toArray, List.getElem_cons_zero, List.getElem_cons_succ, List.setIfInBounds_toArray, List.set_cons_zero, List.set_cons_succ]
      refine wpAnyH_take (i := 23) (v := ?_) rfl (by kernel_rfl) (by kernel_rfl) (by kernel_rfl) (fun _ _ _ h => h) (Or.inl ⟨by rfl, ?q23⟩) HS.out ?_
      case q23 => intro w hSw; obtain ⟨hc0, hc1, hi0, hi1⟩ := hSw; go_simp; rfl
      simp only [Act.put, List.getElem_toArray, List.getElem_cons_zero, List.getElem_cons_succ, List.setIfInBounds_toArray, List.set_cons_zero, List.set_cons_succ]
      refine wpAnyH_take (i := 24) (v := ?_) rfl (by kernel_rfl) (by kernel_rfl) (by kernel_rfl) (fun _ _ _ h => h) (Or.inl ⟨by rfl, ?q24⟩) HS.out ?_
      case q24 => intro w hSw; obtain ⟨hc0, hc1, hi0, hi1⟩ := hSw; go_simp; rfl
      simp only [Act.put, List.getElem_toArray, List.getElem_cons_zero, List.getElem_cons_succ, List.setIfInBounds_toArray, List.set_cons_zero, List.set_cons_succ]
      refine wpAnyH_ready (rs := [25]) (by kernel_rfl) (by simp) ?_
      refine AllReadyH.cons rfl (fun K hK => ?_) AllReadyH.nil
      replace hK := hid hK
      go_simp
      have dq := hid ((Dr.one wr (1 + q)).below wr.heap.size)
      refine (CZ.out _ (DR.out.below dq.out) SR.out.sz).mono ?_
      rintro e w9 ⟨rfl, hb9⟩
      have b9 := hid hb9
      clear hb9
      have HS9 : Hid (w9.cell? ⟨bl, 0, none⟩ = some (.pointer (some ⟨G0, 0, none⟩)) ∧ w9.cell? ⟨bl, 1, none⟩ = some (.pointer (some ⟨G1, 0, none⟩)) ∧ w9.cell? ⟨bk + 1, 0, none⟩ = some (.int .i64 PV0) ∧ w9.cell? ⟨bk + 1, 1, none⟩ = some (.int .i64 PV1)) := hid ⟨(b9.out.cell (p := ⟨bl, 0, none⟩) SR.out.lt.1).trans cc0.out, (b9.out.cell (p := ⟨bl, 1, none⟩) SR.out.lt.1).trans cc1.out, (b9.out.cell (p := ⟨bk + 1, 0, none⟩) SR.out.lt.2.2.1).trans i0.out, (b9.out.cell (p := ⟨bk + 1, 1, none⟩) SR.out.lt.2.2.1).trans i1.out⟩
      clear HS
      have HS := HS9
      refine hK.out _ _ HS.out (fun _ => ?_)
      clear hK K
      try (simp only [Act.put, List.getElem_toArray, List.getElem_cons_zero, List.getElem_cons_succ, List.setIfInBounds_toArray, List.set_cons_zero, List.set_cons_succ])
      refine wpAnyH_take (i := 26) (v := ?_) rfl (by kernel_rfl) (by kernel_rfl) (by kernel_rfl) (fun _ _ _ h => h) (Or.inl ⟨by rfl, ?q26⟩) HS.out ?_
      case q26 => intro w hSw; obtain ⟨hc0, hc1, hi0, hi1⟩ := hSw; go_simp; rfl
      simp only [Act.put, List.getElem_toArray, List.getElem_cons_zero, List.getElem_cons_succ, List.setIfInBounds_toArray, List.set_cons_zero, List.set_cons_succ]
      refine wpAnyH_take (i := 27) (v := ?_) rfl (by kernel_rfl) (by kernel_rfl) (by kernel_rfl) (fun _ _ _ h => h) (Or.inl ⟨by rfl, ?q27⟩) HS.out ?_
      case q27 => intro w hSw; obtain ⟨hc0, hc1, hi0, hi1⟩ := hSw; go_simp; rfl
      simp only [Act.put, List.getElem_toArray, List.getElem_cons_zero, List.getElem_cons_succ, List.setIfInBounds_toArray, List.set_cons_zero, List.set_cons_succ]
      refine wpAnyH_done (by kernel_rfl) ?_ _
      have B9 : Hid (Below w.heap.size w w9) := hid (BR.out.trans ((dq.out.mono BR.out.size).trans (b9.out.mono NW.out)))
      go_wp2
      go_ret
      exact ⟨rfl, B9.out⟩
end Go.Proofs.Ytmpdmkckjajhiaa
