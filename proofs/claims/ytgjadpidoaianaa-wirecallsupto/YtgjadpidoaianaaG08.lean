/- Of the road to wireCallsUpto_holds: WrLn, WrPutP, WrPM, WrLives. -/
import Derived.Test.YtgjadpidoaianaaG07
import Derived.Test.YtgjadpidoaianaaG00
import Derived.Laws.AppendOwnNone
import Derived.Test.YtgjadpidoaianaaG05
import Derived.Test.YtgjadpidoaianaaG06
set_option linter.unusedVariables false
set_option linter.unusedSimpArgs false
namespace Go.Proofs.Ytgjadpidoaianaa
open Go Go.RowKit
theorem take_snocI (ns : List Int) (k : Nat) (hk : k < ns.length) : ns.take (k + 1) = ns.take k ++ [ns.getD k 0] := by
  rw [List.take_succ_eq_append_getElem hk, getD_of_lt hk]
set_option maxRecDepth 100000 in
set_option maxHeartbeats 4000000 in
theorem laidNum_any (w : World) (v : Value) (ns : List Int) (h : I.HB w v ns) (hb : ∀ x ∈ ns, 0 ≤ x ∧ x < 256) (hn : ns.length ≤ 1000) :
    Calls Try.prog 44 #[v] w fun e w' => ∃ v', e = .returned v' ∧ w'.ownsRow w.heap.size 5 1 v' ns.length (ns.map (Value.int .u8)) ∧ Below w.heap.size w w' := by
  obtain ⟨i0, hi, hz0, hz1, hz2⟩ := info_parts info_u8
  obtain ⟨p, c, e, hlc, hm⟩ := h.open
  have A : Hid (0 < ns.length → ∃ b off, p = some ⟨b, off, none⟩ ∧ ∀ j, j < ns.length → w.cell? ⟨b, off + j, none⟩ = some (.int .i64 (ns.getD j 0))) := by
    intro h0
    obtain ⟨b, off, c', e', _, _, hh⟩ := h.ne h0
    rw [e] at e'
    simp only [Value.slice.injEq, true_and] at e'
    exact ⟨b, off, e'.1, hh⟩
  clear h
  subst e
  obtain ⟨w1, hmk, hown, hgr⟩ := run_make_own (P := Try.prog) w w.heap.size 36 5 i0 (.int .u8 0) 1 Try.underlying36 hi hz0 hz1 .i64 .i64 ns.length (by rw [hz2]; omega) (by unfold maxLen; omega) (Nat.le_refl _)
  have hB1 : Below w.heap.size w w1 := (Below.refl _ w).grown hgr (Nat.le_refl _) (fun k e => by cases e)
  have HBy := hid hb
  have HNN := hid hn
  clear hgr hb
  go_enter Try.func44, Try.ntmps44
  go_wp2
  go_loopw [3, 11] (fun o i wr => ∃ k : Nat, k ≤ ns.length ∧ i = .int .i64 k ∧ wr.ownsRow w.heap.size 5 1 o (ns.take k).length ((ns.take k).map (Value.int .u8)) ∧ Below w.heap.size w wr) (fun _ i _ => ns.length - (intOf i).toNat)
  case atStart => exact ⟨0, Nat.zero_le _, rfl, hown, hB1⟩
  case round =>
    clear hmk hown hB1
    obtain ⟨k, hk, rfl, hown, hB⟩ := hrel
    by_cases hlt : k < ns.length
    · obtain ⟨b, off, rfl, hh⟩ := A.out (by omega)
      obtain ⟨T, HT⟩ : ∃ T, Hid (ns.take k = T) := ⟨_, hid rfl⟩
      have hTl : Hid (T.length ≤ 1000) := hid (by rw [← HT.out, List.length_take]; have := HNN.out; omega)
      rw [HT.out] at hown
      obtain ⟨po, co, ho⟩ := own_slice hown
      subst ho
      have hu0 := hh k hlt
      have hu : wr.cell? ⟨b, off + k, none⟩ = some (.int .i64 (ns.getD k 0)) := (hB.cell (World.block_lt_of_cell? w _ hu0)).trans hu0
      have hy := HBy.out (ns.getD k 0) (by rw [getD_of_lt hlt]; exact List.getElem_mem hlt)
      have HS : Hid (ns.take (k + 1) = T ++ [ns.getD k 0]) := hid (by rw [← HT.out]; exact take_snocI ns k hlt)
      generalize ns.getD k 0 = y at hu hy HS
      have hw8 : IntKind.u8.wrap y = y := by rw [IntKind.wrap_u8]; omega
      obtain ⟨W2, HW2⟩ : ∃ W : World, Hid (wr.alloc (.cells #[.int .u8 y] 5) = W) := ⟨_, hid rfl⟩
      have B2 : Hid (Below wr.heap.size wr W2) := by rw [← HW2.out]; exact hid ((Below.refl _ wr).alloc (Nat.le_refl _) _)
      have O2 : Hid (W2.ownsRow w.heap.size 5 1 (.slice po T.length co) T.length (T.map (Value.int .u8))) := hid (own_ex hown (Ex.of_below (S := fun _ => False) B2.out) (fun _ _ _ e => e))
      have L2 : Hid (HB W2 (.slice (some ⟨wr.heap.size, 0, none⟩) 1 1) [y]) := hid (by
        have h5 : W2.heap[wr.heap.size]? = some (.cells #[.int .u8 y] 5 (0, 0)) := by rw [← HW2.out]; exact heap_alloc_new wr _
        refine ⟨⟨_, 1, rfl, Nat.le_refl _, by decide, (fun e => by cases e), fun _ => ⟨_, 0, rfl, fun j hj => ?_⟩⟩, by simpa using hy⟩
        have hj0 : j = 0 := by simpa using hj
        subst hj0
        simp [World.cell?, h5])
      have BW : Hid (Below w.heap.size w W2) := hid (hB.trans (B2.out.mono hB.size))
      have hlen : Hid (T.length + 1 ≤ 140737488355328) := hid (by have := hTl.out; omega)
      clear hh hu0 hown hB
      go_wp2_with (first | rw [hw8] | rw [HW2.out] | (at_builtin; refine wpList_append_HB rfl _ _ rfl w.heap.size _ _ _ rfl O2.out _ _ rfl L2.out ?q1 ?q2 ?_) | fail)
      case q1 => exact hlen.out
      case q2 => exact BW.out.size
      intro v' w2 hown2 hgr2
      have HO2 : Hid (w2.ownsRow w.heap.size 5 1 v' (ns.take (k + 1)).length ((ns.take (k + 1)).map (Value.int .u8))) := by
        show World.ownsRow _ _ _ _ _ _ _
        rw [HS.out, List.length_append, List.map_append]
        exact hown2
      have HB2 : Hid (Below w.heap.size w w2) := BW.out.grown hgr2 BW.out.size (fun k e => (O2.out.lt k e).1)
      clear hown2 hgr2
      go_wp2
      exact ⟨⟨k + 1, by omega, by go_num, HO2.out, HB2.out⟩, by simp [intOf]; omega⟩
    · have HK : Hid (ns.take k = ns) := hid (List.take_of_length_le (by omega))
      go_wp2
      go_ret
      refine ⟨_, rfl, ?_, hB⟩
      rw [HK.out] at hown
      exact hown
set_option maxRecDepth 100000 in
set_option maxHeartbeats 4000000 in
theorem laid0_any (w : World) (k : Nat) (hk : k < 256) :
    Calls Try.prog 40 #[.int .u8 (k : Int), .slice none 0 0] w fun e w' => ∃ v', e = .returned v' ∧ w'.ownsRow w.heap.size 5 1 v' 1 ([(k : Int)].map (Value.int .u8)) ∧ Below w.heap.size w w' := by
  have C1 := hid (big_uint8 k hk w)
  rw [bigL_one k hk] at C1
  obtain ⟨i0, hi, hz0, hz1, hz2⟩ := info_parts info_bytes
  go_enter Try.func40, Try.ntmps40
  go_wp2_with fail
  refine C1.out.mono ?_
  rintro e w1 ⟨v1, rfl, ho1, hB1⟩
  have hb1 : HB w1 v1 [(k : Int)] := HB.of_own ho1 (by simp; omega)
  obtain ⟨W2, HW2⟩ : ∃ W : World, Hid (w1.alloc (.cells #[v1] 36) = W) := ⟨_, hid rfl⟩
  have O2 : Hid (W2.ownsRow w1.heap.size 36 1 (.slice (some ⟨w1.heap.size, 0, none⟩) 1 1) 1 [v1]) := hid ⟨rfl, .inr ⟨_, _, _, rfl, Nat.le_refl _, by rw [← HW2.out]; exact heap_alloc_new w1 _, Nat.le_refl _, by decide, rfl, rfl⟩⟩
  have B2 : Hid (Below w1.heap.size w1 W2) := by rw [← HW2.out]; exact hid ((Below.refl _ w1).alloc (Nat.le_refl _) _)
  have C3 : Hid (Calls Try.prog 59 #[.slice (some ⟨w1.heap.size, 0, none⟩) 1 1] W2 fun e w' => ∃ v', e = .returned v' ∧ w'.ownsRow W2.heap.size 5 1 v' 1 ([(k : Int)].map (Value.int .u8)) ∧ Below W2.heap.size W2 w') := hid (by
    have hh : HL W2 (.slice (some ⟨w1.heap.size, 0, none⟩) 1 1) [[(k : Int)]] := HL.of_own (us := [v1]) O2.out rfl (fun j u hj => by
      have hj0 : j = 0 := by have := (List.getElem?_eq_some_iff.1 hj).1; simpa using this
      subst hj0
      simp at hj
      subst hj
      exact hb1.below B2.out)
    have := join_any W2 _ _ hh (by simp)
    simpa using this)
  have HB1 := hid hB1
  obtain ⟨p1, c1, e1, -, -⟩ := hb1.open
  have e1' : v1 = .slice p1 1 c1 := e1
  clear hb1 ho1 hB1 C1 e1
  subst e1'
  go_wp2_with (first | rw [HW2.out] | (at_builtin; refine wpList_append_own_none rfl _ _ 24 rfl w1.heap.size 36 i0 1 Try.underlying24 hi _ 1 _ rfl O2.out rfl ?_) | fail)
  refine C3.out.mono ?_
  rintro e w4 ⟨v4, rfl, ho4, hB4⟩
  have BB : Hid (Below w.heap.size w w4) := hid (HB1.out.trans ((B2.out.mono HB1.out.size).trans (hB4.mono (Nat.le_trans HB1.out.size B2.out.size))))
  have OM : Hid (w4.ownsRow w.heap.size 5 1 v4 1 ([(k : Int)].map (Value.int .u8))) := hid ⟨ho4.1, ho4.2.elim .inl fun ⟨gg, cap, cur, z1, z2, z3⟩ => .inr ⟨gg, cap, cur, z1, Nat.le_trans (Nat.le_trans HB1.out.size B2.out.size) z2, z3⟩⟩
  clear ho4 hB4 C3
  go_wp2_with fail
  go_ret
  exact ⟨v4, rfl, OM.out, BB.out⟩
def layP (k : Int) (ns b : List Int) : List Int := k :: (if k = 1 then bigL 1 ns.length ++ ns else if k = 5 then bigL 4 b.length ++ b else [])
theorem folB_nb {ns : List Int} {x : Int} (h : folB ns x = true) : 0 ≤ x ∧ x < 255 := by
  simp only [folB, nbB, Bool.and_eq_true, decide_eq_true_eq] at h
  exact h.1
theorem risTo_at {ns : List Int} {n : Nat} (h : risTo ns n = true) : ∀ i, i < n → folB (ns.take i) (ns.getD i 0) = true := by
  induction n with
  | zero => intro i hi; omega
  | succ n ih =>
    rw [risTo, Bool.and_eq_true] at h
    intro i hi
    rcases Nat.lt_or_ge i n with h1 | h1
    · exact ih h.1 i h1
    · rw [show i = n by omega]; exact h.2
theorem ris_ge {ns : List Int} (h : risB ns = true) : ∀ i, i < ns.length → (i : Int) ≤ ns.getD i 0 ∧ ns.getD i 0 < 255 := by
  intro i
  induction i with
  | zero => intro hi; have := folB_nb (risTo_at h 0 hi); omega
  | succ i ih =>
    intro hi
    have h1 := ih (by omega)
    have h2 := risTo_at h (i + 1) hi
    have h3 := folB_nb h2
    simp only [folB, Bool.and_eq_true, Bool.or_eq_true, decide_eq_true_eq] at h2
    have e1 : (ns.take (i + 1)).length = i + 1 := by rw [List.length_take]; omega
    have e2 : (ns.take (i + 1)).getD i 0 = ns.getD i 0 := by simp [List.getD, List.getElem?_take]
    rcases h2.2 with h4 | h4
    · omega
    · rw [e1, Nat.add_sub_cancel, e2] at h4
      omega
theorem ris_len {ns : List Int} (h : risB ns = true) : ns.length ≤ 255 ∧ ∀ x ∈ ns, 0 ≤ x ∧ x < 255 := by
  constructor
  · apply Classical.byContradiction
    intro hc
    have := ris_ge h 255 (by omega)
    omega
  · intro x hx
    obtain ⟨i, hi, rfl⟩ := List.getElem_of_mem hx
    have := ris_ge h i hi
    rw [getD_of_lt hi] at this
    omega
set_option maxRecDepth 100000 in
set_option maxHeartbeats 32000000 in
theorem putRep_any (w : World) (k : Int) (hk : 0 ≤ k ∧ k < 256) (vn v : Value) (ns b : List Int) (hvn : I.HB w vn ns) (hv : HB w v b) :
    Calls Try.prog 18 #[.agg (rpA k vn v)] w fun e w' => PutQ w (mayP k ns b.length) (layP k ns b) 201 e w' ∧ Below w.heap.size w w' := by
  obtain ⟨vp, vc, rfl, hvc, hvm⟩ := hv.open
  obtain ⟨np, nc, rfl, hnc, hnm⟩ := hvn.open
  obtain ⟨m, HM⟩ : ∃ m, Hid (rpA k (.slice np ns.length nc) (.slice vp b.length vc) = m) := ⟨_, hid rfl⟩
  obtain ⟨W1, HW1⟩ : ∃ W : World, Hid (w.alloc (.cells m 42) = W) := ⟨_, hid rfl⟩
  have B1 : Hid (Below w.heap.size w W1) := by rw [← HW1.out]; exact hid ((Below.refl _ w).alloc (Nat.le_refl _) _)
  have Z1 : Hid (W1.heap.size = w.heap.size + 1) := hid (by rw [← HW1.out]; simp)
  have hbx : Hid (W1.heap[w.heap.size]? = some (.cells m 42 (0, 0))) := hid (by rw [← HW1.out]; exact heap_alloc_new w _)
  have HBX : Hid (∀ W, Below W1.heap.size W1 W → W.heap[w.heap.size]? = some (.cells m 42 (0, 0))) := hid (fun W hW => (hW.block _ (by have := Z1.out; omega)).trans hbx.out)
  have KX : Hid (∀ W, Below W1.heap.size W1 W → W.cell? ⟨w.heap.size, 0, none⟩ = some (.int .u8 k) ∧ W.cell? ⟨w.heap.size, 1, none⟩ = some (.slice np ns.length nc) ∧ W.cell? ⟨w.heap.size, 2, none⟩ = some (.slice vp b.length vc)) := hid (fun W hW => by
    have q2 := HBX.out W hW
    refine ⟨?_, ?_, ?_⟩ <;> rw [cell_of_row _ _ _ _ _ _ q2, ← HM.out] <;> rfl)
  have VB : Hid (∀ W, Below W1.heap.size W1 W → HB W (.slice vp b.length vc) b) := hid (fun W hW => hv.below (B1.out.trans (hW.mono B1.out.size)))
  have VN : Hid (∀ W, Below W1.heap.size W1 W → I.HB W (.slice np ns.length nc) ns) := hid (fun W hW => hvn.below (B1.out.trans (hW.mono B1.out.size)))
  have CM := hid (mayRep_any W1 k _ ns (VN.out W1 (Below.refl _ _)) vp b.length vc)
  rw [show (#[.int .u8 k, .slice np ns.length nc, .slice vp b.length vc] : Array Value) = m from HM.out] at CM
  rw [HM.out]
  have SL : Hid ((Try.prog.info? 42).map (·.size) = some m.toList.length) := hid (by rw [← HM.out]; show _ = some 3; kernel_rfl)
  have RG0 : Hid (W1.rangeAt w.heap.size 0 m.toList) := hid (fun j u hj => by rw [cell_of_row _ _ _ _ _ _ hbx.out, Nat.zero_add, ← Array.getElem?_toList]; exact hj)
  have HMM : Hid (m.toList.toArray = m) := hid (by simp)
  obtain ⟨L, HLQ⟩ : ∃ L, Hid (layP k ns b = L) := ⟨_, hid rfl⟩
  rw [HLQ.out]
  obtain ⟨mb, HMB⟩ : ∃ x, Hid (mayP k ns b.length = x) := ⟨_, hid rfl⟩
  rw [HMB.out] at CM
  rw [HMB.out]
  clear hv hvn hbx
  go_enter Try.func18, Try.ntmps18
  go_wp2_with (first | rw [HW1.out] | (refine wpList_load_mid rfl 42 _ rfl w.heap.size 0 rfl m.toList _ RG0.out Try.underlying42 rfl SL.out ?_; rw [HMM.out]) | fail)
  refine CM.out.mono ?_
  rintro e w5 ⟨rfl, hb2⟩
  have B2 := hid hb2
  clear hb2 CM
  cases mb with
  | false =>
    go_wp2_with fail
    go_ret2
    exact ⟨.inl ⟨rfl, rfl⟩, B1.out.trans (B2.out.mono B1.out.size)⟩
  | true =>
    have KY : Hid (∀ W, Below w5.heap.size w5 W → Below W1.heap.size W1 W) := hid (fun W hW => B2.out.trans (hW.mono B2.out.size))
    have BW : Hid (∀ W, Below w5.heap.size w5 W → Below w.heap.size w W) := hid (fun W hW => B1.out.trans ((KY.out W hW).mono B1.out.size))
    obtain ⟨kN, rfl⟩ := Int.eq_ofNat_of_zero_le hk.1
    have CL : Hid (∀ W us (ls : List (List Int)), W.heap[W.heap.size - 1]? = some (.cells (List.toArray us) 36 (0, 0)) → 0 < W.heap.size → Below w5.heap.size w5 W → us.length = ls.length → 0 < ls.length → ls.length ≤ 10 → ls.flatten.length + 1 ≤ 140737488355328 → (∀ j u, us[j]? = some u → HB W u (ls.getD j [])) → Calls Try.prog 40 #[.int .u8 (kN : Int), .slice (some ⟨W.heap.size - 1, 0, none⟩) ls.length ls.length] W fun e w' => ∃ v', e = .returned v' ∧ w'.ownsRow W.heap.size 5 1 v' (ls.flatten.length + 1) (((kN : Int) :: ls.flatten).map (Value.int .u8)) ∧ Below W.heap.size W w') := hid (fun W us ls h1 h2 h3 h4 h5 h6 h7 h8 => laid_any W kN (by omega) _ ls (HL.lit h1 h4 (by omega) h8) h5 (by omega) h7)
    have FIN : Hid (∀ W w' (u : Value) (M : List Int), Below w5.heap.size w5 W → Below W.heap.size W w' → L = M → w'.ownsRow W.heap.size 5 1 u M.length (M.map (Value.int .u8)) → PutQ w true L 201 (.returned (.tuple #[u, .int .i64 0])) w' ∧ Below w.heap.size w w') := hid (fun W w' u M h1 h2 h3 h4 => by
      have h5 := BW.out W h1
      refine ⟨.inr ⟨rfl, u, rfl, ?_⟩, h5.trans (h2.mono h5.size)⟩
      rw [h3]
      exact ⟨h4.1, h4.2.elim .inl fun ⟨gg, cap, cur, z1, z2, z3⟩ => .inr ⟨gg, cap, cur, z1, Nat.le_trans h5.size z2, z3⟩⟩)
    have hmb := HMB.out
    by_cases h1 : kN = 1
    · subst h1
      have yk : w5.cell? ⟨w.heap.size, 0, none⟩ = some (.int .u8 1) := (KX.out w5 (KY.out w5 (Below.refl _ _))).1
      have hri : risB ns = true ∧ b.length = 0 := by simpa [mayP] using hmb
      obtain ⟨hl255, hbn⟩ := ris_len hri.1
      have u8l : IntKind.u8.wrap (ns.length : Int) = (ns.length : Int) := by rw [IntKind.wrap_u8]; omega
      have CB := hid (fun W => big_uint8 ns.length (by omega) W)
      have CN := hid (fun W hW => laidNum_any W _ ns (VN.out W (KY.out W hW)) (fun x hx => by have := hbn x hx; omega) (by omega))
      clear hmb
      go_wp2_with fail
      refine wp_region_held_drew (S := (Below w5.heap.size w5)) (by kernel_rfl) (by repeat' first | exact Below.refl _ _ | apply bel_drewN) (fun hHeld => ?_)
      have HS := hid hHeld
      clear hHeld
      change wpAnyH _ _ _ _ _ _ _ _ (World.drew _)
      refine wpAnyH_take (i := 0) (v := ?_) rfl (by kernel_rfl) (by kernel_rfl) (by kernel_rfl) (fun _ _ _ h => h) (Or.inl ⟨by rfl, ?q0⟩) HS.out ?_
      case q0 => intro w hSw; obtain ⟨y0, y1, y2⟩ := KX.out _ (KY.out _ hSw); go_simp; rfl
      simp only [Act.put, List.getElem_toArray, List.getElem_cons_zero, List.getElem_cons_succ, List.setIfInBounds_toArray, List.set_cons_zero, List.set_cons_succ]
      refine wpAnyH_take (i := 1) (v := ?_) rfl (by kernel_rfl) (by kernel_rfl) (by kernel_rfl) (fun _ _ _ h => h) (Or.inl ⟨by rfl, ?q1⟩) HS.out ?_
      case q1 => intro w hSw; obtain ⟨y0, y1, y2⟩ := KX.out _ (KY.out _ hSw); go_simp; rfl
      simp only [Act.put, List.getElem_toArray, List.getElem_cons_zero, List.getElem_cons_succ, List.setIfInBounds_toArray, List.set_cons_zero, List.set_cons_succ]
      refine wpAnyH_take (i := 2) (v := ?_) rfl (by kernel_rfl) (by kernel_rfl) (by kernel_rfl) (fun _ _ _ h => h) (Or.inl ⟨by rfl, ?q2⟩) HS.out ?_
      case q2 => intro w hSw; obtain ⟨y0, y1, y2⟩ := KX.out _ (KY.out _ hSw); go_simp; rfl
      simp only [Act.put, List.getElem_toArray, List.getElem_cons_zero, List.getElem_cons_succ, List.setIfInBounds_toArray, List.set_cons_zero, List.set_cons_succ]
      refine wpAnyH_take (i := 3) (v := ?_) rfl (by kernel_rfl) (by kernel_rfl) (by kernel_rfl) (fun _ _ _ h => h) (Or.inl ⟨by rfl, ?q3⟩) HS.out ?_
      case q3 => intro w hSw; obtain ⟨y0, y1, y2⟩ := KX.out _ (KY.out _ hSw); go_simp; rfl
      simp only [Act.put, List.getElem_toArray, List.getElem_cons_zero, List.getElem_cons_succ, List.setIfInBounds_toArray, List.set_cons_zero, List.set_cons_succ]
      refine wpAnyH_take (i := 4) (v := ?_) rfl (by kernel_rfl) (by kernel_rfl) (by kernel_rfl) (fun _ _ _ h => h) (Or.inl ⟨by rfl, ?q4⟩) HS.out ?_
      case q4 => intro w hSw; obtain ⟨y0, y1, y2⟩ := KX.out _ (KY.out _ hSw); go_simp; rfl
      simp only [Act.put, List.getElem_toArray, List.getElem_cons_zero, List.getElem_cons_succ, List.setIfInBounds_toArray, List.set_cons_zero, List.set_cons_succ]
      refine wpAnyH_take (i := 5) (v := ?_) rfl (by kernel_rfl) (by kernel_rfl) (by kernel_rfl) (fun _ _ _ h => h) (Or.inl ⟨by rfl, ?q5⟩) HS.out ?_
      case q5 => intro w hSw; obtain ⟨y0, y1, y2⟩ := KX.out _ (KY.out _ hSw); go_simp; rfl
      simp only [Act.put, List.getElem_toArray, List.getElem_cons_zero, List.getElem_cons_succ, List.setIfInBounds_toArray, List.set_cons_zero, List.set_cons_succ]
      refine wpAnyH_take (i := 7) (v := ?_) rfl (by kernel_rfl) (by kernel_rfl) (by kernel_rfl) (fun _ _ _ h => h) (Or.inl ⟨by rfl, ?q7⟩) HS.out ?_
      case q7 => intro w hSw; obtain ⟨y0, y1, y2⟩ := KX.out _ (KY.out _ hSw); go_simp; rfl
      simp only [Act.put, List.getElem_toArray, List.getElem_cons_zero, List.getElem_cons_succ, List.setIfInBounds_toArray, List.set_cons_zero, List.set_cons_succ]
      refine wpAnyH_take (i := 8) (v := ?_) rfl (by kernel_rfl) (by kernel_rfl) (by kernel_rfl) (fun _ _ _ h => h) (Or.inl ⟨by rfl, ?q8⟩) HS.out ?_
      case q8 => intro w hSw; obtain ⟨y0, y1, y2⟩ := KX.out _ (KY.out _ hSw); go_simp; rfl
      simp only [Act.put, List.getElem_toArray, List.getElem_cons_zero, List.getElem_cons_succ, List.setIfInBounds_toArray, List.set_cons_zero, List.set_cons_succ]
      refine wpAnyH_ready (rs := [6]) (by kernel_rfl) (by simp) ?_
      refine AllReadyH.cons rfl (fun K hK => ?_) AllReadyH.nil
      replace hK := hid hK
      go_simp
      refine (CB.out _).mono ?_
      rintro e w6 ⟨v6, rfl, ho6, hb6⟩
      have B6 : Hid (Below w5.heap.size w5 w6) := hid ((bel_drewN (Below.refl _ w5) _).trans hb6)
      have h6 : HB w6 v6 (bigL 1 ns.length) := HB.of_own (by rw [bigL_len]; exact ho6) (bigL_byt 1 ns.length)
      have H6 := hid h6
      obtain ⟨p6, c6, e6, -, -⟩ := h6.open
      rw [bigL_len] at e6
      clear h6 ho6 hb6 HS
      subst e6
      refine hK.out _ _ B6.out (fun _ => ?_)
      clear hK K
      refine wpAnyH_ready (rs := [9]) (by kernel_rfl) (by simp) ?_
      refine AllReadyH.cons rfl (fun K hK => ?_) AllReadyH.nil
      replace hK := hid hK
      go_simp
      refine (CN.out _ B6.out).mono ?_
      rintro e w7 ⟨v7, rfl, ho7, hb7⟩
      have B67 := hid hb7
      have B7 : Hid (Below w5.heap.size w5 w7) := hid (B6.out.trans (hb7.mono B6.out.size))
      have h7 : HB w7 v7 ns := HB.of_own ho7 (fun x hx => by have := hbn x hx; omega)
      have H7 := hid h7
      obtain ⟨p7, c7, e7, -, -⟩ := h7.open
      clear h7 ho7 hb7
      subst e7
      refine hK.out _ _ B7.out (fun _ => ?_)
      clear hK K
      obtain ⟨WL, HWL⟩ : ∃ W : World, Hid (w7.alloc (.cells #[.slice p6 1 c6, .slice p7 ns.length c7] 36) = W) := ⟨_, hid rfl⟩
      have hlit := run_lit2 w7 p6 1 c6 p7 ns.length c7
      rw [HWL.out] at hlit
      have BL : Hid (Below w5.heap.size w5 WL) := hid (B7.out.trans (by rw [← HWL.out]; exact (Below.refl _ _).alloc B7.out.size _))
      have ZL : Hid (WL.heap.size = w7.heap.size + 1) := hid (by rw [← HWL.out]; simp)
      have LL : Hid (WL.heap[w7.heap.size]? = some (.cells #[.slice p6 1 c6, .slice p7 ns.length c7] 36 (0, 0))) := hid (by rw [← HWL.out]; exact heap_alloc_new _ _)
      have CL2 := hid (CL.out WL [.slice p6 1 c6, .slice p7 ns.length c7] [bigL 1 ns.length, ns] (by rw [ZL.out]; exact LL.out) (by have := ZL.out; omega) BL.out rfl (by simp) (by simp) (by simp [bigL_len]; omega) (fun j u hj => by
        match j, hj with
        | 0, hj => cases hj; exact (H6.out.below B67.out).below (by rw [← HWL.out]; exact (Below.refl _ _).alloc (Nat.le_refl _) _)
        | 1, hj => cases hj; exact H7.out.below (by rw [← HWL.out]; exact (Below.refl _ _).alloc (Nat.le_refl _) _)
        | n + 2, hj => cases hj))
      rw [ZL.out, Nat.add_sub_cancel] at CL2
      refine wpAnyH_ready (rs := [10]) (by kernel_rfl) (by simp) ?_
      refine AllReadyH.cons rfl (fun K hK => ?_) AllReadyH.nil
      replace hK := hid hK
      refine wanted_litQ (by rfl) 24 2 _ rfl #[(0, .slice p6 1 c6), (1, .slice p7 ns.length c7)] (by go_simp) _ hlit ?_
      simp only [Act.put, List.getElem_toArray, List.getElem_cons_zero, List.getElem_cons_succ, List.setIfInBounds_toArray, List.set_cons_zero, List.set_cons_succ]
      refine hK.out _ _ BL.out (fun _ => ?_)
      clear hK K hlit
      refine wpAnyH_ready (rs := [11]) (by kernel_rfl) (by simp) ?_
      refine AllReadyH.cons rfl (fun K hK => ?_) AllReadyH.nil
      replace hK := hid hK
      go_simp
      refine CL2.out.mono ?_
      rintro e w9 ⟨v9, rfl, ho9, hb9⟩
      rw [← ZL.out] at ho9 hb9
      have BF : Hid (Below w5.heap.size w5 w9) := hid (BL.out.trans (hb9.mono BL.out.size))
      have FF := hid (FIN.out WL w9 v9 _ BL.out hb9 (by rw [← HLQ.out]; simp [layP]) ho9)
      clear ho9 hb9 CL2
      refine hK.out _ _ BF.out (fun _ => ?_)
      clear hK K
      try clear HS
      have HS := BF
      refine wpAnyH_take (i := 12) (v := ?_) rfl (by kernel_rfl) (by kernel_rfl) (by kernel_rfl) (fun _ _ _ h => h) (Or.inl ⟨by rfl, ?q12⟩) HS.out ?_
      case q12 => intro w hSw; obtain ⟨y0, y1, y2⟩ := KX.out _ (KY.out _ hSw); go_simp; rfl
      simp only [Act.put, List.getElem_toArray, List.getElem_cons_zero, List.getElem_cons_succ, List.setIfInBounds_toArray, List.set_cons_zero, List.set_cons_succ]
      refine wpAnyH_take (i := 13) (v := ?_) rfl (by kernel_rfl) (by kernel_rfl) (by kernel_rfl) (fun _ _ _ h => h) (Or.inl ⟨by rfl, ?q13⟩) HS.out ?_
      case q13 => intro w hSw; obtain ⟨y0, y1, y2⟩ := KX.out _ (KY.out _ hSw); go_simp; rfl
      simp only [Act.put, List.getElem_toArray, List.getElem_cons_zero, List.getElem_cons_succ, List.setIfInBounds_toArray, List.set_cons_zero, List.set_cons_succ]
      refine wpAnyH_done (by kernel_rfl) ?_ _
      go_wp2_with fail
      go_ret2
      exact FF.out
    · by_cases h5 : kN = 5
      · subst h5
        have yk : w5.cell? ⟨w.heap.size, 0, none⟩ = some (.int .u8 5) := (KX.out w5 (KY.out w5 (Below.refl _ _))).1
        have hbl : 1 ≤ b.length ∧ b.length ≤ 131072 := by
          simp [mayP, flB] at hmb
          omega
        have u32l : IntKind.u32.wrap (b.length : Int) = (b.length : Int) := by rw [IntKind.wrap_u32]; omega
        have CB := hid (fun W => big_uint32 b.length (by omega) W)
        clear hmb
        go_wp2_with fail
        refine wp_region_held_drew (S := (Below w5.heap.size w5)) (by kernel_rfl) (by repeat' first | exact Below.refl _ _ | apply bel_drewN) (fun hHeld => ?_)
        have HS := hid hHeld
        clear hHeld
        change wpAnyH _ _ _ _ _ _ _ _ (World.drew _)
        refine wpAnyH_take (i := 0) (v := ?_) rfl (by kernel_rfl) (by kernel_rfl) (by kernel_rfl) (fun _ _ _ h => h) (Or.inl ⟨by rfl, ?q0⟩) HS.out ?_
        case q0 => intro w hSw; obtain ⟨y0, y1, y2⟩ := KX.out _ (KY.out _ hSw); go_simp; rfl
        simp only [Act.put, List.getElem_toArray, List.getElem_cons_zero, List.getElem_cons_succ, List.setIfInBounds_toArray, List.set_cons_zero, List.set_cons_succ]
        refine wpAnyH_take (i := 1) (v := ?_) rfl (by kernel_rfl) (by kernel_rfl) (by kernel_rfl) (fun _ _ _ h => h) (Or.inl ⟨by rfl, ?q1⟩) HS.out ?_
        case q1 => intro w hSw; obtain ⟨y0, y1, y2⟩ := KX.out _ (KY.out _ hSw); go_simp; rfl
        simp only [Act.put, List.getElem_toArray, List.getElem_cons_zero, List.getElem_cons_succ, List.setIfInBounds_toArray, List.set_cons_zero, List.set_cons_succ]
        refine wpAnyH_take (i := 2) (v := ?_) rfl (by kernel_rfl) (by kernel_rfl) (by kernel_rfl) (fun _ _ _ h => h) (Or.inl ⟨by rfl, ?q2⟩) HS.out ?_
        case q2 => intro w hSw; obtain ⟨y0, y1, y2⟩ := KX.out _ (KY.out _ hSw); go_simp; rfl
        simp only [Act.put, List.getElem_toArray, List.getElem_cons_zero, List.getElem_cons_succ, List.setIfInBounds_toArray, List.set_cons_zero, List.set_cons_succ]
        refine wpAnyH_take (i := 3) (v := ?_) rfl (by kernel_rfl) (by kernel_rfl) (by kernel_rfl) (fun _ _ _ h => h) (Or.inl ⟨by rfl, ?q3⟩) HS.out ?_
        case q3 => intro w hSw; obtain ⟨y0, y1, y2⟩ := KX.out _ (KY.out _ hSw); go_simp; rfl
        simp only [Act.put, List.getElem_toArray, List.getElem_cons_zero, List.getElem_cons_succ, List.setIfInBounds_toArray, List.set_cons_zero, List.set_cons_succ]
        refine wpAnyH_take (i := 4) (v := ?_) rfl (by kernel_rfl) (by kernel_rfl) (by kernel_rfl) (fun _ _ _ h => h) (Or.inl ⟨by rfl, ?q4⟩) HS.out ?_
        case q4 => intro w hSw; obtain ⟨y0, y1, y2⟩ := KX.out _ (KY.out _ hSw); go_simp; rfl
        simp only [Act.put, List.getElem_toArray, List.getElem_cons_zero, List.getElem_cons_succ, List.setIfInBounds_toArray, List.set_cons_zero, List.set_cons_succ]
        refine wpAnyH_take (i := 5) (v := ?_) rfl (by kernel_rfl) (by kernel_rfl) (by kernel_rfl) (fun _ _ _ h => h) (Or.inl ⟨by rfl, ?q5⟩) HS.out ?_
        case q5 => intro w hSw; obtain ⟨y0, y1, y2⟩ := KX.out _ (KY.out _ hSw); go_simp; rfl
        simp only [Act.put, List.getElem_toArray, List.getElem_cons_zero, List.getElem_cons_succ, List.setIfInBounds_toArray, List.set_cons_zero, List.set_cons_succ]
        refine wpAnyH_take (i := 7) (v := ?_) rfl (by kernel_rfl) (by kernel_rfl) (by kernel_rfl) (fun _ _ _ h => h) (Or.inl ⟨by rfl, ?q7⟩) HS.out ?_
        case q7 => intro w hSw; obtain ⟨y0, y1, y2⟩ := KX.out _ (KY.out _ hSw); go_simp; rfl
        simp only [Act.put, List.getElem_toArray, List.getElem_cons_zero, List.getElem_cons_succ, List.setIfInBounds_toArray, List.set_cons_zero, List.set_cons_succ]
        refine wpAnyH_take (i := 8) (v := ?_) rfl (by kernel_rfl) (by kernel_rfl) (by kernel_rfl) (fun _ _ _ h => h) (Or.inl ⟨by rfl, ?q8⟩) HS.out ?_
        case q8 => intro w hSw; obtain ⟨y0, y1, y2⟩ := KX.out _ (KY.out _ hSw); go_simp; rfl
        simp only [Act.put, List.getElem_toArray, List.getElem_cons_zero, List.getElem_cons_succ, List.setIfInBounds_toArray, List.set_cons_zero, List.set_cons_succ]
        refine wpAnyH_ready (rs := [6]) (by kernel_rfl) (by simp) ?_
        refine AllReadyH.cons rfl (fun K hK => ?_) AllReadyH.nil
        replace hK := hid hK
        go_simp
        refine (CB.out _).mono ?_
        rintro e w6 ⟨v6, rfl, ho6, hb6⟩
        have B6 : Hid (Below w5.heap.size w5 w6) := hid ((bel_drewN (Below.refl _ w5) _).trans hb6)
        have h6 : HB w6 v6 (bigL 4 b.length) := HB.of_own (by rw [bigL_len]; exact ho6) (bigL_byt 4 b.length)
        have H6 := hid h6
        obtain ⟨p6, c6, e6, -, -⟩ := h6.open
        rw [bigL_len] at e6
        clear h6 ho6 hb6 HS
        subst e6
        refine hK.out _ _ B6.out (fun _ => ?_)
        clear hK K
        obtain ⟨WL, HWL⟩ : ∃ W : World, Hid (w6.alloc (.cells #[.slice p6 4 c6, .slice vp b.length vc] 36) = W) := ⟨_, hid rfl⟩
        have hlit := run_lit2 w6 p6 4 c6 vp b.length vc
        rw [HWL.out] at hlit
        have BL : Hid (Below w5.heap.size w5 WL) := hid (B6.out.trans (by rw [← HWL.out]; exact (Below.refl _ _).alloc B6.out.size _))
        have ZL : Hid (WL.heap.size = w6.heap.size + 1) := hid (by rw [← HWL.out]; simp)
        have LL : Hid (WL.heap[w6.heap.size]? = some (.cells #[.slice p6 4 c6, .slice vp b.length vc] 36 (0, 0))) := hid (by rw [← HWL.out]; exact heap_alloc_new _ _)
        have CL2 := hid (CL.out WL [.slice p6 4 c6, .slice vp b.length vc] [bigL 4 b.length, b] (by rw [ZL.out]; exact LL.out) (by have := ZL.out; omega) BL.out rfl (by simp) (by simp) (by simp [bigL_len]; omega) (fun j u hj => by
          match j, hj with
          | 0, hj => cases hj; exact H6.out.below (by rw [← HWL.out]; exact (Below.refl _ _).alloc (Nat.le_refl _) _)
          | 1, hj => cases hj; exact VB.out _ (KY.out _ BL.out)
          | n + 2, hj => cases hj))
        rw [ZL.out, Nat.add_sub_cancel] at CL2
        refine wpAnyH_ready (rs := [9]) (by kernel_rfl) (by simp) ?_
        refine AllReadyH.cons rfl (fun K hK => ?_) AllReadyH.nil
        replace hK := hid hK
        refine wanted_litQ (by rfl) 24 2 _ rfl #[(0, .slice p6 4 c6), (1, .slice vp b.length vc)] (by go_simp) _ hlit ?_
        simp only [Act.put, List.getElem_toArray, List.getElem_cons_zero, List.getElem_cons_succ, List.setIfInBounds_toArray, List.set_cons_zero, List.set_cons_succ]
        refine hK.out _ _ BL.out (fun _ => ?_)
        clear hK K hlit
        refine wpAnyH_ready (rs := [10]) (by kernel_rfl) (by simp) ?_
        refine AllReadyH.cons rfl (fun K hK => ?_) AllReadyH.nil
        replace hK := hid hK
        go_simp
        refine CL2.out.mono ?_
        rintro e w9 ⟨v9, rfl, ho9, hb9⟩
        rw [← ZL.out] at ho9 hb9
        have BF : Hid (Below w5.heap.size w5 w9) := hid (BL.out.trans (hb9.mono BL.out.size))
        have FF := hid (FIN.out WL w9 v9 _ BL.out hb9 (by rw [← HLQ.out]; simp [layP]) ho9)
        clear ho9 hb9 CL2
        refine hK.out _ _ BF.out (fun _ => ?_)
        clear hK K
        try clear HS
        have HS := BF
        refine wpAnyH_take (i := 11) (v := ?_) rfl (by kernel_rfl) (by kernel_rfl) (by kernel_rfl) (fun _ _ _ h => h) (Or.inl ⟨by rfl, ?q11⟩) HS.out ?_
        case q11 => intro w hSw; obtain ⟨y0, y1, y2⟩ := KX.out _ (KY.out _ hSw); go_simp; rfl
        simp only [Act.put, List.getElem_toArray, List.getElem_cons_zero, List.getElem_cons_succ, List.setIfInBounds_toArray, List.set_cons_zero, List.set_cons_succ]
        refine wpAnyH_take (i := 12) (v := ?_) rfl (by kernel_rfl) (by kernel_rfl) (by kernel_rfl) (fun _ _ _ h => h) (Or.inl ⟨by rfl, ?q12⟩) HS.out ?_
        case q12 => intro w hSw; obtain ⟨y0, y1, y2⟩ := KX.out _ (KY.out _ hSw); go_simp; rfl
        simp only [Act.put, List.getElem_toArray, List.getElem_cons_zero, List.getElem_cons_succ, List.setIfInBounds_toArray, List.set_cons_zero, List.set_cons_succ]
        refine wpAnyH_done (by kernel_rfl) ?_ _
        go_wp2_with fail
        go_ret2
        exact FF.out
      · have yk : w5.cell? ⟨w.heap.size, 0, none⟩ = some (.int .u8 (kN : Int)) := (KX.out w5 (KY.out w5 (Below.refl _ _))).1
        have b1 : ((kN : Int) == 1) = false := beq_eq_false_iff_ne.2 (by omega)
        have b5 : ((kN : Int) == 5) = false := beq_eq_false_iff_ne.2 (by omega)
        have C0 := hid (laid0_any w5 kN (by omega))
        have HLL : Hid (L = [(kN : Int)]) := hid (by rw [← HLQ.out, layP, if_neg (by omega), if_neg (by omega)])
        clear hmb
        go_wp2_with fail
        refine C0.out.mono ?_
        rintro e w9 ⟨v9, rfl, ho9, hb9⟩
        have FF := hid (FIN.out w5 w9 v9 _ (Below.refl _ _) hb9 HLL.out ho9)
        clear ho9 hb9 C0
        go_wp2_with fail
        go_ret2
        exact FF.out
theorem pt1_cons (k : Int) (h0 : 0 ≤ k) (T : List Int) : pt1 (ps0 (k :: T)) = ⟨false, T, k, [], 0, 0⟩ := by
  show (kindP (ps0 (k :: T))).1 = _
  simp [kindP, ps0, okT_cons, taken_cons, left_cons, small1 k h0]
theorem tk1_iff {n : Nat} {φ : Pst} {s : PS} : (tkP n [φ] s).2 = true ↔ (φ s).1.f = false ∧ (φ s).2 = true := by
  unfold tkP
  rw [tkE_ok]
  constructor
  · rintro ⟨h1, h2⟩
    exact ⟨h1, h2 0 (by simp)⟩
  · rintro ⟨h1, h2⟩
    refine ⟨h1, fun k hk => ?_⟩
    have : k = 0 := by simpa using hk
    subst this
    exact h2
theorem pd1_cons (n : Nat) (k : Int) (h0 : 0 ≤ k) (T : List Int) : (pd1 n (ps0 (k :: T))).2 = rkB k := by
  rw [Bool.eq_iff_iff]
  unfold pd1
  rw [tk1_iff]
  have e1 : (kindP (ps0 (k :: T))).1 = ⟨false, T, k, [], 0, 0⟩ := pt1_cons k h0 T
  have e2 : (kindP (ps0 (k :: T))).2 = rkB (kindP (ps0 (k :: T))).1.k := rfl
  rw [e2, e1]
  simp
theorem pd1_nil (n : Nat) : (pd1 n (ps0 [])).2 = false := by
  rw [Bool.eq_false_iff]
  intro h
  have := (tk1_iff.1 h).1
  simp [kindP, ps0, okTake] at this
theorem numbersP_app (f : Bool) (c : Int) (h0 : 0 ≤ c) (t : List Int) (k : Int) (ns : List Int) (many sz : Int) : numbersP ⟨f, c :: t, k, ns, many, sz⟩ = (⟨f, t, k, ns, c, sz⟩, true) := by
  simp [numbersP, okT_cons, taken_cons, left_cons, small1 c h0]
theorem bytesP_app (f : Bool) (a t : List Int) (h : (a.length : Int) = 4) (k : Int) (ns : List Int) (many sz : Int) : bytesP ⟨f, a ++ t, k, ns, many, sz⟩ = (⟨f, t, k, ns, many, (smallNo 4 a : Nat)⟩, flB (smallNo 4 a : Nat)) := by
  simp [bytesP, okT_app a t 4 h, taken_app a t 4 h, left_app a t 4 h]
theorem numberP_app (f : Bool) (x : Int) (h0 : 0 ≤ x) (t : List Int) (k : Int) (ns : List Int) (many sz : Int) : numberP ⟨f, x :: t, k, ns, many, sz⟩ = (⟨f, t, k, ns ++ [x], many, sz⟩, folB ns x) := by
  simp [numberP, okT_cons, taken_cons, left_cons, small1 x h0]
theorem num_seq (m : Nat) (f : Bool) (l : List Int) (hl : ∀ x ∈ l, 0 ≤ x) (k many sz : Int) (hm : m ≤ l.length) : ∀ j, j ≤ m → sqP (List.replicate m numberP) ⟨f, l, k, [], many, sz⟩ j = ⟨f, l.drop j, k, l.take j, many, sz⟩
  | 0, _ => by simp [sqP]
  | j + 1, hj => by
    unfold sqP
    rw [num_seq m f l hl k many sz hm j (by omega)]
    have e : (List.replicate m numberP).getD j (fun s => (s, true)) = numberP := by simp [List.getD, show j < m by omega]
    have hj2 : j < l.length := by omega
    rw [e, List.drop_eq_getElem_cons hj2]
    rw [numberP_app _ _ (hl _ (List.getElem_mem hj2)), List.take_succ_eq_append_getElem hj2]
theorem pd3_of {n : Nat} {s : PS} {l : List Int} {k many sz : Int} (h : pt2 s = ⟨false, l, k, [], many, sz⟩) (hl : ∀ x ∈ l, 0 ≤ x) : ((pd3 n s).2 = true ↔ ∀ j, j < herP s → folB (l.take j) (l.getD j 0) = true) ∧ pt3 s = ⟨false, l.drop (herP s), k, l.take (herP s), many, sz⟩ := by
  have hle : herP s ≤ l.length := by unfold herP; rw [h]; exact Nat.min_le_right _ _
  have hs := num_seq (herP s) false l hl k many sz hle
  constructor
  · unfold pd3 tkP
    rw [tkE_ok, h, List.length_replicate, hs _ (Nat.le_refl _)]
    simp only [true_and]
    constructor
    · intro hb j hj
      have := hb j hj
      have e : (List.replicate (herP s) numberP).getD j (fun s => (s, true)) = numberP := by simp [List.getD, hj]
      have hj2 : j < l.length := by omega
      rw [hs j (by omega), e, List.drop_eq_getElem_cons hj2] at this
      rw [numberP_app _ _ (hl _ (List.getElem_mem hj2))] at this
      rw [getD_of_lt hj2]
      exact this
    · intro hb j hj
      have e : (List.replicate (herP s) numberP).getD j (fun s => (s, true)) = numberP := by simp [List.getD, hj]
      have hj2 : j < l.length := by omega
      have := hb j hj
      rw [hs j (by omega), e, List.drop_eq_getElem_cons hj2]
      rw [getD_of_lt hj2] at this
      rw [numberP_app _ _ (hl _ (List.getElem_mem hj2))]
      exact this
  · unfold pt3
    rw [h, hs _ (Nat.le_refl _)]
theorem pt2_other {k : Int} (h0 : 0 ≤ k) (h1 : k ≠ 1) (h5 : k ≠ 5) (T : List Int) (n : Nat) : pt2 (ps0 (k :: T)) = ⟨false, T, k, [], 0, 0⟩ ∧ (pd2 n (ps0 (k :: T))).2 = true := by
  have e : flPS (pt1 (ps0 (k :: T))).k = [] := by rw [pt1_cons k h0]; simp [flPS, h1, h5]
  constructor
  · unfold pt2
    rw [e, pt1_cons k h0]
    rfl
  · unfold pd2 tkP
    rw [e, tkE_ok, pt1_cons k h0]
    exact ⟨rfl, fun j hj => absurd hj (by simp)⟩
theorem pt2_1 (c : Int) (h0 : 0 ≤ c) (T : List Int) (n : Nat) : pt2 (ps0 (1 :: c :: T)) = ⟨false, T, 1, [], c, 0⟩ ∧ (pd2 n (ps0 (1 :: c :: T))).2 = true := by
  have e : flPS (pt1 (ps0 (1 :: c :: T))).k = [numbersP] := by rw [pt1_cons 1 (by omega)]; rfl
  constructor
  · unfold pt2
    rw [e, pt1_cons 1 (by omega)]
    show (numbersP _).1 = _
    simp only [sqP]
    rw [numbersP_app _ _ h0]
  · unfold pd2
    rw [e, tk1_iff, pt1_cons 1 (by omega), numbersP_app _ _ h0]
    exact ⟨rfl, rfl⟩
theorem pt2_5 (a t : List Int) (h : (a.length : Int) = 4) (n : Nat) : pt2 (ps0 (5 :: (a ++ t))) = ⟨false, t, 5, [], 0, (smallNo 4 a : Nat)⟩ ∧ ((pd2 n (ps0 (5 :: (a ++ t)))).2 = true ↔ flB (smallNo 4 a : Nat) = true) := by
  have e : flPS (pt1 (ps0 (5 :: (a ++ t)))).k = [bytesP] := by rw [pt1_cons 5 (by omega)]; rfl
  constructor
  · unfold pt2
    rw [e, pt1_cons 5 (by omega)]
    show (bytesP _).1 = _
    simp only [sqP]
    rw [bytesP_app _ _ _ h]
  · unfold pd2
    rw [e, tk1_iff, pt1_cons 5 (by omega), bytesP_app _ _ _ h]
    simp
theorem read_layP (k : Int) (ns b t : List Int) (hk : 0 ≤ k) (ht : ∀ x ∈ t, 0 ≤ x) (hb : ∀ x ∈ b, 0 ≤ x) (hm : mayP k ns b.length = true) (n : Nat) :
    (pd1 n (ps0 (layP k ns b ++ t))).2 = true ∧ (pd2 n (ps0 (layP k ns b ++ t))).2 = true ∧ (pd3 n (ps0 (layP k ns b ++ t))).2 = true ∧ (pt3 (ps0 (layP k ns b ++ t))).l = b ++ t ∧ (pt3 (ps0 (layP k ns b ++ t))).k = k ∧ (pt3 (ps0 (layP k ns b ++ t))).ns = ns ∧ (pt3 (ps0 (layP k ns b ++ t))).sz = b.length ∧ lackP (ps0 (layP k ns b ++ t)) = b.length := by
  by_cases h1 : k = 1
  · subst h1
    simp [mayP] at hm
    obtain ⟨hr, hb0⟩ := hm
    obtain rfl : b = [] := by simpa using hb0
    obtain ⟨h255, hns⟩ := ris_len hr
    have e : layP 1 ns [] ++ t = 1 :: (ns.length : Int) :: (ns ++ t) := by
      simp [layP, bigL_one ns.length (by omega)]
    rw [e, pd1_cons n 1 (by omega)]
    obtain ⟨c1, c2⟩ := pt2_1 (ns.length : Int) (by omega) (ns ++ t) n
    have hh : herP (ps0 (1 :: (ns.length : Int) :: (ns ++ t))) = ns.length := by
      unfold herP
      rw [c1]
      simp
    have hpos : ∀ x ∈ ns ++ t, 0 ≤ x := fun x hx => by
      rcases List.mem_append.1 hx with h | h
      · exact (hns x h).1
      · exact ht x h
    obtain ⟨d1, d2⟩ := pd3_of (n := n) c1 hpos
    rw [hh] at d1 d2
    refine ⟨rfl, c2, d1.2 fun j hj => ?_, ?_, ?_, ?_, ?_, ?_⟩
    · have := risTo_at hr j hj
      rw [List.take_append_of_le_length (by omega), show (ns ++ t).getD j 0 = ns.getD j 0 by simp [List.getD, List.getElem?_append_left hj]]
      exact this
    · rw [d2]; simp
    · rw [d2]
    · rw [d2]; simp
    · rw [d2]; rfl
    · unfold lackP; rw [d2, hh]; simp
  · by_cases h5 : k = 5
    · subst h5
      simp [mayP] at hm
      obtain ⟨hn0, hf⟩ := hm
      obtain rfl : ns = [] := by simpa using hn0
      have hfl : 1 ≤ b.length ∧ b.length ≤ 131072 := by simp [flB] at hf; omega
      have e : layP 5 [] b ++ t = 5 :: (bigL 4 b.length ++ (b ++ t)) := by simp [layP]
      rw [e, pd1_cons n 5 (by omega)]
      obtain ⟨c1, c2⟩ := pt2_5 (bigL 4 b.length) (b ++ t) (g4 _) n
      rw [e4 b.length (by omega)] at c1 c2
      have hh : herP (ps0 (5 :: (bigL 4 b.length ++ (b ++ t)))) = 0 := by
        unfold herP
        rw [c1]
        simp
      obtain ⟨d1, d2⟩ := pd3_of (n := n) c1 (fun x hx => by
        rcases List.mem_append.1 hx with h | h
        · exact hb x h
        · exact ht x h)
      rw [hh] at d1 d2
      refine ⟨rfl, c2.2 hf, d1.2 (fun j hj => absurd hj (by omega)), ?_, ?_, ?_, ?_, ?_⟩
      · rw [d2]; simp
      · rw [d2]
      · rw [d2]; simp
      · rw [d2]
      · unfold lackP; rw [d2, hh]; simp
    · simp [mayP, h1, h5] at hm
      obtain ⟨hrk, hn0, hb0⟩ := hm
      obtain rfl : ns = [] := by simpa using hn0
      obtain rfl : b = [] := by simpa using hb0
      have e : layP k [] [] ++ t = k :: t := by simp [layP, h1, h5]
      rw [e, pd1_cons n k hk]
      obtain ⟨c1, c2⟩ := pt2_other hk h1 h5 t n
      have hh : herP (ps0 (k :: t)) = 0 := by
        unfold herP
        rw [c1]
        simp
      obtain ⟨d1, d2⟩ := pd3_of (n := n) c1 ht
      rw [hh] at d1 d2
      refine ⟨hrk, c2, d1.2 (fun j hj => absurd hj (by omega)), ?_, ?_, ?_, ?_, ?_⟩
      · rw [d2]; simp
      · rw [d2]
      · rw [d2]; simp
      · rw [d2]; rfl
      · unfold lackP; rw [d2, hh]; simp
theorem taken_all (t : List Int) (n : Int) (h : (t.length : Int) = n) : taken t n = t := by
  have := taken_app t [] n h
  rwa [List.append_nil] at this
theorem bad_goodP {l : List Int} {p k : Int} {ns b : List Int} (h : rpBad l p) (g : rpGood l k ns b) : False := by
  obtain ⟨g1, g2, g3, g4, _⟩ := g
  rcases h with ⟨h1, _⟩ | ⟨_, h1, _⟩ | ⟨_, _, h1, _⟩ | ⟨_, _, _, h1, _⟩
  · rw [g1] at h1; cases h1
  · rw [g2] at h1; cases h1
  · rw [g3] at h1; cases h1
  · exact h1 g4
theorem good_oneP {l : List Int} {k k' : Int} {ns ns' b b' : List Int} (h : rpGood l k ns b) (g : rpGood l k' ns' b') : k = k' ∧ ns = ns' ∧ b = b' := ⟨h.2.2.2.2.1.trans g.2.2.2.2.1.symm, h.2.2.2.2.2.1.trans g.2.2.2.2.2.1.symm, h.2.2.2.2.2.2.trans g.2.2.2.2.2.2.symm⟩
theorem good_layP (k : Int) (ns b : List Int) (hk : 0 ≤ k) (hb : ∀ x ∈ b, 0 ≤ x) (hm : mayP k ns b.length = true) : rpGood (layP k ns b) k ns b := by
  obtain ⟨h1, h2, h3, h4, h5, h6, h7, h8⟩ := read_layP k ns b [] hk (by simp) hb hm (layP k ns b).length
  simp only [List.append_nil] at h1 h2 h3 h4 h5 h6 h7 h8
  refine ⟨h1, h2, h3, by rw [h4, h8], h5.symm, h6.symm, ?_⟩
  rw [h4, h7]
  exact (taken_all b _ rfl).symm
theorem lay_lives : layP 5 [] [170] = [5, 0, 0, 0, 1, 170] := by decide
theorem lay_lives1 : layP 1 [0, 3] [] = [1, 2, 0, 3] := by decide
theorem good_lives : rpGood [5, 0, 0, 0, 1, 170] 5 [] [170] := by
  rw [← lay_lives]
  exact good_layP 5 [] [170] (by decide) (by decide) (by decide)
theorem HB.lit {w : World} {b : Nat} {l : List Int} (h : w.heap[b]? = some (.cells (l.map (Value.int .u8)).toArray 5 (0, 0))) (hl : l.length ≤ 1000) (hb : ∀ x ∈ l, 0 ≤ x ∧ x < 256) : HB w (.slice (some ⟨b, 0, none⟩) l.length l.length) l := by
  refine ⟨⟨_, _, rfl, Nat.le_refl _, by unfold maxLen; omega, (fun e => by cases e), fun _ => ⟨b, 0, rfl, fun j hj => ?_⟩⟩, hb⟩
  rw [cell_of_row _ _ _ _ _ _ h, Nat.zero_add, List.getElem?_toArray, List.getElem?_map, List.getElem?_eq_getElem hj, getD_of_lt hj]
  rfl
theorem I.HB.lit {w : World} {b : Nat} {l : List Int} (h : w.heap[b]? = some (.cells (l.map (Value.int .i64)).toArray 3 (0, 0))) (hl : l.length ≤ 1000) (hb : ∀ x ∈ l, -9223372036854775808 ≤ x ∧ x < 9223372036854775808) : I.HB w (.slice (some ⟨b, 0, none⟩) l.length l.length) l := by
  refine ⟨⟨_, _, rfl, Nat.le_refl _, by unfold maxLen; omega, (fun e => by cases e), fun _ => ⟨b, 0, rfl, fun j hj => ?_⟩⟩, hb⟩
  rw [cell_of_row _ _ _ _ _ _ h, Nat.zero_add, List.getElem?_toArray, List.getElem?_map, List.getElem?_eq_getElem hj, getD_of_lt hj]
  rfl
set_option maxRecDepth 100000 in
theorem run_build_p1 (w : World) (p : Option Addr) (n c : Nat) : (Instr.build 42 #[(0, .int .u8 1), (1, .slice p n c)]).run Try.prog w = .ok (.agg (rpA 1 (.slice p n c) (.slice none 0 0))) w := by
  kernel_rfl
set_option maxRecDepth 100000 in
set_option maxHeartbeats 8000000 in
theorem lives_any (w : World) : Calls Try.prog 8 #[] w fun e w' => e = .returned (.bool true) ∧ Below w.heap.size w w' := by
  obtain ⟨W1, HW1⟩ : ∃ W : World, Hid (w.alloc (.cells #[.int .i64 0, .int .i64 3] 3) = W) := ⟨_, hid rfl⟩
  have B1 : Hid (Below w.heap.size w W1) := by rw [← HW1.out]; exact hid ((Below.refl _ w).alloc (Nat.le_refl _) _)
  have hn1 : I.HB W1 (.slice (some ⟨w.heap.size, 0, none⟩) 2 2) [0, 3] := I.HB.lit (l := [0, 3]) (by rw [← HW1.out]; exact heap_alloc_new w _) (by decide) (by decide)
  have C1 := hid (putRep_any W1 1 (by decide) _ (.slice none 0 0) [0, 3] [] hn1 (HB.nil W1))
  obtain ⟨m, HM⟩ : ∃ m, Hid (rpA 1 (.slice (some ⟨w.heap.size, 0, none⟩) 2 2) (.slice none 0 0) = m) := ⟨_, hid rfl⟩
  have hbd := hid fun W => run_build_p1 W (some ⟨w.heap.size, 0, none⟩) 2 2
  rw [HM.out] at C1 hbd
  go_enter Try.func8, Try.ntmps8
  go_wp2_with (first | rw [HW1.out] | (refine wpList_buildQ rfl 42 _ rfl #[(0, .int .u8 1), (1, .slice (some ⟨w.heap.size, 0, none⟩) 2 2)] (by go_simp) _ (hbd.out _) ?_) | fail)
  refine C1.out.mono ?_
  rintro e w2 ⟨q2, hb2⟩
  rcases q2 with ⟨q2, -⟩ | ⟨-, v2, rfl, ho2⟩
  · exact absurd q2 (by decide)
  rw [lay_lives1] at ho2
  have H2 : Hid (HB w2 v2 [1, 2, 0, 3]) := hid (HB.of_own ho2 (by decide))
  have B2 : Hid (Below w.heap.size w w2) := hid (B1.out.trans (hb2.mono B1.out.size))
  obtain ⟨p2, c2, e2, -, -⟩ := H2.out.open
  have e2' : v2 = .slice p2 4 c2 := e2
  clear ho2 hb2 C1 hbd e2
  subst e2'
  obtain ⟨W3, HW3⟩ : ∃ W : World, Hid (w2.alloc (.cells #[.int .u8 5, .int .u8 0, .int .u8 0, .int .u8 0, .int .u8 1, .int .u8 170] 5) = W) := ⟨_, hid rfl⟩
  have B3 : Hid (Below w2.heap.size w2 W3) := by rw [← HW3.out]; exact hid ((Below.refl _ w2).alloc (Nat.le_refl _) _)
  have C3 := hid (reply_any W3 (.slice (some ⟨w2.heap.size, 0, none⟩) 6 6) [5, 0, 0, 0, 1, 170] (HB.lit (l := [5, 0, 0, 0, 1, 170]) (by rw [← HW3.out]; exact heap_alloc_new w2 _) (by decide) (by decide)) (by decide))
  go_wp2_with (first | rw [HW3.out] | fail)
  refine C3.out.mono ?_
  rintro e w4 ⟨q4, hb4⟩
  rcases q4 with ⟨p, q4, -⟩ | ⟨k, ns, b, vn, v, Bb, Bn, q4, rfl, n1, n2, n3, q5, q6, q7⟩
  · exact absurd good_lives (fun g => bad_goodP q4 g)
  obtain ⟨rfl, rfl, rfl⟩ := good_oneP q4 good_lives
  have H4 : HB w4 v [170] := HB.of_own q5 (by decide)
  have B24 : Hid (Below w2.heap.size w2 w4) := hid (B3.out.trans (hb4.mono B3.out.size))
  obtain ⟨pv, cv, ev, -, -⟩ := H4.open
  have ev' : v = .slice pv 1 cv := ev
  obtain ⟨pn, cn, en⟩ := own_slice n1
  have en' : vn = .slice pn 0 cn := en
  clear ev en q4 n1 n2 n3 q5 q6 q7 hb4 C3
  subst ev' en'
  obtain ⟨W5, HW5⟩ : ∃ W : World, Hid (w4.alloc (.cells zrep 42) = W) := ⟨_, hid rfl⟩
  obtain ⟨r, HR⟩ : ∃ m, Hid (rpA 5 (.slice pn 0 cn) (.slice pv 1 cv) = m) := ⟨_, hid rfl⟩
  have hr1 : Hid (r.all (·.oneCell') = true) := hid (by rw [← HR.out]; exact rpA_one _ _ _ rfl rfl)
  have hrs : Hid (r.size = 3) := hid (by rw [← HR.out]; rfl)
  have hz5 : Hid (W5.heap[w4.heap.size]? = some (.cells zrep 42 (0, 0))) := hid (by rw [← HW5.out]; exact heap_alloc_new w4 _)
  have B5 : Hid (Below w4.heap.size w4 W5) := by rw [← HW5.out]; exact hid ((Below.refl _ w4).alloc (Nat.le_refl _) _)
  obtain ⟨W6, HW6⟩ : ∃ W : World, Hid (W5.setRow w4.heap.size r = W) := ⟨_, hid rfl⟩
  have hz6 : W6.heap[w4.heap.size]? = some (.cells r 42 (0, 0)) := by rw [← HW6.out]; exact setRow_heap _ _ _ _ _ _ hz5.out
  have B46 : Hid (Below w4.heap.size w4 W6) := hid (B5.out.trans (by rw [← HW6.out]; exact (ex_setRow (Ex.refl (fun k => k = w4.heap.size) W5) rfl r).below B5.out.size (fun k e => by omega)))
  have SR : Hid ((Try.prog.info? 42).map (·.size) = some 3) := hid (by kernel_rfl)
  have k0 : W6.cell? ⟨w4.heap.size, 0, none⟩ = some (.int .u8 5) := by rw [cell_of_row _ _ _ _ _ _ hz6, ← HR.out]; rfl
  have k2 : W6.cell? ⟨w4.heap.size, 2, none⟩ = some (.slice pv 1 cv) := by rw [cell_of_row _ _ _ _ _ _ hz6, ← HR.out]; rfl
  have H6 := H4.below B46.out
  obtain ⟨bv, ov, cv', ev, _, _, hcv⟩ := H6.ne (by decide)
  have hc0 : W6.cell? ⟨bv, ov, none⟩ = some (.int .u8 170) := hcv 0 (by decide)
  cases ev
  have H26 : Hid (HB W6 (.slice p2 4 c2) [1, 2, 0, 3]) := hid ((H2.out.below B24.out).below B46.out)
  have BF : Hid (Below w.heap.size w W6) := hid (B2.out.trans ((B24.out.mono B2.out.size).trans (B46.out.mono (Nat.le_trans B2.out.size B24.out.size))))
  rw [HR.out]
  clear H4 H6 hcv hz6
  go_wp2_with (first | rw [HW5.out] | (refine wpList_store_row rfl 42 _ _ rfl w4.heap.size r rfl rfl 42 zrep hz5.out (by rw [hrs.out]; exact SR.out) (by rw [hrs.out]; rfl) hr1.out ?_; rw [HW6.out]) | fail)
  obtain ⟨W7, HW7⟩ : ∃ W : World, Hid (W6.alloc (.cells #[.int .u8 1, .int .u8 2, .int .u8 0, .int .u8 3] 5) = W) := ⟨_, hid rfl⟩
  rw [HW7.out]
  have B7 : Hid (Below W6.heap.size W6 W7) := by rw [← HW7.out]; exact hid ((Below.refl _ W6).alloc (Nat.le_refl _) _)
  have C7 := hid (sameBytes_any W7 (.slice p2 4 c2) (.slice (some ⟨W6.heap.size, 0, none⟩) 4 4) [1, 2, 0, 3] [1, 2, 0, 3] (H26.out.below B7.out) (HB.lit (l := [1, 2, 0, 3]) (by rw [← HW7.out]; exact heap_alloc_new W6 _) (by decide) (by decide)))
  have j0 := (B7.out.cell (p := ⟨w4.heap.size, 0, none⟩) (World.block_lt_of_cell? W6 _ k0)).trans k0
  have j2 := (B7.out.cell (p := ⟨w4.heap.size, 2, none⟩) (World.block_lt_of_cell? W6 _ k2)).trans k2
  have jc := (B7.out.cell (p := ⟨bv, ov, none⟩) (World.block_lt_of_cell? W6 _ hc0)).trans hc0
  have BF7 : Hid (Below w.heap.size w W7) := hid (BF.out.trans (B7.out.mono BF.out.size))
  clear k0 k2 hc0
  refine C7.out.mono ?_
  rintro e w8 ⟨rfl, d8⟩
  have j0' := (d8.cell ⟨w4.heap.size, 0, none⟩).trans j0
  have j2' := (d8.cell ⟨w4.heap.size, 2, none⟩).trans j2
  have jc' := (d8.cell ⟨bv, ov, none⟩).trans jc
  have BF8 : Hid (Below w.heap.size w w8) := hid (BF7.out.trans ((d8.below _).mono (Nat.le_refl _)))
  clear j0 j2 jc C7
  simp only [decide_true]
  go_wp2_with fail
  go_ret
  exact ⟨rfl, BF8.out⟩
end Go.Proofs.Ytgjadpidoaianaa
