/- Of the road to rsAny_holds: GsOd, GfEnv, GfCon, EvRange, EvMarks, RsCon, RsLaw, GsLw, OpensIh. -/
import Derived.Test.YtbiplflejijbeaaG07
import Derived.Test.YtbiplflejijbeaaG09
import Derived.Test.YtbiplflejijbeaaG05
import Derived.Test.YtbiplflejijbeaaG04
import Derived.Test.YtbiplflejijbeaaG00
import Derived.RangeFuncLeaves
import Derived.RangeFuncNested
import Derived.Test.YtbiplflejijbeaaG08
set_option linter.unusedVariables false
set_option linter.unusedSimpArgs false
namespace Go.Proofs.Ytbiplflejijbeaa
open Go Go.RowKit
attribute [local go_sem] Oper.semAt_some
theorem od_held {P : Program} {ops : Array Oper} {Q : Exit → Act → World → Prop} {S : World → Prop} {id : Nat} {a : Act} {w : World} (hm : P.follows .mixedOrders = true) (hS : S w.drew)
    (h : S w.drew → wpAnyH P .any ops (fun e a' w' => e = .normal ∧ Q e a' w') S ops.size (Array.replicate ops.size false) a w.drew) : (Code.region id ops true).wp P Q a w :=
  Code.wp_mono (fun _ _ _ q => q.2) (wp_region_held_drew hm hS h)
set_option maxHeartbeats 1000000 in
theorem results_cc {fn : Func} {p q : Tmp} (h : fn.results = #[.cell p 3, .cell q 26]) (tmps : Array Value) (w : World) (g g' : Nat) (a b : Int) (hp : tmps.getD p undef = .pointer (some ⟨g, 0, none⟩)) (hq : tmps.getD q undef = .pointer (some ⟨g', 0, none⟩)) (hc : w.cell? ⟨g, 0, none⟩ = some (.int .i64 a)) (hc' : w.cell? ⟨g', 0, none⟩ = some (.int .i64 b)) : (results fn tmps).run Try.prog w = .ok (.tuple #[.int .i64 a, .int .i64 b]) w := by
  have hp' : tmps[p]?.getD undef = .pointer (some ⟨g, 0, none⟩) := by simpa using hp
  have hq' : tmps[q]?.getD undef = .pointer (some ⟨g', 0, none⟩) := by simpa using hq
  simp only [results, h]
  simp [hp', hq', asAddr]
  clear hp hp' hq hq'
  go_simp
theorem elmBB : Try.prog.elem 29 = 22 := by kernel_rfl
theorem slice_hBB (W : World) (p : Option Addr) (n c hi : Nat) (h1 : hi ≤ c) (h2 : 0 < c) : (Instr.slice 29 (.slice p n c) none (some (.int .i64 (hi : Int))) none).run Try.prog W = .ok (.slice p hi c) W := by
  have h := run_slice_h (P := Try.prog) W 29 p n c (by rw [elmBB]; exact Try.underlying29) .i64 (hi : Int) (by omega) (by omega)
  have sz : (sizeOf 22).run Try.prog W = .ok 1 W := by kernel_rfl
  rw [h, elmBB, sz, Result.andThen_ok, Int.toNat_natCast]
  unfold sliced
  rw [if_neg (by omega)]
  cases p with
  | none => rfl
  | some a => simp [Go.WideShapes.add_plain, Addr.add]
theorem HL.pre {w : World} {v : Value} {ds : List (List Int)} (h : HL w v ds) {k : Nat} (hk : k ≤ ds.length) (hk1 : 1 ≤ k) : ∃ p c, v = .slice p ds.length c ∧ k ≤ c ∧ HL w (.slice p k c) (ds.take k) := by
  obtain ⟨b, o, c, rfl, h1, h2, h3⟩ := h.ne (by omega)
  have hl : (ds.take k).length = k := by rw [List.length_take]; omega
  refine ⟨_, c, rfl, by omega, _, c, by rw [hl], by rw [hl]; omega, h2, (fun e => by cases e), fun _ => ⟨b, o, rfl, fun j hj => ?_⟩⟩
  rw [hl] at hj
  obtain ⟨u, hu, hb⟩ := h3 j (by omega)
  refine ⟨u, hu, ?_⟩
  rw [show (ds.take k).getD j [] = ds.getD j [] by simp [List.getD, List.getElem?_take, hj]]
  exact hb
set_option maxRecDepth 100000 in
set_option maxHeartbeats 8000000 in
theorem odd_ok (w : World) (gc k n : Nat) (vb : Value) (ds : List (List Int)) (L : Nat) (h : HCd w gc k n) (hk1 : 1 ≤ k) (hkn : k ≤ n) (hn : n ≤ 255) (hd : HL w vb ds) (hdl : ds.length = n) (hL : ∀ j, j < ds.length → (ds.getD j []).length = L) (hLb : L ≤ 140737488355328)
    (hgo : ∀ i, i < n → mixL (rwL (elL k n) k i) (ds.take k) k L = ds.getD i []) :
    Calls Try.prog 12 #[.pointer (some ⟨gc, 0, none⟩), vb] w fun e w' => e = .returned (.tuple #[.int .i64 (n : Int), .int .i64 0]) ∧ Below w.heap.size w w' := by
  have HC := hid h
  have HD := hid hd
  have HLE := hid hL
  have HGO := hid hgo
  have HDL := hid hdl
  have hmx : Try.prog.follows .mixedOrders = true := by kernel_rfl
  obtain ⟨g, hg, hm⟩ := h
  have HG := hid hg
  have HM := hid hm
  obtain ⟨pb, cb, rfl, hkc, hpre⟩ := hd.pre (k := k) (by omega) hk1
  have HPRE := hid hpre
  rw [hdl] at HD ⊢
  obtain ⟨wA, HWA⟩ : ∃ x, Hid (w.alloc (.cells #[.pointer (some ⟨gc, 0, none⟩)] 25) = x) := ⟨_, rfl⟩
  obtain ⟨wB, HWB⟩ : ∃ x, Hid (wA.alloc (.cells #[.slice pb n cb] 29) = x) := ⟨_, rfl⟩
  obtain ⟨wC, HWC⟩ : ∃ x, Hid (wB.alloc (.cells #[.int .i64 0] 3) = x) := ⟨_, rfl⟩
  obtain ⟨wD, HWD⟩ : ∃ x, Hid (wC.alloc (.cells #[.int .i64 0] 26) = x) := ⟨_, rfl⟩
  have bA : Below w.heap.size w wA := by rw [← HWA.out]; exact (Below.refl _ w).alloc (Nat.le_refl _) _
  have bB : Below wA.heap.size wA wB := by rw [← HWB.out]; exact (Below.refl _ _).alloc (Nat.le_refl _) _
  have bC : Below wB.heap.size wB wC := by rw [← HWC.out]; exact (Below.refl _ _).alloc (Nat.le_refl _) _
  have bD : Below wC.heap.size wC wD := by rw [← HWD.out]; exact (Below.refl _ _).alloc (Nat.le_refl _) _
  have XA : Boxed wA w.heap.size 25 (.pointer (some ⟨gc, 0, none⟩)) := by rw [← HWA.out]; exact Boxed.new _ _ _
  have XB : Boxed wB wA.heap.size 29 (.slice pb n cb) := by rw [← HWB.out]; exact Boxed.new _ _ _
  have XC : Boxed wC wB.heap.size 3 (.int .i64 0) := by rw [← HWC.out]; exact Boxed.new _ _ _
  have XD : Boxed wD wC.heap.size 26 (.int .i64 0) := by rw [← HWD.out]; exact Boxed.new _ _ _
  have sA : wA.heap.size = w.heap.size + 1 := by rw [← HWA.out]; simp
  have sB : wB.heap.size = wA.heap.size + 1 := by rw [← HWB.out]; simp
  have sC : wC.heap.size = wB.heap.size + 1 := by rw [← HWC.out]; simp
  have sD : wD.heap.size = wC.heap.size + 1 := by rw [← HWD.out]; simp
  have b4 : Below w.heap.size w wD := ((bA.trans (bB.mono (by omega))).trans (bC.mono (by omega))).trans (bD.mono (by omega))
  have B4 := hid b4
  have X0 : Hid (Boxed wD w.heap.size 25 (.pointer (some ⟨gc, 0, none⟩))) := hid (((XA.kept (grown_below (r := none) bB) (by simp)).kept (grown_below (r := none) bC) (by simp)).kept (grown_below (r := none) bD) (by simp))
  have X1 : Hid (Boxed wD wA.heap.size 29 (.slice pb n cb)) := hid ((XB.kept (grown_below (r := none) bC) (by simp)).kept (grown_below (r := none) bD) (by simp))
  have X2 : Hid (Boxed wD wB.heap.size 3 (.int .i64 0)) := hid (XC.kept (grown_below (r := none) bD) (by simp))
  have X3 : Hid (Boxed wD wC.heap.size 26 (.int .i64 0)) := hid XD
  obtain ⟨b1, Hb1⟩ : ∃ x, Hid (w.heap.size + 1 = x) := ⟨_, rfl⟩
  obtain ⟨b2, Hb2⟩ : ∃ x, Hid (b1 + 1 = x) := ⟨_, rfl⟩
  obtain ⟨b3, Hb3⟩ : ∃ x, Hid (b2 + 1 = x) := ⟨_, rfl⟩
  have e1 : wA.heap.size = b1 := by have := Hb1.out; omega
  have e2 : wB.heap.size = b2 := by have := Hb2.out; omega
  have e3 : wC.heap.size = b3 := by have := Hb3.out; omega
  have e4 : wD.heap.size = b3 + 1 := by omega
  rw [e1] at X1
  rw [e2] at X2
  rw [e3] at X3
  have SZ : Hid (w.heap.size < b1 ∧ b1 < b2 ∧ b2 < b3 ∧ wD.heap.size = b3 + 1) := hid ⟨by have := Hb1.out; omega, by have := Hb2.out; omega, by have := Hb3.out; omega, e4⟩
  obtain ⟨b0, Hb0⟩ : ∃ x, Hid (w.heap.size = x) := ⟨_, rfl⟩
  rw [Hb0.out] at X0 SZ
  have x0 := X0.out.cell
  have x1 := X1.out.cell
  have c0 : wD.cell? ⟨gc, 0, none⟩ = some (.pointer (some ⟨g, 0, none⟩)) := (cell_of_row wD gc 0 _ _ _ ((b4.block gc (Array.getElem?_eq_some_iff.1 HG.out).1).trans HG.out)).trans rfl
  have CM := hid (cmade_any wD gc k n (HC.out.below b4))
  have CN := hid fun W (hW : Below wD.heap.size wD W) => cn_any W gc k n ((HC.out.below b4).below hW)
  have CF := hid fun W (hW : Below wD.heap.size wD W) => fit_ok W (.slice pb n cb) ds n L ((HD.out.below b4).below hW) hdl (by omega) hn hL
  have CA := hid fun W (hW : Below wD.heap.size wD W) => ball_any W g n k (elL k n) ((hm.below b4).below hW)
  clear hd hL hgo hdl hg hm hpre bA bB bC bD XA XB XC XD b4 sA sB sC sD e1 e2 e3 e4
  refine (callsIn_wide (n := 3)).1 ?_
  refine callsIn_of_wp_marks Try.func12 rfl trivial (wpIn_wide.2 ?_) rfl
  simp only [Try.ntmps12, List.size_toArray, List.length_cons, List.length_nil, Nat.reduceAdd, Nat.reduceSub, Array.replicate_succ, Array.replicate_zero, List.push_toArray, List.append_toArray, List.nil_append, List.cons_append]
  go_wp2_with fail
  rw [HWA.out, HWB.out, HWC.out, HWD.out, Hb1.out, Hb2.out, Hb3.out, Hb0.out]
  refine CM.out.mono ?_
  rintro e wq ⟨rfl, hwq⟩
  rw [hwq]
  clear hwq wq CM
  go_wp2_with fail
  refine od_held (S := (fun W : World => W.cell? ⟨b0, 0, none⟩ = some (.pointer (some ⟨gc, 0, none⟩)) ∧ W.cell? ⟨b1, 0, none⟩ = some (.slice pb n cb))) (by kernel_rfl) ⟨x0, x1⟩ (fun hHeld => ?_)
  have HS := hid hHeld
  clear hHeld
  change wpAnyH _ _ _ _ _ _ _ _ (World.drew _)
  refine wpAnyH_take (i := 0) (v := ?_) rfl (by kernel_rfl) (by kernel_rfl) (by kernel_rfl) (fun _ _ _ h => by cases h.1) (Or.inl ⟨by rfl, ?q0⟩) HS.out ?_
  case q0 => intro w hSw; obtain ⟨hz0, hz1⟩ := hSw; go_simp; rfl
  simp only [Act.put, List.getElem_toArray, List.getElem_cons_zero, List.getElem_cons_succ, List.setIfInBounds_toArray, List.set_cons_zero, List.set_cons_succ]
  refine wpAnyH_take (i := 1) (v := ?_) rfl (by kernel_rfl) (by kernel_rfl) (by kernel_rfl) (fun _ _ _ h => by cases h.1) (Or.inl ⟨by rfl, ?q1⟩) HS.out ?_
  case q1 => intro w hSw; obtain ⟨hz0, hz1⟩ := hSw; go_simp; rfl
  simp only [Act.put, List.getElem_toArray, List.getElem_cons_zero, List.getElem_cons_succ, List.setIfInBounds_toArray, List.set_cons_zero, List.set_cons_succ]
  refine wpAnyH_ready (rs := [2]) (by kernel_rfl) (by simp) ?_
  refine AllReadyH.cons rfl (fun K hK => ?_) AllReadyH.nil
  replace hK := hid hK
  go_simp
  refine (CN.out wD.drew (Below.refl _ _).drew).mono ?_
  rintro e wq ⟨rfl, hwq⟩
  rw [hwq]
  clear hwq wq
  refine hK.out _ _ HS.out (fun _ => ?_)
  clear hK K
  try simp only [Act.put, List.getElem_toArray, List.getElem_cons_zero, List.getElem_cons_succ, List.setIfInBounds_toArray, List.set_cons_zero, List.set_cons_succ]
  refine wpAnyH_ready (rs := [3]) (by kernel_rfl) (by simp) ?_
  refine AllReadyH.cons rfl (fun K hK => ?_) AllReadyH.nil
  replace hK := hid hK
  go_simp
  refine (CF.out wD.drew (Below.refl _ _).drew).mono ?_
  rintro e wq ⟨rfl, hwq⟩
  rw [hwq]
  clear hwq wq
  refine hK.out _ _ HS.out (fun _ => ?_)
  clear hK K
  try simp only [Act.put, List.getElem_toArray, List.getElem_cons_zero, List.getElem_cons_succ, List.setIfInBounds_toArray, List.set_cons_zero, List.set_cons_succ]
  refine wpAnyH_take (i := 4) (v := ?_) rfl (by kernel_rfl) (by kernel_rfl) (by kernel_rfl) (fun _ _ _ h => by cases h.1) (Or.inl ⟨by rfl, ?q4⟩) HS.out ?_
  case q4 => intro w hSw; obtain ⟨hz0, hz1⟩ := hSw; go_simp; rfl
  simp only [Act.put, List.getElem_toArray, List.getElem_cons_zero, List.getElem_cons_succ, List.setIfInBounds_toArray, List.set_cons_zero, List.set_cons_succ]
  refine wpAnyH_done (by kernel_rfl) ⟨rfl, ?_⟩ _
  go_wp2_with fail
  obtain ⟨wE, HWE⟩ : ∃ x, Hid (wD.drew = x) := ⟨_, rfl⟩
  have BE : Hid (Below wD.heap.size wD wE) := by rw [← HWE.out]; exact hid (Below.refl _ _).drew
  rw [HWE.out]
  have CA := hid (CA.out wE BE.out)
  have x0 := (X0.out.kept (grown_below (r := none) BE.out) (by simp)).cell
  have c0 := (BE.out.cell (World.block_lt_of_cell? wD _ c0)).trans c0
  go_wp2_with fail
  refine CA.out.mono ?_
  rintro e w5 ⟨b5, rfl, hb5l, hb5h, hm5, hc5, hb5⟩
  have HM5 := hid hm5
  have B5 := hid (BE.out.trans (hb5.mono BE.out.size))
  have hw5 := hid hb5.size
  have HDl : Hid (∀ i, mtD w5 b5 i → i < w5.heap.size) := by
    rintro i (rfl | ⟨v, hv, hvb⟩)
    · exact hb5h
    · obtain ⟨q0, v', q1, q2⟩ := hm5
      have c3 : w5.cell? ⟨b5, 3, none⟩ = some v' := (cell_of_row w5 b5 3 _ _ _ q1).trans rfl
      rw [c3] at hv
      obtain rfl := Option.some.inj hv
      obtain ⟨b1', o1, k1, e1, _, _, hcell⟩ := q2.ne (by rw [q0]; exact Nat.mul_pos (by omega) hk1)
      rw [e1] at hvb
      simp only [Value.ownBlock, Option.some.injEq] at hvb
      subst hvb
      exact World.block_lt_of_cell? w5 _ (hcell 0 (by rw [q0]; exact Nat.mul_pos (by omega) hk1))
  have X05 := hid ((X0.out.kept (grown_below (r := none) B5.out) (by simp)))
  have X15 := hid ((X1.out.kept (grown_below (r := none) B5.out) (by simp)))
  have X25 := hid ((X2.out.kept (grown_below (r := none) B5.out) (by simp)))
  have X35 := hid ((X3.out.kept (grown_below (r := none) B5.out) (by simp)))
  clear hb5l hb5h hm5 hc5 hb5 CA c0
  go_wp2_with fail
  refine (wpIn_wide (n := 3)).1 ?_
  apply range_fit rfl (by decide) (gf := 49) (lb := #[.pointer (some ⟨b5, 0, none⟩)]) rfl trivial (enters_of Try.func49 (by kernel_rfl) rfl)
    (ball_iter (3 - 1) w5 b5 n k (elL k n) HM5.out (by omega) (by omega) hk1 (by omega) HDl.out) (KD.refl _ _) HDl.out (fun _ _ => rfl)
    (fun i W => Below w5.heap.size w5 W)
    (fun _ _ => False)
    (fun s A C row hs hg hr => below_from hs (Nat.le_refl _) hg hr (Nat.le_refl _))
    (fun _ _ _ _ hs _ _ => hs)
    (fun k v _ A C row hs hg hr => row_from hs hg hr)
    (Below.refl _ _)
  case hassign =>
    intro l k v W K hK
    gi_wp2
    exact hK
  case hstop =>
    intro d c W _ h _
    exact h.elim
  case hbody =>
    rintro lp i v W hlp - hBW hf hi'
    have BW := hid hBW
    obtain ⟨pv, cv, ev⟩ := own_slc1 hf
    have HRL := hid (rwL_length HM.out.1 hi')
    have hbv : HB W v (rwL (elL k n) k i) := HB.of_own hf (fun x hx => elL_byt k n hkn hn hk1 x (List.mem_of_mem_take (List.mem_of_mem_drop hx)))
    rw [HRL.out] at ev
    subst ev
    have BWa := B4.out.trans ((B5.out.trans (hBW.mono B5.out.size)).mono B4.out.size)
    have HDW := HD.out.below BWa
    have HPW := HPRE.out.below BWa
    obtain ⟨bb, oo, cc, ee, _, _, hh⟩ := HDW.ne (by rw [HDL.out]; omega)
    rw [HDL.out] at ee hh
    simp only [Value.slice.injEq] at ee
    obtain ⟨rfl, -, rfl⟩ := ee
    obtain ⟨u, hu, hbu⟩ := hh i hi'
    obtain ⟨pu, cu, eu, _, _⟩ := hbu.open
    have hle : (ds.getD i []).length = L := HLE.out i (by rw [HDL.out]; omega)
    rw [hle] at eu
    subst eu
    have x0 := (X05.out.kept (grown_below (r := none) hBW) (by simp)).cell
    have x1 := (X15.out.kept (grown_below (r := none) hBW) (by simp)).cell
    have S0 : Hid (W.drew.cell? ⟨b0, 0, none⟩ = some (.pointer (some ⟨gc, 0, none⟩)) ∧ W.drew.cell? ⟨b1, 0, none⟩ = some (.slice (some ⟨bb, oo, none⟩) n cb) ∧ W.drew.cell? ⟨bb, oo + i, none⟩ = some (.slice pu L cu)) := hid ⟨x0, x1, hu⟩
    have CK := hid (ck_any W.drew gc k n ((HC.out.below BWa).below (Below.refl _ _).drew))
    have CX := mixed_any W.drew (.slice pv k cv) (.slice (some ⟨bb, oo, none⟩) k cb) (rwL (elL k n) k i) (ds.take k) L (hbv.below (Below.refl _ _).drew) (HPW.below (Below.refl _ _).drew) (by rw [HRL.out, List.length_take, HDL.out]; omega) (by rw [List.length_take, HDL.out]; omega) (fun j hj => by
      rw [List.length_take, HDL.out] at hj
      rw [show (ds.take k).getD j [] = ds.getD j [] by simp [List.getD, List.getElem?_take, show j < k by omega]]
      exact HLE.out j (by rw [HDL.out]; omega)) hLb
    rw [HRL.out, HGO.out i hi'] at CX
    have CX := hid CX
    have HBU := hid hbu
    have HLI := hid hle
    clear hf hbv HDW HPW hh hu hbu hBW BWa x0 x1 hle
    gi_wp2
    refine in_region_held (S := (fun V : World => V.cell? ⟨b0, 0, none⟩ = some (.pointer (some ⟨gc, 0, none⟩)) ∧ V.cell? ⟨b1, 0, none⟩ = some (.slice (some ⟨bb, oo, none⟩) n cb) ∧ V.cell? ⟨bb, oo + i, none⟩ = some (.slice pu L cu))) (by kernel_rfl) (by kernel_rfl) S0.out (fun hHeld => ?_)
    have HS := hid hHeld
    clear hHeld
    change wpAnyH _ _ _ _ _ _ _ _ (World.drew _)
    refine wpAnyH_take (i := 0) (v := ?_) rfl (by kernel_rfl) (by kernel_rfl) (by kernel_rfl) (fun _ _ _ h => by cases h.1) (Or.inl ⟨by rfl, ?q0⟩) HS.out ?_
    case q0 => intro w hSw; obtain ⟨hz0, hz1, hz2⟩ := hSw; go_simp; rfl
    simp only [Act.put, List.getElem_toArray, List.getElem_cons_zero, List.getElem_cons_succ, List.setIfInBounds_toArray, List.set_cons_zero, List.set_cons_succ]
    refine wpAnyH_take (i := 1) (v := ?_) rfl (by kernel_rfl) (by kernel_rfl) (by kernel_rfl) (fun _ _ _ h => by cases h.1) (Or.inl ⟨by rfl, ?q1⟩) HS.out ?_
    case q1 => intro w hSw; obtain ⟨hz0, hz1, hz2⟩ := hSw; go_simp; rfl
    simp only [Act.put, List.getElem_toArray, List.getElem_cons_zero, List.getElem_cons_succ, List.setIfInBounds_toArray, List.set_cons_zero, List.set_cons_succ]
    refine wpAnyH_take (i := 2) (v := ?_) rfl (by kernel_rfl) (by kernel_rfl) (by kernel_rfl) (fun _ _ _ h => by cases h.1) (Or.inl ⟨by rfl, ?q2⟩) HS.out ?_
    case q2 => intro w hSw; obtain ⟨hz0, hz1, hz2⟩ := hSw; go_simp; rfl
    simp only [Act.put, List.getElem_toArray, List.getElem_cons_zero, List.getElem_cons_succ, List.setIfInBounds_toArray, List.set_cons_zero, List.set_cons_succ]
    refine wpAnyH_take (i := 6) (v := ?_) rfl (by kernel_rfl) (by kernel_rfl) (by kernel_rfl) (fun _ _ _ h => by cases h.1) (Or.inl ⟨by rfl, ?q6⟩) HS.out ?_
    case q6 => intro w hSw; obtain ⟨hz0, hz1, hz2⟩ := hSw; go_simp; rfl
    simp only [Act.put, List.getElem_toArray, List.getElem_cons_zero, List.getElem_cons_succ, List.setIfInBounds_toArray, List.set_cons_zero, List.set_cons_succ]
    refine wpAnyH_take (i := 7) (v := ?_) rfl (by kernel_rfl) (by kernel_rfl) (by kernel_rfl) (fun _ _ _ h => by cases h.1) (Or.inl ⟨by rfl, ?q7⟩) HS.out ?_
    case q7 => intro w hSw; obtain ⟨hz0, hz1, hz2⟩ := hSw; go_simp; rfl
    simp only [Act.put, List.getElem_toArray, List.getElem_cons_zero, List.getElem_cons_succ, List.setIfInBounds_toArray, List.set_cons_zero, List.set_cons_succ]
    refine wpAnyH_take (i := 8) (v := ?_) rfl (by kernel_rfl) (by kernel_rfl) (by kernel_rfl) (fun _ _ _ h => by cases h.1) (Or.inl ⟨by rfl, ?q8⟩) HS.out ?_
    case q8 => intro w hSw; obtain ⟨hz0, hz1, hz2⟩ := hSw; go_simp; rfl
    simp only [Act.put, List.getElem_toArray, List.getElem_cons_zero, List.getElem_cons_succ, List.setIfInBounds_toArray, List.set_cons_zero, List.set_cons_succ]
    refine wpAnyH_take (i := 9) (v := ?_) rfl (by kernel_rfl) (by kernel_rfl) (by kernel_rfl) (fun _ _ _ h => by cases h.1) (Or.inl ⟨by rfl, ?q9⟩) HS.out ?_
    case q9 => intro w hSw; obtain ⟨hz0, hz1, hz2⟩ := hSw; go_simp; rfl
    simp only [Act.put, List.getElem_toArray, List.getElem_cons_zero, List.getElem_cons_succ, List.setIfInBounds_toArray, List.set_cons_zero, List.set_cons_succ]
    refine wpAnyH_ready (rs := [3]) (by kernel_rfl) (by simp) ?_
    refine AllReadyH.cons rfl (fun K hK => ?_) AllReadyH.nil
    replace hK := hid hK
    go_simp
    refine CK.out.mono ?_
    rintro e wq ⟨rfl, hwq⟩
    rw [hwq]
    clear hwq wq CK
    refine hK.out _ _ HS.out (fun _ => ?_)
    clear hK K
    try simp only [Act.put, List.getElem_toArray, List.getElem_cons_zero, List.getElem_cons_succ, List.setIfInBounds_toArray, List.set_cons_zero, List.set_cons_succ]
    refine wpAnyH_take (i := 4) rfl (by kernel_rfl) (by kernel_rfl) (by kernel_rfl) (fun _ _ _ h => by cases h.1) (yieldsIf_slB8 (by rfl) 29 _ _ _ (by rw [elmBB]; exact Try.underlying29) rfl (.slice (some ⟨bb, oo, none⟩) n cb) none (some (.int .i64 (k : Int))) rfl rfl rfl _ (fun V _ => slice_hBB V (some ⟨bb, oo, none⟩) n cb k (by omega) (by omega))) HS.out ?_
    simp only [Act.put, List.getElem_toArray, List.getElem_cons_zero, List.getElem_cons_succ, List.setIfInBounds_toArray, List.set_cons_zero, List.set_cons_succ]
    refine wpAnyH_ready (rs := [5]) (by kernel_rfl) (by simp) ?_
    refine AllReadyH.cons rfl (fun K hK => ?_) AllReadyH.nil
    replace hK := hid hK
    go_simp
    refine CX.out.mono ?_
    rintro e w6 ⟨v6, rfl, ho6, hb6⟩
    have b6 : Below W.heap.size W w6 := (Below.refl _ W).drew.trans hb6
    have B6 := hid b6
    have S6 : Hid (w6.cell? ⟨b0, 0, none⟩ = some (.pointer (some ⟨gc, 0, none⟩)) ∧ w6.cell? ⟨b1, 0, none⟩ = some (.slice (some ⟨bb, oo, none⟩) n cb) ∧ w6.cell? ⟨bb, oo + i, none⟩ = some (.slice pu L cu)) := hid ⟨(hb6.cell (World.block_lt_of_cell? _ _ S0.out.1)).trans S0.out.1, (hb6.cell (World.block_lt_of_cell? _ _ S0.out.2.1)).trans S0.out.2.1, (hb6.cell (World.block_lt_of_cell? _ _ S0.out.2.2)).trans S0.out.2.2⟩
    have CE := hid (bequal_same w6 v6 (.slice pu L cu) (ds.getD i []) (HB.of_own (by rw [HLI.out]; exact ho6) HBU.out.2) (HBU.out.below b6))
    clear ho6 hb6 b6 CX
    refine hK.out _ _ S6.out (fun _ => ?_)
    clear hK K HS
    have HS := S6
    try simp only [Act.put, List.getElem_toArray, List.getElem_cons_zero, List.getElem_cons_succ, List.setIfInBounds_toArray, List.set_cons_zero, List.set_cons_succ]
    refine wpAnyH_ready (rs := [10]) (by kernel_rfl) (by simp) ?_
    refine AllReadyH.cons rfl (fun K hK => ?_) AllReadyH.nil
    replace hK := hid hK
    go_simp
    refine CE.out.mono ?_
    rintro e wq ⟨rfl, hwq⟩
    rw [hwq]
    clear hwq wq CE
    refine hK.out _ _ HS.out (fun _ => ?_)
    clear hK K
    try simp only [Act.put, List.getElem_toArray, List.getElem_cons_zero, List.getElem_cons_succ, List.setIfInBounds_toArray, List.set_cons_zero, List.set_cons_succ]
    refine wpAnyH_take (i := 11) (v := ?_) rfl (by kernel_rfl) (by kernel_rfl) (by kernel_rfl) (fun _ _ _ h => by cases h.1) (Or.inl ⟨by rfl, ?q11⟩) HS.out ?_
    case q11 => intro w hSw; obtain ⟨hz0, hz1, hz2⟩ := hSw; go_simp; rfl
    simp only [Act.put, List.getElem_toArray, List.getElem_cons_zero, List.getElem_cons_succ, List.setIfInBounds_toArray, List.set_cons_zero, List.set_cons_succ]
    refine wpAnyH_done (by kernel_rfl) ⟨rfl, ?_⟩ _
    gi_wp2
    exact ⟨(KeepsOthers.of_grownBy (grown_below (r := none) B6.out) (fun j o e => by cases e)).from _, ⟨B6.out.size, fun j hj => B6.out.block j (Nat.lt_of_lt_of_le (HDl.out j hj) BW.out.size)⟩, BW.out.trans (B6.out.mono BW.out.size)⟩
  case hdone =>
    rintro d W hd hBW hK
    have BW := hid hBW
    have HKD := hid hK
    have x0 := (X05.out.kept (grown_below (r := none) BW.out) (by simp)).cell
    have x2 := (X25.out.kept (grown_below (r := none) BW.out) (by simp))
    have x3 := (X35.out.kept (grown_below (r := none) BW.out) (by simp))
    have c2 := x2.cell
    have f2 := x2.frozen
    have c3 := x3.cell
    have f3 := x3.frozen
    have hb23 : ¬ (b2 = b3) := by have := SZ.out; omega
    have hb32 : ¬ (b3 = b2) := by have := SZ.out; omega
    have XX2 := hid x2
    have XX3 := hid x3
    have CN2 := hid (CN.out W (B5.out.trans (BW.out.mono B5.out.size)))
    clear hBW hK x2 x3
    go_wp2_with fail
    refine CN2.out.mono ?_
    rintro e wq ⟨rfl, hwq⟩
    rw [hwq]
    clear hwq wq CN2
    go_wp2_with fail
    have hbd : b2 ≠ d ∧ b3 ≠ d ∧ b3 < d := by have h1 := SZ.out; have h2 := B5.out.size; omega
    have hn1 : d ≠ b2 := fun e => hbd.1 e.symm
    have hn2 : d ≠ b3 := fun e => hbd.2.1 e.symm
    obtain ⟨W8, HW8⟩ : ∃ x, Hid (W.setCell ⟨b2, 0, none⟩ (.int .i64 (n : Int)) = x) := ⟨_, hid rfl⟩
    obtain ⟨W9, HW9⟩ : ∃ x, Hid (W8.setCell ⟨b3, 0, none⟩ (.int .i64 0) = x) := ⟨_, hid rfl⟩
    have y2 : Boxed W8 b2 3 (.int .i64 (n : Int)) := by rw [← HW8.out]; exact XX2.out.set _
    have y3 : Boxed W8 b3 26 (.int .i64 0) := by rw [← HW8.out]; exact (heap_setCell_other W ⟨b2, 0, none⟩ b3 _ hb32).trans XX3.out
    have z2 : Boxed W9 b2 3 (.int .i64 (n : Int)) := by rw [← HW9.out]; exact (heap_setCell_other W8 ⟨b3, 0, none⟩ b2 _ hb23).trans y2
    have z3 : Boxed W9 b3 26 (.int .i64 0) := by rw [← HW9.out]; exact y3.set _
    have hd8 : W8.heap[d]? = some (.deferred (some [])) := by rw [← HW8.out]; exact (heap_setCell_other W ⟨b2, 0, none⟩ d _ hn1).trans HKD.out
    have hd9 : W9.heap[d]? = some (.deferred (some [])) := by rw [← HW9.out]; exact (heap_setCell_other W8 ⟨b3, 0, none⟩ d _ hn2).trans hd8
    have bb9 : Below w.heap.size w W9 := by
      have h0 := B4.out.trans ((B5.out.trans (BW.out.mono B5.out.size)).mono B4.out.size)
      rw [← HW9.out, ← HW8.out]
      exact (h0.setCell (p := ⟨b2, 0, none⟩) (by have := SZ.out; rw [Hb0.out]; show b0 ≤ b2; omega) _).setCell (p := ⟨b3, 0, none⟩) (by have := SZ.out; rw [Hb0.out]; show b0 ≤ b3; omega) _
    rw [HW8.out, HW9.out]
    refine ⟨by simp, .inl ⟨_, _, rfl, run_takeDeferred hd9, ?_⟩⟩
    refine ⟨_, results_cc rfl _ _ b2 b3 (n : Int) 0 rfl rfl ?_ ?_, rfl, bb9.trans ⟨rfl, rfl, rfl, by simp, fun i hi => World.putObj_heap_other (by have h1 := SZ.out; rw [Hb0.out] at hi; omega)⟩⟩
    · exact Boxed.cell (t := 3) ((World.putObj_heap_other hbd.1).trans z2)
    · exact Boxed.cell (t := 26) ((World.putObj_heap_other hbd.2.1).trans z3)
end Go.Proofs.Ytbiplflejijbeaa
namespace Go.Proofs.Ytbiplflejijbeaa
open Go Go.RowKit Ev
def envI (f : List Int) : Env := ⟨fun i => f.getD i 0, fun _ => .tuple #[], fun _ _ _ => 0⟩
def e8 (e : Ex) : TV := .sc (.int .u8 e)
def e64 (e : Ex) : TV := .sc (.int .i64 e)
def E8 (e : Ex) : AV := .tv (e8 e)
def E64 (e : Ex) : AV := .tv (e64 e)
def B8 (i : Nat) : AV := E8 (.var i)
def B64 (i : Nat) : AV := E64 (.var i)
def tabCon (t : List (Nat × List AV × AV)) : ConF := fun g xs _ => (t.find? fun e => decide (e.1 = g) && decide (e.2.1 = xs)).map (·.2.2)
def EntOk (ρ : Env) (e : Nat × List AV × AV) : Prop :=
  ∀ (ms : List Nat) (w : World) (args : Array Value), e.2.1.map (AV.inst ρ ms) = args.toList.map some → Calls Try.prog e.1 args w fun r w' => ∃ u, r = .returned u ∧ e.2.2.inst ρ ms = some u ∧ Below w.heap.size w w'
theorem tabCon_ok {ρ : Env} {t : List (Nat × List AV × AV)} (h : ∀ e ∈ t, EntOk ρ e) : ConOk Try.prog ρ (tabCon t) := by
  intro g xs H v hv ms B w args ha hH
  unfold tabCon at hv
  rw [Option.map_eq_some_iff] at hv
  obtain ⟨e, h1, rfl⟩ := hv
  have h2 := List.find?_some h1
  simp only [Bool.and_eq_true, decide_eq_true_eq] at h2
  obtain ⟨rfl, rfl⟩ := h2
  exact h e (List.mem_of_find?_eq_some h1) ms w args ha
theorem some_inj {α : Type} : ∀ {a b : List α}, a.map some = b.map some → a = b
  | [], [], _ => rfl
  | [], _ :: _, h => by simp at h
  | _ :: _, [], h => by simp at h
  | x :: a, y :: b, h => by
    simp only [List.map_cons, List.cons.injEq, Option.some.injEq] at h
    rw [h.1, some_inj h.2]
theorem ent {ρ : Env} {g : Nat} {xs : List AV} {v : AV} (vs : List Value) (u : Value) (hx : ∀ ms, xs.map (AV.inst ρ ms) = vs.map some) (hv : ∀ ms, v.inst ρ ms = some u)
    (h : ∀ w, Calls Try.prog g vs.toArray w fun e w' => e = .returned u ∧ Below w.heap.size w w') : EntOk ρ (g, xs, v) := by
  intro ms w args ha
  have e : args = vs.toArray := by
    have := some_inj ((hx ms).symm.trans ha)
    rw [this]
  subst e
  exact (h w).mono fun e w' ⟨q1, q2⟩ => ⟨u, q1, hv ms, q2⟩
theorem still {g : Nat} {args : Array Value} {u : Value} {w : World} (h : Calls Try.prog g args w fun e w' => e = .returned u ∧ w' = w) : Calls Try.prog g args w fun e w' => e = .returned u ∧ Below w.heap.size w w' :=
  h.mono fun e w' ⟨q1, q2⟩ => ⟨q1, q2 ▸ Below.refl _ _⟩
theorem retold {g : Nat} {args : Array Value} {u v : Value} {w : World} (h : Calls Try.prog g args w fun e w' => e = .returned u ∧ Below w.heap.size w w') (e : u = v) : Calls Try.prog g args w fun e w' => e = .returned v ∧ Below w.heap.size w w' := e ▸ h
def tabCmp (t : List (BinOp × Ex × Ex × Bool)) (op : BinOp) (a b : Ex) : Option Bool := (t.find? fun e => decide (e.1 = op) && decide (e.2.1 = a) && decide (e.2.2.1 = b)).map (·.2.2.2)
def CmpOk (ρ : Env) (e : BinOp × Ex × Ex × Bool) : Prop := cmpOf e.1 (e.2.1.den ρ) (e.2.2.1.den ρ) = some e.2.2.2
def tabLore (c : List (BinOp × Ex × Ex × Bool)) : Lore := ⟨tabCmp c, id, fun _ _ => none⟩
theorem tabLore_ok {ρ : Env} {c : List (BinOp × Ex × Ex × Bool)} (hc : ∀ e ∈ c, CmpOk ρ e) : LoreOk ρ (tabLore c) := by
  refine ⟨fun op a b r hr => ?_, fun _ => rfl, (noLore_ok ρ).factA⟩
  simp only [tabLore, tabCmp] at hr
  rw [Option.map_eq_some_iff] at hr
  obtain ⟨e, h1, rfl⟩ := hr
  have h2 := List.find?_some h1
  simp only [Bool.and_eq_true, decide_eq_true_eq] at h2
  obtain ⟨⟨rfl, rfl⟩, rfl⟩ := h2
  exact hc e (List.mem_of_find?_eq_some h1)
theorem ret_true {P : Program} {ρ : Env} {g : Nat} {args : Array Value} {w : World} {H : List Blk} (h : Calls P g args w fun e w' => ∃ ms u, e = .returned u ∧ (AV.tv (.sc (.bool true))).inst ρ ms = some u ∧ Holds ρ ms H w.heap.size w' ∧ Below w.heap.size w w') :
    Calls P g args w fun e w' => e = .returned (.bool true) ∧ Below w.heap.size w w' :=
  h.mono fun e w' ⟨ms, u, q1, q2, _, q3⟩ => by
    simp only [AV.inst, TV.inst, SV.inst, Option.some.injEq] at q2
    subst q2
    exact ⟨q1, q3⟩
def conMuls : ConF := fun g xs _ => if g = 57 then (match xs with | [.tv (.sc (.int .u8 (.lit n)))] => if 0 ≤ n ∧ n < 256 then some (.tv (.agg (litB (mulsL n.toNat)))) else none | _ => none) else none
theorem conMuls_ok (ρ : Env) : ConOk Try.prog ρ conMuls := by
  intro g xs H v hv ms B w args ha hH
  unfold conMuls at hv
  split at hv
  case isFalse => cases hv
  rename_i hg
  subst hg
  split at hv
  case h_2 => cases hv
  rename_i n
  split at hv
  case isFalse => cases hv
  rename_i hn
  cases hv
  obtain ⟨m, rfl⟩ := Int.eq_ofNat_of_zero_le hn.1
  have e : args = #[.int .u8 (m : Int)] := by
    obtain ⟨l⟩ := args
    have hl : l.length = 1 := by have := congrArg List.length ha; simpa using this.symm
    match l, hl, ha with
    | [u], _, ha =>
      simp only [List.map_cons, List.map_nil, List.cons.injEq, and_true, AV.inst, TV.inst, SV.inst, Ex.den, Option.some.injEq] at ha
      rw [ha]
  subst e
  refine (multiples_any w m (by omega)).mono fun e w' ⟨q1, q2⟩ => ⟨_, q1, ?_, q2⟩
  simp only [AV.inst, litB_inst]
  rfl
def conGf : ConF := conOr conPowers (conOr conExps conMuls)
theorem conGf_ok (ρ : Env) : ConOk Try.prog ρ conGf := conOr_ok (conPowers_ok ρ) (conOr_ok (conExps_ok ρ) (conMuls_ok ρ))
theorem map_fst {v : AV} {r : Option (AV × List Blk)} (h : r.map (·.1) = some v) : ∃ H, r = some (v, H) := by
  cases r with
  | none => simp at h
  | some p => obtain ⟨a, H⟩ := p; simp at h; subst h; exact ⟨H, rfl⟩
end Go.Proofs.Ytbiplflejijbeaa
namespace Go.Proofs.Ytbiplflejijbeaa.Ev
open Go Go.RowKit
theorem cells_of_cell {w : World} {b j : Nat} {v : Value} (h : (w.cell? ⟨b, j, none⟩) = some v) {o : Obj} (ho : w.heap[b]? = some o) : o.isCells = true := by
  unfold World.cell? at h
  rw [ho] at h
  cases o <;> simp_all [Obj.isCells]
theorem Holds.put {ρ : Env} {ms : List Nat} {H : List Blk} {B : Nat} {w : World} (h : Holds ρ ms H B w) {l : Nat} {o : Obj} (ho : w.heap[l]? = some o) (hc : o.isCells = false) (o' : Obj) : Holds ρ ms H B (w.putObj l o') where
  len := h.len
  gl := h.gl
  inj := h.inj
  low := h.low
  bnd := fun i b k hi hk hne => by simpa using h.bnd i b k hi hk hne
  big := by simpa using h.big
  plain := h.plain
  cell := fun i b k hi hk j s hs => by
    obtain ⟨v, h1, h2, h3⟩ := h.cell i b k hi hk j s hs
    have hbl : b ≠ l := fun e => by
      subst e
      have := cells_of_cell h2 ho
      rw [this] at hc; cases hc
    refine ⟨v, h1, ?_, fun hr => ?_⟩
    · rw [← h2]; unfold World.cell?; rw [World.putObj_heap_other hbl]
    · rw [← h3 hr]; unfold World.frozen?; rw [World.putObj_heap_other hbl]
  room := fun i b c k0 k hi hc' hk0 hr0 hn0 hk hcap j hj => by
    obtain ⟨e1, e2⟩ := h.room i b c k0 k hi hc' hk0 hr0 hn0 hk hcap j hj
    have hbl : b ≠ l := fun e => by
      subst e
      cases hx : w.cell? ⟨b, j, none⟩ with
      | none => rw [hx] at e1; simp at e1
      | some x =>
        have := cells_of_cell hx ho
        rw [this] at hc; cases hc
    refine ⟨?_, ?_⟩
    · rw [← e1]; unfold World.cell?; rw [World.putObj_heap_other hbl]
    · rw [← e2]; unfold World.frozen?; rw [World.putObj_heap_other hbl]
structure BelX (l B : Nat) (w w' : World) : Prop extends Below B w w' where
  kept : ∀ (i : Nat) (o : Obj), i ≠ l → w.heap[i]? = some o → o.isCells = false → w'.heap[i]? = some o
theorem BelX.refl (l B : Nat) (w : World) : BelX l B w w := ⟨Below.refl B w, fun _ _ _ h _ => h⟩
theorem BelX.trans {l B : Nat} {a b c : World} (h : BelX l B a b) (k : BelX l B b c) : BelX l B a c := ⟨h.toBelow.trans k.toBelow, fun i o hl hi hc => k.kept i o hl (h.kept i o hl hi hc) hc⟩
theorem Bel.x {l B : Nat} {w w' : World} (h : Bel B w w') : BelX l B w w' := ⟨h.toBelow, fun i o _ hi hc => h.kept i o hi hc⟩
theorem BelX.put {l B : Nat} (hl : B ≤ l) (w : World) (o : Obj) : BelX l B w (w.putObj l o) :=
  ⟨⟨rfl, rfl, rfl, by simp, fun k hk => World.putObj_heap_other (by omega)⟩, fun i o' hi h _ => (World.putObj_heap_other hi).trans h⟩
def Out.code : Out → Code
  | .normal => .skip
  | .exit i => .exit i
  | .ret => .ret
def pendOf : Out → Option Out
  | .normal => none
  | o => some o
def isN : Out → Bool
  | .normal => true
  | _ => false
def RecP (mkL : LoopState → Option Code → Loop) (l : Nat) (p : Option Out) (w : World) : Prop := w.heap[l]? = some (.loop (match p with | none => mkL .ready none | some o => mkL .done (some o.code)))
theorem RecP.bel {mkL : LoopState → Option Code → Loop} {l : Nat} {p : Option Out} {B : Nat} {w w' : World} (h : RecP mkL l p w) (hb : Bel B w w') : RecP mkL l p w' := hb.kept l _ h rfl
abbrev YF := List AV → List Blk → Option (Out × List Blk)
def yv (l : Nat) : Value := .func (.yield l) #[] #[]
def YOk (P : Program) (ρ : Env) (m0 : List Nat) (l B : Nat) (mkL : LoopState → Option Code → Loop) (yh : YF) : Prop :=
  ∀ aas H o H', yh aas H = some (o, H') → ∀ (n : Nat) (ms : List Nat) (w : World) (args : Array Value), m0 <+: ms → aas.map (AV.inst ρ ms) = args.toList.map some → Holds ρ ms H B w → RecP mkL l none w → ∀ (R : Ending → World → Prop),
    (∀ ms' w', ms <+: ms' → Holds ρ ms' H' B w' → RecP mkL l (pendOf o) w' → BelX l B w w' → R (.returned (.bool (isN o))) w') → YieldAt Fence.wide n P l args w R
def setL : List (Nat × AV) → Tm → Tm
  | [], t => t
  | p :: r, t => setL r (t.set p.1 p.2)
theorem relT_zip {ρ : Env} {ms : List Nat} : ∀ (ps : List Nat) (aas : List AV) (args : List Value) (t : Tm) (tmps : Array Value), aas.map (AV.inst ρ ms) = args.map some → RelT ρ ms t tmps →
    RelT ρ ms (setL (ps.zip aas) t) ((ps.zip args).foldl (fun (tm : Array Value) (p : Nat × Value) => tm.setIfInBounds p.1 p.2) tmps)
  | [], _, _, _, _, _, h => by simpa [setL] using h
  | p :: ps, [], [], t, tmps, _, h => by simpa [setL] using h
  | p :: ps, [], _ :: _, _, _, e, _ => by simp at e
  | p :: ps, _ :: _, [], _, _, e, _ => by simp at e
  | p :: ps, x :: aas, v :: args, t, tmps, e, h => by
    simp only [List.map_cons, List.cons.injEq] at e
    simp only [List.zip_cons_cons, setL, List.foldl_cons]
    exact relT_zip ps aas args _ _ e.2 (RelT.put (a := { tmps := tmps, defers := [] }) h p e.1)
def yhOf (self : CodeF) (ps : Array Tmp) (assign body : Code) (t0 : Tm) : YF := fun aas H =>
  match Nat.beq aas.length ps.size with
  | true =>
    match self assign (setL (ps.toList.zip aas) t0) H with
    | some (.normal, t2, H2) =>
      match self body t2 H2 with
      | some (o, _, H3) => some (o, H3)
      | none => none
    | _ => none
  | false => none
theorem yh_ok {P : Program} {ρ : Env} {self : CodeF} (hs : CodeOkG P ρ self) {fnn : FuncId} {tmps0 : Array Value} {ps : Array Tmp} {assign body : Code} {dd l B : Nat} (ha : calm assign = true) (hb : calm body = true) {m0 : List Nat} {t0 : Tm} (hT0 : RelT ρ m0 t0 tmps0) (hBl : B ≤ l) :
    YOk P ρ m0 l B (fun st pe => { state := st, pending := pe, fn := fnn, tmps := tmps0, params := ps, assign, body, defers := dd }) (yhOf self ps assign body t0) := by
  intro aas H o H' h n ms w args hms hargs hH hR R hK
  unfold yhOf at h
  split at h
  case h_2 => cases h
  rename_i hlen
  split at h
  case h_2 => cases h
  rename_i t2 H2 h1
  split at h
  case h_2 => cases h
  rename_i o' t3 H3 h2
  simp only [Option.some.injEq, Prod.mk.injEq] at h
  obtain ⟨rfl, rfl⟩ := h
  have hsz : args.size = ps.size := by
    have e1 := congrArg List.length hargs
    have e2 := Nat.eq_of_beq_eq_true hlen
    simp at e1
    omega
  unfold RecP at hR
  simp only at hR
  refine ⟨fnn, _, assign, body, run_yield (P := P) hR hsz, roundIn_of_wpIn (F := Fence.wide) trivial ?_⟩
  have hRel : RelT ρ ms (setL (ps.toList.zip aas) t0) ((ps.zip args).foldl (fun (tm : Array Value) (p : Nat × Value) => tm.setIfInBounds p.1 p.2) tmps0) := by
    have := relT_zip ps.toList aas args.toList t0 tmps0 hargs (hT0.mono hms)
    rw [← Array.foldl_toList, Array.toList_zip]
    exact this
  refine hs assign _ H .normal t2 H2 h1 (some l) (.inr ha) n ms B _ w _ hRel hH fun ms1 a1 w1 q1 q2 q3 q4 q5 => ?_
  have hR1 := q5.kept l _ hR rfl
  refine ⟨_, run_beginRound hR1 rfl, ?_⟩
  have hR2 := World.putObj_heap_same (o := Obj.loop { state := .busy, pending := none, fn := fnn, tmps := tmps0, params := ps, assign := assign, body := body, defers := dd }) (Array.getElem?_eq_some_iff.1 hR1).1
  refine hs body t2 H2 o' t3 H3 h2 (some l) (.inr hb) n ms1 B a1 _ _ q2 (q4.put hR1 rfl _) fun ms3 a3 w3 r1 r2 r3 r4 r5 => ?_
  have hR3 := r5.kept l _ hR2 rfl
  have hlt := (Array.getElem?_eq_some_iff.1 hR3).1
  have hB : ∀ o4, BelX l B w (w3.putObj l o4) := fun o4 => ((q5.x.trans (BelX.put hBl _ _)).trans r5.x).trans (BelX.put hBl _ _)
  cases o' with
  | normal => exact ⟨_, _, run_endRound (P := P) none hR3, hK ms3 _ (q1.trans r1) (r4.put hR3 rfl _) (World.putObj_heap_same hlt) (hB _)⟩
  | exit i => exact ⟨_, _, run_endRound (P := P) (some (.exit i)) hR3, hK ms3 _ (q1.trans r1) (r4.put hR3 rfl _) (World.putObj_heap_same hlt) (hB _)⟩
  | ret => exact ⟨_, _, run_endRound (P := P) (some .ret) hR3, hK ms3 _ (q1.trans r1) (r4.put hR3 rfl _) (World.putObj_heap_same hlt) (hB _)⟩
def yCall (Y : List Nat) (o : Oper) : Option (List Operand) :=
  match o.guard with
  | none =>
    match o.op with
    | .call c =>
      match c.callee with
      | .value (.tmp y) => if Y.contains y then some c.args.toList else none
      | _ => none
    | _ => none
  | some _ => none
def yMove (Y : List Nat) (t : Tm) (o : Oper) : Option Nat :=
  match o.guard with
  | none =>
    match o.op with
    | .move (.tmp y) =>
      match o.dst with
      | some d => if Y.contains y && (t.get d).isNone && Nat.blt d t.n then some d else none
      | none => none
    | _ => none
  | some _ => none
noncomputable def evIOps (yh : YF) (call : CallF) (P : Program) (L : Lore) (ops : Array Oper) : List Oper → List Nat → Tm → Option Out → List Blk → Option (Tm × Option Out × List Blk)
  | [], _, t, p, H => some (t, p, H)
  | o :: r, Y, t, p, H =>
    match yCall Y o with
    | some xs =>
      match p with
      | none =>
        match seqO (xs.map (evGet t)) with
        | some aas =>
          match dstFree Y o with
          | true =>
            match yh aas H with
            | some (out, H') => evIOps yh call P L ops r Y (putA t o.dst (.tv (.sc (.bool (isN out))))) (pendOf out) H'
            | none => none
          | false => none
        | none => none
      | some _ => none
    | none =>
      match yMove Y t o with
      | some d => evIOps yh call P L ops r (d :: Y) t p H
      | none =>
        match calmO o && dstFree Y o with
        | true =>
          match opsF call P L ops [o] t H with
          | some (t', H') => evIOps yh call P L ops r Y t' p H'
          | none => none
        | false => none
theorem wanted_none {o : Oper} (h : o.guard = none) (ops : Array Oper) (tm : Array Value) : Region.wanted o (yielded ops tm) = true := by
  unfold Region.wanted
  rw [h]
theorem evIOps_ok {P : Program} {ρ : Env} {L : Lore} (hL : LoreOk ρ L) {call : CallF} (hc : CallOk P ρ call) {m0 : List Nat} {l B : Nat} {mkL : LoopState → Option Code → Loop} {yh : YF} (hy : YOk P ρ m0 l B mkL yh) {ops : Array Oper} {n : Nat} {Q : Exit → Act → World → Prop} :
    ∀ (lst : List Oper) (Y : List Nat) (t : Tm) (p : Option Out) (H : List Blk) (t' : Tm) (p' : Option Out) (H' : List Blk), evIOps yh call P L ops lst Y t p H = some (t', p', H') →
    ∀ (ms : List Nat) (a : Act) (w : World), m0 <+: ms → RelT ρ ms t a.tmps → Ys Y (yv l) a.tmps → 0 ∈ Y → Holds ρ ms H B w → RecP mkL l p w →
    (∀ ms' a' w', ms <+: ms' → RelT ρ ms' t' a'.tmps → a'.tmps[0]? = some (yv l) → a'.defers = a.defers → Holds ρ ms' H' B w' → RecP mkL l p' w' → BelX l B w w' → Q .normal a' w') → wpListIn Fence.wide n P ops Q lst a w
  | [], Y, t, p, H, t', p', H', h, ms, a, w, hms, hT, hY, h0, hH, hR, hQ => by
    simp only [evIOps, Option.some.injEq, Prod.mk.injEq] at h
    obtain ⟨rfl, rfl, rfl⟩ := h
    exact hQ ms a w (List.prefix_refl _) hT (hY 0 h0) rfl hH hR (BelX.refl _ _ _)
  | o :: r, Y, t, p, H, t', p', H', h, ms, a, w, hms, hT, hY, h0, hH, hR, hQ => by
    simp only [evIOps] at h
    unfold wpListIn
    split at h
    · -- the yield
      rename_i xs hx
      unfold yCall at hx
      split at hx
      case h_2 => cases hx
      rename_i hg
      split at hx
      case h_2 => cases hx
      rename_i c hop
      split at hx
      case h_2 => cases hx
      rename_i y hcal
      split at hx
      case isFalse => cases hx
      rename_i hyY
      simp only [Option.some.injEq] at hx
      subst hx
      split at h
      case h_2 => cases h
      split at h
      case h_2 => cases h
      rename_i aas has
      split at h
      case h_2 => cases h
      rename_i hdf
      split at h
      case h_2 => cases h
      rename_i out H1 hyh
      rw [wanted_none hg, if_pos rfl]
      have hyv : a.eval (.tmp y) = yv l := by
        have := hY y (by simpa using hyY)
        simp [Act.eval, Array.getD_eq_getD_getElem?, this]
      have hargs : aas.map (AV.inst ρ ms) = (c.args.map a.eval).toList.map some := by
        rw [seqO_iff] at has
        have key : ∀ (xs : List Operand) (aas : List AV), xs.map (evGet t) = aas.map some → aas.map (AV.inst ρ ms) = (xs.map a.eval).map some := by
          intro xs
          induction xs with
          | nil => intro aas h; cases aas <;> simp at h ⊢
          | cons x xs ih =>
            intro aas h
            cases aas with
            | nil => simp at h
            | cons p aas =>
              simp only [List.map_cons, List.cons.injEq] at h ⊢
              exact ⟨evGet_ok hT h.1, ih aas h.2⟩
        have := key _ _ has
        rw [this]; simp
      obtain ⟨fnn, tm, as1, bd, hrun, hround⟩ := hy aas H out H1 hyh (n - 1) ms w (c.args.map a.eval) hms hargs hH hR (fun e w'' => match e with
        | .returned v => wpListIn Fence.wide n P ops Q r (a.put o.dst v) w''
        | .panicked chain => Q (.panic chain) a w''
        | .outgrown => LetsOut Q) (by
          intro ms1 w1 q1 q2 q3 q4
          have hT1 := (hT.mono q1).putA o.dst (x := .tv (.sc (.bool (isN out)))) (v := .bool (isN out)) rfl
          refine evIOps_ok hL hc hy r Y _ _ H1 t' p' H' h ms1 _ w1 (hms.trans q1) hT1 (hY.put hdf _) h0 q2 q3 fun ms2 a2 w2 r1 r2 r3 r4 r5 r6 r7 => ?_
          exact hQ ms2 a2 w2 (q1.trans r1) r2 r3 (r4.trans (put_defers _ _ _)) r5 r6 (q4.trans r7))
      refine ⟨fun f _ => trivial, ?_⟩
      rw [Oper.semAt_eq _ _ _ (fun c' e => by rw [hop] at e; cases e)]
      have hex : (execOp a.eval o).run P w = .ok (.round l fnn tm as1 bd) w := by
        simp only [execOp, hop, resolve, hcal, hyv, yv, Deferred.ofValue, Sem.run_bind, Sem.run_pure, Result.andThen_ok, invoke]
        simpa using hrun
      rw [hex]
      exact ⟨(fun e => by cases e), hround.mono fun e w1 he => by cases e <;> exact he⟩
    · split at h
      · -- the yield moved
        rename_i d hx
        unfold yMove at hx
        split at hx
        case h_2 => cases hx
        rename_i hg
        split at hx
        case h_2 => cases hx
        rename_i y hop
        split at hx
        case h_2 => cases hx
        rename_i d' hdst
        split at hx
        case isFalse => cases hx
        rename_i hcond
        simp only [Option.some.injEq] at hx
        subst hx
        simp only [Bool.and_eq_true] at hcond
        obtain ⟨⟨hyY, hnone⟩, hlt⟩ := hcond
        rw [wanted_none hg, if_pos rfl]
        have hyv : a.eval (.tmp y) = yv l := by
          have := hY y (by simpa using hyY)
          simp [Act.eval, Array.getD_eq_getD_getElem?, this]
        refine ⟨fun f _ => trivial, ?_⟩
        rw [Oper.semAt_eq _ _ _ (fun c' e => by rw [hop] at e; cases e)]
        have hex : (execOp a.eval o).run P w = .ok (.value (yv l)) w := by
          simp only [execOp, hop, hyv, Sem.run_pure]
        rw [hex]
        show wpListIn Fence.wide n P ops Q r (a.put o.dst (yv l)) w
        rw [hdst]
        have hdlt : d' < a.tmps.size := by rw [← hT.sz]; exact Nat.le_of_ble_eq_true hlt
        refine evIOps_ok hL hc hy r (d' :: Y) t p H t' p' H' h ms _ w hms ⟨?_, hT.le, fun i x hi => ?_, hT.gl⟩ ?_ (List.mem_cons_of_mem _ h0) hH hR fun ms2 a2 w2 r1 r2 r3 r4 r5 r6 r7 => hQ ms2 a2 w2 r1 r2 r3 r4 r5 r6 r7
        · simp [Act.put, hT.sz]
        · obtain ⟨v, h1, h2⟩ := hT.val i x hi
          refine ⟨v, ?_, h2⟩
          simp only [Act.put]
          rw [Array.getElem?_setIfInBounds, if_neg (fun e => by subst e; rw [hi] at hnone; cases hnone)]
          exact h1
        · intro z hz
          simp only [Act.put]
          rw [Array.getElem?_setIfInBounds]
          rcases List.mem_cons.1 hz with rfl | hz
          · rw [if_pos rfl, if_pos hdlt]
          · by_cases e : d' = z
            · rw [if_pos e, if_pos hdlt]
            · rw [if_neg e]; exact hY z hz
      · split at h
        case h_2 => cases h
        rename_i hcd
        rw [Bool.and_eq_true] at hcd
        split at h
        case h_2 => cases h
        rename_i t1 H1 h1
        rw [opsF_eq] at h1
        have key : wpList P ops (fun e a' w' => e = .normal ∧ ∃ ms', ms <+: ms' ∧ RelT ρ ms' t1 a'.tmps ∧ a'.defers = a.defers ∧ Holds ρ ms' H1 B w' ∧ Bel B w w') [o] a w :=
          evOps_ok hL hc [o] ms t H a w t1 H1 hT hH h1 fun ms' a' w' q1 q2 q3 q4 q5 => ⟨rfl, ms', q1, q2, q3, q4, q5⟩
        have go : ∀ a' w', (∃ ms', ms <+: ms' ∧ RelT ρ ms' t1 a'.tmps ∧ a'.defers = a.defers ∧ Holds ρ ms' H1 B w' ∧ Bel B w w') → (∃ v, a'.tmps = (a.put o.dst v).tmps) → wpListIn Fence.wide n P ops Q r a' w' := by
          rintro a' w' ⟨ms', q1, q2, q3, q4, q5⟩ ⟨v, hv⟩
          refine evIOps_ok hL hc hy r Y t1 p H1 t' p' H' h ms' a' w' (hms.trans q1) q2 (by rw [hv]; exact hY.put hcd.2 v) h0 q4 (hR.bel q5) fun ms2 a2 w2 r1 r2 r3 r4 r5 r6 r7 => ?_
          exact hQ ms2 a2 w2 (q1.trans r1) r2 r3 (r4.trans q3) r5 r6 (q5.x.trans r7)
        unfold wpList at key
        split at key
        · rename_i hw
          rw [if_pos hw]
          rcases key with key | ⟨_, a0, w0, q⟩
          · exact op_in (ro := none) key hcd.1 (fun e a w q => q.1) fun a' w' hk hv => go a' w' hk.2 hv
          · cases q.1
        · rename_i hw
          rw [if_neg hw]
          exact ⟨fun _ _ => trivial, go _ _ key.2 ⟨undef, rfl⟩⟩
noncomputable def evI (yh : YF) (call : CallF) (P : Program) (L : Lore) : Nat → Code → Tm → Option Out → List Blk → Option (Out × Tm × Option Out × List Blk)
  | 0, _, _, _, _ => none
  | n + 1, c, t, p, H =>
    match c with
    | .skip => some (.normal, t, p, H)
    | .region _ ops false => (evIOps yh call P L ops ops.toList [0] t p H).map fun r => (.normal, r.1, r.2.1, r.2.2)
    | .region _ ops true =>
      match ops.all fun o => calmO o && dstFree [0] o with
      | true => (evPlanF call P L ops t H).map fun r => (.normal, r.1, p, r.2)
      | false => none
    | .seq x y =>
      match evI yh call P L n x t p H with
      | some (.normal, t', p', H') => evI yh call P L n y t' p' H'
      | r => r
    | .cond c x y =>
      match evGet t c with
      | some (.tv (.sc (.bool true))) => evI yh call P L n x t p H
      | some (.tv (.sc (.bool false))) => evI yh call P L n y t p H
      | _ => none
    | .block id c =>
      match evI yh call P L n c t p H with
      | some (.exit i, t', p', H') => if i = id then some (.normal, t', p', H') else some (.exit i, t', p', H')
      | r => r
    | .loop c =>
      match evI yh call P L n c t p H with
      | some (.normal, t', p', H') => evI yh call P L n (.loop c) t' p' H'
      | r => r
    | .exit id => some (.exit id, t, p, H)
    | .ret => some (.ret, t, p, H)
    | .label _ => some (.normal, t, p, H)
    | _ => none
theorem evI_ok {P : Program} {ρ : Env} {L : Lore} (hL : LoreOk ρ L) (hm : P.follows .mixedOrders = true) {call : CallF} (hc : CallOk P ρ call) {m0 : List Nat} {l B : Nat} {mkL : LoopState → Option Code → Loop} {yh : YF} (hy : YOk P ρ m0 l B mkL yh) (nn : Nat) :
    ∀ (n : Nat) (c : Code) (t : Tm) (p : Option Out) (H : List Blk) (o : Out) (t' : Tm) (p' : Option Out) (H' : List Blk), evI yh call P L n c t p H = some (o, t', p', H') →
    ∀ (ms : List Nat) (a : Act) (w : World) (Q : Exit → Act → World → Prop), m0 <+: ms → RelT ρ ms t a.tmps → a.tmps[0]? = some (yv l) → Holds ρ ms H B w → RecP mkL l p w →
    (∀ ms' a' w', ms <+: ms' → RelT ρ ms' t' a'.tmps → a'.tmps[0]? = some (yv l) → a'.defers = a.defers → Holds ρ ms' H' B w' → RecP mkL l p' w' → BelX l B w w' → Q o.to a' w') → c.wpIn Fence.wide nn P Q a w := by
  intro n
  induction n using Nat.strongRecOn with
  | _ n ih =>
    cases n with
    | zero => intro c t p H o t' p' H' h; simp [evI] at h
    | succ n =>
      have ihn := ih n (by omega)
      intro c t p H o t' p' H' h ms a w Q hms hT h0 hH hR hQ
      have hstart := h
      unfold evI at h
      split at h
      · simp only [Option.some.injEq, Prod.mk.injEq] at h
        obtain ⟨rfl, rfl, rfl, rfl⟩ := h
        exact wpIn_skip (hQ ms a w (List.prefix_refl _) hT h0 rfl hH hR (BelX.refl _ _ _))
      · rw [Option.map_eq_some_iff] at h
        obtain ⟨r, h1, h2⟩ := h
        simp only [Prod.mk.injEq] at h2
        obtain ⟨rfl, rfl, rfl, rfl⟩ := h2
        exact wpIn_region_list (evIOps_ok hL hc hy _ [0] t p H r.1 r.2.1 r.2.2 h1 ms a w hms hT (fun y hy => by simp at hy; subst hy; exact h0) (by simp) hH hR hQ)
      · rename_i id ops
        split at h
        case h_2 => cases h
        rename_i hcm
        rw [Option.map_eq_some_iff] at h
        obtain ⟨r, h1, h2⟩ := h
        simp only [Prod.mk.injEq] at h2
        obtain ⟨rfl, rfl, rfl, rfl⟩ := h2
        rw [evPlanF_eq] at h1
        have key := evPlan_any (Q := fun e a' w' => ∃ ms', ms <+: ms' ∧ RelT ρ ms' r.1 a'.tmps ∧ a'.defers = a.defers ∧ Holds ρ ms' r.2 B w' ∧ Bel B w w') hL hc hT hH h1 fun ms' a' w' q1 q2 q3 q4 q5 => ⟨ms', q1, q2, q3, q4, q5⟩
        refine wpIn_mono (wpIn_region_any hm (any_in (ro := none) (Y := [0]) (yv := yv l) (fun e a w q => q.1) hcm _ _ a _ key (fun y hy => by simp at hy; subst hy; exact h0))) fun e a1 w1 q => ?_
        obtain ⟨⟨rfl, ms', q1, q2, q3, q4, q5⟩, q6⟩ := q
        exact hQ ms' a1 w1 q1 q2 (q6 0 (by simp)) q3 q4 (hR.bel q5) q5.x
      · rename_i x y
        split at h
        · rename_i t1 p1 H1 h1
          refine wpIn_seq (ihn x t p H .normal t1 p1 H1 h1 ms a w _ hms hT h0 hH hR fun ms1 a1 w1 q1 q2 q3 q4 q5 q6 q7 => ?_)
          exact ihn y t1 p1 H1 o t' p' H' h ms1 a1 w1 Q (hms.trans q1) q2 q3 q5 q6 fun ms2 a2 w2 r1 r2 r3 r4 r5 r6 r7 => hQ ms2 a2 w2 (q1.trans r1) r2 r3 (r4.trans q4) r5 r6 (q7.trans r7)
        · rename_i hne
          have hno : o ≠ .normal := fun e => by subst e; exact hne t' p' H' h
          refine wpIn_seq (ihn x t p H o t' p' H' h ms a w _ hms hT h0 hH hR fun ms1 a1 w1 q1 q2 q3 q4 q5 q6 q7 => ?_)
          have := hQ ms1 a1 w1 q1 q2 q3 q4 q5 q6 q7
          cases o with
          | normal => exact absurd rfl hno
          | exit i => exact this
          | ret => exact this
      · rename_i cc x y
        split at h
        · rename_i hcc
          have e := evGet_ok hT hcc
          simp only [AV.inst, TV.inst, SV.inst, Option.some.injEq] at e
          exact wpIn_cond_true e.symm (ihn x t p H o t' p' H' h ms a w Q hms hT h0 hH hR hQ)
        · rename_i hcc
          have e := evGet_ok hT hcc
          simp only [AV.inst, TV.inst, SV.inst, Option.some.injEq] at e
          exact wpIn_cond_false e.symm (ihn y t p H o t' p' H' h ms a w Q hms hT h0 hH hR hQ)
        · cases h
      · rename_i id x
        split at h
        · rename_i i t1 p1 H1 h1
          refine wpIn_block (ihn x t p H (.exit i) t1 p1 H1 h1 ms a w _ hms hT h0 hH hR fun ms1 a1 w1 q1 q2 q3 q4 q5 q6 q7 => ?_)
          simp only [Out.to, Exit.inBlock]
          split at h
          · rename_i e
            rw [if_pos e]
            simp only [Option.some.injEq, Prod.mk.injEq] at h
            obtain ⟨rfl, rfl, rfl, rfl⟩ := h
            exact hQ ms1 a1 w1 q1 q2 q3 q4 q5 q6 q7
          · rename_i e
            rw [if_neg e]
            simp only [Option.some.injEq, Prod.mk.injEq] at h
            obtain ⟨rfl, rfl, rfl, rfl⟩ := h
            exact hQ ms1 a1 w1 q1 q2 q3 q4 q5 q6 q7
        · rename_i hne
          refine wpIn_block (ihn x t p H o t' p' H' h ms a w _ hms hT h0 hH hR fun ms1 a1 w1 q1 q2 q3 q4 q5 q6 q7 => ?_)
          have := hQ ms1 a1 w1 q1 q2 q3 q4 q5 q6 q7
          cases o with
          | normal => exact this
          | exit i => exact absurd h (hne i t' p' H')
          | ret => exact this
      · rename_i x
        let R : Nat → Act → World → Prop := fun k a1 w1 => k ≤ n + 1 ∧ ∃ ms1 t1 p1 H1, evI yh call P L k (.loop x) t1 p1 H1 = some (o, t', p', H') ∧ ms <+: ms1 ∧ RelT ρ ms1 t1 a1.tmps ∧ a1.tmps[0]? = some (yv l) ∧ a1.defers = a.defers ∧ Holds ρ ms1 H1 B w1 ∧ RecP mkL l p1 w1 ∧ BelX l B w w1
        classical
        refine wpIn_loop (fun a1 w1 => ∃ k, R k a1 w1) (fun a1 w1 => if hx : ∃ k, R k a1 w1 then Classical.choose (has_least hx) else 0) ⟨n + 1, Nat.le_refl _, ms, t, p, H, hstart, List.prefix_refl _, hT, h0, rfl, hH, hR, BelX.refl _ _ _⟩ ?_
        intro a1 w1 hI
        have hmin := (Classical.choose_spec (has_least hI)).1
        have hall := (Classical.choose_spec (has_least hI)).2
        generalize hk : Classical.choose (has_least hI) = k at hmin hall
        obtain ⟨hle, ms1, t1, p1, H1, hev, s1, s2, s3, s4, s5, s6, s7⟩ := hmin
        cases k with
        | zero => simp [evI] at hev
        | succ k =>
          have ihk := ih k (by omega)
          simp only [evI] at hev
          split at hev
          · rename_i t2 p2 H2 h2
            refine ihk x t1 p1 H1 .normal t2 p2 H2 h2 ms1 a1 w1 _ (hms.trans s1) s2 s3 s5 s6 fun ms2 a2 w2 q1 q2 q3 q4 q5 q6 q7 => ?_
            have hRk : R k a2 w2 := ⟨by omega, ms2, t2, p2, H2, hev, s1.trans q1, q2, q3, q4.trans s4, q5, q6, s7.trans q7⟩
            have hE : ∃ j, R j a2 w2 := ⟨k, hRk⟩
            refine ⟨hE, ?_⟩
            rw [dif_pos hE, dif_pos hI, hk]
            exact Nat.lt_succ_of_le ((Classical.choose_spec (has_least hE)).2 k hRk)
          · rename_i hne
            refine ihk x t1 p1 H1 o t' p' H' hev ms1 a1 w1 _ (hms.trans s1) s2 s3 s5 s6 fun ms2 a2 w2 q1 q2 q3 q4 q5 q6 q7 => ?_
            have := hQ ms2 a2 w2 (s1.trans q1) q2 q3 (q4.trans s4) q5 q6 (s7.trans q7)
            cases o with
            | normal => exact absurd hev (hne t' p' H')
            | exit i => exact this
            | ret => exact this
      · simp only [Option.some.injEq, Prod.mk.injEq] at h
        obtain ⟨rfl, rfl, rfl, rfl⟩ := h
        exact wpIn_exit (hQ ms a w (List.prefix_refl _) hT h0 rfl hH hR (BelX.refl _ _ _))
      · simp only [Option.some.injEq, Prod.mk.injEq] at h
        obtain ⟨rfl, rfl, rfl, rfl⟩ := h
        exact wpIn_ret (hQ ms a w (List.prefix_refl _) hT h0 rfl hH hR (BelX.refl _ _ _))
      · simp only [Option.some.injEq, Prod.mk.injEq] at h
        obtain ⟨rfl, rfl, rfl, rfl⟩ := h
        exact wpIn_label (hQ ms a w (List.prefix_refl _) hT h0 rfl hH hR (BelX.refl _ _ _))
      · cases h
def markD (d : Nat) : Deferred := { target := .collected d, args := #[] }
def Out.ends : Out → Bool
  | .exit _ => false
  | _ => true
noncomputable def evRg (P : Program) (L : Lore) (call : CallF) (self : CodeF) (n : Nat) (g : Operand) (ps : Array Tmp) (assign body : Code) (t : Tm) (H : List Blk) : Option (Out × Tm × List Blk) :=
  match evGet t g with
  | some (.tv (.sc (.clo gi caps))) =>
    match canCall P gi && (calm assign && calm body) with
    | true =>
      match P.funcs[gi]? with
      | some fn =>
        match fn.body with
        | some c =>
          match Nat.ble fn.ntmps 512 && Nat.ble (caps.length + 1) fn.ntmps with
          | true =>
            match evI (yhOf self ps assign body t) call P L n c (Tm.fill 1 (ptrs caps) ⟨fn.ntmps, .emp⟩) none H with
            | some (o, t1, p1, H1) =>
              match o.ends with
              | true =>
                match evResults P fn t1 H1 with
                | some _ => some (match p1 with | none => .normal | some out => out, t, H1)
                | none => none
              | false => none
            | none => none
          | false => none
        | none => none
      | none => none
    | false => none
  | _ => none
theorem relT_iter {ρ : Env} {ms : List Nat} {caps : List (Nat × Nat)} {cvs : List Value} (e2 : caps.map (addr ms) = cvs.map some) {n : Nat} (hn : n ≤ 512) (hx : caps.length + 1 ≤ n) (hg : Gl ms) (y : Value) :
    RelT ρ ms (Tm.fill 1 (ptrs caps) ⟨n, .emp⟩) ((#[y] ++ cvs.toArray) ++ Array.replicate (n - (#[y] ++ cvs.toArray).size) undef) := by
  have hl : caps.length = cvs.length := by have := congrArg List.length e2; simpa using this
  refine ⟨by rw [Tm.fill_n]; simp; omega, by rw [Tm.fill_n]; exact hn, fun j x hj => ?_, hg⟩
  rcases Tm.get_fill (ptrs caps) 1 ⟨n, .emp⟩ hn j x hj with ⟨h1, h2⟩ | h1
  · unfold ptrs at h2
    rw [List.getElem?_map, Option.map_eq_some_iff] at h2
    obtain ⟨p, hp, rfl⟩ := h2
    have h3 := congrArg (fun l => l[j - 1]?) e2
    simp only [List.getElem?_map, hp, Option.map_some] at h3
    obtain ⟨v, hv, hv2⟩ := Option.map_eq_some_iff.1 h3.symm
    have hlt := (List.getElem?_eq_some_iff.1 hv).1
    refine ⟨v, ?_, ?_⟩
    · rw [Array.getElem?_append_left (by simp; omega), Array.getElem?_append_right (by simp; omega)]
      simpa using hv
    · simp only [AV.inst, TV.inst, SV.inst]
      rw [← hv2]
  · unfold Tm.get at h1
    split at h1
    · rw [Tr.law3.emp] at h1; cases h1
    · cases h1
theorem evRg_ok {P : Program} {ρ : Env} {L : Lore} (hL : LoreOk ρ L) (hm : P.follows .mixedOrders = true) {call : CallF} (hc : CallOk P ρ call) {self : CodeF} (hs : CodeOkG P ρ self) {n : Nat} {g : Operand} {ps : Array Tmp} {assign body : Code} {t t' : Tm} {H H' : List Blk} {o : Out}
    (h : evRg P L call self n g ps assign body t H = some (o, t', H')) {ms : List Nat} {B : Nat} {a : Act} {w : World} {Q : Exit → Act → World → Prop} (hT : RelT ρ ms t a.tmps) (hH : Holds ρ ms H B w)
    (hQ : ∀ ms' a' w' d, ms <+: ms' → RelT ρ ms' t' a'.tmps → a'.defers = markD d :: a.defers → w'.heap[d]? = some (.deferred (some [])) → w.heap.size ≤ d → Holds ρ ms' H' B w' → Bel B w w' → Q o.to a' w') : (Code.rangeFunc g ps assign body).wp P Q a w := by
  unfold evRg at h
  split at h
  case h_2 => cases h
  rename_i gi caps hgv
  split at h
  case h_2 => cases h
  rename_i hcan
  simp only [Bool.and_eq_true] at hcan
  obtain ⟨hcan, hca, hcb⟩ := hcan
  split at h
  case h_2 => cases h
  rename_i fn hfn
  split at h
  case h_2 => cases h
  rename_i c hb
  split at h
  case h_2 => cases h
  rename_i hbd
  rw [Bool.and_eq_true] at hbd
  split at h
  case h_2 => cases h
  rename_i o1 t1 p1 H1 hev
  split at h
  case h_2 => cases h
  rename_i hends
  split at h
  case h_2 => cases h
  rename_i v1 hres
  simp only [Option.some.injEq, Prod.mk.injEq] at h
  obtain ⟨rfl, rfl, rfl⟩ := h
  have e0 := evGet_ok hT hgv
  simp only [AV.inst, TV.inst, SV.inst, Option.map_eq_some_iff] at e0
  obtain ⟨cvs, e2, e3⟩ := e0
  rw [seqO_iff] at e2
  unfold canCall at hcan
  rw [hfn] at hcan
  simp only [Bool.and_eq_true, bne_iff_ne, ne_eq] at hcan
  have eg : ∀ args w, (callFunc gi args).run P w = .ok (.enter gi args) w := fun args w => by
    have hn : (fn.name == "runtime.NumGoroutine") = false := by simpa using hcan.1
    simp [callFunc, program, Sem.run, hfn, hn, hb, go_sem]
    exact hcan.1
  refine (wpIn_wide (n := 1)).1 (wpIn_rangeFunc fun fnn hfnn => ?_)
  let R : LoopState → Option Code → Loop := fun st pe => { state := st, pending := pe, fn := fnn, tmps := a.tmps, params := ps, assign, body, defers := w.heap.size }
  obtain ⟨W1, hW1⟩ : ∃ W1, (w.alloc (.deferred (some []))).alloc (.loop (R .ready none)) = W1 := ⟨_, rfl⟩
  have hg1 : Bel w.heap.size w W1 := by
    rw [← hW1]
    exact ((Bel.refl _ w).alloc (Nat.le_refl _) _).alloc (by simp) _
  have hl : RecP R (w.heap.size + 1) none W1 := by
    rw [← hW1]
    have := World.alloc_heap_new (w.alloc (.deferred (some []))) (.loop (R .ready none))
    rwa [World.size_alloc] at this
  have hd : W1.heap[w.heap.size]? = some (.deferred (some [])) := by
    rw [← hW1]
    exact (Below.heap_alloc _ _ _ (by simp)).trans (World.alloc_heap_new w _)
  have hBl : B ≤ w.heap.size + 1 := Nat.le_succ_of_le hH.big
  refine ⟨w.heap.size + 1, [markD w.heap.size], W1, { target := .fn (.func gi) cvs.toArray, args := #[yv (w.heap.size + 1)] }, W1, gi, #[yv (w.heap.size + 1)] ++ cvs.toArray, W1, ?_, ?_, ?_, ?_, fun _ => Nat.le_refl _, ?_⟩
  · rw [← hW1]; exact run_enterLoop_outer _ _ _ _ _
  · simp only [resolve, ← e3]; simp [go_sem, yv]
  · intro f' hf'; trivial
  · simp [invoke, go_sem, eg, yv]
  · refine callsIn_wide.2 (calls_of_wp hfn hb ((wpIn_wide (n := 0)).1 ?_))
    refine evI_ok hL hm hc (yh_ok hs hca hcb hT hBl) 0 n c _ none H o1 t1 p1 H1 hev ms _ W1 _ (List.prefix_refl _) (relT_iter e2 (Nat.le_of_ble_eq_true hbd.1) (Nat.le_of_ble_eq_true hbd.2) hT.gl _) ?_ (hH.below hg1.toBelow) hl fun ms' a' w' q1 q2 q3 q4 q5 q6 q7 => ?_
    · simp [Array.getElem?_append]
    obtain ⟨u, e4, e5⟩ := evResults_ok q2 q5 hres
    have hBel : ∀ o4, Bel B w (w'.putObj (w.heap.size + 1) o4) := fun o4 => by
      have h1 := q7.trans (BelX.put hBl w' o4)
      refine ⟨(hg1.toBelow.mono hH.big).trans h1.toBelow, fun i o hi hcl => h1.kept i o ?_ (hg1.kept i o hi hcl) hcl⟩
      have := (Array.getElem?_eq_some_iff.1 hi).1
      omega
    have hmk : ∀ o4, (w'.putObj (w.heap.size + 1) o4).heap[w.heap.size]? = some (.deferred (some [])) := fun o4 => (World.putObj_heap_other (by omega)).trans (q7.kept _ _ (by omega) hd rfl)
    have fin : rangePost Fence.wide 1 P (w.heap.size + 1) Q { a with defers := [markD w.heap.size] ++ a.defers } (.returned u) w' := by
      unfold RecP at q6
      cases p1 with
      | none =>
        refine ⟨none, _, run_endLoop (P := P) q6 (by simp [R]), ?_⟩
        exact hQ ms' _ _ w.heap.size q1 (hT.mono q1) rfl (hmk _) (Nat.le_refl _) (q5.put q6 rfl _) (hBel _)
      | some out =>
        refine ⟨some out.code, _, run_endLoop (P := P) q6 (by simp [R]), ?_⟩
        have := hQ ms' { a with defers := [markD w.heap.size] ++ a.defers } _ w.heap.size q1 (hT.mono q1) rfl (hmk (.loop { R .done (some out.code) with state := .exhausted })) (Nat.le_refl _) (q5.put q6 rfl _) (hBel _)
        cases out with
        | normal => exact wpIn_skip this
        | exit i => exact wpIn_exit this
        | ret => exact wpIn_ret this
    cases o1 with
    | normal => exact ⟨q4, u, e5, fin⟩
    | exit i => cases hends
    | ret => exact ⟨q4, u, e5, fin⟩
def hasRange : Code → Bool
  | .rangeFunc _ _ _ _ => true
  | .seq a b => hasRange a || hasRange b
  | .cond _ x y => hasRange x || hasRange y
  | .block _ c => hasRange c
  | .loop c => hasRange c
  | _ => false
noncomputable def evR (P : Program) (L : Lore) (call : CallF) (self : CodeF) : Nat → CodeF
  | 0, _, _, _ => none
  | n + 1, c, t, H =>
    match hasRange c with
    | false => self c t H
    | true =>
      match c with
      | .seq x y =>
        match evR P L call self n x t H with
        | some (.normal, t', H') => evR P L call self n y t' H'
        | r => r
      | .cond c x y =>
        match evGet t c with
        | some (.tv (.sc (.bool true))) => evR P L call self n x t H
        | some (.tv (.sc (.bool false))) => evR P L call self n y t H
        | _ => none
      | .block id c =>
        match evR P L call self n c t H with
        | some (.exit i, t', H') => if i = id then some (.normal, t', H') else some (.exit i, t', H')
        | r => r
      | .loop c =>
        match evR P L call self n c t H with
        | some (.normal, t', H') => evR P L call self n (.loop c) t' H'
        | r => r
      | .rangeFunc g ps assign body => evRg P L call self n g ps assign body t H
      | _ => none
structure Marks (b : Nat) (ds : List Nat) (w : World) : Prop where
  nodup : ds.Nodup
  ok : ∀ d ∈ ds, w.heap[d]? = some (.deferred (some [])) ∧ b ≤ d
theorem Marks.nil (b : Nat) (w : World) : Marks b [] w := ⟨List.nodup_nil, fun d hd => by cases hd⟩
theorem Marks.add {b B : Nat} {ds es : List Nat} {w1 w2 : World} (h : Marks b ds w1) (hb : b ≤ w1.heap.size) (hl : Bel B w1 w2) (k : Marks w1.heap.size es w2) : Marks b (es ++ ds) w2 := by
  refine ⟨List.nodup_append.2 ⟨k.nodup, h.nodup, fun x hx y hy e => ?_⟩, fun d hd => ?_⟩
  · subst e
    have h1 := (k.ok x hx).2
    have h2 := (Array.getElem?_eq_some_iff.1 (h.ok x hy).1).1
    omega
  · rcases List.mem_append.1 hd with hd | hd
    · exact ⟨(k.ok d hd).1, Nat.le_trans hb (k.ok d hd).2⟩
    · exact ⟨hl.kept d _ (h.ok d hd).1 rfl, (h.ok d hd).2⟩
theorem evR_ok {P : Program} {ρ : Env} {L : Lore} (hL : LoreOk ρ L) (hm : P.follows .mixedOrders = true) {call : CallF} (hc : CallOk P ρ call) {self : CodeF} (hs : CodeOkG P ρ self) :
    ∀ (n : Nat) (c : Code) (t : Tm) (H : List Blk) (o : Out) (t' : Tm) (H' : List Blk), evR P L call self n c t H = some (o, t', H') →
    ∀ (ms : List Nat) (B : Nat) (a : Act) (w : World) (Q : Exit → Act → World → Prop), RelT ρ ms t a.tmps → Holds ρ ms H B w →
    (∀ ms' a' w' ds, ms <+: ms' → RelT ρ ms' t' a'.tmps → a'.defers = ds.map markD ++ a.defers → Marks w.heap.size ds w' → Holds ρ ms' H' B w' → Bel B w w' → Q o.to a' w') → c.wp P Q a w := by
  intro n
  induction n using Nat.strongRecOn with
  | _ n ih =>
    cases n with
    | zero => intro c t H o t' H' h; simp [evR] at h
    | succ n =>
      have ihn := ih n (by omega)
      intro c t H o t' H' h ms B a w Q hT hH hQ
      have hstart := h
      unfold evR at h
      split at h
      · exact hs.plain c t H o t' H' h ms B a w Q hT hH fun ms' a' w' q1 q2 q3 q4 q5 => hQ ms' a' w' [] q1 q2 q3 (Marks.nil _ _) q4 q5
      rename_i hhas
      split at h
      · rename_i x y
        split at h
        · rename_i t1 H1 h1
          refine wp_seq (ihn x t H .normal t1 H1 h1 ms B a w _ hT hH fun ms1 a1 w1 ds1 q1 q2 q3 q4 q5 q6 => ?_)
          refine ihn y t1 H1 o t' H' h ms1 B a1 w1 Q q2 q5 fun ms2 a2 w2 ds2 r1 r2 r3 r4 r5 r6 => ?_
          exact hQ ms2 a2 w2 (ds2 ++ ds1) (q1.trans r1) r2 (by rw [r3, q3]; simp) (q4.add q6.size r6 r4) r5 (q6.trans r6)
        · rename_i hne
          have hno : o ≠ .normal := fun e => by subst e; exact hne t' H' h
          refine wp_seq (ihn x t H o t' H' h ms B a w _ hT hH fun ms1 a1 w1 ds1 q1 q2 q3 q4 q5 q6 => ?_)
          have := hQ ms1 a1 w1 ds1 q1 q2 q3 q4 q5 q6
          cases o with
          | normal => exact absurd rfl hno
          | exit i => exact this
          | ret => exact this
      · rename_i cc x y
        split at h
        · rename_i hcc
          have e := evGet_ok hT hcc
          simp only [AV.inst, TV.inst, SV.inst, Option.some.injEq] at e
          exact wp_cond_true e.symm (ihn x t H o t' H' h ms B a w Q hT hH hQ)
        · rename_i hcc
          have e := evGet_ok hT hcc
          simp only [AV.inst, TV.inst, SV.inst, Option.some.injEq] at e
          exact wp_cond_false e.symm (ihn y t H o t' H' h ms B a w Q hT hH hQ)
        · cases h
      · rename_i id x
        split at h
        · rename_i i t1 H1 h1
          refine wp_block (ihn x t H (.exit i) t1 H1 h1 ms B a w _ hT hH fun ms1 a1 w1 ds1 q1 q2 q3 q4 q5 q6 => ?_)
          simp only [Out.to, Exit.inBlock]
          split at h
          · rename_i e
            rw [if_pos e]
            simp only [Option.some.injEq, Prod.mk.injEq] at h
            obtain ⟨rfl, rfl, rfl⟩ := h
            exact hQ ms1 a1 w1 ds1 q1 q2 q3 q4 q5 q6
          · rename_i e
            rw [if_neg e]
            simp only [Option.some.injEq, Prod.mk.injEq] at h
            obtain ⟨rfl, rfl, rfl⟩ := h
            exact hQ ms1 a1 w1 ds1 q1 q2 q3 q4 q5 q6
        · rename_i hne
          refine wp_block (ihn x t H o t' H' h ms B a w _ hT hH fun ms1 a1 w1 ds1 q1 q2 q3 q4 q5 q6 => ?_)
          have := hQ ms1 a1 w1 ds1 q1 q2 q3 q4 q5 q6
          cases o with
          | normal => exact this
          | exit i => exact absurd h (hne i t' H')
          | ret => exact this
      · rename_i x
        let R : Nat → Act → World → Prop := fun k a1 w1 => k ≤ n + 1 ∧ ∃ ms1 t1 H1 ds, evR P L call self k (.loop x) t1 H1 = some (o, t', H') ∧ ms <+: ms1 ∧ RelT ρ ms1 t1 a1.tmps ∧ a1.defers = ds.map markD ++ a.defers ∧ Marks w.heap.size ds w1 ∧ Holds ρ ms1 H1 B w1 ∧ Bel B w w1
        classical
        refine wp_loop (fun a1 w1 => ∃ k, R k a1 w1) (fun a1 w1 => if hx : ∃ k, R k a1 w1 then Classical.choose (has_least hx) else 0) ⟨n + 1, Nat.le_refl _, ms, t, H, [], hstart, List.prefix_refl _, hT, rfl, Marks.nil _ _, hH, Bel.refl _ _⟩ ?_
        intro a1 w1 hI
        have hmin := (Classical.choose_spec (has_least hI)).1
        have hall := (Classical.choose_spec (has_least hI)).2
        generalize hk : Classical.choose (has_least hI) = k at hmin hall
        obtain ⟨hle, ms1, t1, H1, ds, hev, s1, s2, s3, s4, s5, s6⟩ := hmin
        cases k with
        | zero => simp [evR] at hev
        | succ k =>
          have ihk := ih k (by omega)
          unfold evR at hev
          rw [hhas] at hev
          simp only at hev
          split at hev
          · rename_i t2 H2 h2
            refine ihk x t1 H1 .normal t2 H2 h2 ms1 B a1 w1 _ s2 s5 fun ms2 a2 w2 ds2 q1 q2 q3 q4 q5 q6 => ?_
            have hRk : R k a2 w2 := ⟨by omega, ms2, t2, H2, ds2 ++ ds, hev, s1.trans q1, q2, by rw [q3, s3]; simp, s4.add s6.size q6 q4, q5, s6.trans q6⟩
            have hE : ∃ j, R j a2 w2 := ⟨k, hRk⟩
            refine ⟨hE, ?_⟩
            rw [dif_pos hE, dif_pos hI, hk]
            exact Nat.lt_succ_of_le ((Classical.choose_spec (has_least hE)).2 k hRk)
          · rename_i hne
            refine ihk x t1 H1 o t' H' hev ms1 B a1 w1 _ s2 s5 fun ms2 a2 w2 ds2 q1 q2 q3 q4 q5 q6 => ?_
            have := hQ ms2 a2 w2 (ds2 ++ ds) (s1.trans q1) q2 (by rw [q3, s3]; simp) (s4.add s6.size q6 q4) q5 (s6.trans q6)
            cases o with
            | normal => exact absurd hev (hne t' H')
            | exit i => exact this
            | ret => exact this
      · exact evRg_ok hL hm hc hs h hT hH fun ms' a' w' d q1 q2 q3 q4 q5 q6 q7 => hQ ms' a' w' [d] q1 q2 q3 ⟨by simp, fun e he => by simp at he; subst he; exact ⟨q4, q5⟩⟩ q6 q7
      · cases h
theorem leave_all {P : Program} {ρ : Env} {fn : Func} {tmps : Array Value} {R : Ending → World → Prop} {ms : List Nat} {H : List Blk} {B : Nat} {w0 : World} (hB : B ≤ w0.heap.size) (hfin : ∀ w, Holds ρ ms H B w → Bel B w0 w → ∃ v, (results fn tmps).run P w = .ok v w ∧ R (.returned v) w) :
    ∀ (ds : List Nat) (w : World), Marks w0.heap.size ds w → Holds ρ ms H B w → Bel B w0 w → LeavesInM Fence.wide 1 P fn tmps R (ds.map markD) .returning w
  | [], w, _, hH, hb => hfin w hH hb
  | d :: ds, w, hm, hH, hb => by
    obtain ⟨h1, h2⟩ := hm.ok d (List.mem_cons_self ..)
    obtain ⟨n1, n2⟩ := List.nodup_cons.1 hm.nodup
    refine ⟨by simp, .inl ⟨d, _, rfl, run_takeDeferred h1, ?_⟩⟩
    refine leave_all hB hfin ds _ ⟨n2, fun e he => ?_⟩ (hH.put h1 rfl _) ?_
    · obtain ⟨q1, q2⟩ := hm.ok e (List.mem_cons_of_mem _ he)
      exact ⟨(World.putObj_heap_other (show e ≠ d from fun h => n1 (h ▸ he))).trans q1, q2⟩
    · refine ⟨⟨hb.os, hb.tape, hb.output, by simpa using hb.size, fun k hk => (World.putObj_heap_other (by omega)).trans (hb.block k hk)⟩, fun i o hi hc => ?_⟩
      have := (Array.getElem?_eq_some_iff.1 hi).1
      exact (World.putObj_heap_other (by omega)).trans (hb.kept i o hi hc)
noncomputable def callR (P : Program) (L : Lore) (base : CodeF → CallF) (N : Nat) (self : CodeF) : CallF := fun g aas H =>
  match P.funcs[g]? with
  | some fn =>
    match fn.body with
    | some c =>
      match hasRange c with
      | true =>
        match Nat.ble fn.ntmps 512 && Nat.ble aas.length fn.ntmps with
        | true =>
          match evR P L (base self) self N c (Tm.make fn.ntmps aas) H with
          | some (o, t, H') =>
            match o.ends with
            | true => (evResults P fn t H').map fun v => (v, trim H.length v H')
            | false => none
          | none => none
        | false => none
      | false => base self g aas H
    | none => base self g aas H
  | none => none
theorem callR_ok {P : Program} {ρ : Env} {L : Lore} (hL : LoreOk ρ L) (hm : P.follows .mixedOrders = true) {base : CodeF → CallF} (hbase : ∀ self, CodeOk P ρ self → CallOk P ρ (base self)) (N : Nat) (self : CodeF) (hs : CodeOkG P ρ self) : CallOk P ρ (callR P L base N self) := by
  intro g aas H v H' h ms B w args hargs hH
  unfold callR at h
  split at h
  case h_2 => cases h
  rename_i fn hfn
  split at h
  case h_2 => exact hbase self hs.plain g aas H v H' h ms B w args hargs hH
  rename_i c hb
  split at h
  case h_2 => exact hbase self hs.plain g aas H v H' h ms B w args hargs hH
  split at h
  case h_2 => cases h
  rename_i hbd
  rw [Bool.and_eq_true] at hbd
  split at h
  case h_2 => cases h
  rename_i o t H1 hev
  split at h
  case h_2 => cases h
  rename_i hends
  rw [Option.map_eq_some_iff] at h
  obtain ⟨v', hr, hv⟩ := h
  simp only [Prod.mk.injEq] at hv
  obtain ⟨rfl, rfl⟩ := hv
  have hT : RelT ρ ms (Tm.make fn.ntmps aas) (args ++ Array.replicate (fn.ntmps - args.size) undef) := RelT.make hargs (Nat.le_of_ble_eq_true hbd.1) (Nat.le_of_ble_eq_true hbd.2) hH.gl
  refine (callsIn_wide (n := 1)).1 (callsIn_of_wp_marks hfn hb trivial (wpIn_wide.2 ?_) rfl)
  refine evR_ok hL hm (hbase self hs.plain) hs N c _ H o t H1 hev ms B _ w _ hT hH fun ms' a' w' ds q1 q2 q3 q4 q5 q6 => ?_
  have key : LeavesInM Fence.wide 1 P fn a'.tmps (fun e w' => ∃ ms' u, e = .returned u ∧ ms <+: ms' ∧ v'.inst ρ ms' = some u ∧ Holds ρ ms' (trim H.length v' H1) B w' ∧ Bel B w w') a'.defers .returning w' := by
    rw [q3, List.append_nil]
    refine leave_all hH.big (fun w2 hH2 hb2 => ?_) ds w' q4 q5 q6
    obtain ⟨u, e1, e2⟩ := evResults_ok q2 hH2 hr
    obtain ⟨ms2, r1, r2, r3⟩ := trim_ok q1 hH.gl hH.len e1 hH2
    exact ⟨u, e2, ms2, u, rfl, r1, r2, r3, hb2⟩
  cases o with
  | normal => exact key
  | exit i => cases hends
  | ret => exact key
noncomputable def evCallR (P : Program) (L : Lore) (base : CodeF → CallF) (N n : Nat) : CallF := callR P L base N (evGF P L (callR P L base N) n)
theorem evCallR_ok {P : Program} {ρ : Env} {L : Lore} (hL : LoreOk ρ L) (hm : P.follows .mixedOrders = true) {base : CodeF → CallF} (hbase : ∀ self, CodeOk P ρ self → CallOk P ρ (base self)) (N n : Nat) : CallOk P ρ (evCallR P L base N n) := by
  unfold evCallR
  rw [evGF_eq]
  exact callR_ok hL hm hbase N _ (evG_both hL (callR_ok hL hm hbase N) hm n)
end Go.Proofs.Ytbiplflejijbeaa.Ev
namespace Go.Proofs.Ytbiplflejijbeaa
open Go Go.RowKit Ev
def conInv : ConF := fun g xs _ => if g = 33 then (match xs with | [.tv (.sc (.int .u8 (.lit n)))] => if 0 < n ∧ n < 256 then some (.tup [.sc (.int .u8 (.lit ((inv n.toNat : Nat) : Int))), .sc (.int .i64 (.lit 0))]) else none | _ => none) else none
theorem conInv_ok (ρ : Env) : ConOk Try.prog ρ conInv := by
  intro g xs H v hv ms B w args ha hH
  unfold conInv at hv
  split at hv
  case isFalse => cases hv
  rename_i hg
  subst hg
  split at hv
  case h_2 => cases hv
  rename_i n
  split at hv
  case isFalse => cases hv
  rename_i hn
  cases hv
  obtain ⟨m, rfl⟩ := Int.eq_ofNat_of_zero_le (show 0 ≤ n by omega)
  have e : args = #[.int .u8 (m : Int)] := by
    obtain ⟨l⟩ := args
    have hl : l.length = 1 := by have := congrArg List.length ha; simpa using this.symm
    match l, hl, ha with
    | [u], _, ha =>
      simp only [List.map_cons, List.map_nil, List.cons.injEq, and_true, AV.inst, TV.inst, SV.inst, Ex.den, Option.some.injEq] at ha
      rw [ha]
  subst e
  exact (inv_any w m (by omega) (by omega)).mono fun e w' ⟨q1, q2⟩ => ⟨_, q1, rfl, q2⟩
def conRs : ConF := conOr conInv conMuls
theorem conRs_ok (ρ : Env) : ConOk Try.prog ρ conRs := conOr_ok (conInv_ok ρ) (conMuls_ok ρ)
noncomputable def evRs (n : Nat) : CallF := evCallR Try.prog noLore (callStep Try.prog conRs) 1000 n
theorem evRs_ok (ρ : Env) (n : Nat) : CallOk Try.prog ρ (evRs n) := evCallR_ok (noLore_ok ρ) mixedOrders (fun self hs => callStep_ok (conRs_ok ρ) hs) 1000 n
theorem lives_ev : (evRs 1000 4 [] []).map (·.1) = some (.tv (.sc (.bool true))) := by kernel_rfl
theorem ret_evR {ρ : Env} {g n : Nat} {xs : List AV} (h : (evRs n g xs []).map (·.1) = some (.tv (.sc (.bool true)))) {args : Array Value} (w : World) (ha : xs.map (AV.inst ρ []) = args.toList.map some) : Calls Try.prog g args w fun e w' => e = .returned (.bool true) ∧ Below w.heap.size w w' := by
  obtain ⟨H', h1⟩ := map_fst h
  refine (evRs_ok ρ n g xs [] _ H' h1 [] w.heap.size w args ha (holds_nil ρ w)).mono ?_
  rintro e w' ⟨ms', u, rfl, _, h2, _, h4⟩
  simp only [AV.inst, TV.inst, SV.inst, Option.some.injEq] at h2
  exact ⟨by rw [← h2], h4.toBelow⟩
theorem lives_any (w : World) : Calls Try.prog 4 #[] w fun e w' => e = .returned (.bool true) ∧ Below w.heap.size w w' := ret_evR (ρ := env0) lives_ev w rfl
end Go.Proofs.Ytbiplflejijbeaa
namespace Go.Proofs.Ytbiplflejijbeaa
open Go Go.RowKit
theorem PW.atA {B : Nat} {w : World} {v : Value} {ls : List (List Int)} (h : PW B w v ls) (h0 : 0 < ls.length) : ∃ g c, v = .slice (some ⟨g, 0, none⟩) ls.length c ∧ ls.length ≤ c ∧ c ≤ 9223372036854775807 ∧ ∀ j, j < ls.length → ∃ u, w.cell? ⟨g, j, none⟩ = some u ∧ HB w u (ls.getD j []) := by
  obtain ⟨b, off, c, e, hl, hm, hh⟩ := h.hl.ne h0
  obtain ⟨xs, hrow, _⟩ := h
  obtain ⟨g, cap, e2, _⟩ := ownsRow_cells hrow h0
  rw [e2] at e
  simp only [Value.slice.injEq, Option.some.injEq, Addr.mk.injEq, and_true, true_and] at e
  obtain ⟨⟨rfl, rfl⟩, rfl⟩ := e
  unfold maxLen at hm
  refine ⟨g, cap, e2, hl, hm, fun j hj => ?_⟩
  have := hh j hj
  rw [Nat.zero_add] at this
  exact this
theorem sameL_same (w : World) (va vb : Value) (l : List (List Int)) (ha : HL w va l) (hb : HL w vb l) : Calls Try.prog 13 #[va, vb] w fun e w' => e = .returned (.bool true) ∧ Dr w w' :=
  (sameLists_any w va vb l l ha hb).mono fun e w' ⟨h1, h2⟩ => ⟨by rw [h1]; simp, h2⟩
theorem sameB_same (w : World) (va vb : Value) (l : List Int) (ha : HB w va l) (hb : HB w vb l) : Calls Try.prog 14 #[va, vb] w fun e w' => e = .returned (.bool true) ∧ Dr w w' :=
  (sameBytes_any w va vb l l ha hb).mono fun e w' ⟨h1, h2⟩ => ⟨by rw [h1]; simp, h2⟩
theorem evD_ok {l : List Int} (hb : ∀ x ∈ l, 0 ≤ x ∧ x < 256) {k : Nat} : EvD (evD l (l.length / k) k) k (l.length / k) := by
  refine ⟨evD_length _ _ _, fun j hj => ?_, fun j x hx => ?_⟩
  · rw [evD_get _ _ _ _ hj]
    exact rw_len (ev_le hj)
  · by_cases hj : j < k
    · rw [evD_get _ _ _ _ hj] at hx
      exact hb x (List.mem_of_mem_take (List.mem_of_mem_drop hx))
    · rw [show (evD l (l.length / k) k).getD j [] = [] by simp [evD, List.getD, show k ≤ j by omega]] at hx
      cases hx
set_option maxRecDepth 100000 in
set_option maxHeartbeats 16000000 in
theorem any_walk (w : World) (v vp : Value) (l lp : List Int) (k n x : Int) (h : HB w v l) (hp : I.HB w vp lp) (hl : l.length ≤ 140737488351232) :
    Calls Try.prog 3 #[.int .i64 k, .int .i64 n, v, vp, .int .i64 x] w fun e w' => e = .returned (.bool true) ∧ Below w.heap.size w w' := by
  have C0 := hid (lives_any w)
  have HA := hid h
  have HP := hid hp
  obtain ⟨pa, ca, rfl, hlc, hcm⟩ := h.open
  obtain ⟨pp, cp, rfl, hplc, hpcm⟩ := hp.open
  unfold maxLen at hcm hpcm
  obtain ⟨NP, HNP⟩ : ∃ x, Hid (lp.length = x) := ⟨_, rfl⟩
  rw [HNP.out] at hplc ⊢
  clear h hp
  by_cases hbad : k < 1 ∨ k > n ∨ n > 255
  · have CN := hid fun W => rsnew_bad W k n hbad
    obtain ⟨N, HN⟩ : ∃ x, Hid (l.length = x) := ⟨_, rfl⟩
    rw [HN.out]
    by_cases h1 : k < 1
    · clear hbad
      go_enter Try.func3, Try.ntmps3
      go_wp2_with fail
      refine C0.out.mono ?_
      rintro e w1 ⟨rfl, hb1⟩
      have B1 := hid hb1
      clear hb1 C0
      go_wp2_with fail
      refine (CN.out w1).mono ?_
      rintro e wq ⟨rfl, hwq⟩
      rw [hwq]
      clear hwq wq CN
      go_wp2_with fail
      go_ret
      exact ⟨rfl, B1.out⟩
    · by_cases h2 : k > n
      · clear hbad
        go_enter Try.func3, Try.ntmps3
        go_wp2_with fail
        refine C0.out.mono ?_
        rintro e w1 ⟨rfl, hb1⟩
        have B1 := hid hb1
        clear hb1 C0
        go_wp2_with fail
        refine (CN.out w1).mono ?_
        rintro e wq ⟨rfl, hwq⟩
        rw [hwq]
        clear hwq wq CN
        go_wp2_with fail
        go_ret
        exact ⟨rfl, B1.out⟩
      · have h3 : n > 255 := by omega
        clear hbad
        go_enter Try.func3, Try.ntmps3
        go_wp2_with fail
        refine C0.out.mono ?_
        rintro e w1 ⟨rfl, hb1⟩
        have B1 := hid hb1
        clear hb1 C0
        go_wp2_with fail
        refine (CN.out w1).mono ?_
        rintro e wq ⟨rfl, hwq⟩
        rw [hwq]
        clear hwq wq CN
        go_wp2_with fail
        go_ret
        exact ⟨rfl, B1.out⟩
  · obtain ⟨K, rfl⟩ : ∃ K : Nat, k = (K : Int) := ⟨k.toNat, by omega⟩
    obtain ⟨M, rfl⟩ : ∃ M : Nat, n = (M : Int) := ⟨n.toNat, by omega⟩
    have h1 : 1 ≤ K := by omega
    have hk : K ≤ M := by omega
    have hn : M ≤ 255 := by omega
    have q1 : ¬ ((K : Int) < 1) := by omega
    have q2 : ¬ ((K : Int) > (M : Int)) := by omega
    have q3 : ¬ ((M : Int) > 255) := by omega
    have hMM : ((M : Int) != (M : Int)) = false := by simp
    clear hbad
    have CN := hid fun W => rsnew_ok W K M h1 hk hn
    have CE := hid fun W (hW : Below w.heap.size w W) => even_any W K _ l (HA.out.below hW) h1 (by omega) (by omega)
    have CC := hid fun W (hW : Below w.heap.size w W) => chosen_any W K M _ lp (HP.out.below hW) h1 hk hn
    rw [HNP.out] at CC
    have HLL : Hid (l.length / K ≤ l.length) := hid (Nat.div_le_self _ _)
    have HEV := hid (evD_ok HA.out.2 (k := K))
    obtain ⟨L, HL0⟩ : ∃ L, Hid (l.length / K = L) := ⟨_, rfl⟩
    obtain ⟨N, HN⟩ : ∃ x, Hid (l.length = x) := ⟨_, rfl⟩
    rw [HL0.out] at CE HLL HEV
    rw [HN.out] at HLL CE hl hlc
    rw [HN.out]
    obtain ⟨D, HDD⟩ : ∃ x, Hid (evD l L K = x) := ⟨_, rfl⟩
    rw [HDD.out] at HEV CE
    have hLb : L ≤ 140737488351232 := by have := HLL.out; omega
    obtain ⟨A, HAA⟩ : ∃ x, Hid (prL (elL K M) K D L M = x) := ⟨_, rfl⟩
    have HAl : Hid (A.length = M) := hid (by rw [← HAA.out]; exact prL_length _ _ _ _ _)
    have HAL : Hid (∀ j, j < M → (A.getD j []).length = L) := hid fun j hj => by rw [← HAA.out, prL_get _ _ _ _ _ _ hj]; exact tbL_length _ _
    have HAT : Hid (A.take K = D) := hid (by rw [← HAA.out]; exact pr_take h1 hk hn HEV.out)
    go_enter Try.func3, Try.ntmps3
    go_wp2_with fail
    refine C0.out.mono ?_
    rintro e w1 ⟨rfl, hb1⟩
    have B1 := hid hb1
    clear hb1 C0
    go_wp2_with fail
    refine (CN.out w1).mono ?_
    rintro e w2 ⟨gc, rfl, hc2, hb2⟩
    have HC2 := hid hc2
    have B2 := hid (B1.out.trans (hb2.mono B1.out.size))
    clear hc2 hb2 CN
    go_wp2_with fail
    refine (CE.out w2 B2.out).mono ?_
    rintro e w3 ⟨v3, rfl, hd3, hb3⟩
    have HC3 := hid (HC2.out.below hb3)
    have B3 := hid (B2.out.trans (hb3.mono B2.out.size))
    have HD3 := hid hd3
    obtain ⟨b3, o3, c3, e3, hl3, hm3, hh3⟩ := hd3.ne (by rw [HEV.out.len]; omega)
    rw [HEV.out.len] at e3 hl3
    subst e3
    clear hd3 hb3 CE hh3 HC2
    have C4 := hid (encode_ok w3 gc K M _ D L HC3.out h1 hk hn HD3.out HEV.out.len (fun j hj => HEV.out.all j (by rw [← HEV.out.len]; exact hj)) (by omega))
    rw [HAA.out] at C4
    go_wp2_with fail
    refine C4.out.mono ?_
    rintro e w4 ⟨v4, rfl, hp4, hb4⟩
    have B4 := hid (B3.out.trans (hb4.mono B3.out.size))
    have HC4 := hid (HC3.out.below hb4)
    have D4 := hid (HD3.out.below hb4)
    have P4 := hid hp4.hl
    obtain ⟨g4, c4, e4, hlc4, hm4, hh4⟩ := hp4.atA (by rw [HAl.out]; omega)
    rw [HAl.out] at e4 hlc4 hh4
    subst e4
    have HH4 := hid hh4
    clear hp4 hb4 C4 hh4
    go_wp2_with fail
    refine (CC.out w4 B4.out).mono ?_
    rintro e w5 ⟨v5, ns, rfl, hns, hne, ho5, hb5⟩
    have HNS := hid hns
    have HNE := hid hne
    have B5 := hid (B4.out.trans (hb5.mono B4.out.size))
    have HC5 := hid (HC4.out.below hb5)
    have D5 := hid (D4.out.below hb5)
    have P5 := hid (P4.out.below hb5)
    have HH5 : Hid (∀ j, j < M → ∃ u, w5.cell? ⟨g4, j, none⟩ = some u ∧ HB w5 u (A.getD j [])) := hid fun j hj => by
      obtain ⟨u, hu, hbu⟩ := HH4.out j hj
      exact ⟨u, (hb5.cell (World.block_lt_of_cell? w4 _ hu)).trans hu, hbu.below hb5⟩
    obtain ⟨p5, c5, e5⟩ := own_slc ho5
    subst e5
    obtain ⟨g5, e5⟩ := own_someR ho5 (by omega)
    subst e5
    have hc5 : K ≤ c5 ∧ c5 ≤ 9223372036854775807 := by
      rcases ho5.2 with ⟨e, _⟩ | ⟨g', cap, cur, e, _, _, h3, h4, _⟩
      · cases e
      · cases e
        unfold maxLen at h4
        exact ⟨h3, h4⟩
    have HV5 : Hid (∀ i, i < K → w5.cell? ⟨g5, 0 + i, none⟩ = some (.int .i64 (ns i : Int))) := hid fun i hi => by
      rw [Nat.zero_add, ho5.cellAt i (by omega)]
      simp [ivC, hi]
    clear hns hne hb5 ho5 CC
    go_wp2_with fail
    go_loopw [17, 18] (fun o i wr => ∃ J : Nat, J ≤ K ∧ i = .int .i64 (J : Int) ∧ Hid (OWL w5 wr o (smD A ns J)) ∧ Hid (Below w5.heap.size w5 wr)) (fun _ i _ => K - (intOf i).toNat)
    case atStart => exact ⟨0, Nat.zero_le _, rfl, OWL.nil _ _, Below.refl _ _⟩
    case round =>
      obtain ⟨J, hJ, rfl, HO, B⟩ := hrel
      by_cases hlt : J < K
      · have y1 := HV5.out J hlt
        rw [Nat.zero_add] at y1
        have y2 := (B.out.cell (World.block_lt_of_cell? w5 _ y1)).trans y1
        obtain ⟨m, HM⟩ : ∃ m, Hid (ns J = m) := ⟨_, rfl⟩
        have hm : m < M := by rw [← HM.out]; exact HNS.out J hlt
        rw [HM.out] at y2
        obtain ⟨u, hu, hbu⟩ := HH5.out m hm
        have y3 := (B.out.cell (World.block_lt_of_cell? w5 _ hu)).trans hu
        obtain ⟨pj, cj, ej, hlj, hmj⟩ := hbu.open
        rw [HAL.out m hm] at ej hlj
        subst ej
        have HBU := hid hbu
        have HES : Hid (smD A ns (J + 1) = smD A ns J ++ [A.getD m []]) := hid (by rw [smD_succ, HM.out])
        obtain ⟨xs, hrow, _⟩ := HO.out
        obtain ⟨po, co, eo⟩ := own_slc hrow
        subst eo
        rw [smD_len]
        have hsz := B.out.size
        obtain ⟨Y, HY⟩ : ∃ x, Hid (A.getD m [] = x) := ⟨_, rfl⟩
        rw [HY.out] at HES HBU
        have HO3 : Hid (OWL w5 (wr.alloc (.cells #[.slice pj L cj] 22)) (.slice po J co) (smD A ns J)) := by
          have h2 := HO.out
          rw [smD_len] at h2
          exact h2.below ((Below.refl _ _).alloc (Nat.le_refl _) _)
        clear hbu hrow hu y1
        go_wp2_with (at_builtin; refine wpList_append_OWL (w0 := w5) rfl _ _ rfl _ _ rfl HO3.out ⟨wr.heap.size, 0, none⟩ 1 1 [_] [Y] rfl rfl rfl (cell_one_new _ _ _) ?q1 ?q2 ?q3 ?q4 ?_)
        case q1 =>
          intro j hj
          match j, hj with
          | 0, _ => exact .inr HBU.out
        case q2 => intro u hu; simp at hu; subst hu; rfl
        case q3 => rw [smD_len]; omega
        case q4 => simp; omega
        intro v' w6 ho6 hg6 hblk
        rw [← HES.out] at ho6
        have O6 := hid ho6
        have B6 : Hid (Below w5.heap.size w5 w6) := ((B.out.alloc hsz _).grown hg6 (by simp; omega) (fun g e => (hblk g e).1))
        clear ho6 hg6 hblk
        go_wp2
        exact ⟨⟨J + 1, by omega, by go_num, O6, B6⟩, by simp [intOf]; omega⟩
      · have hJ' : J = K := by omega
        subst hJ'
        obtain ⟨xs, hrow, _⟩ := HO.out
        obtain ⟨po, co, eo⟩ := own_slc hrow
        subst eo
        rw [smD_len]
        have HO6 := hid (HO.out.hl B.out)
        rw [smD_len] at HO6
        clear hrow
        have hvr : ∀ W, Below wr.heap.size wr W → ∀ i, i < J → W.cell? ⟨g5, 0 + i, none⟩ = some (.int .i64 (ns i : Int)) := fun W hW i hi => by
          have h1 := HV5.out i hi
          have h2 := (B.out.cell (World.block_lt_of_cell? w5 _ h1)).trans h1
          exact (hW.cell (World.block_lt_of_cell? wr _ h2)).trans h2
        have hsl : ∀ j, j < (smD A ns J).length → ((smD A ns J).getD j []).length = L := fun j hj => by
          rw [smD_len] at hj
          rw [smD_get _ _ hj]
          exact HAL.out _ (HNS.out j hj)
        have CDc := hid (decode_ok wr gc J M g5 0 c5 ns (.slice po J co) (smD A ns J) L (HC5.out.below B.out) h1 hk hn hc5.1 hc5.2 (hvr wr (Below.refl _ _)) HNS.out HNE.out HO6.out (smD_len _ _ _) hsl (by omega) (fun π hπ => any_full h1 hk hn HNS.out HNE.out hπ))
        have HVR := hid hvr
        have HSL := hid hsl
        clear hvr hsl
        go_wp2_with fail
        refine CDc.out.mono ?_
        rintro e w7 ⟨v7, π, rfl, hπ, hp7, hb7⟩
        rw [← HAA.out, any_back h1 hk hn HEV.out HNS.out HNE.out hπ] at hp7
        have P7 := hid hp7.hl
        have b57 := B.out.trans (hb7.mono B.out.size)
        have B7 := hid (B5.out.trans (b57.mono B5.out.size))
        have HB7 := hid b57
        have CPk := hid (kpick_any w7 x M (by omega) (by omega))
        have HO7 := hid (HO6.out.below hb7)
        have HW7 := hid hb7
        clear hp7 hb7 b57 CDc
        go_wp2_with fail
        refine CPk.out.mono ?_
        rintro e wq ⟨⟨W, hW, rfl⟩, hwq⟩
        rw [hwq]
        clear hwq wq CPk
        have CMk := hid (make_ok w7 gc J M g5 0 c5 ns (.slice po J co) (smD A ns J) L W (HC5.out.below HB7.out) h1 hk hn hc5.1 hc5.2 (HVR.out w7 HW7.out) HNS.out HNE.out HO7.out (smD_len _ _ _) HSL.out (by omega) hW (fun π hπ => any_full h1 hk hn HNS.out HNE.out hπ))
        go_wp2_with fail
        refine CMk.out.mono ?_
        rintro e w8 ⟨v8, π', rfl, hπ', ho8, hb8⟩
        rw [← HAA.out, any_make h1 hk hn HEV.out HNS.out HNE.out hπ' hW, HAA.out] at ho8
        have HBA : ∀ x ∈ A.getD W [], 0 ≤ x ∧ x < 256 := by
          obtain ⟨u, _, hbu⟩ := HH5.out W hW
          exact hbu.2
        have b58 := HB7.out.trans (hb8.mono HB7.out.size)
        have HB8 := hid b58
        have B8 := hid (B5.out.trans (b58.mono B5.out.size))
        have H8 : Hid (HB w8 v8 (A.getD W [])) := hid (HB.of_own (by rw [HAL.out W hW]; exact ho8) HBA)
        have P8 := hid (P7.out.below hb8)
        clear ho8 hb8 b58 HBA CMk
        have COd := hid (odd_ok w8 gc J M (.slice (some ⟨g4, 0, none⟩) M c4) A L (HC5.out.below HB8.out) h1 hk hn (P5.out.below HB8.out) HAl.out (fun j hj => HAL.out j (by rw [← HAl.out]; exact hj)) (by omega) (fun i hi => by rw [HAT.out, ← HAA.out, prL_get _ _ _ _ _ _ hi]))
        go_wp2_with fail
        refine COd.out.mono ?_
        rintro e w9 ⟨rfl, hb9⟩
        have b59 := HB8.out.trans (hb9.mono HB8.out.size)
        have HB9 := hid b59
        have B9 := hid (B5.out.trans (b59.mono B5.out.size))
        have H9 := hid (H8.out.below hb9)
        have P9 := hid (P8.out.below hb9)
        have D9 := hid (D5.out.below b59)
        have CS1 := hid (sameL_same w9 v7 _ D P9.out D9.out)
        clear hb9 b59 COd
        obtain ⟨u9, hu9, hbu9⟩ := HH5.out W hW
        obtain ⟨pu, cu, eu, _, _⟩ := hbu9.open
        rw [HAL.out W hW] at eu
        subst eu
        have HU9 := hid hu9
        have HBU9 := hid hbu9
        have HPT := P5.out.pre (k := J) (by rw [HAl.out]; omega) h1
        rw [HAT.out, HAl.out] at HPT
        obtain ⟨p', c', e', hc', hpt⟩ := HPT
        simp only [Value.slice.injEq] at e'
        obtain ⟨rfl, -, rfl⟩ := e'
        have HPT := hid hpt
        clear hu9 hbu9 hpt
        go_wp2_with fail
        refine CS1.out.mono ?_
        rintro e w10 ⟨rfl, hd10⟩
        have B10 := hid (HB9.out.trans (hd10.below _))
        have BB10 := hid (B9.out.trans (hd10.below _))
        have H10 := hid (H9.out.dr hd10)
        have y10 : w10.cell? ⟨g4, W, none⟩ = some (.slice pu L cu) := (B10.out.cell (World.block_lt_of_cell? w5 _ HU9.out)).trans HU9.out
        have CS2 := hid (sameB_same w10 v8 (.slice pu L cu) (A.getD W []) H10.out (HBU9.out.below B10.out))
        clear hd10 CS1
        go_wp2_with fail
        refine CS2.out.mono ?_
        rintro e w11 ⟨rfl, hd11⟩
        have B11 := hid (B10.out.trans (hd11.below _))
        have BB11 := hid (BB10.out.trans (hd11.below _))
        have hsl := slice_hBB w11 (some ⟨g4, 0, none⟩) M c4 J (by omega) (by omega)
        have CS3 := hid (sameL_same w11 (.slice (some ⟨g4, 0, none⟩) J c4) (.slice (some ⟨b3, o3, none⟩) J c3) D (HPT.out.below B11.out) (D5.out.below B11.out))
        clear hd11 CS2 y10
        go_wp2_with fail
        refine CS3.out.mono ?_
        rintro e w12 ⟨rfl, hd12⟩
        have BB12 := hid (BB11.out.trans (hd12.below _))
        clear hd12 CS3 hsl
        go_wp2_with fail
        go_ret
        exact ⟨rfl, BB12.out⟩
end Go.Proofs.Ytbiplflejijbeaa
namespace Go.Proofs.Ytbiplflejijbeaa
open Go Go.ChangeShapes Go.WideShapes Go.ChangeAt Go.RowKit
section
variable {H : Type} {enc : TypeId × Value → H} {W : World}
theorem open_IH {base : Nat} {v : Value} {d : DataW H} {p : List MemPlace} (h : DataW.Trod enc Try.prog W base (fun _ => true) true 23 v d p) (hv : ∃ a n c, v = .slice a n c) : ∃ l, I.HB W v l := by
  obtain ⟨a, n, c, rfl⟩ := hv
  obtain ⟨fuel, hf⟩ := h
  obtain ⟨q, c', l, hcs, k1, k2, k3, k4, k5, k6⟩ := open_row Try.underlying23 Try.underlying3 Opn.cells_int hf
  simp only [Value.cells, List.cons.injEq, and_true] at hcs
  exact ⟨l, ⟨q, c', hcs, k1, k2, k3, k4⟩, fun x hx => by have := bounds_i64 (k5 x hx); omega⟩
end
end Go.Proofs.Ytbiplflejijbeaa
