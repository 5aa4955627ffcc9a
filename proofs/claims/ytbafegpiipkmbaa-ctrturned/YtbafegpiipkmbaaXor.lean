/- octet.Xor, walked: a range over Chunks; each byte of one list with its fellow of the other. -/
import Derived.Test.YtbafegpiipkmbaaChunks
import Derived.Laws.BitsAllLaws
import Derived.RangeFuncBox
import Derived.Laws.OwnMore
namespace Go.Proofs.Ytbafegpiipkmbaa
open Go.RowKit Go.Shelf
attribute [local go_sem] Oper.semAt_some

/-- Two bytes, and two lists, in exclusive or. -/
def xorB (x y : Int) : Int := bits .xor .u8 x y
def xorL (la lb : List Int) : List Int := List.zipWith xorB la lb
/-- What out holds when j bytes are done. -/
def curX (la lb : List Int) (j : Nat) : List Int := (xorL la lb).take j ++ List.replicate (la.length - j) 0

theorem xorB_byt {x y : Int} (hx : 0 ≤ x ∧ x < 256) (hy : 0 ≤ y ∧ y < 256) : 0 ≤ xorB x y ∧ xorB x y < 256 := by
  unfold xorB
  rw [u8_xor x y hx.1 hx.2 hy.1 hy.2]
  have : x.toNat ^^^ y.toNat < 2 ^ 8 := Nat.xor_lt_two_pow (by omega) (by omega)
  omega
theorem xorL_length {la lb : List Int} (h : la.length = lb.length) : (xorL la lb).length = la.length := by simp [xorL]; omega
theorem xorL_getD {la lb : List Int} (h : la.length = lb.length) {j : Nat} (hj : j < la.length) : (xorL la lb).getD j 0 = xorB (la.getD j 0) (lb.getD j 0) := by
  rw [getD_of_lt (by rw [xorL_length h]; exact hj), getD_of_lt hj, getD_of_lt (by omega)]
  simp [xorL]
theorem xorL_byt {la lb : List Int} (ha : ∀ x ∈ la, 0 ≤ x ∧ x < 256) (hb : ∀ x ∈ lb, 0 ≤ x ∧ x < 256) : ∀ x ∈ xorL la lb, 0 ≤ x ∧ x < 256 := by
  intro x hx
  obtain ⟨i, hi, rfl⟩ := List.getElem_of_mem hx
  simp only [xorL, List.getElem_zipWith]
  exact xorB_byt (ha _ (List.getElem_mem _)) (hb _ (List.getElem_mem _))
theorem curX_length {la lb : List Int} (h : la.length = lb.length) {j : Nat} (hj : j ≤ la.length) : (curX la lb j).length = la.length := by
  simp [curX, xorL_length h]; omega
theorem curX_step {la lb : List Int} (h : la.length = lb.length) {j : Nat} (hj : j < la.length) : (curX la lb j).set j (xorB (la.getD j 0) (lb.getD j 0)) = curX la lb (j + 1) := by
  unfold curX
  have hl := xorL_length h
  have ht : ((xorL la lb).take j).length = j := by rw [List.length_take]; omega
  rw [List.set_append_right _ _ (by omega), ht, Nat.sub_self, show la.length - j = (la.length - (j + 1)) + 1 by omega, List.replicate_succ, List.set_cons_zero, List.take_succ_eq_append_getElem (by omega), ← getD_of_lt (by omega), xorL_getD h hj, List.append_assoc]
  rfl

set_option maxRecDepth 100000 in
set_option maxHeartbeats 2000000 in
theorem xor_same (w : World) (va vb : Value) (la lb : List Int) (ha : HB w va la) (hb : HB w vb lb) (hlen : la.length = lb.length) (hbig : la.length ≤ 140737488351232) :
    Calls Try.prog 37 #[va, vb] w fun e w' => ∃ v', e = .returned (.tuple #[v', .int .i64 0]) ∧ w'.ownsRow w.heap.size 5 1 v' la.length ((xorL la lb).map (Value.int .u8)) ∧ Below w.heap.size w w' := by
  obtain ⟨i0, hi, hz0, hz1, hz2⟩ := info_parts info_u8
  have HA := hid ha
  have HBb := hid hb
  obtain ⟨pa, ca, rfl, _, _⟩ := ha.open
  obtain ⟨pb, cb, rfl, hcb, hcbm⟩ := hb.open
  unfold maxLen at hcbm
  clear ha hb
  have HLn := hid hlen
  obtain ⟨W0, hW0⟩ : ∃ W0, Hid (w.alloc (.cells #[.slice pb lb.length cb] 32) = W0) := ⟨_, rfl⟩
  have HB0 : Hid (Below w.heap.size w W0) := by rw [← hW0.out]; exact (Below.refl _ w).alloc (Nat.le_refl _) _
  have HX0 : Hid (Boxed W0 w.heap.size 32 (.slice pb lb.length cb)) := by rw [← hW0.out]; exact Boxed.new w _ _
  have hS0 : W0.heap.size = w.heap.size + 1 := by rw [← hW0.out]; simp
  obtain ⟨w1, hmk, hown, hgr⟩ := run_make_full (P := Try.prog) W0 W0.heap.size 32 5 i0 (.int .u8 0) 1 Try.underlying32 hi hz0 hz1 .i64 .i64 la.length (by rw [hz2]; omega) (by unfold maxLen; omega) (Nat.le_refl _)
  have HO1 := hid hown
  have HG1 := hid hgr
  have hc0 := HX0.out.cell
  rw [hlen] at hmk
  clear hown hgr
  refine (callsIn_wide (n := 3)).1 ?_
  refine callsIn_of_wp_marks Try.func37 rfl trivial ?_ rfl
  simp only [Try.ntmps37, List.size_toArray, List.length_cons, List.length_nil, Nat.reduceAdd, Nat.reduceSub, Array.replicate_succ, Array.replicate_zero, List.push_toArray, List.append_toArray, List.nil_append, List.cons_append]
  rw [hlen]
  have hW0' := hW0.out
  rw [hlen] at HA HO1
  gi_wp2
  clear hW0' hmk hc0
  obtain ⟨W2, hW2⟩ : ∃ W2, Hid (w1.alloc (.cells #[.slice (some ⟨w.heap.size + 1, 0, none⟩) lb.length lb.length] 32) = W2) := ⟨_, rfl⟩
  rw [hW2.out]
  rw [hS0] at HO1
  have hS1 : w.heap.size + 2 ≤ w1.heap.size := by
    have := HO1.out.lt (w.heap.size + 1) rfl
    omega
  have HB1 : Hid (Below w.heap.size w w1) := HB0.out.trans ((Below.refl _ W0).grown HG1.out (by omega) (fun k e => by cases e))
  have HB2 : Hid (Below w.heap.size w W2) := by rw [← hW2.out]; exact HB1.out.alloc (by omega) _
  have HX2 : Hid (Boxed W2 w.heap.size 32 (.slice pb lb.length cb)) := by rw [← hW2.out]; exact (HX0.out.kept HG1.out (by simp)).alloc _
  have HY2 : Hid (Boxed W2 w1.heap.size 32 (.slice (some ⟨w.heap.size + 1, 0, none⟩) lb.length lb.length)) := by rw [← hW2.out]; exact Boxed.new _ _ _
  have HO2 : Hid (W2.ownsRow (w.heap.size + 1) 5 1 (.slice (some ⟨w.heap.size + 1, 0, none⟩) lb.length lb.length) lb.length ((curX la lb 0).map (Value.int .u8))) := by
    show World.ownsRow _ _ _ _ _ _ _
    rw [← hW2.out]
    have e : (madeCells (Value.int IntKind.u8 0).cells (lb.length * 1)).toList = (curX la lb 0).map (Value.int .u8) := by
      rw [show (Value.int IntKind.u8 0).cells = #[Value.int .u8 0] from rfl, toList_madeCells_one]
      simp [curX, hlen]
    rw [← e]
    exact HO1.out.alloc _
  have hS2 : W2.heap.size = w1.heap.size + 1 := by rw [← hW2.out]; simp
  refine ⟨trivial, callsIn_wide.2 ((chunks_any W2 _ la 4096 (HA.out.below (HB2.out)) (by omega) (by decide)).mono ?_)⟩
  rintro e w3 ⟨hv, b5, b3, rfl, hbox, hD, hB3⟩
  have HBx := hid hbox
  have HD := hid hD
  have HB3 := hid hB3
  clear hbox hD hB3
  have hS3 := HB3.out.size
  gi_wp2
  refine range_fit rfl (by decide) (gf := 65) (lb := #[.pointer (some ⟨b5, 0, none⟩), .pointer (some ⟨b3, 0, none⟩)]) rfl trivial (enters_of Try.func65 (by kernel_rfl) rfl)
    (chunks_iter (3 - 1) w3 hv b5 b3 la 4096 (by decide) (by omega) HBx.out (fun i hi => (HD.out i hi).2)) (KD.refl _ _) (fun i hi => (HD.out i hi).2) (fun _ _ => rfl)
    (fun k W => Boxed W w.heap.size 32 (.slice pb lb.length cb) ∧ Boxed W w1.heap.size 32 (.slice (some ⟨w.heap.size + 1, 0, none⟩) lb.length lb.length) ∧
      W.ownsRow (w.heap.size + 1) 5 1 (.slice (some ⟨w.heap.size + 1, 0, none⟩) lb.length lb.length) lb.length ((curX la lb (min (chAt 4096 k) la.length)).map (Value.int .u8)) ∧ Below w.heap.size w W ∧ w3.heap.size ≤ W.heap.size)
    (fun _ _ => False)
    (fun s A C row hs hg hr => ⟨box_from hs.1 hg hr, box_from hs.2.1 hg hr, row_from hs.2.2.1 hg hr, below_from hs.2.2.2.1 (Nat.le_refl _) hg hr (by omega), Nat.le_trans hs.2.2.2.2 hg.size⟩)
    (fun _ _ _ _ hs _ _ => hs)
    (fun k v _ A C row hs hg hr => row_from hs hg hr)
    ⟨HX2.out.kept (grown_below (r := none) HB3.out) (by simp), HY2.out.kept (grown_below (r := none) HB3.out) (by simp), HO2.out.kept (grown_below (r := none) HB3.out) (.inr (by simp [Value.ownBlock])), HB2.out.trans (HB3.out.mono (by omega)), Nat.le_refl _⟩
    (fun k v => { tmps := #[.slice pa lb.length ca, .slice pb lb.length cb, undef, .pointer (some ⟨w.heap.size, 0, none⟩), .slice none 0 0, .int .i64 0, .pointer (some ⟨w1.heap.size, 0, none⟩), .int .i64 (chAt 4096 k : Nat), v, undef, undef, .slice pa lb.length ca, .int .i64 lb.length, .slice pb lb.length cb, .int .i64 lb.length, .bool false, .slice pa lb.length ca, .int .i64 lb.length,
      .slice (some ⟨w.heap.size + 1, 0, none⟩) lb.length lb.length, .slice pa lb.length ca, .func (.func 65) #[] #[.pointer (some ⟨b5, 0, none⟩), .pointer (some ⟨b3, 0, none⟩)], .int .i64 (chAt 4096 k : Nat), v,
      undef, undef, undef, undef, undef, undef, undef, undef, undef, undef, undef, undef, undef, undef, undef, undef, undef, undef, undef, undef, undef, undef], defers := [] }) ?assign ?body ?done ?stop
  case assign =>
    intro l k v W K hK
    gi_wp2
    exact hK
  case stop =>
    intro d c W _ h _
    exact h.elim
  case done =>
    rintro d W hd ⟨x1, x2, x3, x4, x5⟩ hK
    have c2 := x2.cell
    have HKD := hid hK
    have HN : Hid (min (chAt 4096 (chN la.length 4096)) la.length = la.length) := by
      show _ = _
      have h1 : ¬ chN la.length 4096 < chN la.length 4096 := Nat.lt_irrefl _
      rw [chN_iff (by decide)] at h1
      omega
    have HE : Hid (curX la lb la.length = xorL la lb) := by
      show _ = _
      unfold curX
      rw [List.take_of_length_le (by rw [xorL_length hlen]; exact Nat.le_refl _), Nat.sub_self]
      simp
    rw [HN.out, HE.out] at x3
    have X3 := hid x3
    have X4 := hid x4
    clear x1 x2 x3 x4 hK
    gi_wp2
    refine ⟨by simp, .inl ⟨_, _, rfl, run_takeDeferred HKD.out, ?_⟩⟩
    exact ⟨_, results_tmp2 rfl _ _ _, _, rfl, own_mono (ownsRow_putObj X3.out _ HKD.out rfl) (by omega), X4.out.trans (belowK_b (w := w) (Nat.le_refl _) W d _ _ (by omega) HKD.out rfl rfl)⟩
  case body =>
    rintro l k v W hl hrec ⟨x1, x2, x3, x4, x5⟩ hf hk
    have hAl : chAt 4096 k < la.length := (chN_iff (by decide)).1 hk
    obtain ⟨A, HAA⟩ : ∃ A, Hid (chAt 4096 k = A) := ⟨_, rfl⟩
    obtain ⟨pc, HPC⟩ : ∃ pc, Hid (chPiece la 4096 k = pc) := ⟨_, rfl⟩
    have hml : Hid (pc.length = min 4096 (la.length - A)) := by rw [← HPC.out, chPiece_length, HAA.out]; exact rfl
    obtain ⟨m, HM⟩ : ∃ m, Hid (pc.length = m) := ⟨_, rfl⟩
    rw [HAA.out] at hAl
    have hm1 : 1 ≤ m := by rw [← HM.out, hml.out]; omega
    have hm2 : A + m ≤ lb.length := by rw [← HM.out, hml.out]; omega
    rw [HPC.out, HM.out] at hf
    rw [HAA.out, Nat.min_eq_left (by omega)] at x3
    have X1 := hid x1
    have X2 := hid x2
    have X3 := hid x3
    have X4 := hid x4
    have HF := hid hf
    obtain ⟨gv, cv, hve⟩ : ∃ gv cv, v = .slice (some ⟨gv, 0, none⟩) m cv := by
      obtain ⟨m', rfl⟩ : ∃ m', m = m' + 1 := ⟨m - 1, by omega⟩
      exact ownsRow_succ hf
    subst hve
    clear x1 x2 x3 x4 hf hrec hl hk
    rw [HAA.out]
    gi_wp2
    gi_loopw [25] (fun i wr => ∃ I : Nat, I ≤ m ∧ i = .int .i64 I ∧ Hid (wr.ownsRow (w.heap.size + 1) 5 1 (.slice (some ⟨w.heap.size + 1, 0, none⟩) lb.length lb.length) lb.length ((curX la lb (A + I)).map (Value.int .u8))) ∧ Hid (W.grownBy wr (some (w.heap.size + 1)))) (fun i _ => m - (intOf i).toNat)
    case atStart => exact ⟨0, Nat.zero_le _, rfl, X3, ⟨rfl, rfl, rfl, Nat.le_refl _, fun _ _ _ => rfl⟩⟩
    case round =>
      obtain ⟨I, hI, rfl, HO, HG⟩ := hrel
      have b1 := (X1.out.kept HG.out (by simp)).cell
      have b2 := (X2.out.kept HG.out (by simp; omega)).cell
      by_cases hlt : I < m
      · have hgv := (HF.out.lt gv rfl).1
        have hfr := (HF.out.kept HG.out (.inr (by simp [Value.ownBlock]; omega))).cellAt I (by omega)
        obtain ⟨x, HX⟩ : ∃ x, Hid (la.getD (A + I) 0 = x) := ⟨_, rfl⟩
        obtain ⟨y, HY⟩ : ∃ y, Hid (lb.getD (A + I) 0 = y) := ⟨_, rfl⟩
        have hpx : (pc.map (Value.int .u8))[I]? = some (.int .u8 x) := by
          rw [List.getElem?_map, List.getElem?_eq_getElem (by rw [HM.out]; exact hlt), ← getD_of_lt (by rw [HM.out]; exact hlt), ← HX.out, ← HPC.out]
          unfold chPiece
          rw [HAA.out]
          simp only [List.getD, List.getElem?_drop, List.getElem?_take, Option.map_some]
          rw [if_pos]
          have := hml.out
          rw [HM.out] at this
          omega
        rw [hpx] at hfr
        have hBw : Below w.heap.size w wr := X4.out.trans ((Below.refl _ W).grown HG.out X4.out.size (fun k e => by cases e; omega))
        obtain ⟨bb, ob, cb', eb, _, _, hcl⟩ := (HBb.out.below hBw).ne (by omega)
        simp only [Value.slice.injEq, true_and] at eb
        obtain ⟨rfl, rfl⟩ := eb
        have hby := hcl (A + I) (by omega)
        rw [HY.out] at hby
        have hoc := HO.out.cellAt (A + I) (by omega)
        have hof := HO.out.frozenAt (A + I)
        have hol : (curX la lb (A + I)).length = la.length := curX_length hlen (by omega)
        obtain ⟨z, hz⟩ : ∃ z, ((curX la lb (A + I)).map (Value.int .u8))[A + I]? = some z := ⟨_, List.getElem?_eq_getElem (by simp; omega)⟩
        rw [hz] at hoc
        have hxb := hid (HA.out.byte (A + I))
        have HBW := hid hBw
        have HN := hid hol
        clear hpx hcl hz hBw hgv hol
        have hmx : Try.prog.follows .mixedOrders = true := by kernel_rfl
        obtain ⟨AI, hAI⟩ : ∃ AI, A + I = AI := ⟨_, rfl⟩
        have hwr : IntKind.i64.wrap ((A : Int) + (I : Int)) = (AI : Int) := by rw [IntKind.wrap_i64]; omega
        have hAI2 : AI < lb.length := by omega
        have hAI3 : (AI : Int) < (lb.length : Int) := by omega
        rw [hAI] at hby hoc hof
        have FIN : Hid ((wr.drew.setCell ⟨w.heap.size + 1, AI, none⟩ (.int .u8 (bits .xor .u8 x y))).ownsRow (w.heap.size + 1) 5 1 (.slice (some ⟨w.heap.size + 1, 0, none⟩) lb.length lb.length) lb.length ((curX la lb (A + (I + 1))).map (Value.int .u8)) ∧
            W.grownBy (wr.drew.setCell ⟨w.heap.size + 1, AI, none⟩ (.int .u8 (bits .xor .u8 x y))) (some (w.heap.size + 1))) := by
          have h1 : wr.drew.ownsRow (w.heap.size + 1) 5 1 (.slice (some ⟨w.heap.size + 1, 0, none⟩) lb.length lb.length) lb.length ((curX la lb (A + I)).map (Value.int .u8)) := HO.out
          have h2 := (h1.stored AI (.int .u8 (bits .xor .u8 x y))).1
          have e : ((curX la lb (A + I)).map (Value.int .u8)).set AI (.int .u8 (bits .xor .u8 x y)) = (curX la lb (A + (I + 1))).map (Value.int .u8) := by
            rw [← Nat.add_assoc, ← curX_step hlen (show A + I < la.length by omega), List.map_set, HX.out, HY.out, hAI]
            rfl
          rw [e] at h2
          have h3 : W.grownBy wr.drew (some (w.heap.size + 1)) := ⟨HG.out.os, HG.out.tape, HG.out.output, HG.out.size, HG.out.block⟩
          exact ⟨h2, grown_trans h3 (grown_set _ _ _ _)⟩
        gi_wp2
        refine wpIn_region_any hmx (any_round rfl (by kernel_rfl) _ _ _ _ ?_)
        change wpAnyIn _ _ _ _ _ _ _ _ _ (World.drew _)
        refine wpAnyIn_take (i := 1) (v := ?_) rfl rfl (by kernel_rfl) (by kernel_rfl) (by kernel_rfl) (fun _ _ _ h => h) ⟨Or.inl ⟨by rfl, ?q1⟩, fun _ => rfl⟩ ?_
        case q1 => intro w; go_simp; rfl
        refine wpAnyIn_take (i := 2) (v := ?_) rfl rfl (by kernel_rfl) (by kernel_rfl) (by kernel_rfl) (fun _ _ _ h => h) ⟨Or.inl ⟨by rfl, ?q2⟩, fun _ => rfl⟩ ?_
        case q2 => intro w; go_simp; rfl
        refine wpAnyIn_take (i := 3) (v := ?_) rfl rfl (by kernel_rfl) (by kernel_rfl) (by kernel_rfl) (fun _ _ _ h => h) ⟨Or.inl ⟨by rfl, ?q3⟩, fun _ => rfl⟩ ?_
        case q3 => intro w; go_simp; rfl
        refine wpAnyIn_take (i := 4) (v := ?_) rfl rfl (by kernel_rfl) (by kernel_rfl) (by kernel_rfl) (fun _ _ _ h => h) ⟨Or.inl ⟨by rfl, ?q4⟩, fun _ => rfl⟩ ?_
        case q4 => intro w; go_simp; rfl
        refine wpAnyIn_take (i := 6) (v := ?_) rfl rfl (by kernel_rfl) (by kernel_rfl) (by kernel_rfl) (fun _ _ _ h => h) ⟨Or.inl ⟨by rfl, ?q6⟩, fun _ => rfl⟩ ?_
        case q6 => intro w; go_simp; rfl
        refine wpAnyIn_take (i := 7) (v := ?_) rfl rfl (by kernel_rfl) (by kernel_rfl) (by kernel_rfl) (fun _ _ _ h => h) ⟨Or.inl ⟨by rfl, ?q7⟩, fun _ => rfl⟩ ?_
        case q7 => intro w; go_simp; rfl
        refine wpAnyIn_take (i := 8) (v := ?_) rfl rfl (by kernel_rfl) (by kernel_rfl) (by kernel_rfl) (fun _ _ _ h => h) ⟨Or.inl ⟨by rfl, ?q8⟩, fun _ => rfl⟩ ?_
        case q8 => intro w; go_simp; rfl
        refine wpAnyIn_ready (rs := [0, 5]) (by kernel_rfl) (by simp) ?_
        refine AllReadyIn.cons rfl (fun K hK => ?_) (AllReadyIn.cons rfl (fun K hK => ?_) AllReadyIn.nil)
        · go_simp
          refine hK _ _ ?_
          clear hK K
          refine wpAnyIn_ready (rs := [5]) (by kernel_rfl) (by simp) ?_
          refine AllReadyIn.cons rfl (fun K hK => ?_) AllReadyIn.nil
          go_simp
          refine hK _ _ ?_
          clear hK K
          refine wpAnyIn_ready (rs := [9]) (by kernel_rfl) (by simp) ?_
          refine AllReadyIn.cons rfl (fun K hK => ?_) AllReadyIn.nil
          go_simp
          refine hK _ _ ?_
          clear hK K
          refine wpAnyIn_ready (rs := [10]) (by kernel_rfl) (by simp) ?_
          refine AllReadyIn.cons rfl (fun K hK => ?_) AllReadyIn.nil
          go_simp
          refine hK _ _ ?_
          clear hK K
          refine wpAnyIn_ready (rs := [11]) (by kernel_rfl) (by simp) ?_
          refine AllReadyIn.cons rfl (fun K hK => ?_) AllReadyIn.nil
          go_simp
          refine hK _ _ ?_
          clear hK K
          refine wpAnyIn_ready (rs := [12]) (by kernel_rfl) (by simp) ?_
          refine AllReadyIn.cons rfl (fun K hK => ?_) AllReadyIn.nil
          go_simp
          refine hK _ _ ?_
          clear hK K
          refine wpAnyIn_ready (rs := [13]) (by kernel_rfl) (by simp) ?_
          refine AllReadyIn.cons rfl (fun K hK => ?_) AllReadyIn.nil
          go_simp
          refine hK _ _ ?_
          clear hK K
          refine wpAnyIn_done (by kernel_rfl) ?_ _
          clear hoc hof hby hfr
          gi_wp2
          go_roundw
          case rel => exact ⟨I + 1, by omega, by go_num, FIN.out.1, FIN.out.2⟩
          case measure => simp [intOf]; omega
        · go_simp
          refine hK _ _ ?_
          clear hK K
          refine wpAnyIn_ready (rs := [0, 9]) (by kernel_rfl) (by simp) ?_
          refine AllReadyIn.cons rfl (fun K hK => ?_) (AllReadyIn.cons rfl (fun K hK => ?_) AllReadyIn.nil)
          · go_simp
            refine hK _ _ ?_
            clear hK K
            refine wpAnyIn_ready (rs := [9]) (by kernel_rfl) (by simp) ?_
            refine AllReadyIn.cons rfl (fun K hK => ?_) AllReadyIn.nil
            go_simp
            refine hK _ _ ?_
            clear hK K
            refine wpAnyIn_ready (rs := [10]) (by kernel_rfl) (by simp) ?_
            refine AllReadyIn.cons rfl (fun K hK => ?_) AllReadyIn.nil
            go_simp
            refine hK _ _ ?_
            clear hK K
            refine wpAnyIn_ready (rs := [11]) (by kernel_rfl) (by simp) ?_
            refine AllReadyIn.cons rfl (fun K hK => ?_) AllReadyIn.nil
            go_simp
            refine hK _ _ ?_
            clear hK K
            refine wpAnyIn_ready (rs := [12]) (by kernel_rfl) (by simp) ?_
            refine AllReadyIn.cons rfl (fun K hK => ?_) AllReadyIn.nil
            go_simp
            refine hK _ _ ?_
            clear hK K
            refine wpAnyIn_ready (rs := [13]) (by kernel_rfl) (by simp) ?_
            refine AllReadyIn.cons rfl (fun K hK => ?_) AllReadyIn.nil
            go_simp
            refine hK _ _ ?_
            clear hK K
            refine wpAnyIn_done (by kernel_rfl) ?_ _
            clear hoc hof hby hfr
            gi_wp2
            go_roundw
            case rel => exact ⟨I + 1, by omega, by go_num, FIN.out.1, FIN.out.2⟩
            case measure => simp [intOf]; omega
          · go_simp
            refine hK _ _ ?_
            clear hK K
            refine wpAnyIn_ready (rs := [0, 10]) (by kernel_rfl) (by simp) ?_
            refine AllReadyIn.cons rfl (fun K hK => ?_) (AllReadyIn.cons rfl (fun K hK => ?_) AllReadyIn.nil)
            · go_simp
              refine hK _ _ ?_
              clear hK K
              refine wpAnyIn_ready (rs := [10]) (by kernel_rfl) (by simp) ?_
              refine AllReadyIn.cons rfl (fun K hK => ?_) AllReadyIn.nil
              go_simp
              refine hK _ _ ?_
              clear hK K
              refine wpAnyIn_ready (rs := [11]) (by kernel_rfl) (by simp) ?_
              refine AllReadyIn.cons rfl (fun K hK => ?_) AllReadyIn.nil
              go_simp
              refine hK _ _ ?_
              clear hK K
              refine wpAnyIn_ready (rs := [12]) (by kernel_rfl) (by simp) ?_
              refine AllReadyIn.cons rfl (fun K hK => ?_) AllReadyIn.nil
              go_simp
              refine hK _ _ ?_
              clear hK K
              refine wpAnyIn_ready (rs := [13]) (by kernel_rfl) (by simp) ?_
              refine AllReadyIn.cons rfl (fun K hK => ?_) AllReadyIn.nil
              go_simp
              refine hK _ _ ?_
              clear hK K
              refine wpAnyIn_done (by kernel_rfl) ?_ _
              clear hoc hof hby hfr
              gi_wp2
              go_roundw
              case rel => exact ⟨I + 1, by omega, by go_num, FIN.out.1, FIN.out.2⟩
              case measure => simp [intOf]; omega
            · go_simp
              refine hK _ _ ?_
              clear hK K
              refine wpAnyIn_ready (rs := [0, 11]) (by kernel_rfl) (by simp) ?_
              refine AllReadyIn.cons rfl (fun K hK => ?_) (AllReadyIn.cons rfl (fun K hK => ?_) AllReadyIn.nil)
              · go_simp
                refine hK _ _ ?_
                clear hK K
                refine wpAnyIn_ready (rs := [11]) (by kernel_rfl) (by simp) ?_
                refine AllReadyIn.cons rfl (fun K hK => ?_) AllReadyIn.nil
                go_simp
                refine hK _ _ ?_
                clear hK K
                refine wpAnyIn_ready (rs := [12]) (by kernel_rfl) (by simp) ?_
                refine AllReadyIn.cons rfl (fun K hK => ?_) AllReadyIn.nil
                go_simp
                refine hK _ _ ?_
                clear hK K
                refine wpAnyIn_ready (rs := [13]) (by kernel_rfl) (by simp) ?_
                refine AllReadyIn.cons rfl (fun K hK => ?_) AllReadyIn.nil
                go_simp
                refine hK _ _ ?_
                clear hK K
                refine wpAnyIn_done (by kernel_rfl) ?_ _
                clear hoc hof hby hfr
                gi_wp2
                go_roundw
                case rel => exact ⟨I + 1, by omega, by go_num, FIN.out.1, FIN.out.2⟩
                case measure => simp [intOf]; omega
              · go_simp
                refine hK _ _ ?_
                clear hK K
                refine wpAnyIn_ready (rs := [0]) (by kernel_rfl) (by simp) ?_
                refine AllReadyIn.cons rfl (fun K hK => ?_) AllReadyIn.nil
                go_simp
                refine hK _ _ ?_
                clear hK K
                refine wpAnyIn_ready (rs := [12]) (by kernel_rfl) (by simp) ?_
                refine AllReadyIn.cons rfl (fun K hK => ?_) AllReadyIn.nil
                go_simp
                refine hK _ _ ?_
                clear hK K
                refine wpAnyIn_ready (rs := [13]) (by kernel_rfl) (by simp) ?_
                refine AllReadyIn.cons rfl (fun K hK => ?_) AllReadyIn.nil
                go_simp
                refine hK _ _ ?_
                clear hK K
                refine wpAnyIn_done (by kernel_rfl) ?_ _
                clear hoc hof hby hfr
                gi_wp2
                go_roundw
                case rel => exact ⟨I + 1, by omega, by go_num, FIN.out.1, FIN.out.2⟩
                case measure => simp [intOf]; omega
      · have hIm : I = m := by omega
        subst hIm
        have HN : Hid (A + I = min (chAt 4096 (k + 1)) la.length) := by
          show _ = _
          have e : chAt 4096 (k + 1) = A + 4096 := by rw [← HAA.out]; unfold chAt; rw [Nat.succ_mul]
          have := hml.out
          rw [HM.out] at this
          rw [e]
          omega
        rw [HN.out] at HO
        clear b1 b2
        gi_wp2
        refine ⟨KeepsFrom.of_grownBy HG.out (fun j e => by cases e; omega), ⟨HG.out.size, fun i hi => HG.out.block i (by have := (HD.out i hi).2; omega) (by have := (HD.out i hi).1; simp; omega)⟩, X1.out.kept HG.out (by simp), X2.out.kept HG.out (by simp; omega), HO.out, ?_, Nat.le_trans x5 HG.out.size⟩
        exact X4.out.grown HG.out X4.out.size (fun k e => by cases e; omega)

set_option maxRecDepth 100000 in
set_option maxHeartbeats 1000000 in
theorem xor_unlike (w : World) (va vb : Value) (la lb : List Int) (ha : HB w va la) (hb : HB w vb lb) (hlen : la.length ≠ lb.length) :
    Calls Try.prog 37 #[va, vb] w fun e w' => e = .returned (.tuple #[.slice none 0 0, .int .i64 12]) ∧ Below w.heap.size w w' := by
  obtain ⟨pa, ca, rfl, _, _⟩ := ha.open
  obtain ⟨pb, cb, rfl, hcb, hcbm⟩ := hb.open
  clear ha hb
  have hne : ¬ ((la.length : Int) = (lb.length : Int)) := by omega
  go_enter Try.func37, Try.ntmps37
  go_wp2
  go_ret2
  exact ⟨rfl, (Below.refl _ w).alloc (Nat.le_refl _) _⟩

/-- What Xor answers: the list, and the error's number. -/
def xorA (la lb : List Int) : List Int := if la.length = lb.length then xorL la lb else []
def xorErr (la lb : List Int) : Int := if la.length = lb.length then 0 else 12

theorem xor_any (w : World) (va vb : Value) (la lb : List Int) (ha : HB w va la) (hb : HB w vb lb) (hbig : la.length ≤ 140737488351232) :
    Calls Try.prog 37 #[va, vb] w fun e w' => ∃ v', e = .returned (.tuple #[v', .int .i64 (xorErr la lb)]) ∧ w'.ownsRow w.heap.size 5 1 v' (xorA la lb).length ((xorA la lb).map (Value.int .u8)) ∧ Below w.heap.size w w' := by
  by_cases h : la.length = lb.length
  · refine (xor_same w va vb la lb ha hb h hbig).mono ?_
    rintro e w' ⟨v', rfl, h1, h2⟩
    unfold xorErr xorA
    rw [if_pos h, if_pos h, xorL_length h]
    exact ⟨v', rfl, h1, h2⟩
  · refine (xor_unlike w va vb la lb ha hb h).mono ?_
    rintro e w' ⟨rfl, h2⟩
    unfold xorErr xorA
    rw [if_neg h, if_neg h]
    exact ⟨_, rfl, World.ownsRow_nil _ _ _ _, h2⟩

theorem xorA_byt {la lb : List Int} (ha : ∀ x ∈ la, 0 ≤ x ∧ x < 256) (hb : ∀ x ∈ lb, 0 ≤ x ∧ x < 256) : ∀ x ∈ xorA la lb, 0 ≤ x ∧ x < 256 := by
  unfold xorA
  split
  · exact xorL_byt ha hb
  · simp
theorem xorA_length (la lb : List Int) : (xorA la lb).length ≤ la.length := by
  unfold xorA
  split
  · rename_i h; rw [xorL_length h]; exact Nat.le_refl _
  · simp
end Go.Proofs.Ytbafegpiipkmbaa
