/- Of the road to shareOneCard_holds: ShOneWalk, ShoLaid. -/
import Derived.Test.YtdgollnapbonjaaGreatDoorG19
import Derived.Test.YtdgollnapbonjaaGreatDoorG23
import Derived.Test.YtdgollnapbonjaaGreatDoorRows
import Derived.Test.YtdgollnapbonjaaGreatDoorG01
import Derived.Test.YtdgollnapbonjaaGreatDoorG02
import Derived.Test.YtdgollnapbonjaaGreatDoorG14
import Derived.ProofKit
import Derived.OpenShut
import Derived.LaidLaws
import Derived.Lay
import Derived.MakeChecks
import Derived.Stop.LaidErr
import Derived.Lib.LaidTab
set_option linter.unusedVariables false
set_option linter.unusedSimpArgs false
set_option maxRecDepth 100000
set_option maxHeartbeats 16000000
namespace Go.Proofs.YtdgollnapbonjaaGreatDoor
open Go Go.RowKit
def soF (g I b1 o1 n1 c1 b2 o2 n2 c2 : Nat) (p1 p2 : Option Addr) (z1 k1 z2 k2 : Nat) (l1 l2 : List Int) : Nat -> World -> Value -> Prop
 | 0, w, v => v = .pointer (some ⟨g, 72, none⟩)
 | 1, w, v => v = .slice (some ⟨b1, o1, none⟩) n1 c1
 | 2, w, v => v = .int .i64 (I : Int)
 | 3, w, v => v = .pointer (some ⟨b1, o1 + I, none⟩)
 | 4, w, v => v = .slice p1 z1 k1
 | 5, w, v => HL1 w v [l1]
 | 6, w, v => SlH w v (t1B wBlock l1)
 | 7, w, v => v = .pointer (some ⟨g + 1, 72, none⟩)
 | 8, w, v => v = .slice (some ⟨b2, o2, none⟩) n2 c2
 | 9, w, v => v = .int .i64 (I : Int)
 | 10, w, v => v = .pointer (some ⟨b2, o2 + I, none⟩)
 | 11, w, v => v = .slice p2 z2 k2
 | 12, w, v => HL1 w v [l2]
 | 13, w, v => SlH w v (t1B wBlock l2)
 | 14, w, v => ∃ t : Bool, v = .bool t /\ (t = false -> NoC (t1B wBlock l1) (t1B wBlock l2))
 | _, _, _ => True
theorem soF_below (g I b1 o1 n1 c1 b2 o2 n2 c2 : Nat) (p1 p2 : Option Addr) (z1 k1 z2 k2 : Nat) (l1 l2 : List Int) : ∀ (k : Nat) (w w' : World) (v : Value), soF g I b1 o1 n1 c1 b2 o2 n2 c2 p1 p2 z1 k1 z2 k2 l1 l2 k w v -> Below w.heap.size w w' -> soF g I b1 o1 n1 c1 b2 o2 n2 c2 p1 p2 z1 k1 z2 k2 l1 l2 k w' v := by
 intro k w w' v h hb
 match k, h with
 | 0, h => exact h
 | 1, h => exact h
 | 2, h => exact h
 | 3, h => exact h
 | 4, h => exact h
 | 5, ⟨g, e, h⟩ => exact ⟨g, e, h.below hb⟩
 | 6, ⟨p, c, e, h⟩ => exact ⟨p, c, e, h.below hb⟩
 | 7, h => exact h
 | 8, h => exact h
 | 9, h => exact h
 | 10, h => exact h
 | 11, h => exact h
 | 12, ⟨g, e, h⟩ => exact ⟨g, e, h.below hb⟩
 | 13, ⟨p, c, e, h⟩ => exact ⟨p, c, e, h.below hb⟩
 | 14, h => exact h
 | k + 15, h => trivial
def dstO (k : Nat) : Nat := 99 + k
theorem t1B_block_len (l : List Int) : (t1B wBlock l).length <= l.length + 1000 := by
 unfold t1B
 rw [framed_cons, framed_cons]
 simp [framed, pcs, bigL, wBlock]
theorem wpList_load_midG {ops : Array Oper} {rest : List Oper} {op : Oper} {a : Act} {w : World} {Q : Exit -> Act -> World -> Prop} (hgd : Region.wanted op (yielded ops a.tmps) = true) (ty : TypeId) (x : Operand) (ho : op.op = .load ty x)
  (b o : Nat) (hx : a.eval x = .pointer (some ⟨b, o, none⟩)) (cs : List Value) (d : TypeDesc) (hc : w.rangeAt b o cs)
  (hu : Tryz.prog.underlying ty = some d) (hd : d.isRow = true) (hi : (Tryz.prog.info? ty).map (·.size) = some cs.length)
  (h : wpList Tryz.prog ops Q rest (a.put op.dst (.agg cs.toArray)) w) : wpList Tryz.prog ops Q (op :: rest) a w := by
 unfold wpList
 rw [if_pos hgd]
 exact .inl (wp_load_mid ty x ho b o hx cs d hc hu hd hi h)
theorem shareOne_any (w : World) (s t : Sr) (vc vb vs vd uc ub us ud : Value) (hs : HSr w s vc vb vs vd) (ht : HSr w t uc ub us ud) (hkp : KP w) (hkc : KC w) : Calls Tryz.prog 3 #[.agg (srA s vc vb vs vd), .agg (srA t uc ub us ud)] w fun e w' => e = .returned (.bool true) /\ Below w.heap.size w w' := by
 have CF := hid fun (W : World) (hb : Below w.heap.size w W) => sameShare_any W s t vc vb vs vd uc ub us ud (hs.below hb) (ht.below hb)
 have CS1 := hid fun (W : World) (hb : Below w.heap.size w W) => sound_any W s vc vb vs vd (hs.below hb) (hkp.below hb) (hkc.below hb)
 have CS2 := hid fun (W : World) (hb : Below w.heap.size w W) => sound_any W t uc ub us ud (ht.below hb) (hkp.below hb) (hkc.below hb)
 have CLV := hid fun (W : World) (hb : Below w.heap.size w W) => lives_any W (hkp.below hb)
 have CCL := hid fun (W : World) (hb : Below w.heap.size w W) => climbs_any W s t vc vb vs uc ub us (hs.fr.below hb) (ht.fr.below hb)
 have CN1 := hid fun (W : World) (hb : Below w.heap.size w W) => nodes_any W vb ub s.bl t.bl ((hs.fr.below hb).bl) ((ht.fr.below hb).bl)
 have CN2 := hid fun (W : World) (hb : Below w.heap.size w W) => nodes_any W vs us s.sg t.sg ((hs.fr.below hb).sg) ((ht.fr.below hb).sg)
 have OA : Hid s.ok := hid ⟨hs.fr.u, hs.fr.ch.2, hs.fr.bl.2, hs.fr.sg.2, fun l hl x hx => hs.dt.byt x (by first | exact List.mem_flatten.2 ⟨l, hl, hx⟩ | (simp; exact ⟨l, hl, hx⟩))⟩
 have OB : Hid t.ok := hid ⟨ht.fr.u, ht.fr.ch.2, ht.fr.bl.2, ht.fr.sg.2, fun l hl x hx => ht.dt.byt x (by first | exact List.mem_flatten.2 ⟨l, hl, hx⟩ | (simp; exact ⟨l, hl, hx⟩))⟩
 have hsu := hs.fr.u
 have htu := ht.fr.u
 have HSF1 := hid (size_frL hsu vc vb vs)
 have HSS1 : Hid ((Tryz.prog.info? 31).map (·.size) = some (srL s vc vb vs vd).length) := hid (by rw [srL_length hsu]; exact size_share)
 have HSU1 := hid (size_ubL' hsu)
 have d1 := hid (srA_dt hsu vc vb vs vd)
 have n1 : Hid ((srA s vc vb vs vd)[0]? = some (.int .i64 s.num)) := hid ((srA_fr hsu vc vb vs vd 0 (by omega)).trans (frA_num _ _ _ _))
 have c1 : Hid ((srA s vc vb vs vd)[70]? = some vb) := hid ((srA_fr hsu vc vb vs vd 70 (by omega)).trans (frA_bl hsu _ _ _))
 have g1 : Hid ((srA s vc vb vs vd)[71]? = some vs) := hid ((srA_fr hsu vc vb vs vd 71 (by omega)).trans (frA_sg hsu _ _ _))
 have HFRA1 : Hid (∀ j, j < (frL s vc vb vs).length -> (srA s vc vb vs vd)[0 + j]? = (frL s vc vb vs)[j]?) := hid (fun j hj => by
  rw [Nat.zero_add, srA_fr hsu vc vb vs vd j (by rw [frL_length hsu] at hj; exact hj)]
  unfold frA
  rw [List.getElem?_toArray])
 have HUBA1 : Hid (∀ j, j < (ubL s.u).length -> (srA s vc vb vs vd)[1 + j]? = (ubL s.u)[j]?) := hid (fun j hj => by
  rw [ubL_length hsu] at hj
  rw [srA_fr hsu vc vb vs vd (1 + j) (by omega), frA_ub hsu _ _ _ j hj])
 have HSRA1 : Hid (∀ j, j < (srL s vc vb vs vd).length -> (srA s vc vb vs vd)[0 + j]? = (srL s vc vb vs vd)[j]?) := hid (fun j hj => by
  rw [Nat.zero_add]
  unfold srA
  rw [List.getElem?_toArray])
 have HFA1 : Hid ((frL s vc vb vs).toArray = frA s vc vb vs) := rfl
 have HUA1 : Hid ((ubL s.u).toArray = ubA s.u) := rfl
 have HSA1 : Hid ((srL s vc vb vs vd).toArray = srA s vc vb vs vd) := rfl
 obtain ⟨m1, Hm1⟩ : ∃ x, Hid (srA s vc vb vs vd = x) := ⟨_, rfl⟩
 rw [Hm1.out] at HFRA1 HUBA1 HSRA1 HSA1 CF CS1 d1 n1 c1 g1
 rw [Hm1.out]
 obtain ⟨fL1, HfL1⟩ : ∃ x, Hid (frL s vc vb vs = x) := ⟨_, rfl⟩
 rw [HfL1.out] at HSF1 HFRA1 HFA1
 obtain ⟨sL1, HsL1⟩ : ∃ x, Hid (srL s vc vb vs vd = x) := ⟨_, rfl⟩
 rw [HsL1.out] at HSRA1 HSA1 HSS1
 obtain ⟨fA1, HfA1⟩ : ∃ x, Hid (frA s vc vb vs = x) := ⟨_, rfl⟩
 rw [HfA1.out] at HFA1 CCL
 obtain ⟨uL1, HuL1⟩ : ∃ x, Hid (ubL s.u = x) := ⟨_, rfl⟩
 rw [HuL1.out] at HUBA1 HUA1 HSU1
 have HSF2 := hid (size_frL htu uc ub us)
 have HSS2 : Hid ((Tryz.prog.info? 31).map (·.size) = some (srL t uc ub us ud).length) := hid (by rw [srL_length htu]; exact size_share)
 have HSU2 := hid (size_ubL' htu)
 have d2 := hid (srA_dt htu uc ub us ud)
 have n2 : Hid ((srA t uc ub us ud)[0]? = some (.int .i64 t.num)) := hid ((srA_fr htu uc ub us ud 0 (by omega)).trans (frA_num _ _ _ _))
 have c2 : Hid ((srA t uc ub us ud)[70]? = some ub) := hid ((srA_fr htu uc ub us ud 70 (by omega)).trans (frA_bl htu _ _ _))
 have g2 : Hid ((srA t uc ub us ud)[71]? = some us) := hid ((srA_fr htu uc ub us ud 71 (by omega)).trans (frA_sg htu _ _ _))
 have HFRA2 : Hid (∀ j, j < (frL t uc ub us).length -> (srA t uc ub us ud)[0 + j]? = (frL t uc ub us)[j]?) := hid (fun j hj => by
  rw [Nat.zero_add, srA_fr htu uc ub us ud j (by rw [frL_length htu] at hj; exact hj)]
  unfold frA
  rw [List.getElem?_toArray])
 have HUBA2 : Hid (∀ j, j < (ubL t.u).length -> (srA t uc ub us ud)[1 + j]? = (ubL t.u)[j]?) := hid (fun j hj => by
  rw [ubL_length htu] at hj
  rw [srA_fr htu uc ub us ud (1 + j) (by omega), frA_ub htu _ _ _ j hj])
 have HSRA2 : Hid (∀ j, j < (srL t uc ub us ud).length -> (srA t uc ub us ud)[0 + j]? = (srL t uc ub us ud)[j]?) := hid (fun j hj => by
  rw [Nat.zero_add]
  unfold srA
  rw [List.getElem?_toArray])
 have HFA2 : Hid ((frL t uc ub us).toArray = frA t uc ub us) := rfl
 have HUA2 : Hid ((ubL t.u).toArray = ubA t.u) := rfl
 have HSA2 : Hid ((srL t uc ub us ud).toArray = srA t uc ub us ud) := rfl
 obtain ⟨m2, Hm2⟩ : ∃ x, Hid (srA t uc ub us ud = x) := ⟨_, rfl⟩
 rw [Hm2.out] at HFRA2 HUBA2 HSRA2 HSA2 CF CS2 d2 n2 c2 g2
 rw [Hm2.out]
 obtain ⟨fL2, HfL2⟩ : ∃ x, Hid (frL t uc ub us = x) := ⟨_, rfl⟩
 rw [HfL2.out] at HSF2 HFRA2 HFA2
 obtain ⟨sL2, HsL2⟩ : ∃ x, Hid (srL t uc ub us ud = x) := ⟨_, rfl⟩
 rw [HsL2.out] at HSRA2 HSA2 HSS2
 obtain ⟨fA2, HfA2⟩ : ∃ x, Hid (frA t uc ub us = x) := ⟨_, rfl⟩
 rw [HfA2.out] at HFA2 CCL
 obtain ⟨uL2, HuL2⟩ : ∃ x, Hid (ubL t.u = x) := ⟨_, rfl⟩
 rw [HuL2.out] at HUBA2 HUA2 HSU2
 clear Hm1 Hm2 HfL1 HfL2 HsL1 HsL2 HfA1 HfA2 HuL1 HuL2
 obtain ⟨w0, HW0⟩ : ∃ x, Hid ((w.alloc (.cells m1 31)).alloc (.cells m2 31) = x) := ⟨_, rfl⟩
 have H1 : Hid (w0.heap[w.heap.size]? = some (.cells m1 31 (0, 0))) := by refine hid ?_; rw [<- HW0.out]; exact (heap_alloc_old _ _ (by simp)).trans (heap_alloc_new w _)
 have H2 : Hid (w0.heap[w.heap.size + 1]? = some (.cells m2 31 (0, 0))) := by
  refine hid ?_
  rw [<- HW0.out]
  have := heap_alloc_new (w.alloc (.cells m1 31)) (.cells m2 31)
  simpa using this
 have B0 : Hid (Below w.heap.size w w0) := by refine hid ?_; rw [<- HW0.out]; exact ((Below.refl w.heap.size w).alloc (Nat.le_refl _) _).alloc (by simp) _
 have Z0 : Hid (w0.heap.size = w.heap.size + 2) := by refine hid ?_; rw [<- HW0.out]; simp
 have K1 : Hid (∀ W, Below w0.heap.size w0 W -> W.heap[w.heap.size]? = some (.cells m1 31 (0, 0)) /\ W.heap[w.heap.size + 1]? = some (.cells m2 31 (0, 0)) /\ Below w.heap.size w W) := hid fun W hW => ⟨(hW.block w.heap.size (by rw [Z0.out]; omega)).trans H1.out, (hW.block (w.heap.size + 1) (by rw [Z0.out]; omega)).trans H2.out, B0.out.trans (hW.mono B0.out.size)⟩
 have RS : Hid (∀ W, Below w0.heap.size w0 W -> W.rangeAt w.heap.size 0 sL1 /\ W.rangeAt (w.heap.size + 1) 0 sL2 /\ W.rangeAt w.heap.size 1 uL1 /\ W.rangeAt (w.heap.size + 1) 1 uL2 /\ W.rangeAt w.heap.size 0 fL1 /\ W.rangeAt (w.heap.size + 1) 0 fL2) := hid fun W hW =>
  ⟨range_of_row (K1.out W hW).1 HSRA1.out, range_of_row (K1.out W hW).2.1 HSRA2.out, range_of_row (K1.out W hW).1 HUBA1.out, range_of_row (K1.out W hW).2.1 HUBA2.out, range_of_row (K1.out W hW).1 HFRA1.out, range_of_row (K1.out W hW).2.1 HFRA2.out⟩
 go_enter Tryz.func3, Tryz.ntmps3
 refine wp_seq_k fun K2 h1 => ?_
 have HK2 := hid h1
 clear h1
 go_wp2
 rw [HW0.out]
 refine HK2.out _ _ ?_
 clear HK2 K2
 go_wp2_with fail
 refine (CLV.out w0 B0.out).mono ?_
 rintro e w1 ⟨rfl, hb1⟩
 have B1 := hid hb1
 have RS1 := hid (RS.out w1 hb1)
 clear hb1
 go_wp2_with (first | (refine wpList_load_mid rfl 31 _ rfl w.heap.size 0 rfl sL1 _ RS1.out.1 Tryz.underlying31 rfl HSS1.out ?_; rw [HSA1.out]) | fail)
 as_aux_lemma =>
 refine (CS1.out w1 (K1.out w1 B1.out).2.2).mono ?_
 rintro e w2 ⟨t1, rfl, hi1, hb2⟩
 have I1 := hid hi1
 have B2 := hid (B1.out.trans (hb2.mono B1.out.size))
 have RS2 := hid (RS.out w2 B2.out)
 clear hb2 hi1 B1 RS1
 rcases (Bool.eq_false_or_eq_true t1).symm with hbt | hbt
 ·subst hbt
  have B9 := hid (K1.out w2 B2.out).2.2
  go_wp2
  go_ret
  exact ⟨rfl, B9.out⟩
 subst hbt
 have S1 := hid (I1.out rfl)
 clear I1
 go_wp2_with (first | (refine wpList_load_midG (by kernel_rfl) 31 _ rfl (w.heap.size + 1) 0 rfl sL2 _ RS2.out.2.1 Tryz.underlying31 rfl HSS2.out ?_; rw [HSA2.out]) | fail)
 as_aux_lemma =>
 refine (CS2.out w2 (K1.out w2 B2.out).2.2).mono ?_
 rintro e w3 ⟨t2, rfl, hi2, hb3⟩
 have I2 := hid hi2
 have B3 := hid (B2.out.trans (hb3.mono B2.out.size))
 have RS3 := hid (RS.out w3 B3.out)
 clear hb3 hi2 B2 RS2
 rcases (Bool.eq_false_or_eq_true t2).symm with hbt | hbt
 ·subst hbt
  have B9 := hid (K1.out w3 B3.out).2.2
  go_wp2
  go_ret
  exact ⟨rfl, B9.out⟩
 subst hbt
 have S2 := hid (I2.out rfl)
 clear I2
 have M1 : Hid (s.bl.length <= 100000 /\ s.sg.length <= 100000) := hid (by have h1 := S1.out.may.fr.bl; have h2 := S1.out.may.fr.sg; have := (ndN_le (upI s.u.z s.u.g)).2; omega)
 have M2 : Hid (t.bl.length <= 100000 /\ t.sg.length <= 100000) := hid (by have h1 := S2.out.may.fr.bl; have h2 := S2.out.may.fr.sg; have := (ndN_le (upI t.u.z t.u.g)).2; omega)
 have CW1 := hid fun (W : World) => rwrite_ok W s.u hsu S1.out.may.fr.ok
 have CW2 := hid fun (W : World) => rwrite_ok W t.u htu S2.out.may.fr.ok
 obtain ⟨uA1, HuA1⟩ : ∃ x, Hid (ubA s.u = x) := ⟨_, rfl⟩
 obtain ⟨uA2, HuA2⟩ : ∃ x, Hid (ubA t.u = x) := ⟨_, rfl⟩
 rw [HuA1.out] at CW1 HUA1
 rw [HuA2.out] at CW2 HUA2
 clear HuA1 HuA2
 go_wp2_with (first | (refine wpList_load_mid rfl 25 _ rfl w.heap.size 1 rfl uL1 _ RS3.out.2.2.1 Tryz.underlying25 rfl HSU1.out ?_; rw [HUA1.out]) | fail)
 as_aux_lemma =>
 refine (CW1.out w3).mono ?_
 rintro e w4 ⟨v1, rfl, hv1, hb4⟩
 have V1 := hid hv1
 have B4 := hid (B3.out.trans (hb4.mono B3.out.size))
 have RS4 := hid (RS.out w4 B4.out)
 clear hb4 hv1 B3 RS3 CW1
 go_wp2_with (first | (refine wpList_load_mid rfl 25 _ rfl (w.heap.size + 1) 1 rfl uL2 _ RS4.out.2.2.2.1 Tryz.underlying25 rfl HSU2.out ?_; rw [HUA2.out]) | fail)
 as_aux_lemma =>
 refine (CW2.out w4).mono ?_
 rintro e w5 ⟨v2, rfl, hv2, hb5⟩
 have V2 := hid hv2
 have V1 := hid (V1.out.below hb5)
 have B5 := hid (B4.out.trans (hb5.mono B4.out.size))
 have RS5 := hid (RS.out w5 B5.out)
 have x1 : w5.cell? ⟨w.heap.size, 0, none⟩ = some (.int .i64 s.num) := (cell_of_row _ _ _ _ _ _ (K1.out w5 B5.out).1).trans n1.out
 have x2 : w5.cell? ⟨w.heap.size + 1, 0, none⟩ = some (.int .i64 t.num) := (cell_of_row _ _ _ _ _ _ (K1.out w5 B5.out).2.1).trans n2.out
 have L1 : Hid ((wrL s.u).length <= 1500) := hid (by rw [wrL_len hsu]; have := uL_le s.u.k s.u.n s.u.g s.u.z; omega)
 have L2 : Hid ((wrL t.u).length <= 1500) := hid (by rw [wrL_len htu]; have := uL_le t.u.k t.u.n t.u.g t.u.z; omega)
 have CU1 := hid (rueb_any w5 v1 _ V1.out L1.out)
 clear hb5 hv2 B4 RS4 CW2
 by_cases hn : s.num = t.num
 case neg =>
  have B9 := hid (K1.out w5 B5.out).2.2
  have hn' : (s.num == t.num) = false := by simpa using hn
  go_wp2
  go_ret
  exact ⟨rfl, B9.out⟩
 case pos =>
  rw [<- hn] at x2
  go_wp2_with fail
  as_aux_lemma =>
  refine CU1.out.mono ?_
  rintro e w6 ⟨rfl, hb6⟩
  have V1 := hid (V1.out.below hb6)
  have V2 := hid (V2.out.below hb6)
  have B6 := hid (B5.out.trans (hb6.mono B5.out.size))
  have CU2 := hid (rueb_any w6 v2 _ V2.out L2.out)
  clear hb6 CU1 x1 x2 B5 RS5
  go_wp2_with fail
  as_aux_lemma =>
  refine CU2.out.mono ?_
  rintro e w7 ⟨rfl, hb7⟩
  have V1 := hid (V1.out.below hb7)
  have V2 := hid (V2.out.below hb7)
  have B7 := hid (B6.out.trans (hb7.mono B6.out.size))
  have RS7 := hid (RS.out w7 B7.out)
  clear hb7 CU2 B6
  have dr : ∀ d, (ueL d).length = 32 := fun d => digL_length _
  obtain ⟨y1, Hy1⟩ : ∃ x, Hid (ueL (wrL s.u) = x) := ⟨_, rfl⟩
  obtain ⟨y2, Hy2⟩ : ∃ x, Hid (ueL (wrL t.u) = x) := ⟨_, rfl⟩
  rw [Hy1.out, Hy2.out]
  have hq := fun w => run_neq_bytes w 32 23 Tryz.underlying23 y1 y2 (by rw [<- Hy1.out]; exact dr _) (by rw [<- Hy2.out]; exact dr _)
  by_cases hy : y1 = y2
  case neg =>
   have hyb : (y1 != y2) = true := by simpa using hy
   have B9 := hid (K1.out w7 B7.out).2.2
   go_wp2
   go_ret
   exact ⟨rfl, B9.out⟩
  case pos =>
   have HU : Hid (ueL (wrL s.u) = ueL (wrL t.u)) := hid (by rw [Hy1.out, Hy2.out]; exact hy)
   have hyb : (!decide (y1 = y2)) = false := by simp [hy]
   rw [hyb] at hq
   clear hy
   go_wp2_with (first | (refine wpList_load_midG (by kernel_rfl) 31 _ rfl w.heap.size 0 rfl sL1 _ RS7.out.1 Tryz.underlying31 rfl HSS1.out ?_; rw [HSA1.out]) | (refine wpList_load_midG (by kernel_rfl) 31 _ rfl (w.heap.size + 1) 0 rfl sL2 _ RS7.out.2.1 Tryz.underlying31 rfl HSS2.out ?_; rw [HSA2.out]) | fail)
   as_aux_lemma =>
   refine (CF.out w7 (K1.out w7 B7.out).2.2).mono ?_
   rintro e w8 ⟨t3, rfl, hi3, hb8⟩
   have I3 := hid hi3
   have V1 := hid (V1.out.below hb8)
   have V2 := hid (V2.out.below hb8)
   have B8 := hid (B7.out.trans (hb8.mono B7.out.size))
   have RS8 := hid (RS.out w8 B8.out)
   clear hb8 hi3 B7 RS7 hq hyb
   rcases (Bool.eq_false_or_eq_true t3) with hbt | hbt
   ·subst hbt
    have B9 := hid (K1.out w8 B8.out).2.2
    go_wp2
    go_ret
    exact ⟨rfl, B9.out⟩
   subst hbt
   have NE : Hid (s ≠ t) := hid (fun h => by have := I3.out.2 h; cases this)
   clear I3
   obtain ⟨p1, k1, ev1, _, _⟩ := V1.out.open
   obtain ⟨p2, k2, ev2, _, _⟩ := V2.out.open
   subst ev1 ev2
   have T1 : Hid ((t1B wUeb (wrL s.u)).length <= 10000) := hid (by have := L1.out; unfold t1B; rw [framed_cons, framed_cons]; simp [framed, pcs, bigL, wUeb]; omega)
   have T2 : Hid ((t1B wUeb (wrL t.u)).length <= 10000) := hid (by have := L2.out; unfold t1B; rw [framed_cons, framed_cons]; simp [framed, pcs, bigL, wUeb]; omega)
   obtain ⟨z1, Hz1⟩ : ∃ x, Hid ((wrL s.u).length = x) := ⟨_, rfl⟩
   obtain ⟨z2, Hz2⟩ : ∃ x, Hid ((wrL t.u).length = x) := ⟨_, rfl⟩
   rw [Hz1.out] at V1 ⊢
   rw [Hz2.out] at V2 ⊢
   have HG := heap_alloc_new w8 (.cells #[.slice p1 z1 k1] 34)
   have BA := (Below.refl w8.heap.size w8).alloc (Nat.le_refl _) (.cells #[.slice p1 z1 k1] 34)
   have CL1 := hid (rlist_ueb _ _ _ (HL.one HG (V1.out.below BA)) (by have := L1.out; omega))
   have V2 := hid (V2.out.below BA)
   have B9 := hid (B8.out.trans (BA.mono B8.out.size))
   clear HG BA
   go_wp2_with fail
   as_aux_lemma =>
   refine CL1.out.mono ?_
   rintro e w9 ⟨x1, rfl, hx1, hb9⟩
   have X1 := hid hx1
   have V2 := hid (V2.out.below hb9)
   have B9 := hid (B9.out.trans (hb9.mono B9.out.size))
   clear hx1 hb9 CL1
   have HG := heap_alloc_new w9 (.cells #[.slice p2 z2 k2] 34)
   have BA := (Below.refl w9.heap.size w9).alloc (Nat.le_refl _) (.cells #[.slice p2 z2 k2] 34)
   have CL2 := hid (rlist_ueb _ _ _ (HL.one HG (V2.out.below BA)) (by have := L2.out; omega))
   have X1 := hid (X1.out.below BA)
   have B10 := hid (B9.out.trans (BA.mono B9.out.size))
   clear HG BA
   go_wp2_with fail
   as_aux_lemma =>
   refine CL2.out.mono ?_
   rintro e w10 ⟨x2, rfl, hx2, hb10⟩
   have X2 := hid hx2
   have X1 := hid (X1.out.below hb10)
   have B10 := hid (B10.out.trans (hb10.mono B10.out.size))
   clear hx2 hb10 CL2 B8 B9 RS8
   have CC := hid (clash_any w10 _ _ _ _ X1.out X2.out (by have := T1.out; omega) (by have := T2.out; omega))
   obtain ⟨cl, HCL⟩ : ∃ c, Hid (decide (t1B wUeb (wrL s.u) ≠ t1B wUeb (wrL t.u) /\ digL (t1B wUeb (wrL s.u)) = digL (t1B wUeb (wrL t.u))) = c) := ⟨_, rfl⟩
   rw [HCL.out] at CC
   go_wp2_with fail
   as_aux_lemma =>
   refine CC.out.mono ?_
   rintro e w11 ⟨rfl, hb11⟩
   have B11 := hid (B10.out.trans (hb11.mono B10.out.size))
   clear hb11 CC B10 X1 X2
   cases cl with
   | true =>
    have B9 := hid (K1.out w11 B11.out).2.2
    go_wp2
    go_ret
    exact ⟨rfl, B9.out⟩
   | false =>
    have C1 : Hid (NoC (t1B wUeb (wrL s.u)) (t1B wUeb (wrL t.u))) := hid (of_decide_eq_false HCL.out)
    have EU := ueb_same OA.out OB.out S1.out S2.out HU.out C1.out
    obtain ⟨k, num, j1, j2, j3, j4, j5, j6, j7, j8⟩ := climbs_ready S1.out S2.out hn EU
    have G8 := hid j8
    have CCL := hid (CCL.out w11 (K1.out w11 B11.out).2.2 k num j1 j2 j3 j4 j5 j6 j7)
    have RS11 := hid (RS.out w11 B11.out)
    clear j1 j2 j3 j4 j5 j6 j7 j8 EU
    go_wp2_with (first | (refine wpList_load_midG (by kernel_rfl) 28 _ rfl w.heap.size 0 rfl fL1 _ RS11.out.2.2.2.2.1 Tryz.underlying28 rfl HSF1.out ?_; rw [HFA1.out]) | (refine wpList_load_midG (by kernel_rfl) 28 _ rfl (w.heap.size + 1) 0 rfl fL2 _ RS11.out.2.2.2.2.2 Tryz.underlying28 rfl HSF2.out ?_; rw [HFA2.out]) | fail)
    as_aux_lemma =>
    refine CCL.out.mono ?_
    rintro e w12 ⟨t4, rfl, hi4, hb12⟩
    have I4 := hid hi4
    have B12 := hid (B11.out.trans (hb12.mono B11.out.size))
    clear hb12 hi4 CCL RS11 B11
    rcases (Bool.eq_false_or_eq_true t4) with hbt | hbt
    ·subst hbt
     have B9 := hid (K1.out w12 B12.out).2.2
     go_wp2
     go_ret
     exact ⟨rfl, B9.out⟩
    subst hbt
    have C2 := hid (I4.out rfl).1
    have C3 := hid (G8.out (I4.out rfl).2)
    clear I4 G8
    have y1 : w12.cell? ⟨w.heap.size, 70, none⟩ = some vb := (cell_of_row _ _ _ _ _ _ (K1.out w12 B12.out).1).trans c1.out
    have y2 : w12.cell? ⟨w.heap.size + 1, 70, none⟩ = some ub := (cell_of_row _ _ _ _ _ _ (K1.out w12 B12.out).2.1).trans c2.out
    have CN := hid (CN1.out w12 (K1.out w12 B12.out).2.2 M1.out.1 M2.out.1)
    go_wp2_with fail
    as_aux_lemma =>
    refine CN.out.mono ?_
    rintro e w13 ⟨t5, rfl, hi5, hb13⟩
    have I5 := hid hi5
    have B13 := hid (B12.out.trans (hb13.mono B12.out.size))
    clear hb13 hi5 CN B12 y1 y2
    rcases (Bool.eq_false_or_eq_true t5) with hbt | hbt
    ·subst hbt
     have B9 := hid (K1.out w13 B13.out).2.2
     go_wp2
     go_ret
     exact ⟨rfl, B9.out⟩
    subst hbt
    have C4 := hid (I5.out rfl)
    clear I5
    have y1 : w13.cell? ⟨w.heap.size, 71, none⟩ = some vs := (cell_of_row _ _ _ _ _ _ (K1.out w13 B13.out).1).trans g1.out
    have y2 : w13.cell? ⟨w.heap.size + 1, 71, none⟩ = some us := (cell_of_row _ _ _ _ _ _ (K1.out w13 B13.out).2.1).trans g2.out
    have CN := hid (CN2.out w13 (K1.out w13 B13.out).2.2 M1.out.2 M2.out.2)
    go_wp2_with fail
    as_aux_lemma =>
    refine CN.out.mono ?_
    rintro e w14 ⟨t6, rfl, hi6, hb14⟩
    have I6 := hid hi6
    have B14 := hid (B13.out.trans (hb14.mono B13.out.size))
    clear hb14 hi6 CN B13 y1 y2
    rcases (Bool.eq_false_or_eq_true t6) with hbt | hbt
    ·subst hbt
     have B9 := hid (K1.out w14 B14.out).2.2
     go_wp2
     go_ret
     exact ⟨rfl, B9.out⟩
    subst hbt
    have C5 := hid (I6.out rfl)
    clear I6
    have FD : Hid (∀ W, Below w0.heap.size w0 W -> W.cell? ⟨w.heap.size, 72, none⟩ = some vd /\ W.cell? ⟨w.heap.size + 1, 72, none⟩ = some ud) := hid fun W hW => ⟨(cell_of_row _ _ _ _ _ _ (K1.out W hW).1).trans d1.out, (cell_of_row _ _ _ _ _ _ (K1.out W hW).2.1).trans d2.out⟩
    obtain ⟨pd, kd, ed, _, _⟩ := hs.dt.open
    obtain ⟨pe, ke, ee, _, _⟩ := ht.dt.open
    subst ed ee
    go_wp2
    go_loopw [9] (fun ii wr => ∃ I : Nat, I <= s.dt.length /\ I <= t.dt.length /\ ii = .int .i64 (I : Int) /\ Hid (∀ j, j < I -> NoC (t1B wBlock (s.dt.getD j [])) (t1B wBlock (t.dt.getD j []))) /\ Hid (Below w0.heap.size w0 wr)) (fun ii _ => s.dt.length - (intOf ii).toNat)
    case atStart => exact ⟨0, by omega, by omega, rfl, hid (fun j hj => by omega), B14⟩
    case round =>
     obtain ⟨I, hI, hI2, rfl, HN, BL⟩ := hrel
     by_cases hlt : I < s.dt.length /\ I < t.dt.length
     case neg =>
      exfalso
      exact share_none OA.out OB.out S1.out S2.out hn NE.out HU.out C1.out C2.out C3.out C4.out C5.out (fun j j1 j2 => HN.out j (by omega))
     case pos =>
      obtain ⟨hl1, hl2⟩ := hlt
      have hI9 : I < 1000 := by have := (nodes_len S1.out.may).2.1; omega
      have hi1 : (I : Int) < (s.dt.length : Int) := by omega
      have hi2 : (I : Int) < (t.dt.length : Int) := by omega
      obtain ⟨b1, o1, ep1, q1⟩ := hs.dt.at (by omega)
      obtain ⟨b2, o2, ep2, q2⟩ := ht.dt.at (by omega)
      subst ep1 ep2
      obtain ⟨r1, i1, hr1⟩ := q1 I hl1
      obtain ⟨r2, i2, hr2⟩ := q2 I hl2
      obtain ⟨p3, k3, e3, _, _⟩ := hr1.open
      obtain ⟨p4, k4, e4, _, _⟩ := hr2.open
      subst e3 e4
      have BN1 := hid (blN_le S1.out.may I hl1).2
      have BN2 := hid (blN_le S2.out.may I hl2).2
      have HNO : Hid (NoC (t1B wBlock (s.dt.getD I [])) (t1B wBlock (t.dt.getD I [])) -> ∀ j, j < I + 1 -> NoC (t1B wBlock (s.dt.getD j [])) (t1B wBlock (t.dt.getD j []))) := hid fun h j hj => by
       by_cases e : j = I
       ·rw [e]; exact h
       ·exact HN.out j (by omega)
      obtain ⟨l1, Hl1⟩ : ∃ x, Hid (s.dt.getD I [] = x) := ⟨_, rfl⟩
      obtain ⟨l2, Hl2⟩ : ∃ x, Hid (t.dt.getD I [] = x) := ⟨_, rfl⟩
      rw [Hl1.out] at hr1 i1 BN1 HNO
      rw [Hl2.out] at hr2 i2 BN2 HNO
      obtain ⟨z3, Hz3⟩ : ∃ x, Hid (l1.length = x) := ⟨_, rfl⟩
      obtain ⟨z4, Hz4⟩ : ∃ x, Hid (l2.length = x) := ⟨_, rfl⟩
      rw [Hz3.out] at hr1 i1
      rw [Hz4.out] at hr2 i2
      obtain ⟨n1', Hn1⟩ : ∃ x, Hid (s.dt.length = x) := ⟨_, rfl⟩
      have FCW : Hid (∀ W, Below wr.heap.size wr W -> W.cell? ⟨w.heap.size, 72, none⟩ = some (.slice (some ⟨b1, o1, none⟩) s.dt.length kd) /\ W.cell? ⟨w.heap.size + 1, 72, none⟩ = some (.slice (some ⟨b2, o2, none⟩) t.dt.length ke) /\ W.cell? ⟨b1, o1 + I, none⟩ = some (.slice p3 z3 k3) /\ W.cell? ⟨b2, o2 + I, none⟩ = some (.slice p4 z4 k4) /\ HB W (.slice p3 z3 k3) l1 /\ HB W (.slice p4 z4 k4) l2) := hid fun W hW => by
       have hB := BL.out.trans (hW.mono BL.out.size)
       have hw := (K1.out W hB).2.2
       exact ⟨(FD.out W hB).1, (FD.out W hB).2, (hw.cell (World.block_lt_of_cell? w _ i1)).trans i1, (hw.cell (World.block_lt_of_cell? w _ i2)).trans i2, hr1.below hw, hr2.below hw⟩
      obtain ⟨x1, x2, -, -, -, -⟩ := FCW.out wr (Below.refl _ _)
      clear q1 q2 i1 i2 hr1 hr2
      go_wp2
      clear x1 x2
      refine wp_region_held_drew (S := fun _ => True) (by kernel_rfl) trivial (fun hHeld => ?_)
      change wpAnyH _ _ _ _ _ _ _ _ (World.drew _)
      refine held_true _ _ _ _ ?_
      clear hHeld
      as_aux_lemma =>
      refine wpAny_rel (low_of (by kernel_rfl)) (dst := dstO) (Φ := soF w.heap.size I b1 o1 s.dt.length kd b2 o2 t.dt.length ke p3 p4 z3 k3 z4 k4 l1 l2) (Array.replicate 15 false) rfl ?hdst ?hops ?hin (soF_below w.heap.size I b1 o1 s.dt.length kd b2 o2 t.dt.length ke p3 p4 z3 k3 z4 k4 l1 l2) ?step ?fin 15 (by kernel_rfl)
      case hdst => intro k j _ _ _ _ e; unfold dstO at e; omega
      case hops =>
       intro k o ho _
       have hk : k < 15 := (Array.getElem?_eq_some_iff.1 ho).1
       match k, hk, ho with
       | 0, _, ho => obtain rfl := Option.some.inj ho; rfl
       | 1, _, ho => obtain rfl := Option.some.inj ho; rfl
       | 2, _, ho => obtain rfl := Option.some.inj ho; rfl
       | 3, _, ho => obtain rfl := Option.some.inj ho; rfl
       | 4, _, ho => obtain rfl := Option.some.inj ho; rfl
       | 5, _, ho => obtain rfl := Option.some.inj ho; rfl
       | 6, _, ho => obtain rfl := Option.some.inj ho; rfl
       | 7, _, ho => obtain rfl := Option.some.inj ho; rfl
       | 8, _, ho => obtain rfl := Option.some.inj ho; rfl
       | 9, _, ho => obtain rfl := Option.some.inj ho; rfl
       | 10, _, ho => obtain rfl := Option.some.inj ho; rfl
       | 11, _, ho => obtain rfl := Option.some.inj ho; rfl
       | 12, _, ho => obtain rfl := Option.some.inj ho; rfl
       | 13, _, ho => obtain rfl := Option.some.inj ho; rfl
       | 14, _, ho => obtain rfl := Option.some.inj ho; rfl
      case hin =>
       intro k hk _
       have hk : k < 15 := hk
       show dstO k < 114
       unfold dstO
       omega
      case step =>
       intro k o ho _ a w3 K vals L hR hd hK
       have hk : k < 15 := (Array.getElem?_eq_some_iff.1 ho).1
       have hrest : ∀ s, s < 99 -> a.tmps[s]? = (_ : Act).tmps[s]? := fun s h1 => hR.rest s (fun j hj _ => by unfold dstO; omega)
       have u2 : a.tmps[2]? = some (.pointer (some ⟨w.heap.size, 0, none⟩)) := hrest 2 (by omega)
       have u3 : a.tmps[3]? = some (.pointer (some ⟨w.heap.size + 1, 0, none⟩)) := hrest 3 (by omega)
       have u9 : a.tmps[9]? = some (.int .i64 (I : Int)) := hrest 9 (by omega)
       have B3 : Below wr.heap.size wr w3 := (Below.refl _ wr).drew.trans (hR.bel.mono (by simp))
       obtain ⟨x1, x2, x3, x4, hv1, hv2⟩ := FCW.out w3 B3
       have HV1 := hid hv1
       have HV2 := hid hv2
       have DN : ∀ j, j < 15 -> L[j]? = some true -> a.tmps[dstO j]? = some (vals j) /\ soF w.heap.size I b1 o1 s.dt.length kd b2 o2 t.dt.length ke p3 p4 z3 k3 z4 k4 l1 l2 j w3 (vals j) := fun j hj hL => hR.done j hj (by simp [hj]) hL
       clear hrest hv1 hv2
       match k, hk, ho with
       | 0, _, ho =>
        as_aux_lemma =>
        obtain rfl := Option.some.inj ho
        clear DN x1 x2 x3 x4
        go_simp
        exact hK _ _ rfl (Below.refl _ _)
       | 1, _, ho =>
        as_aux_lemma =>
        obtain rfl := Option.some.inj ho
        obtain ⟨e0, f0⟩ := DN 0 (by omega) (hd ⟨0, .data⟩ (by simp) rfl)
        have e0 : a.tmps[99]? = some (.pointer (some ⟨w.heap.size, 72, none⟩)) := by have := e0; rw [show vals 0 = _ from f0] at this; exact this
        clear DN
        first | (go_simp; done) | (go_simp; exact hK _ _ rfl (Below.refl _ _)) | (go_simp; intro hq; exfalso; omega)
       | 2, _, ho =>
        as_aux_lemma =>
        obtain rfl := Option.some.inj ho
        clear DN x1 x2 x3 x4
        go_simp
        exact hK _ _ rfl (Below.refl _ _)
       | 3, _, ho =>
        as_aux_lemma =>
        obtain rfl := Option.some.inj ho
        obtain ⟨e1, f1⟩ := DN 1 (by omega) (hd ⟨1, .data⟩ (by simp) rfl)
        have e1 : a.tmps[100]? = some (.slice (some ⟨b1, o1, none⟩) s.dt.length kd) := by have := e1; rw [show vals 1 = _ from f1] at this; exact this
        obtain ⟨e2, f2⟩ := DN 2 (by omega) (hd ⟨2, .data⟩ (by simp) rfl)
        have e2 : a.tmps[101]? = some (.int .i64 (I : Int)) := by have := e2; rw [show vals 2 = _ from f2] at this; exact this
        clear DN
        first | (go_simp; done) | (go_simp; exact hK _ _ rfl (Below.refl _ _)) | (go_simp; intro hq; exfalso; omega)
       | 4, _, ho =>
        as_aux_lemma =>
        obtain rfl := Option.some.inj ho
        obtain ⟨e3, f3⟩ := DN 3 (by omega) (hd ⟨3, .data⟩ (by simp) rfl)
        have e3 : a.tmps[102]? = some (.pointer (some ⟨b1, o1 + I, none⟩)) := by have := e3; rw [show vals 3 = _ from f3] at this; exact this
        clear DN
        first | (go_simp; done) | (go_simp; exact hK _ _ rfl (Below.refl _ _)) | (go_simp; intro hq; exfalso; omega)
       | 5, _, ho =>
        as_aux_lemma =>
        obtain rfl := Option.some.inj ho
        obtain ⟨e4, f4⟩ := DN 4 (by omega) (hd ⟨4, .data⟩ (by simp) rfl)
        have e4 : a.tmps[103]? = some (.slice p3 z3 k3) := by have := e4; rw [show vals 4 = _ from f4] at this; exact this
        have HG := heap_alloc_new w3 (.cells #[.slice p3 z3 k3] 34)
        have BA := (Below.refl w3.heap.size w3).alloc (Nat.le_refl _) (.cells #[.slice p3 z3 k3] 34)
        have HT := HL.one HG (HV1.out.below BA)
        clear DN HG x1 x2 x3 x4
        go_simp
        exact hK _ _ ⟨_, rfl, HT⟩ BA
       | 6, _, ho =>
        as_aux_lemma =>
        obtain rfl := Option.some.inj ho
        obtain ⟨e5, f5⟩ := DN 5 (by omega) (hd ⟨5, .data⟩ (by simp) rfl)
        obtain ⟨g, ev, hl⟩ := f5
        rw [ev] at e5
        have e5 : a.tmps[104]? = some (.slice (some ⟨g, 0, none⟩) 1 1) := e5
        have CL := rlist_block w3 _ l1 hl (by have := BN1.out; omega)
        clear DN ev hl x1 x2 x3 x4
        go_simp
        refine CL.mono ?_
        rintro e w4 ⟨v4, rfl, hv4, hb4⟩
        obtain ⟨p9, c9, ev9, _, _⟩ := hv4.open
        subst ev9
        exact hK _ _ ⟨p9, c9, rfl, hv4⟩ hb4
       | 7, _, ho =>
        as_aux_lemma =>
        obtain rfl := Option.some.inj ho
        clear DN x1 x2 x3 x4
        go_simp
        exact hK _ _ rfl (Below.refl _ _)
       | 8, _, ho =>
        as_aux_lemma =>
        obtain rfl := Option.some.inj ho
        obtain ⟨e7, f7⟩ := DN 7 (by omega) (hd ⟨7, .data⟩ (by simp) rfl)
        have e7 : a.tmps[106]? = some (.pointer (some ⟨w.heap.size + 1, 72, none⟩)) := by have := e7; rw [show vals 7 = _ from f7] at this; exact this
        clear DN
        first | (go_simp; done) | (go_simp; exact hK _ _ rfl (Below.refl _ _)) | (go_simp; intro hq; exfalso; omega)
       | 9, _, ho =>
        as_aux_lemma =>
        obtain rfl := Option.some.inj ho
        clear DN x1 x2 x3 x4
        go_simp
        exact hK _ _ rfl (Below.refl _ _)
       | 10, _, ho =>
        as_aux_lemma =>
        obtain rfl := Option.some.inj ho
        obtain ⟨e8, f8⟩ := DN 8 (by omega) (hd ⟨8, .data⟩ (by simp) rfl)
        have e8 : a.tmps[107]? = some (.slice (some ⟨b2, o2, none⟩) t.dt.length ke) := by have := e8; rw [show vals 8 = _ from f8] at this; exact this
        obtain ⟨e9, f9⟩ := DN 9 (by omega) (hd ⟨9, .data⟩ (by simp) rfl)
        have e9 : a.tmps[108]? = some (.int .i64 (I : Int)) := by have := e9; rw [show vals 9 = _ from f9] at this; exact this
        clear DN
        first | (go_simp; done) | (go_simp; exact hK _ _ rfl (Below.refl _ _)) | (go_simp; intro hq; exfalso; omega)
       | 11, _, ho =>
        as_aux_lemma =>
        obtain rfl := Option.some.inj ho
        obtain ⟨e10, f10⟩ := DN 10 (by omega) (hd ⟨10, .data⟩ (by simp) rfl)
        have e10 : a.tmps[109]? = some (.pointer (some ⟨b2, o2 + I, none⟩)) := by have := e10; rw [show vals 10 = _ from f10] at this; exact this
        clear DN
        first | (go_simp; done) | (go_simp; exact hK _ _ rfl (Below.refl _ _)) | (go_simp; intro hq; exfalso; omega)
       | 12, _, ho =>
        as_aux_lemma =>
        obtain rfl := Option.some.inj ho
        obtain ⟨e11, f11⟩ := DN 11 (by omega) (hd ⟨11, .data⟩ (by simp) rfl)
        have e11 : a.tmps[110]? = some (.slice p4 z4 k4) := by have := e11; rw [show vals 11 = _ from f11] at this; exact this
        have HG := heap_alloc_new w3 (.cells #[.slice p4 z4 k4] 34)
        have BA := (Below.refl w3.heap.size w3).alloc (Nat.le_refl _) (.cells #[.slice p4 z4 k4] 34)
        have HT := HL.one HG (HV2.out.below BA)
        clear DN HG x1 x2 x3 x4
        go_simp
        exact hK _ _ ⟨_, rfl, HT⟩ BA
       | 13, _, ho =>
        as_aux_lemma =>
        obtain rfl := Option.some.inj ho
        obtain ⟨e12, f12⟩ := DN 12 (by omega) (hd ⟨12, .data⟩ (by simp) rfl)
        obtain ⟨g, ev, hl⟩ := f12
        rw [ev] at e12
        have e12 : a.tmps[111]? = some (.slice (some ⟨g, 0, none⟩) 1 1) := e12
        have CL := rlist_block w3 _ l2 hl (by have := BN2.out; omega)
        clear DN ev hl x1 x2 x3 x4
        go_simp
        refine CL.mono ?_
        rintro e w4 ⟨v4, rfl, hv4, hb4⟩
        obtain ⟨p9, c9, ev9, _, _⟩ := hv4.open
        subst ev9
        exact hK _ _ ⟨p9, c9, rfl, hv4⟩ hb4
       | 14, _, ho =>
        as_aux_lemma =>
        obtain rfl := Option.some.inj ho
        obtain ⟨e6, f6⟩ := DN 6 (by omega) (hd ⟨6, .data⟩ (by simp) rfl)
        obtain ⟨e13, f13⟩ := DN 13 (by omega) (hd ⟨13, .data⟩ (by simp) rfl)
        obtain ⟨p7, c7, ev7, hv7⟩ := f6
        obtain ⟨p8, c8, ev8, hv8⟩ := f13
        rw [ev7] at e6
        rw [ev8] at e13
        have zz1 := t1B_block_len l1
        have zz2 := t1B_block_len l2
        have bb1 := BN1.out
        have bb2 := BN2.out
        have e6 : a.tmps[105]? = some (.slice p7 (t1B wBlock l1).length c7) := e6
        have e13 : a.tmps[112]? = some (.slice p8 (t1B wBlock l2).length c8) := e13
        have CC := clash_any w3 _ _ _ _ hv7 hv8 (by omega) (by omega)
        have FIN : ∀ t : Bool, decide (t1B wBlock l1 ≠ t1B wBlock l2 /\ digL (t1B wBlock l1) = digL (t1B wBlock l2)) = t -> (t = false -> NoC (t1B wBlock l1) (t1B wBlock l2)) := fun t e h => by rw [h] at e; exact of_decide_eq_false e
        generalize decide (t1B wBlock l1 ≠ t1B wBlock l2 /\ digL (t1B wBlock l1) = digL (t1B wBlock l2)) = tt at CC FIN
        have FIN := FIN tt rfl
        clear zz1 zz2
        generalize (t1B wBlock l1).length = z7 at e6 CC
        generalize (t1B wBlock l2).length = z8 at e13 CC
        clear DN ev7 ev8 hv7 hv8 x1 x2 x3 x4
        go_simp
        refine CC.mono ?_
        rintro e w4 ⟨rfl, hb4⟩
        exact hK _ _ ⟨tt, rfl, FIN⟩ hb4
      case fin =>
       as_aux_lemma =>
       intro a w3 vals hdf hall hb3
       obtain ⟨ea, fa⟩ := hall 14 (by show 14 < 15; omega) rfl
       obtain ⟨tt, et, ft⟩ : ∃ t : Bool, vals 14 = .bool t /\ (t = false -> NoC (t1B wBlock l1) (t1B wBlock l2)) := fa
       have B3 : Hid (Below wr.heap.size wr w3) := hid ((Below.refl _ wr).drew.trans (hb3.mono (by simp)))
       have FT := hid ft
       obtain ⟨hd1, hd2, hd3⟩ := hdf
       have lay := tmps_lay3 (N := 15) (base := 99) (vals := vals) (by show 114 <= 114; omega) hd2 (fun s h => hd3 s (fun k hk _ => by have hk : k < 15 := hk; unfold dstO; omega)) (fun k hk => (hall k hk (by simp [hk])).1)
       clear hd2 hd3
       obtain ⟨tm, df⟩ := a
       dsimp only at lay hd1
       subst hd1
       have v14 : vals 14 = .bool tt := et
       simp only [List.range, List.range.loop, List.map_cons, List.map_nil, List.take_succ_cons, List.take_zero, List.cons_append, List.nil_append, List.drop_succ_cons, List.drop_zero, Nat.reduceAdd] at lay
       rw [v14] at lay
       subst lay
       clear hall ea ft et hb3 v14
       have BB := hid (BL.out.trans (B3.out.mono BL.out.size))
       cases tt with
       | true =>
        clear FT
        have B9 := hid (K1.out w3 BB.out).2.2
        go_wp2
        go_ret
        exact ⟨rfl, B9.out⟩
       | false =>
        have FT := hid (FT.out rfl)
        go_wp2
        exact ⟨⟨I + 1, by omega, by omega, by go_num, hid (HNO.out FT.out), BB⟩, by simp [intOf]; omega⟩
end Go.Proofs.YtdgollnapbonjaaGreatDoor
namespace Go.Proofs.YtdgollnapbonjaaGreatDoor
open Go Go.RowKit Go.ChangeShapes Go.WideShapes Go.ChangeAt
def shoLaid : List (String × DataW Unit) := [("math/bits.deBruijn32tab", Rows.laid_math_bits_deBruijn32tab), ("math/bits.deBruijn64tab", Rows.laid_math_bits_deBruijn64tab), ("internal/strconv.uint64pow10", Rows.laid_internal_strconv_uint64pow10), ("strongroom/sha.constants", Rows.laid_strongroom_sha_constants)]
theorem gP10o : Tryz.prog.globalNamed "internal/strconv.uint64pow10" = some 1 := by kernel_rfl
theorem tP10o : (Tryz.prog.globals[1]?).map (·.type) = some 155 := by kernel_rfl
theorem kp_of_lo {W : World} (h : laidMetH Tryz.prog shoLaid W) : KP W := by
 rw [MakeChecks.laidMetH_plain _ _ _ (by kernel_rfl)] at h
 have h3 : laidMet Tryz.prog (("internal/strconv.uint64pow10", Lib.tabData .u64 Lib.pow10Tab) :: [("strongroom/sha.constants", Rows.laid_strongroom_sha_constants)]) W := h.tail.tail
 exact Lib.tabIs_of_head gP10o tP10o Tryz.underlying155 Tryz.underlying105 (by kernel_rfl) (by kernel_rfl) h3
theorem gKo : Tryz.prog.globalNamed "strongroom/sha.constants" = some 0 := by kernel_rfl
theorem tKo : (Tryz.prog.globals[0]?).map (·.type) = some 106 := by kernel_rfl
theorem cKo : Tryz.prog.cellsOf 75 = 1 := by kernel_rfl
theorem dKo : (Rows.laid_strongroom_sha_constants : DataW Unit) = .agg (kW.map fun x : Nat => .lit (.int .u32 (x : Int))) := by kernel_rfl
theorem kc_of_lo {W : World} (h : laidMetH Tryz.prog shoLaid W) : KC W := by
 rw [MakeChecks.laidMetH_plain _ _ _ (by kernel_rfl)] at h
 have h := h.tail.tail.tail
 obtain ⟨ps, ⟨g0, t0, cs0, f0, p0, q0, hg0, ht0, hv0, hd0, _, _⟩, _, _⟩ := h
 obtain rfl := Option.some.inj (gKo.symm.trans hg0)
 obtain rfl := Option.some.inj (tKo.symm.trans ht0)
 obtain ⟨xs, m, rfl, hx, hlen, hn, hel⟩ := DataW.trod_array Tryz.underlying106 hd0
 intro t ht
 have h1 := hel t ht
 have hxt : xs[t]? = some xs[t] := List.getElem?_eq_getElem (by omega)
 rw [cKo, hxt] at h1
 obtain ⟨k, e1, e2, _⟩ := DataW.trod_int Tryz.underlying75 h1
 simp only [Prod.mk.injEq] at hx
 have hd := hx.1
 rw [dKo] at hd
 simp only [DataW.agg.injEq] at hd
 have hd2 : (kW.map fun x : Nat => (DataW.lit (.int .u32 (x : Int)) : DataW Unit))[t]? = (xs.map (·.1))[t]? := by rw [hd]
 have hkt : t < kW.length := by rw [kW_length]; exact ht
 rw [List.getElem?_map, List.getElem?_map, hxt, List.getElem?_eq_getElem hkt] at hd2
 simp only [Option.map_some, Option.some.injEq, e2, DataW.lit.injEq, Lit.int.injEq, true_and] at hd2
 have hv := World.var?_cell hg0 hv0 t
 have hcs : cs0[t]? = some (.int .u32 k) := by
  have : ((cs0.toList.drop (t * 1)).take 1)[0]? = some (.int .u32 k) := by rw [e1]; rfl
  simpa using this
 rw [hv, hcs, <- hd2]
 simp [List.getD, List.getElem?_eq_getElem hkt]
def sr0A : Array Value := srA ⟨0, ub0, [], [], [], []⟩ (.slice none 0 0) (.slice none 0 0) (.slice none 0 0) (.slice none 0 0)
end Go.Proofs.YtdgollnapbonjaaGreatDoor
