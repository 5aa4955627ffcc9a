/- Of the road to shareOneCard_holds: ShOneEnd, ShSame1, ShSame2, ShSnd2, ShSnd3, ShSame3, ShLives. -/
import Derived.Test.YtdgollnapbonjaaGreatDoorG18
import Derived.Test.YtdgollnapbonjaaGreatDoorG13
import Derived.Test.YtdgollnapbonjaaGreatDoorG17
import Derived.Test.YtdgollnapbonjaaGreatDoorG14
set_option linter.unusedVariables false
set_option linter.unusedSimpArgs false
set_option maxRecDepth 100000
set_option maxHeartbeats 16000000
namespace Go.Proofs.YtdgollnapbonjaaGreatDoor
open Go Go.RowKit
theorem ueb_same {a b : Sr} (oa : a.ok) (ob : b.ok) (ha : SndQ a) (hb : SndQ b) (hu : ueL (wrL a.u) = ueL (wrL b.u)) (c1 : NoC (t1B wUeb (wrL a.u)) (t1B wUeb (wrL b.u))) : a.u = b.u :=
 wrL_inj oa.u ob.u ha.may.fr.ok hb.may.fr.ok (t1B_inj (c1.one hu))
theorem climbs_ready {a b : Sr} (ha : SndQ a) (hb : SndQ b) (hn : a.num = b.num) (eu : a.u = b.u) :
  ∃ k num : Nat, k <= 9 /\ a.ch.length = k /\ b.ch.length = k /\ a.num = (num : Int) /\ num <= 1000 /\ 0 < a.bl.length /\ 0 < b.bl.length ∧
   ((∀ q, q < k -> NoC (wayB a.ch num (rtL (a.bl.getD 0 [])) q) (wayB b.ch num (rtL (b.bl.getD 0 [])) q)) →
    ∀ q, q < a.ch.length -> q < b.ch.length -> NoC (wayB a.ch (wdN a.u.n.toNat + a.num.toNat) (rtL (a.bl.getD 0 [])) q) (wayB b.ch (wdN a.u.n.toNat + a.num.toNat) (rtL (b.bl.getD 0 [])) q)) := by
 have fa := ha.may.fr
 have fb := hb.may.fr
 obtain ⟨l1, l2⟩ := lgN_is a.u.n.toNat
 have hn0 := fa.n0
 have hn1 := fa.n1
 obtain ⟨_, _, hn2, _⟩ := fa.ok
 have hb1 := fa.bl
 have hb2 := fb.bl
 have g1 := (ndN_le (upI a.u.z a.u.g)).1
 have g2 := (ndN_le (upI b.u.z b.u.g)).1
 have e1 : a.ch.length = lgN a.u.n.toNat := fa.ch
 have e2 : b.ch.length = lgN a.u.n.toNat := by rw [eu]; exact fb.ch
 refine ⟨lgN a.u.n.toNat, a.num.toNat, by omega, e1, e2, by omega, by omega, by omega, by omega, fun h q q1 q2 => ?_⟩
 rw [l1, wayB_par a.ch _ _ _ e1 q (by omega), wayB_par b.ch _ _ _ e2 q (by omega)]
 exact h q (by omega)
theorem share_none {a b : Sr} (oa : a.ok) (ob : b.ok) (ha : SndQ a) (hb : SndQ b) (hn : a.num = b.num) (hne : a ≠ b) (hu : ueL (wrL a.u) = ueL (wrL b.u))
  (c1 : NoC (t1B wUeb (wrL a.u)) (t1B wUeb (wrL b.u))) (c2 : NoC (t1B wRoot (a.bl.getD 0 [])) (t1B wRoot (b.bl.getD 0 [])))
  (c3 : ∀ q, q < a.ch.length -> q < b.ch.length -> NoC (wayB a.ch (wdN a.u.n.toNat + a.num.toNat) (rtL (a.bl.getD 0 [])) q) (wayB b.ch (wdN a.u.n.toNat + a.num.toNat) (rtL (b.bl.getD 0 [])) q))
  (c4 : NoN a.bl b.bl) (c5 : NoN a.sg b.sg)
  (c6 : ∀ j, j < a.dt.length -> j < b.dt.length -> NoC (t1B wBlock (a.dt.getD j [])) (t1B wBlock (b.dt.getD j []))) : False :=
 hne (share_one oa ob ha hb hn hu c1 c2 c3 c4 c5 c6)
end Go.Proofs.YtdgollnapbonjaaGreatDoor
namespace Go.Proofs.YtdgollnapbonjaaGreatDoor
open Go.RowKit
theorem take_stepD14 (da db : List (List Int)) (k : Nat) (ha : k < da.length) (hb : k < db.length) (h : da.take k = db.take k) (e : da.getD k [] = db.getD k []) : da.take (k + 1) = db.take (k + 1) := by
 rw [List.take_succ_eq_append_getElem ha, List.take_succ_eq_append_getElem hb, h]
 have e1 : da.getD k [] = da[k] := by simp [List.getD, List.getElem?_eq_getElem ha]
 have e2 : db.getD k [] = db[k] := by simp [List.getD, List.getElem?_eq_getElem hb]
 rw [<- e1, <- e2, e]
theorem same14_any (w : World) (va vb : Value) (da db : List (List Int)) (ha : HDs w va da) (hb : HDs w vb db) :
  Calls Tryz.prog 43 #[va, vb] w fun e w' => e = .returned (.bool (decide (da = db))) /\ Below w.heap.size w w' := by
 obtain ⟨pa, ca, ea, hca, hma⟩ := ha.open
 obtain ⟨pb, cb, eb, hcb, hmb⟩ := hb.open
 unfold maxLen at hma hmb
 have A := hid ha.ne
 have B := hid hb.ne
 have DA := hid ha.2
 have DB := hid hb.2
 obtain ⟨n, HN⟩ : ∃ n, Hid (da.length = n) := ⟨_, rfl⟩
 obtain ⟨m, HM⟩ : ∃ m, Hid (db.length = m) := ⟨_, rfl⟩
 rw [HN.out] at ea hca
 rw [HM.out] at eb hcb
 subst ea eb
 clear ha hb
 by_cases hnm : n = m
 case neg =>
  have hF : Hid (decide (da = db) = false) := by
   refine hid ?_
   simp only [decide_eq_false_iff_not]
   intro e
   exact hnm (by rw [<- HN.out, <- HM.out, e])
  have hnm2 : ¬ (n : Int) = (m : Int) := by omega
  go_enter Tryz.func43, Tryz.ntmps43
  go_wp2
  go_ret
  exact ⟨by rw [hF.out]; rfl, Below.refl _ _⟩
 case pos =>
  subst hnm
  go_enter Tryz.func43, Tryz.ntmps43
  go_wp2
  go_loopw [5] (fun i wr => ∃ k : Nat, k <= n /\ i = .int .i64 k /\ Hid (da.take k = db.take k) /\ Hid (Below w.heap.size w wr)) (fun i _ => n - (intOf i).toNat)
  case atStart => exact ⟨0, Nat.zero_le _, rfl, by rw [List.take_zero, List.take_zero]; exact rfl, Below.refl _ _⟩
  case round =>
   obtain ⟨k, hk, rfl, HT, HBel⟩ := hrel
   by_cases hlt : k < n
   ·obtain ⟨ba, oa, ca', e1, _, _, hba, hra⟩ := A.out (by rw [HN.out]; omega)
    obtain ⟨bb, ob, cb', e2, _, _, hbb, hrb⟩ := B.out (by rw [HM.out]; omega)
    simp only [Value.slice.injEq] at e1 e2
    obtain ⟨rfl, _, _⟩ := e1
    obtain ⟨rfl, _, _⟩ := e2
    have R1 := hid (hra k (by rw [HN.out]; exact hlt))
    have R2 := hid (hrb k (by rw [HM.out]; exact hlt))
    have hd1 := getD_D DA.out k (by rw [HN.out]; exact hlt)
    have hd2 := getD_D DB.out k (by rw [HM.out]; exact hlt)
    have HST := hid (take_stepD14 da db k (by rw [HN.out]; exact hlt) (by rw [HM.out]; exact hlt) HT.out)
    have HNE : Hid (da.getD k [] ≠ db.getD k [] -> da ≠ db) := fun h e => h (by rw [e])
    generalize da.getD k [] = d1 at hd1 R1 HST HNE
    generalize db.getD k [] = d2 at hd2 R2 HST HNE
    have hq := fun w => run_neq_bytes w 32 23 Tryz.underlying23 d1 d2 hd1.1 hd2.1
    clear hra hrb A B
    go_wp2
    refine wp_region_held_drew (S := Below w.heap.size w) (by kernel_rfl) HBel.out.drew (fun hHeld => ?_)
    have HS := hid hHeld
    clear hHeld
    change wpAnyH _ _ _ _ _ _ _ _ (World.drew _)
    refine wpAnyH_take (i := 0) (v := ?_) rfl (by kernel_rfl) (by kernel_rfl) (by kernel_rfl) (fun _ _ _ h => h) (Or.inl ⟨by rfl, ?q0⟩) HS.out ?_
    case q0 => intro w hSw; go_simp; rfl
    simp only [Act.put, lay6]
    refine wpAnyH_take (i := 1) (v := ?_) rfl (by kernel_rfl) (by kernel_rfl) (by kernel_rfl) (fun _ _ _ h => h) (Or.inl ⟨by rfl, ?q1⟩) HS.out ?_
    case q1 => intro w hSw; go_simp; rfl
    simp only [Act.put, lay6]
    refine wpAnyH_take (i := 2) (v := .pointer (some ⟨ba, oa + k * 32, none⟩)) rfl (by kernel_rfl) (by kernel_rfl) (by kernel_rfl) (fun _ _ _ h => h) (Or.inl ⟨by rfl, ?q2⟩) HS.out ?_
    case q2 => intro w hSw; go_simp
    simp only [Act.put, lay6]
    refine wpAnyH_take (i := 3) rfl (by kernel_rfl) (by kernel_rfl) (by kernel_rfl) (fun _ _ _ h => h) (yieldsIf_load_mid (by rfl) 23 _ rfl ba (oa + k * 32) rfl (dc d1) _ (fun W hW => range_below R1.out hW hba) Tryz.underlying23 rfl (size_dig hd1)) HS.out ?_
    simp only [Act.put, lay6]
    refine wpAnyH_take (i := 4) (v := ?_) rfl (by kernel_rfl) (by kernel_rfl) (by kernel_rfl) (fun _ _ _ h => h) (Or.inl ⟨by rfl, ?q4⟩) HS.out ?_
    case q4 => intro w hSw; go_simp; rfl
    simp only [Act.put, lay6]
    refine wpAnyH_take (i := 5) (v := ?_) rfl (by kernel_rfl) (by kernel_rfl) (by kernel_rfl) (fun _ _ _ h => h) (Or.inl ⟨by rfl, ?q5⟩) HS.out ?_
    case q5 => intro w hSw; go_simp; rfl
    simp only [Act.put, lay6]
    refine wpAnyH_take (i := 6) (v := .pointer (some ⟨bb, ob + k * 32, none⟩)) rfl (by kernel_rfl) (by kernel_rfl) (by kernel_rfl) (fun _ _ _ h => h) (Or.inl ⟨by rfl, ?q6⟩) HS.out ?_
    case q6 => intro w hSw; go_simp
    simp only [Act.put, lay6]
    refine wpAnyH_take (i := 7) rfl (by kernel_rfl) (by kernel_rfl) (by kernel_rfl) (fun _ _ _ h => h) (yieldsIf_load_mid (by rfl) 23 _ rfl bb (ob + k * 32) rfl (dc d2) _ (fun W hW => range_below R2.out hW hbb) Tryz.underlying23 rfl (size_dig hd2)) HS.out ?_
    simp only [Act.put, lay6]
    rw [dc_arr, dc_arr]
    refine wpAnyH_take (i := 8) (v := .bool (!decide (d1 = d2))) rfl (by kernel_rfl) (by kernel_rfl) (by kernel_rfl) (fun _ _ _ h => h) (Or.inl ⟨by rfl, ?q8⟩) HS.out ?_
    case q8 => intro w hSw; go_simp
    simp only [Act.put, lay6]
    refine wpAnyH_done (by kernel_rfl) ?_ _
    have HB1 := hid HS.out
    clear HS
    by_cases hd : d1 = d2
    ·have hdd : decide (d1 = d2) = true := by simpa using hd
     rw [hdd]
     go_wp2
     exact ⟨⟨k + 1, by omega, by go_num, HST.out hd, HB1⟩, by simp [intOf]; omega⟩
    ·have hdd : decide (d1 = d2) = false := by simpa using hd
     rw [hdd]
     have hF : Hid (decide (da = db) = false) := by
      refine hid ?_
      simpa using HNE.out hd
     go_wp2
     go_ret
     exact ⟨by rw [hF.out]; rfl, HB1.out⟩
   ·have hkn : k = n := by omega
    have hF : Hid (decide (da = db) = true) := by
     refine hid ?_
     have := HT.out
     rw [List.take_of_length_le (by rw [HN.out]; omega), List.take_of_length_le (by rw [HM.out]; omega)] at this
     simpa using this
    go_wp2
    go_ret
    exact ⟨by rw [hF.out]; rfl, HBel.out⟩
end Go.Proofs.YtdgollnapbonjaaGreatDoor
namespace Go.Proofs.YtdgollnapbonjaaGreatDoor
open Go Go.RowKit
def FEq (s t : Sr) : Prop := s.num = t.num /\ s.u = t.u /\ s.ch = t.ch /\ s.bl = t.bl /\ s.sg = t.sg
theorem sameFront_any (w : World) (s t : Sr) (vc vb vs uc ub us : Value) (hs : HFr w s vc vb vs) (ht : HFr w t uc ub us) : Calls Tryz.prog 26 #[.agg (frA s vc vb vs), .agg (frA t uc ub us)] w fun e w' => ∃ b : Bool, e = .returned (.bool b) /\ (b = true ↔ FEq s t) /\ Below w.heap.size w w' := by
 have C1 := hid fun (W : World) (hb : Below w.heap.size w W) => same14_any W vc uc s.ch t.ch (hs.ch.below hb) (ht.ch.below hb)
 have C2 := hid fun (W : World) (hb : Below w.heap.size w W) => same14_any W vb ub s.bl t.bl (hs.bl.below hb) (ht.bl.below hb)
 have C3 := hid fun (W : World) (hb : Below w.heap.size w W) => same14_any W vs us s.sg t.sg (hs.sg.below hb) (ht.sg.below hb)
 have hsu := hs.u
 have htu := ht.u
 have HQU := hid fun W => run_eql_ueb W s.u t.u hsu htu
 have HUI := hid (ubE_iff s.u t.u)
 have n1 := hid (frA_num s vc vb vs)
 have c1 := hid (frA_ch hsu vc vb vs)
 have b1 := hid (frA_bl hsu vc vb vs)
 have g1 := hid (frA_sg hsu vc vb vs)
 have HUB1 := hid (frA_ub hsu vc vb vs)
 have HUL1 := hid (ubL_length hsu)
 have HSU1 := hid (size_ubL' hsu)
 have HUA1 : Hid ((ubL s.u).toArray = ubA s.u) := rfl
 obtain ⟨m1, Hm1⟩ : ∃ x, Hid (frA s vc vb vs = x) := ⟨_, rfl⟩
 rw [Hm1.out] at n1 c1 b1 g1 HUB1
 rw [Hm1.out]
 have n2 := hid (frA_num t uc ub us)
 have c2 := hid (frA_ch htu uc ub us)
 have b2 := hid (frA_bl htu uc ub us)
 have g2 := hid (frA_sg htu uc ub us)
 have HUB2 := hid (frA_ub htu uc ub us)
 have HUL2 := hid (ubL_length htu)
 have HSU2 := hid (size_ubL' htu)
 have HUA2 : Hid ((ubL t.u).toArray = ubA t.u) := rfl
 obtain ⟨m2, Hm2⟩ : ∃ x, Hid (frA t uc ub us = x) := ⟨_, rfl⟩
 rw [Hm2.out] at n2 c2 b2 g2 HUB2
 rw [Hm2.out]
 obtain ⟨F, HF⟩ : ∃ F, Hid (FEq s t = F) := ⟨_, rfl⟩
 obtain ⟨N, HN⟩ : ∃ F : Prop, Hid ((s.num = t.num) = F) := ⟨_, rfl⟩
 obtain ⟨U, HU⟩ : ∃ F : Prop, Hid ((ubE s.u t.u = true) = F) := ⟨_, rfl⟩
 obtain ⟨P1, HP1⟩ : ∃ F : Prop, Hid ((s.ch = t.ch) = F) := ⟨_, rfl⟩
 obtain ⟨P2, HP2⟩ : ∃ F : Prop, Hid ((s.bl = t.bl) = F) := ⟨_, rfl⟩
 obtain ⟨P3, HP3⟩ : ∃ F : Prop, Hid ((s.sg = t.sg) = F) := ⟨_, rfl⟩
 have IFF : Hid (F ↔ (N /\ U /\ P1 /\ P2 /\ P3)) := by
  refine hid ?_
  rw [<- HF.out, <- HN.out, <- HU.out, <- HP1.out, <- HP2.out, <- HP3.out, HUI.out]
  exact Iff.rfl
 rw [HF.out]
 have D1 : Hid (∀ (W : World), Below w.heap.size w W -> Calls Tryz.prog 43 #[vc, uc] W fun e w' => ∃ b : Bool, e = .returned (.bool b) /\ (b = true ↔ P1) /\ Below W.heap.size W w') := hid fun W hb => (C1.out W hb).mono fun e w' q => ⟨_, q.1, by rw [<- HP1.out]; exact decide_eq_true_iff, q.2⟩
 have D2 : Hid (∀ (W : World), Below w.heap.size w W -> Calls Tryz.prog 43 #[vb, ub] W fun e w' => ∃ b : Bool, e = .returned (.bool b) /\ (b = true ↔ P2) /\ Below W.heap.size W w') := hid fun W hb => (C2.out W hb).mono fun e w' q => ⟨_, q.1, by rw [<- HP2.out]; exact decide_eq_true_iff, q.2⟩
 have D3 : Hid (∀ (W : World), Below w.heap.size w W -> Calls Tryz.prog 43 #[vs, us] W fun e w' => ∃ b : Bool, e = .returned (.bool b) /\ (b = true ↔ P3) /\ Below W.heap.size W w') := hid fun W hb => (C3.out W hb).mono fun e w' q => ⟨_, q.1, by rw [<- HP3.out]; exact decide_eq_true_iff, q.2⟩
 obtain ⟨ue, HUE⟩ : ∃ b, Hid (ubE s.u t.u = b) := ⟨_, rfl⟩
 rw [HUE.out] at HQU HU
 obtain ⟨x1, HX1⟩ : ∃ x, Hid (s.num = x) := ⟨_, rfl⟩
 obtain ⟨x2, HX2⟩ : ∃ x, Hid (t.num = x) := ⟨_, rfl⟩
 rw [HX1.out] at n1 HN
 rw [HX2.out] at n2 HN
 obtain ⟨l1, Hl1⟩ : ∃ x, Hid (ubL s.u = x) := ⟨_, rfl⟩
 obtain ⟨a1, Ha1⟩ : ∃ x, Hid (ubA s.u = x) := ⟨_, rfl⟩
 rw [Hl1.out] at HUB1 HUL1 HSU1 HUA1
 rw [Ha1.out] at HUA1 HQU
 clear Hl1 Ha1
 obtain ⟨l2, Hl2⟩ : ∃ x, Hid (ubL t.u = x) := ⟨_, rfl⟩
 obtain ⟨a2, Ha2⟩ : ∃ x, Hid (ubA t.u = x) := ⟨_, rfl⟩
 rw [Hl2.out] at HUB2 HUL2 HSU2 HUA2
 rw [Ha2.out] at HUA2 HQU
 clear Hl2 Ha2
 obtain ⟨pc1, cc1, e1, _, _⟩ := hs.ch.open
 obtain ⟨pb1, cb1, e2, _, _⟩ := hs.bl.open
 obtain ⟨ps1, cs1, e3, _, _⟩ := hs.sg.open
 obtain ⟨pc2, cc2, f1, _, _⟩ := ht.ch.open
 obtain ⟨pb2, cb2, f2, _, _⟩ := ht.bl.open
 obtain ⟨ps2, cs2, f3, _, _⟩ := ht.sg.open
 generalize s.ch.length = k1 at e1
 generalize s.bl.length = k2 at e2
 generalize s.sg.length = k3 at e3
 generalize t.ch.length = k4 at f1
 generalize t.bl.length = k5 at f2
 generalize t.sg.length = k6 at f3
 clear C1 C2 C3 HF HP1 HP2 HP3 HUI HX1 HX2 hs ht hsu htu Hm1 Hm2
 subst e1 e2 e3 f1 f2 f3
 obtain ⟨w0, HW0⟩ : ∃ x, Hid ((w.alloc (.cells m1 28)).alloc (.cells m2 28) = x) := ⟨_, rfl⟩
 have H1 : Hid (w0.heap[w.heap.size]? = some (.cells m1 28 (0, 0))) := by refine hid ?_; rw [<- HW0.out]; exact (heap_alloc_old _ _ (by simp)).trans (heap_alloc_new w _)
 have H2 : Hid (w0.heap[w.heap.size + 1]? = some (.cells m2 28 (0, 0))) := by
  refine hid ?_
  rw [<- HW0.out]
  have := heap_alloc_new (w.alloc (.cells m1 28)) (.cells m2 28)
  simpa using this
 have B0 : Hid (Below w.heap.size w w0) := by refine hid ?_; rw [<- HW0.out]; exact ((Below.refl w.heap.size w).alloc (Nat.le_refl _) _).alloc (by simp) _
 have Z0 : Hid (w.heap.size + 1 < w0.heap.size) := by refine hid ?_; rw [<- HW0.out]; simp
 have RU1 : Hid (w0.rangeAt w.heap.size 1 l1) := hid (range_of_row H1.out (fun j hj => by rw [HUL1.out] at hj; exact HUB1.out j hj))
 have RU2 : Hid (w0.rangeAt (w.heap.size + 1) 1 l2) := hid (range_of_row H2.out (fun j hj => by rw [HUL2.out] at hj; exact HUB2.out j hj))
 have i1 : w0.cell? ⟨w.heap.size, 0, none⟩ = some (.int .i64 x1) := (cell_of_row _ _ _ _ _ _ H1.out).trans n1.out
 have i2 : w0.cell? ⟨w.heap.size + 1, 0, none⟩ = some (.int .i64 x2) := (cell_of_row _ _ _ _ _ _ H2.out).trans n2.out
 have i3 : w0.cell? ⟨w.heap.size, 69, none⟩ = some (.slice pc1 k1 cc1) := (cell_of_row _ _ _ _ _ _ H1.out).trans c1.out
 have i4 : w0.cell? ⟨w.heap.size + 1, 69, none⟩ = some (.slice pc2 k4 cc2) := (cell_of_row _ _ _ _ _ _ H2.out).trans c2.out
 have hqu := HQU.out
 go_enter Tryz.func26, Tryz.ntmps26
 refine wp_seq_k fun K1 h1 => ?_
 have HK1 := hid h1
 clear h1
 go_wp2
 rw [HW0.out]
 refine HK1.out _ _ ?_
 clear HK1 K1
 by_cases hn : x1 = x2
 ·have hnb : (x1 == x2) = true := by simpa using hn
  have YN : Hid N := by refine hid ?_; rw [<- HN.out]; exact hn
  clear hn HN
  rcases (Bool.eq_false_or_eq_true ue).symm with hbt | hbt
  ·subst hbt
   have NU : Hid (¬ U) := by refine hid ?_; rw [<- HU.out]; simp
   clear HU
   go_wp2_with (first | (refine load_mid_on (by rfl) 25 _ rfl w.heap.size 1 rfl l1 _ RU1.out Tryz.underlying25 rfl HSU1.out ?_; rw [HUA1.out]) | (refine load_mid_on (by rfl) 25 _ rfl (w.heap.size + 1) 1 rfl l2 _ RU2.out Tryz.underlying25 rfl HSU2.out ?_; rw [HUA2.out]) | fail)
   go_ret
   exact ⟨false, rfl, ⟨fun h => (by cases h), fun f => absurd (IFF.out.1 f).2.1 NU.out⟩, B0.out⟩
  ·subst hbt
   have YU : Hid U := by refine hid ?_; rw [<- HU.out]
   clear HU
   go_wp2_with (first | (refine load_mid_on (by rfl) 25 _ rfl w.heap.size 1 rfl l1 _ RU1.out Tryz.underlying25 rfl HSU1.out ?_; rw [HUA1.out]) | (refine load_mid_on (by rfl) 25 _ rfl (w.heap.size + 1) 1 rfl l2 _ RU2.out Tryz.underlying25 rfl HSU2.out ?_; rw [HUA2.out]) | fail)
   refine (D1.out w0 B0.out).mono ?_
   rintro e w1 ⟨t1, rfl, hi1, hb1⟩
   have B1 := hid (B0.out.trans (hb1.mono B0.out.size))
   have H11 := hid ((hb1.block w.heap.size (by have := Z0.out; omega)).trans H1.out)
   have H21 := hid ((hb1.block (w.heap.size + 1) Z0.out).trans H2.out)
   have Z1 : Hid (w.heap.size + 1 < w1.heap.size) := hid (by have := hb1.size; have := Z0.out; omega)
   have j3 : w1.cell? ⟨w.heap.size, 70, none⟩ = some (.slice pb1 k2 cb1) := (cell_of_row _ _ _ _ _ _ H11.out).trans b1.out
   have j4 : w1.cell? ⟨w.heap.size + 1, 70, none⟩ = some (.slice pb2 k5 cb2) := (cell_of_row _ _ _ _ _ _ H21.out).trans b2.out
   have I1 := hid hi1
   clear hb1 hi1 i1 i2 i3 i4 hqu
   rcases (Bool.eq_false_or_eq_true t1).symm with hbt | hbt
   ·subst hbt
    go_wp2
    go_ret
    exact ⟨false, rfl, ⟨fun h => (by cases h), fun f => absurd (I1.out.2 (IFF.out.1 f).2.2.1) (by decide)⟩, B1.out⟩
   ·subst hbt
    go_wp2_with fail
    refine (D2.out w1 B1.out).mono ?_
    rintro e w2 ⟨t2, rfl, hi2, hb2⟩
    have B2 := hid (B1.out.trans (hb2.mono B1.out.size))
    have H12 := hid ((hb2.block w.heap.size (by have := Z1.out; omega)).trans H11.out)
    have H22 := hid ((hb2.block (w.heap.size + 1) Z1.out).trans H21.out)
    have k3' : w2.cell? ⟨w.heap.size, 71, none⟩ = some (.slice ps1 k3 cs1) := (cell_of_row _ _ _ _ _ _ H12.out).trans g1.out
    have k4' : w2.cell? ⟨w.heap.size + 1, 71, none⟩ = some (.slice ps2 k6 cs2) := (cell_of_row _ _ _ _ _ _ H22.out).trans g2.out
    have I2 := hid hi2
    clear hb2 hi2 j3 j4
    rcases (Bool.eq_false_or_eq_true t2).symm with hbt | hbt
    ·subst hbt
     go_wp2
     go_ret
     exact ⟨false, rfl, ⟨fun h => (by cases h), fun f => absurd (I2.out.2 (IFF.out.1 f).2.2.2.1) (by decide)⟩, B2.out⟩
    ·subst hbt
     go_wp2_with fail
     refine (D3.out w2 B2.out).mono ?_
     rintro e w3 ⟨t3, rfl, hi3, hb3⟩
     have B3 := hid (B2.out.trans (hb3.mono B2.out.size))
     have I3 := hid hi3
     clear hb3 hi3 k3' k4'
     go_wp2
     go_ret
     exact ⟨t3, rfl, ⟨fun h => IFF.out.2 ⟨YN.out, YU.out, I1.out.1 (by first | rfl | trivial), I2.out.1 (by first | rfl | trivial), I3.out.1 h⟩, fun f => I3.out.2 (IFF.out.1 f).2.2.2.2⟩, B3.out⟩
 ·have hnb : (x1 == x2) = false := by simpa using hn
  have NN : Hid (¬ N) := by refine hid ?_; rw [<- HN.out]; exact hn
  clear hn HN
  go_wp2
  go_ret
  exact ⟨false, rfl, ⟨fun h => (by cases h), fun f => absurd (IFF.out.1 f).1 NN.out⟩, B0.out⟩
theorem blN_le {s : Sr} (h : MayQ s) (j : Nat) (hj : j < s.dt.length) : 0 < (s.dt.getD j []).length /\ (s.dt.getD j []).length <= 65790 := by
 have e := h.sz j hj
 have b := h.fr.ok.blocks
 unfold blN at e
 split at e <;> omega
theorem nodes_len {s : Sr} (h : MayQ s) : 1 <= s.dt.length /\ s.dt.length <= 512 /\ s.bl.length + 1 = 2 * wdN s.dt.length /\ s.sg.length + 1 = 2 * wdN s.dt.length /\ s.segs = s.dt.length := by
 have b := h.fr.ok.blocks
 have d := h.dt
 have e : (upI s.u.z s.u.g).toNat = s.dt.length := by omega
 have x := h.fr.bl
 have y := h.fr.sg
 unfold ndN at x y
 rw [e] at x y
 unfold Sr.segs
 have := wdN_le s.dt.length
 refine ⟨by omega, by omega, by omega, by omega, e⟩
theorem blocksSound_any (w : World) (s : Sr) (vc vb vs vd : Value) (h : HSr w s vc vb vs vd) (hm : MayQ s) (hkc : KC w) : Calls Tryz.prog 20 #[.agg (srA s vc vb vs vd)] w fun e w' => ∃ t : Bool, e = .returned (.bool t) /\ (t = true -> IsT (s.dt.map bkL1) (wdN s.segs) s.bl) /\ Below w.heap.size w w' := by
 have hu := h.fr.u
 obtain ⟨hn1, hn5, hbn, _, hsg⟩ := nodes_len hm
 have BLN := hid (blN_le hm)
 have CLV := hid fun (W : World) (hb : Below w.heap.size w W) => leaves_any W vb s.dt.length s.bl (h.fr.bl.below hb) hn1 hn5 hbn (hkc.below hb)
 have g72 := hid (srA_dt hu vc vb vs vd)
 have g70 : Hid ((srA s vc vb vs vd)[70]? = some vb) := hid ((srA_fr hu vc vb vs vd 70 (by omega)).trans (frA_bl hu vc vb vs))
 obtain ⟨bd, od, cd, evd, hd1, hd2, hh⟩ := h.dt.ne (by omega)
 obtain ⟨pb, cb, evb, _, _⟩ := h.fr.bl.open
 obtain ⟨m, Hm⟩ : ∃ x, Hid (srA s vc vb vs vd = x) := ⟨_, rfl⟩
 rw [Hm.out] at g72 g70
 rw [Hm.out]
 rw [evd] at g72
 rw [evb] at g70 CLV
 rw [hsg]
 have HHd := hid hh
 have HKC := hid hkc
 obtain ⟨num, u, ch, bl, sg, dt⟩ := s
 dsimp only at *
 obtain ⟨P, HP⟩ : ∃ P, Hid (IsT (dt.map bkL1) (wdN dt.length) bl = P) := ⟨_, rfl⟩
 have HPI : Hid (∀ ls : List (List Int), ls.length = dt.length -> IsT ls (wdN dt.length) bl -> (∀ j, j < dt.length -> ls.getD j [] = bkL1 (dt.getD j [])) -> P) := by
  refine hid fun ls h1 h2 h3 => ?_
  rw [<- HP.out]
  have e : ls = dt.map bkL1 := by
   refine List.ext_getElem (by simp [h1]) fun i q1 q2 => ?_
   have := h3 i (by omega)
   rw [show ls.getD i [] = ls[i] by simp [List.getD, List.getElem?_eq_getElem q1], show dt.getD i [] = dt[i]'(by omega) by simp [List.getD, List.getElem?_eq_getElem (show i < dt.length by omega)]] at this
   rw [this]
   simp
  rw [<- e]
  exact h2
 rw [HP.out]
 obtain ⟨N, HN⟩ : ∃ N, Hid (dt.length = N) := ⟨_, rfl⟩
 rw [HN.out] at g72 CLV HPI BLN HHd hd1 hn1 hn5
 unfold maxLen at hd2
 clear h hm hkc hh Hm HP hbn hsg hu
 obtain ⟨w1, HW1⟩ : ∃ x, Hid (w.alloc (.cells m 31) = x) := ⟨_, rfl⟩
 have H1 : Hid (w1.heap[w.heap.size]? = some (.cells m 31 (0, 0))) := by refine hid ?_; rw [<- HW1.out]; exact heap_alloc_new w _
 have B1 : Hid (Below w.heap.size w w1) := by refine hid ?_; rw [<- HW1.out]; exact (Below.refl _ _).alloc (Nat.le_refl _) _
 have Z1 : Hid (w1.heap.size = w.heap.size + 1) := by refine hid ?_; rw [<- HW1.out]; simp
 have c72 : w1.cell? ⟨w.heap.size, 72, none⟩ = some (.slice (some ⟨bd, od, none⟩) N cd) := (cell_of_row _ _ _ _ _ _ H1.out).trans g72.out
 have c70 : w1.cell? ⟨w.heap.size, 70, none⟩ = some (.slice pb bl.length cb) := (cell_of_row _ _ _ _ _ _ H1.out).trans g70.out
 go_enter Tryz.func20, Tryz.ntmps20
 refine wp_seq_k fun K1 h1 => ?_
 have HK1 := hid h1
 clear h1
 go_wp2
 rw [HW1.out]
 refine HK1.out _ _ ?_
 clear HK1 K1
 go_wp2_with fail
 refine (CLV.out w1 B1.out).mono ?_
 rintro e w2 ⟨u2, x2, E, rfl, hor, hb2⟩
 have B2 := hid (B1.out.trans (hb2.mono B1.out.size))
 have H2 := hid ((hb2.block w.heap.size (by rw [Z1.out]; omega)).trans H1.out)
 have d72 : w2.cell? ⟨w.heap.size, 72, none⟩ = some (.slice (some ⟨bd, od, none⟩) N cd) := (cell_of_row _ _ _ _ _ _ H2.out).trans g72.out
 clear hb2 CLV c72 c70
 rcases hor with ⟨rfl, ls, hl1, hl2, hl3, hl4⟩ | hE
 ·obtain ⟨bv, ov, cv, evv, hv1, hv2, hvl, hvr⟩ := hl4.ne (by omega)
  subst evv
  rw [hl1] at hv1
  rw [hl1]
  have HVR := hid hvr
  have HLD := hid hl2
  have HIT := hid hl3
  have HL1 := hid hl1
  unfold maxLen at hv2
  clear hl2 hl3 hl4 hvr hl1
  go_wp2
  go_loopw [24] (fun ii wr => ∃ I : Nat, I <= N /\ ii = .int .i64 (I : Int) /\ Hid (∀ j, j < I -> ls.getD j [] = bkL1 (dt.getD j [])) /\ Hid (Below w2.heap.size w2 wr)) (fun ii _ => N - (intOf ii).toNat)
  case atStart => exact ⟨0, by omega, rfl, hid (fun j hj => absurd hj (by omega)), Below.refl _ _⟩
  case round =>
   obtain ⟨I, hI, rfl, HC, B3⟩ := hrel
   have hsz := B3.out.size
   have BW := hid (B2.out.trans (B3.out.mono B2.out.size))
   by_cases hlt : I < N
   ·obtain ⟨u, hcu, hbu⟩ := HHd.out I hlt
    have hcr := (BW.out.cell (World.block_lt_of_cell? w _ hcu)).trans hcu
    have CTB := hid fun (W : World) (hb : Below w.heap.size w W) => tblock_any W u (dt.getD I []) (hbu.below hb) (BLN.out I hlt).1 (by have := (BLN.out I hlt).2; omega) (HKC.out.below hb)
    obtain ⟨pu, cu, rfl, _, _⟩ := hbu.open
    have Rx := hid (range_below (HVR.out I (by rw [HL1.out]; exact hlt)) B3.out hvl)
    have dxD := hid (getD_D HLD.out I (by rw [HL1.out]; exact hlt))
    have dyD : Hid (D32 (bkL1 (dt.getD I []))) := hid ⟨digL_length _, digL_byt _⟩
    have ISX : Hid (ls.getD I [] = bkL1 (dt.getD I []) -> ls.getD I [] = bkL1 (dt.getD I [])) := hid (fun h => h)
    have NISX : Hid (P -> P) := hid (fun h => h)
    obtain ⟨L, HLn⟩ : ∃ x, Hid ((dt.getD I []).length = x) := ⟨_, rfl⟩
    rw [HLn.out] at hcr CTB
    obtain ⟨dx, HDX⟩ : ∃ x, Hid (ls.getD I [] = x) := ⟨_, rfl⟩
    obtain ⟨dy, HDY⟩ : ∃ x, Hid (bkL1 (dt.getD I []) = x) := ⟨_, rfl⟩
    rw [HDX.out] at Rx dxD
    rw [HDY.out] at dyD CTB
    have hq := fun w => run_neq_bytes w 32 23 Tryz.underlying23 dx dy dxD.out.1 dyD.out.1
    have hbw : bv < wr.heap.size := by omega
    clear hcu hbu ISX NISX
    by_cases hde : dx = dy
    ·rw [show decide (dx = dy) = true by simp [hde]] at hq
     have HDE := hid hde
     clear hde
     go_wp2
     refine wp_region_held_drew (S := Below wr.heap.size wr) (by kernel_rfl) (Below.refl _ _).drew (fun hHeld => ?_)
     have HS := hid hHeld
     clear hHeld
     change wpAnyH _ _ _ _ _ _ _ _ (World.drew _)
     refine wpAnyH_take (i := 0) (v := ?_) rfl (by kernel_rfl) (by kernel_rfl) (by kernel_rfl) (fun _ _ _ h => h) (Or.inl ⟨by rfl, ?q0⟩) HS.out ?_
     case q0 => intro w hSw; first | (go_simp; done) | (go_simp; rfl) | (go_simp; intro hq; exfalso; omega)
     simp only [Act.put, lay6]
     refine wpAnyH_take (i := 1) (v := ?_) rfl (by kernel_rfl) (by kernel_rfl) (by kernel_rfl) (fun _ _ _ h => h) (Or.inl ⟨by rfl, ?q1⟩) HS.out ?_
     case q1 => intro w hSw; first | (go_simp; done) | (go_simp; rfl) | (go_simp; intro hq; exfalso; omega)
     simp only [Act.put, lay6]
     refine wpAnyH_take (i := 2) (v := .pointer (some ⟨bv, ov + I * 32, none⟩)) rfl (by kernel_rfl) (by kernel_rfl) (by kernel_rfl) (fun _ _ _ h => h) (Or.inl ⟨by rfl, ?q2⟩) HS.out ?_
     case q2 => intro w hSw; first | (go_simp; done) | (go_simp; rfl) | (go_simp; intro hq; exfalso; omega)
     simp only [Act.put, lay6]
     refine wpAnyH_take (i := 3) rfl (by kernel_rfl) (by kernel_rfl) (by kernel_rfl) (fun _ _ _ h => h) (yieldsIf_load_mid (by rfl) 23 _ rfl bv (ov + I * 32) rfl (dc dx) _ (fun W hW => range_below Rx.out hW hbw) Tryz.underlying23 rfl (size_dig dxD.out)) HS.out ?_
     simp only [Act.put, lay6]
     rw [dc_arr]
     refine wpAnyH_take (i := 4) (v := ?_) rfl (by kernel_rfl) (by kernel_rfl) (by kernel_rfl) (fun _ _ _ h => h) (Or.inl ⟨by rfl, ?q4⟩) HS.out ?_
     case q4 => intro w hSw; go_simp; rfl
     simp only [Act.put, lay6]
     refine wpAnyH_ready (rs := [5]) (by kernel_rfl) (by simp) ?_
     refine AllReadyH.cons rfl (fun K hK => ?_) AllReadyH.nil
     go_simp
     refine (CTB.out _ (BW.out.trans (HS.out.mono BW.out.size))).mono ?_
     rintro e w5 ⟨rfl, hB5⟩
     have HS5 := hid (HS.out.trans (hB5.mono HS.out.size))
     clear hB5
     refine hK.out _ _ HS5.out (fun _ => ?_)
     clear hK K
     have HS := hid HS5.out
     clear HS5
     refine wpAnyH_take (i := 6) (v := .bool false) rfl (by kernel_rfl) (by kernel_rfl) (by kernel_rfl) (fun _ _ _ h => h) (Or.inl ⟨by rfl, ?q6⟩) HS.out ?_
     case q6 => intro w hSw; go_simp
     simp only [Act.put, lay6]
     refine wpAnyH_done (by kernel_rfl) ?_ _
     go_wp2
     exact ⟨⟨I + 1, by omega, by go_num, hid (fun j hj => by
      by_cases hji : j = I
      ·rw [hji, HDX.out, HDY.out]; exact HDE.out
      ·exact HC.out j (by omega)), B3.out.trans (HS.out.mono hsz)⟩, by simp [intOf]; omega⟩
    ·rw [show decide (dx = dy) = false by simp [hde]] at hq
     clear hde
     go_wp2
     refine wp_region_held_drew (S := Below wr.heap.size wr) (by kernel_rfl) (Below.refl _ _).drew (fun hHeld => ?_)
     have HS := hid hHeld
     clear hHeld
     change wpAnyH _ _ _ _ _ _ _ _ (World.drew _)
     refine wpAnyH_take (i := 0) (v := ?_) rfl (by kernel_rfl) (by kernel_rfl) (by kernel_rfl) (fun _ _ _ h => h) (Or.inl ⟨by rfl, ?q0⟩) HS.out ?_
     case q0 => intro w hSw; first | (go_simp; done) | (go_simp; rfl) | (go_simp; intro hq; exfalso; omega)
     simp only [Act.put, lay6]
     refine wpAnyH_take (i := 1) (v := ?_) rfl (by kernel_rfl) (by kernel_rfl) (by kernel_rfl) (fun _ _ _ h => h) (Or.inl ⟨by rfl, ?q1⟩) HS.out ?_
     case q1 => intro w hSw; first | (go_simp; done) | (go_simp; rfl) | (go_simp; intro hq; exfalso; omega)
     simp only [Act.put, lay6]
     refine wpAnyH_take (i := 2) (v := .pointer (some ⟨bv, ov + I * 32, none⟩)) rfl (by kernel_rfl) (by kernel_rfl) (by kernel_rfl) (fun _ _ _ h => h) (Or.inl ⟨by rfl, ?q2⟩) HS.out ?_
     case q2 => intro w hSw; first | (go_simp; done) | (go_simp; rfl) | (go_simp; intro hq; exfalso; omega)
     simp only [Act.put, lay6]
     refine wpAnyH_take (i := 3) rfl (by kernel_rfl) (by kernel_rfl) (by kernel_rfl) (fun _ _ _ h => h) (yieldsIf_load_mid (by rfl) 23 _ rfl bv (ov + I * 32) rfl (dc dx) _ (fun W hW => range_below Rx.out hW hbw) Tryz.underlying23 rfl (size_dig dxD.out)) HS.out ?_
     simp only [Act.put, lay6]
     rw [dc_arr]
     refine wpAnyH_take (i := 4) (v := ?_) rfl (by kernel_rfl) (by kernel_rfl) (by kernel_rfl) (fun _ _ _ h => h) (Or.inl ⟨by rfl, ?q4⟩) HS.out ?_
     case q4 => intro w hSw; go_simp; rfl
     simp only [Act.put, lay6]
     refine wpAnyH_ready (rs := [5]) (by kernel_rfl) (by simp) ?_
     refine AllReadyH.cons rfl (fun K hK => ?_) AllReadyH.nil
     go_simp
     refine (CTB.out _ (BW.out.trans (HS.out.mono BW.out.size))).mono ?_
     rintro e w5 ⟨rfl, hB5⟩
     have HS5 := hid (HS.out.trans (hB5.mono HS.out.size))
     clear hB5
     refine hK.out _ _ HS5.out (fun _ => ?_)
     clear hK K
     have HS := hid HS5.out
     clear HS5
     refine wpAnyH_take (i := 6) (v := .bool true) rfl (by kernel_rfl) (by kernel_rfl) (by kernel_rfl) (fun _ _ _ h => h) (Or.inl ⟨by rfl, ?q6⟩) HS.out ?_
     case q6 => intro w hSw; go_simp
     simp only [Act.put, lay6]
     refine wpAnyH_done (by kernel_rfl) ?_ _
     go_wp2
     go_ret
     exact ⟨false, rfl, (fun h => by cases h), BW.out.trans (HS.out.mono BW.out.size)⟩
   ·have hIN : I = N := by omega
    subst hIN
    have YP : Hid P := hid (HPI.out ls HL1.out HIT.out HC.out)
    go_wp2
    go_ret
    exact ⟨true, rfl, fun _ => YP.out, BW.out⟩
 ·have hEb : (E != 0) = true := by simpa using hE
  go_wp2
  go_ret
  exact ⟨false, rfl, (fun h => by cases h), B2.out⟩
theorem segsSound_any (w : World) (s : Sr) (vc vb vs : Value) (h : HFr w s vc vb vs) (hm : MayQ s) (hkc : KC w) : Calls Tryz.prog 21 #[.agg (frA s vc vb vs)] w fun e w' => ∃ t : Bool, e = .returned (.bool t) /\ (t = true -> (∃ ls, ls.length = s.segs /\ IsT ls (wdN s.segs) s.sg) /\ s.sg.getD 0 [] = s.u.b) /\ Below w.heap.size w w' := by
 have hu := h.u
 obtain ⟨hn1, hn5, _, hbn, hsg⟩ := nodes_len hm
 have hok := hm.fr.ok
 have hdt := hm.dt
 have CLV := hid fun (W : World) (hb : Below w.heap.size w W) => leaves_any W vs s.dt.length s.sg (h.sg.below hb) hn1 hn5 hbn (hkc.below hb)
 rw [show ((s.dt.length : Nat) : Int) = upI s.u.z s.u.g from hdt] at CLV
 have CSH := hid fun W => shapeOf_any W s.u hu
 rw [show agT s.u.k s.u.n s.u.g s.u.z = shR s.u.k s.u.n s.u.g s.u.z from if_pos hok, show agE s.u.k s.u.n s.u.g s.u.z = 0 from if_pos hok] at CSH
 have SY := hid (shV_size (shR s.u.k s.u.n s.u.g s.u.z) rfl)
 have OY : Hid ((ints (shR s.u.k s.u.n s.u.g s.u.z)).all (·.oneCell') = true) := by refine hid ?_; simp [ints, shR, Value.oneCell']
 have y4 : Hid ((ints (shR s.u.k s.u.n s.u.g s.u.z))[4]? = some (.int .i64 (upI s.u.z s.u.g))) := rfl
 have SY8 : Hid ((ints (shR s.u.k s.u.n s.u.g s.u.z)).size = 8) := rfl
 unfold shV at CSH
 obtain ⟨y, Hy⟩ : ∃ x, Hid (ints (shR s.u.k s.u.n s.u.g s.u.z) = x) := ⟨_, rfl⟩
 rw [Hy.out] at CSH SY OY y4 SY8
 have g71 := hid (frA_sg hu vc vb vs)
 have gdb := hid (frA_dig hu vc vb vs).2
 have HUB := hid (frA_ub hu vc vb vs)
 have HUL := hid (ubL_length hu)
 have HSU := hid (size_ubL' hu)
 have HUA : Hid ((ubL s.u).toArray = ubA s.u) := rfl
 have hsl : 0 < s.sg.length := by omega
 obtain ⟨bs, os, cs, evs, hs1, hs2, hsb, hrs⟩ := h.sg.ne hsl
 have RS := hid (hrs 0 hsl)
 have DS := hid (getD_D h.sg.2 0 hsl)
 obtain ⟨m, Hm⟩ : ∃ x, Hid (frA s vc vb vs = x) := ⟨_, rfl⟩
 rw [Hm.out] at g71 gdb HUB
 rw [Hm.out]
 rw [evs] at g71 CLV
 have UB := hid hu.2
 rw [hsg]
 obtain ⟨s0, HS0⟩ : ∃ x, Hid (s.sg.getD 0 [] = x) := ⟨_, rfl⟩
 rw [HS0.out] at RS DS
 rw [HS0.out]
 obtain ⟨num, u, ch, bl, sg, dt⟩ := s
 dsimp only at *
 obtain ⟨uL', HuL⟩ : ∃ x, Hid (ubL u = x) := ⟨_, rfl⟩
 obtain ⟨uA', HuA⟩ : ∃ x, Hid (ubA u = x) := ⟨_, rfl⟩
 rw [HuL.out] at HUB HUL HSU HUA
 rw [HuA.out] at CSH HUA
 obtain ⟨k, n, g, z, ua, ub⟩ := u
 dsimp only at *
 obtain ⟨P, HP⟩ : ∃ P, Hid ((∃ ls : List (List Int), ls.length = dt.length /\ IsT ls (wdN dt.length) sg) = P) := ⟨_, rfl⟩
 have HPI : Hid (∀ ls : List (List Int), ls.length = dt.length -> IsT ls (wdN dt.length) sg -> P) := by
  refine hid fun ls h1 h2 => ?_
  rw [<- HP.out]
  exact ⟨ls, h1, h2⟩
 rw [HP.out]
 clear h hm hkc hrs Hm HP hbn hsg hu hok hdt
 obtain ⟨w1, HW1⟩ : ∃ x, Hid (w.alloc (.cells m 28) = x) := ⟨_, rfl⟩
 have H1 : Hid (w1.heap[w.heap.size]? = some (.cells m 28 (0, 0))) := by refine hid ?_; rw [<- HW1.out]; exact heap_alloc_new w _
 have B1 : Hid (Below w.heap.size w w1) := by refine hid ?_; rw [<- HW1.out]; exact (Below.refl _ _).alloc (Nat.le_refl _) _
 have Z1 : Hid (w1.heap.size = w.heap.size + 1) := by refine hid ?_; rw [<- HW1.out]; simp
 have RU : Hid (w1.rangeAt w.heap.size 1 uL') := hid (range_of_row H1.out (fun j hj => by rw [HUL.out] at hj; exact HUB.out j hj))
 go_enter Tryz.func21, Tryz.ntmps21
 refine wp_seq_k fun K1 h1 => ?_
 have HK1 := hid h1
 clear h1
 go_wp2
 rw [HW1.out]
 refine HK1.out _ _ ?_
 clear HK1 K1
 go_wp2_with (first | (refine wpList_load_mid rfl 25 _ rfl w.heap.size 1 rfl uL' _ RU.out Tryz.underlying25 rfl HSU.out ?_; rw [HUA.out]) | fail)
 refine (CSH.out w1).mono ?_
 rintro e w2 ⟨rfl, hb2⟩
 have B2 := hid (B1.out.trans (hb2.mono B1.out.size))
 have H2 := hid ((hb2.block w.heap.size (by rw [Z1.out]; omega)).trans H1.out)
 have S2 : Hid (w.heap.size < w2.heap.size) := hid (by have := hb2.size; rw [Z1.out] at this; omega)
 have Z2 := hid (heap_alloc_new w2 (.cells #[.int .i64 0, .int .i64 0, .int .i64 0, .int .i64 0, .int .i64 0, .int .i64 0, .int .i64 0, .int .i64 0] 48))
 obtain ⟨w3, HW3⟩ : ∃ x, Hid ((w2.alloc (.cells #[.int .i64 0, .int .i64 0, .int .i64 0, .int .i64 0, .int .i64 0, .int .i64 0, .int .i64 0, .int .i64 0] 48)).setRow w2.heap.size y = x) := ⟨_, rfl⟩
 have Y3 : Hid (w3.heap[w2.heap.size]? = some (.cells y 48 (0, 0))) := by refine hid ?_; rw [<- HW3.out]; exact setRow_heap _ _ _ _ _ _ Z2.out
 have B3 : Hid (Below w.heap.size w w3) := by refine hid ?_; rw [<- HW3.out]; exact bel_setRow (B2.out.alloc B2.out.size _) B2.out.size _
 have B23 : Hid (Below w2.heap.size w2 w3) := by refine hid ?_; rw [<- HW3.out]; exact bel_setRow ((Below.refl _ _).alloc (Nat.le_refl _) _) (Nat.le_refl _) _
 have H3 := hid ((B23.out.block w.heap.size S2.out).trans H2.out)
 have S3 : Hid (w.heap.size < w3.heap.size) := hid (by have := B23.out.size; have := S2.out; omega)
 have c71 : w3.cell? ⟨w.heap.size, 71, none⟩ = some (.slice (some ⟨bs, os, none⟩) sg.length cs) := (cell_of_row _ _ _ _ _ _ H3.out).trans g71.out
 have c4 : w3.cell? ⟨w2.heap.size, 4, none⟩ = some (.int .i64 (upI z g)) := (cell_of_row _ _ _ _ _ _ Y3.out).trans y4.out
 clear hb2 CSH RU
 go_wp2_with (first | (refine wpList_store_row rfl 48 _ _ rfl w2.heap.size y rfl rfl 48 _ Z2.out SY.out (by rw [SY8.out]; rfl) OY.out ?_; rw [HW3.out]) | fail)
 refine (CLV.out w3 B3.out).mono ?_
 rintro e w4 ⟨u4, x4, E, rfl, hor, hb4⟩
 have B4 := hid (B3.out.trans (hb4.mono B3.out.size))
 have H4 := hid ((hb4.block w.heap.size S3.out).trans H3.out)
 have HLT : Hid (w.heap.size < w4.heap.size) := hid (by have := hb4.size; have := S3.out; omega)
 have HC71 : Hid (w4.cell? ⟨w.heap.size, 71, none⟩ = some (.slice (some ⟨bs, os, none⟩) sg.length cs)) := hid ((cell_of_row _ _ _ _ _ _ H4.out).trans g71.out)
 have RSL : Hid (∀ W, Below w4.heap.size w4 W -> W.rangeAt bs os (dc s0)) := hid fun W hW => by
  have q1 := range_below RS.out B4.out hsb
  rw [Nat.zero_mul, Nat.add_zero] at q1
  exact range_below q1 hW (by have := HLT.out; omega)
 have RUB : Hid (∀ W, Below w4.heap.size w4 W -> W.rangeAt w.heap.size 37 (dc ub)) := hid fun W hW => by
  refine range_below (range_of_row H4.out (fun j hj => ?_)) hW HLT.out
  rw [dc_length, UB.out.1] at hj
  rw [gdb.out j hj, dc_get UB.out.1 j hj]
 have hq := fun w => run_eql_bytes w 32 23 Tryz.underlying23 s0 ub DS.out.1 UB.out.1
 have hsn : ¬ sg.length = 0 := by omega
 clear hb4 CLV c71 c4
 go_wp2
 rcases hor with ⟨rfl, ls, hl1, hl2, hl3, hl4⟩ | hE
 ·have YP : Hid P := hid (HPI.out ls hl1 hl3)
  clear hl1 hl2 hl3 hl4
  refine wp_region_held_drew (S := Below w4.heap.size w4) (by kernel_rfl) (Below.refl _ _).drew (fun hHeld => ?_)
  have HS := hid hHeld
  clear hHeld
  change wpAnyH _ _ _ _ _ _ _ _ (World.drew _)
  refine wpAnyH_take (i := 0) (v := .int .i64 0) rfl (by kernel_rfl) (by kernel_rfl) (by kernel_rfl) (fun _ _ _ h => h) (Or.inl ⟨by rfl, ?q0⟩) HS.out ?_
  case q0 => intro W hSw; have s71 := (hSw.cell (p := ⟨w.heap.size, 71, none⟩) HLT.out).trans HC71.out; first | (go_simp; done) | (go_simp; rfl) | (go_simp; intro hq; exfalso; omega)
  simp only [Act.put, lay6]
  refine wpAnyH_take (i := 1) (v := .bool true) rfl (by kernel_rfl) (by kernel_rfl) (by kernel_rfl) (fun _ _ _ h => h) (Or.inl ⟨by rfl, ?q1⟩) HS.out ?_
  case q1 => intro W hSw; have s71 := (hSw.cell (p := ⟨w.heap.size, 71, none⟩) HLT.out).trans HC71.out; first | (go_simp; done) | (go_simp; rfl) | (go_simp; intro hq; exfalso; omega)
  simp only [Act.put, lay6]
  refine wpAnyH_take (i := 2) (v := .bool true) rfl (by kernel_rfl) (by kernel_rfl) (by kernel_rfl) (fun _ _ _ h => h) (Or.inl ⟨by rfl, ?q2⟩) HS.out ?_
  case q2 => intro W hSw; have s71 := (hSw.cell (p := ⟨w.heap.size, 71, none⟩) HLT.out).trans HC71.out; first | (go_simp; done) | (go_simp; rfl) | (go_simp; intro hq; exfalso; omega)
  simp only [Act.put, lay6]
  refine wpAnyH_take (i := 3) (v := .pointer (some ⟨w.heap.size, 71, none⟩)) rfl (by kernel_rfl) (by kernel_rfl) (by kernel_rfl) (fun _ _ _ h => h) (Or.inl ⟨by rfl, ?q3⟩) HS.out ?_
  case q3 => intro W hSw; have s71 := (hSw.cell (p := ⟨w.heap.size, 71, none⟩) HLT.out).trans HC71.out; first | (go_simp; done) | (go_simp; rfl) | (go_simp; intro hq; exfalso; omega)
  simp only [Act.put, lay6]
  refine wpAnyH_take (i := 4) (v := .slice (some ⟨bs, os, none⟩) sg.length cs) rfl (by kernel_rfl) (by kernel_rfl) (by kernel_rfl) (fun _ _ _ h => h) (Or.inl ⟨by rfl, ?q4⟩) HS.out ?_
  case q4 => intro W hSw; have s71 := (hSw.cell (p := ⟨w.heap.size, 71, none⟩) HLT.out).trans HC71.out; first | (go_simp; done) | (go_simp; rfl) | (go_simp; intro hq; exfalso; omega)
  simp only [Act.put, lay6]
  refine wpAnyH_take (i := 5) (v := .pointer (some ⟨bs, os, none⟩)) rfl (by kernel_rfl) (by kernel_rfl) (by kernel_rfl) (fun _ _ _ h => h) (Or.inl ⟨by rfl, ?q5⟩) HS.out ?_
  case q5 => intro W hSw; have s71 := (hSw.cell (p := ⟨w.heap.size, 71, none⟩) HLT.out).trans HC71.out; first | (go_simp; done) | (go_simp; rfl) | (go_simp; intro hq; exfalso; omega)
  simp only [Act.put, lay6]
  refine wpAnyH_take (i := 6) rfl (by kernel_rfl) (by kernel_rfl) (by kernel_rfl) (fun _ _ _ h => h) (yieldsIf_load_mid (by rfl) 23 _ rfl bs os rfl (dc s0) _ RSL.out Tryz.underlying23 rfl (size_dig DS.out)) HS.out ?_
  simp only [Act.put, lay6]
  rw [dc_arr]
  refine wpAnyH_take (i := 7) (v := .pointer (some ⟨w.heap.size, 1, none⟩)) rfl (by kernel_rfl) (by kernel_rfl) (by kernel_rfl) (fun _ _ _ h => h) (Or.inl ⟨by rfl, ?q7⟩) HS.out ?_
  case q7 => intro W hSw; have s71 := (hSw.cell (p := ⟨w.heap.size, 71, none⟩) HLT.out).trans HC71.out; first | (go_simp; done) | (go_simp; rfl) | (go_simp; intro hq; exfalso; omega)
  simp only [Act.put, lay6]
  refine wpAnyH_take (i := 8) (v := .pointer (some ⟨w.heap.size, 37, none⟩)) rfl (by kernel_rfl) (by kernel_rfl) (by kernel_rfl) (fun _ _ _ h => h) (Or.inl ⟨by rfl, ?q8⟩) HS.out ?_
  case q8 => intro W hSw; have s71 := (hSw.cell (p := ⟨w.heap.size, 71, none⟩) HLT.out).trans HC71.out; first | (go_simp; done) | (go_simp; rfl) | (go_simp; intro hq; exfalso; omega)
  simp only [Act.put, lay6]
  refine wpAnyH_take (i := 9) rfl (by kernel_rfl) (by kernel_rfl) (by kernel_rfl) (fun _ _ _ h => h) (yieldsIf_load_mid (by rfl) 23 _ rfl w.heap.size 37 rfl (dc ub) _ RUB.out Tryz.underlying23 rfl (size_dig UB.out)) HS.out ?_
  simp only [Act.put, lay6]
  rw [dc_arr]
  refine wpAnyH_take (i := 10) (v := .bool (decide (s0 = ub))) rfl (by kernel_rfl) (by kernel_rfl) (by kernel_rfl) (fun _ _ _ h => h) (Or.inl ⟨by rfl, ?q10⟩) HS.out ?_
  case q10 => intro W hSw; have s71 := (hSw.cell (p := ⟨w.heap.size, 71, none⟩) HLT.out).trans HC71.out; first | (go_simp; done) | (go_simp; rfl) | (go_simp; intro hq; exfalso; omega)
  simp only [Act.put, lay6]
  refine wpAnyH_take (i := 11) (v := .bool (decide (s0 = ub))) rfl (by kernel_rfl) (by kernel_rfl) (by kernel_rfl) (fun _ _ _ h => h) (Or.inl ⟨by rfl, ?q11⟩) HS.out ?_
  case q11 => intro W hSw; have s71 := (hSw.cell (p := ⟨w.heap.size, 71, none⟩) HLT.out).trans HC71.out; first | (go_simp; done) | (go_simp; rfl) | (go_simp; intro hq; exfalso; omega)
  simp only [Act.put, lay6]
  refine wpAnyH_take (i := 12) (v := .bool (decide (s0 = ub))) rfl (by kernel_rfl) (by kernel_rfl) (by kernel_rfl) (fun _ _ _ h => h) (Or.inl ⟨by rfl, ?q12⟩) HS.out ?_
  case q12 => intro W hSw; have s71 := (hSw.cell (p := ⟨w.heap.size, 71, none⟩) HLT.out).trans HC71.out; first | (go_simp; done) | (go_simp; rfl) | (go_simp; intro hq; exfalso; omega)
  simp only [Act.put, lay6]
  refine wpAnyH_done (by kernel_rfl) ?_ _
  have B5 := hid (B4.out.trans (HS.out.mono B4.out.size))
  go_wp2
  go_ret
  exact ⟨_, rfl, fun ht => ⟨YP.out, by simpa using ht⟩, B5.out⟩
 ·have hEb : (E == 0) = false := by simpa using hE
  refine wp_region_held_drew (S := Below w4.heap.size w4) (by kernel_rfl) (Below.refl _ _).drew (fun hHeld => ?_)
  have HS := hid hHeld
  clear hHeld
  change wpAnyH _ _ _ _ _ _ _ _ (World.drew _)
  refine wpAnyH_take (i := 0) (v := .int .i64 E) rfl (by kernel_rfl) (by kernel_rfl) (by kernel_rfl) (fun _ _ _ h => h) (Or.inl ⟨by rfl, ?q0⟩) HS.out ?_
  case q0 => intro W hSw; have s71 := (hSw.cell (p := ⟨w.heap.size, 71, none⟩) HLT.out).trans HC71.out; first | (go_simp; done) | (go_simp; rfl) | (go_simp; intro hq; exfalso; omega)
  simp only [Act.put, lay6]
  refine wpAnyH_take (i := 1) (v := .bool false) rfl (by kernel_rfl) (by kernel_rfl) (by kernel_rfl) (fun _ _ _ h => h) (Or.inl ⟨by rfl, ?q1⟩) HS.out ?_
  case q1 => intro W hSw; have s71 := (hSw.cell (p := ⟨w.heap.size, 71, none⟩) HLT.out).trans HC71.out; first | (go_simp; done) | (go_simp; rfl) | (go_simp; intro hq; exfalso; omega)
  simp only [Act.put, lay6]
  refine wpAnyH_take (i := 2) (v := .bool false) rfl (by kernel_rfl) (by kernel_rfl) (by kernel_rfl) (fun _ _ _ h => h) (Or.inl ⟨by rfl, ?q2⟩) HS.out ?_
  case q2 => intro W hSw; have s71 := (hSw.cell (p := ⟨w.heap.size, 71, none⟩) HLT.out).trans HC71.out; first | (go_simp; done) | (go_simp; rfl) | (go_simp; intro hq; exfalso; omega)
  simp only [Act.put, lay6]
  refine wpAnyH_take (i := 3) (v := undef) rfl (by kernel_rfl) (by kernel_rfl) (by kernel_rfl) (fun _ _ _ h => h) (Or.inr ⟨by rfl, rfl⟩) HS.out ?_
  simp only [Act.put, lay6]
  refine wpAnyH_take (i := 4) (v := undef) rfl (by kernel_rfl) (by kernel_rfl) (by kernel_rfl) (fun _ _ _ h => h) (Or.inr ⟨by rfl, rfl⟩) HS.out ?_
  simp only [Act.put, lay6]
  refine wpAnyH_take (i := 5) (v := undef) rfl (by kernel_rfl) (by kernel_rfl) (by kernel_rfl) (fun _ _ _ h => h) (Or.inr ⟨by rfl, rfl⟩) HS.out ?_
  simp only [Act.put, lay6]
  refine wpAnyH_take (i := 6) (v := undef) rfl (by kernel_rfl) (by kernel_rfl) (by kernel_rfl) (fun _ _ _ h => h) (Or.inr ⟨by rfl, rfl⟩) HS.out ?_
  simp only [Act.put, lay6]
  refine wpAnyH_take (i := 7) (v := undef) rfl (by kernel_rfl) (by kernel_rfl) (by kernel_rfl) (fun _ _ _ h => h) (Or.inr ⟨by rfl, rfl⟩) HS.out ?_
  simp only [Act.put, lay6]
  refine wpAnyH_take (i := 8) (v := undef) rfl (by kernel_rfl) (by kernel_rfl) (by kernel_rfl) (fun _ _ _ h => h) (Or.inr ⟨by rfl, rfl⟩) HS.out ?_
  simp only [Act.put, lay6]
  refine wpAnyH_take (i := 9) (v := undef) rfl (by kernel_rfl) (by kernel_rfl) (by kernel_rfl) (fun _ _ _ h => h) (Or.inr ⟨by rfl, rfl⟩) HS.out ?_
  simp only [Act.put, lay6]
  refine wpAnyH_take (i := 10) (v := undef) rfl (by kernel_rfl) (by kernel_rfl) (by kernel_rfl) (fun _ _ _ h => h) (Or.inr ⟨by rfl, rfl⟩) HS.out ?_
  simp only [Act.put, lay6]
  refine wpAnyH_take (i := 11) (v := .bool false) rfl (by kernel_rfl) (by kernel_rfl) (by kernel_rfl) (fun _ _ _ h => h) (Or.inl ⟨by rfl, ?q11⟩) HS.out ?_
  case q11 => intro W hSw; have s71 := (hSw.cell (p := ⟨w.heap.size, 71, none⟩) HLT.out).trans HC71.out; first | (go_simp; done) | (go_simp; rfl) | (go_simp; intro hq; exfalso; omega)
  simp only [Act.put, lay6]
  refine wpAnyH_take (i := 12) (v := .bool false) rfl (by kernel_rfl) (by kernel_rfl) (by kernel_rfl) (fun _ _ _ h => h) (Or.inl ⟨by rfl, ?q12⟩) HS.out ?_
  case q12 => intro W hSw; have s71 := (hSw.cell (p := ⟨w.heap.size, 71, none⟩) HLT.out).trans HC71.out; first | (go_simp; done) | (go_simp; rfl) | (go_simp; intro hq; exfalso; omega)
  simp only [Act.put, lay6]
  refine wpAnyH_done (by kernel_rfl) ?_ _
  have B5 := hid (B4.out.trans (HS.out.mono B4.out.size))
  go_wp2
  go_ret
  exact ⟨_, rfl, (fun ht => by cases ht), B5.out⟩
theorem sound_parts (w : World) (s : Sr) (vc vb vs vd : Value) (h : HSr w s vc vb vs vd) (hkc : KC w) : ∃ (TOP BT ST : Prop), (MayQ s -> TOP -> BT -> ST -> SndQ s) ∧
  (MayQ s -> ∀ (W : World), Below w.heap.size w W -> Calls Tryz.prog 19 #[.agg (frA s vc vb vs)] W fun e w' => ∃ t : Bool, e = .returned (.bool t) /\ (t = true -> TOP) /\ Below W.heap.size W w') ∧
  (MayQ s -> ∀ (W : World), Below w.heap.size w W -> Calls Tryz.prog 20 #[.agg (srA s vc vb vs vd)] W fun e w' => ∃ t : Bool, e = .returned (.bool t) /\ (t = true -> BT) /\ Below W.heap.size W w') ∧
  (MayQ s -> ∀ (W : World), Below w.heap.size w W -> Calls Tryz.prog 21 #[.agg (frA s vc vb vs)] W fun e w' => ∃ t : Bool, e = .returned (.bool t) /\ (t = true -> ST) /\ Below W.heap.size W w') :=
 ⟨clV s.ch (wdN s.u.n.toNat + s.num.toNat) (rtL (s.bl.getD 0 [])) = s.u.a, IsT (s.dt.map bkL1) (wdN s.segs) s.bl, (∃ ls, ls.length = s.segs /\ IsT ls (wdN s.segs) s.sg) /\ s.sg.getD 0 [] = s.u.b,
  fun a b c d => ⟨a, b, c, d.1, d.2⟩,
  fun hm W hb => (sharesSound_any W s vc vb vs (h.fr.below hb) hm.fr (hkc.below hb)).mono fun e w' q => ⟨_, q.1, of_decide_eq_true, q.2⟩,
  fun hm W hb => blocksSound_any W s vc vb vs vd (h.below hb) hm (hkc.below hb),
  fun hm W hb => segsSound_any W s vc vb vs (h.fr.below hb) hm (hkc.below hb)⟩
theorem sound_any (w : World) (s : Sr) (vc vb vs vd : Value) (h : HSr w s vc vb vs vd) (hkp : KP w) (hkc : KC w) : Calls Tryz.prog 5 #[.agg (srA s vc vb vs vd)] w fun e w' => ∃ t : Bool, e = .returned (.bool t) /\ (t = true -> SndQ s) /\ Below w.heap.size w w' := by
 have hu := h.fr.u
 have C1 := hid fun (W : World) (hb : Below w.heap.size w W) => spreads_any W s vc vb vs vd (h.below hb) (hkp.below hb)
 obtain ⟨TOP, BT, ST, fin, c2, c3, c4⟩ := sound_parts w s vc vb vs vd h hkc
 have FIN := hid fin
 have C2 := hid c2
 have C3 := hid c3
 have C4 := hid c4
 clear fin c2 c3 c4
 have HSS := hid (size_srA hu vc vb vs vd)
 have HSF := hid (size_frL hu vc vb vs)
 have HFRA : Hid (∀ j, j < (frL s vc vb vs).length -> (srA s vc vb vs vd)[0 + j]? = (frL s vc vb vs)[j]?) := hid (fun j hj => by
  rw [Nat.zero_add, srA_fr hu vc vb vs vd j (by rw [frL_length hu] at hj; exact hj)]
  unfold frA
  rw [List.getElem?_toArray])
 have HFA : Hid ((frL s vc vb vs).toArray = frA s vc vb vs) := rfl
 obtain ⟨m, Hm⟩ : ∃ x, Hid (srA s vc vb vs vd = x) := ⟨_, rfl⟩
 rw [Hm.out] at C1 C3 HSS HFRA
 rw [Hm.out]
 obtain ⟨fL, HfL⟩ : ∃ x, Hid (frL s vc vb vs = x) := ⟨_, rfl⟩
 rw [HfL.out] at HSF HFRA HFA
 obtain ⟨fA, HfA⟩ : ∃ x, Hid (frA s vc vb vs = x) := ⟨_, rfl⟩
 rw [HfA.out] at HFA C2 C4
 clear h hkp hkc Hm hu HfL HfA
 obtain ⟨S, HS⟩ : ∃ S : Prop, Hid (SndQ s = S) := ⟨_, rfl⟩
 obtain ⟨M, HMm⟩ : ∃ S : Prop, Hid (MayQ s = S) := ⟨_, rfl⟩
 rw [HS.out] at FIN
 rw [HS.out]
 rw [HMm.out] at FIN C1 C2 C3 C4
 clear HS HMm
 obtain ⟨w0, HW0⟩ : ∃ x, Hid (w.alloc (.cells m 31) = x) := ⟨_, rfl⟩
 have H0 : Hid (w0.heap[w.heap.size]? = some (.cells m 31 (0, 0))) := by refine hid ?_; rw [<- HW0.out]; exact heap_alloc_new w _
 have B0 : Hid (Below w.heap.size w w0) := by refine hid ?_; rw [<- HW0.out]; exact (Below.refl w.heap.size w).alloc (Nat.le_refl _) _
 have Z0 : Hid (w.heap.size < w0.heap.size) := by refine hid ?_; rw [<- HW0.out]; simp
 go_enter Tryz.func5, Tryz.ntmps5
 refine wp_seq_k fun K1 h1 => ?_
 have HK1 := hid h1
 clear h1
 go_wp2
 rw [HW0.out]
 refine HK1.out _ _ ?_
 clear HK1 K1
 go_wp2_with (first | (refine wpList_load_row rfl 31 _ rfl w.heap.size rfl 31 m (0, 0) _ H0.out Tryz.underlying31 rfl HSS.out ?_) | fail)
 refine (C1.out w0 B0.out).mono ?_
 rintro e w1 ⟨t1, rfl, ht1, hb1⟩
 have B1 := hid (B0.out.trans (hb1.mono B0.out.size))
 have H1 := hid ((hb1.block w.heap.size Z0.out).trans H0.out)
 have Z1 : Hid (w.heap.size < w1.heap.size) := hid (by have := hb1.size; have := Z0.out; omega)
 have R1 := hid (range_of_row H1.out HFRA.out)
 clear hb1 C1
 rcases (Bool.eq_false_or_eq_true t1).symm with hbt | hbt
 ·subst hbt
  clear ht1
  go_wp2
  go_ret
  exact ⟨false, rfl, (fun h => by cases h), B1.out⟩
 ·subst hbt
  have hm := ht1.1 rfl
  have HM := hid hm
  clear ht1 hm
  go_wp2_with (first | (refine load_mid_on (by rfl) 28 _ rfl w.heap.size 0 rfl fL _ R1.out Tryz.underlying28 rfl HSF.out ?_; rw [HFA.out]) | fail)
  refine (C2.out HM.out w1 B1.out).mono ?_
  rintro e w2 ⟨t2, rfl, ht2, hb2⟩
  have B2 := hid (B1.out.trans (hb2.mono B1.out.size))
  have H2 := hid ((hb2.block w.heap.size Z1.out).trans H1.out)
  have Z2 : Hid (w.heap.size < w2.heap.size) := hid (by have := hb2.size; have := Z1.out; omega)
  clear hb2 C2 R1
  rcases (Bool.eq_false_or_eq_true t2).symm with hbt | hbt
  ·subst hbt
   clear ht2
   go_wp2
   go_ret
   exact ⟨false, rfl, (fun h => by cases h), B2.out⟩
  ·subst hbt
   have HTOP := hid (ht2 rfl)
   clear ht2
   go_wp2_with (first | (refine wpList_load_row_on (by rfl) 31 _ rfl w.heap.size rfl 31 m (0, 0) _ H2.out Tryz.underlying31 rfl HSS.out ?_) | fail)
   refine (C3.out HM.out w2 B2.out).mono ?_
   rintro e w3 ⟨t3, rfl, ht3, hb3⟩
   have B3 := hid (B2.out.trans (hb3.mono B2.out.size))
   have H3 := hid ((hb3.block w.heap.size Z2.out).trans H2.out)
   have R3 := hid (range_of_row H3.out HFRA.out)
   clear hb3 C3
   rcases (Bool.eq_false_or_eq_true t3).symm with hbt | hbt
   ·subst hbt
    clear ht3
    go_wp2
    go_ret
    exact ⟨false, rfl, (fun h => by cases h), B3.out⟩
   ·subst hbt
    have HBT := hid (ht3 rfl)
    clear ht3
    go_wp2_with (first | (refine load_mid_on (by rfl) 28 _ rfl w.heap.size 0 rfl fL _ R3.out Tryz.underlying28 rfl HSF.out ?_; rw [HFA.out]) | fail)
    refine (C4.out HM.out w3 B3.out).mono ?_
    rintro e w4 ⟨t4, rfl, ht4, hb4⟩
    have B4 := hid (B3.out.trans (hb4.mono B3.out.size))
    have HT4 := hid ht4
    clear hb4 C4 ht4
    go_wp2
    go_ret
    exact ⟨t4, rfl, fun h => FIN.out HM.out HTOP.out HBT.out (HT4.out h), B4.out⟩
theorem Sr.eq_iff (s t : Sr) : s = t ↔ FEq s t /\ s.dt = t.dt := by
 cases s; cases t
 simp [FEq]
 constructor
 ·rintro ⟨a, b, c, d, e, f⟩; exact ⟨⟨a, b, c, d, e⟩, f⟩
 ·rintro ⟨⟨a, b, c, d, e⟩, f⟩; exact ⟨a, b, c, d, e, f⟩
theorem sameShare_any (w : World) (s t : Sr) (vc vb vs vd uc ub us ud : Value) (hs : HSr w s vc vb vs vd) (ht : HSr w t uc ub us ud) : Calls Tryz.prog 8 #[.agg (srA s vc vb vs vd), .agg (srA t uc ub us ud)] w fun e w' => ∃ b : Bool, e = .returned (.bool b) /\ (b = true ↔ s = t) /\ Below w.heap.size w w' := by
 have CF := hid fun (W : World) (hb : Below w.heap.size w W) => sameFront_any W s t vc vb vs uc ub us (hs.fr.below hb) (ht.fr.below hb)
 have hsu := hs.fr.u
 have htu := ht.fr.u
 have HSF1 := hid (size_frL hsu vc vb vs)
 have d1 := hid (srA_dt hsu vc vb vs vd)
 have HFRA1 : Hid (∀ j, j < (frL s vc vb vs).length -> (srA s vc vb vs vd)[0 + j]? = (frL s vc vb vs)[j]?) := hid (fun j hj => by
  rw [Nat.zero_add, srA_fr hsu vc vb vs vd j (by rw [frL_length hsu] at hj; exact hj)]
  unfold frA
  rw [List.getElem?_toArray])
 have HFA1 : Hid ((frL s vc vb vs).toArray = frA s vc vb vs) := rfl
 obtain ⟨m1, Hm1⟩ : ∃ x, Hid (srA s vc vb vs vd = x) := ⟨_, rfl⟩
 rw [Hm1.out] at HFRA1 d1
 rw [Hm1.out]
 obtain ⟨fL1, HfL1⟩ : ∃ x, Hid (frL s vc vb vs = x) := ⟨_, rfl⟩
 rw [HfL1.out] at HSF1 HFRA1 HFA1
 obtain ⟨fA1, HfA1⟩ : ∃ x, Hid (frA s vc vb vs = x) := ⟨_, rfl⟩
 rw [HfA1.out] at HFA1 CF
 have HSF2 := hid (size_frL htu uc ub us)
 have d2 := hid (srA_dt htu uc ub us ud)
 have HFRA2 : Hid (∀ j, j < (frL t uc ub us).length -> (srA t uc ub us ud)[0 + j]? = (frL t uc ub us)[j]?) := hid (fun j hj => by
  rw [Nat.zero_add, srA_fr htu uc ub us ud j (by rw [frL_length htu] at hj; exact hj)]
  unfold frA
  rw [List.getElem?_toArray])
 have HFA2 : Hid ((frL t uc ub us).toArray = frA t uc ub us) := rfl
 obtain ⟨m2, Hm2⟩ : ∃ x, Hid (srA t uc ub us ud = x) := ⟨_, rfl⟩
 rw [Hm2.out] at HFRA2 d2
 rw [Hm2.out]
 obtain ⟨fL2, HfL2⟩ : ∃ x, Hid (frL t uc ub us = x) := ⟨_, rfl⟩
 rw [HfL2.out] at HSF2 HFRA2 HFA2
 obtain ⟨fA2, HfA2⟩ : ∃ x, Hid (frA t uc ub us = x) := ⟨_, rfl⟩
 rw [HfA2.out] at HFA2 CF
 obtain ⟨p1, c1, e1, hl1, hx1⟩ := hs.dt.open
 obtain ⟨p2, c2, e2, hl2, hx2⟩ := ht.dt.open
 have hd1 := hs.dt
 have hd2 := ht.dt
 rw [e1] at hd1 d1
 rw [e2] at hd2 d2
 have A1 := hid hd1.at
 have A2 := hid hd2.at
 obtain ⟨X, HX⟩ : ∃ X : Prop, Hid ((s = t) = X) := ⟨_, rfl⟩
 obtain ⟨F, HF⟩ : ∃ X : Prop, Hid (FEq s t = X) := ⟨_, rfl⟩
 have IFF : Hid (X ↔ F /\ s.dt = t.dt) := by refine hid ?_; rw [<- HX.out, <- HF.out]; exact Sr.eq_iff s t
 rw [HX.out]
 rw [HF.out] at CF
 obtain ⟨la, Hla⟩ : ∃ x, Hid (s.dt = x) := ⟨_, rfl⟩
 obtain ⟨lb, Hlb⟩ : ∃ x, Hid (t.dt = x) := ⟨_, rfl⟩
 rw [Hla.out] at IFF A1 d1 hl1
 rw [Hlb.out] at IFF A2 d2 hl2
 unfold maxLen at hx1 hx2
 clear hs ht hsu htu hd1 hd2 HX HF Hm1 Hm2 HfL1 HfL2 HfA1 HfA2
 obtain ⟨w0, HW0⟩ : ∃ x, Hid ((w.alloc (.cells m1 31)).alloc (.cells m2 31) = x) := ⟨_, rfl⟩
 have H1 : Hid (w0.heap[w.heap.size]? = some (.cells m1 31 (0, 0))) := by refine hid ?_; rw [<- HW0.out]; exact (heap_alloc_old _ _ (by simp)).trans (heap_alloc_new w _)
 have H2 : Hid (w0.heap[w.heap.size + 1]? = some (.cells m2 31 (0, 0))) := by
  refine hid ?_
  rw [<- HW0.out]
  have := heap_alloc_new (w.alloc (.cells m1 31)) (.cells m2 31)
  simpa using this
 have B0 : Hid (Below w.heap.size w w0) := by refine hid ?_; rw [<- HW0.out]; exact ((Below.refl w.heap.size w).alloc (Nat.le_refl _) _).alloc (by simp) _
 have Z0 : Hid (w.heap.size + 1 < w0.heap.size) := by refine hid ?_; rw [<- HW0.out]; simp
 have RU1 : Hid (w0.rangeAt w.heap.size 0 fL1) := hid (range_of_row H1.out HFRA1.out)
 have RU2 : Hid (w0.rangeAt (w.heap.size + 1) 0 fL2) := hid (range_of_row H2.out HFRA2.out)
 go_enter Tryz.func8, Tryz.ntmps8
 refine wp_seq_k fun K1 h1 => ?_
 have HK1 := hid h1
 clear h1
 go_wp2
 rw [HW0.out]
 refine HK1.out _ _ ?_
 clear HK1 K1
 go_wp2_with (first | (refine wpList_load_mid rfl 28 _ rfl w.heap.size 0 rfl fL1 _ RU1.out Tryz.underlying28 rfl HSF1.out ?_; rw [HFA1.out]) | (refine wpList_load_mid rfl 28 _ rfl (w.heap.size + 1) 0 rfl fL2 _ RU2.out Tryz.underlying28 rfl HSF2.out ?_; rw [HFA2.out]) | fail)
 refine (CF.out w0 B0.out).mono ?_
 rintro e w1 ⟨t1, rfl, hi1, hb1⟩
 have B1 := hid (B0.out.trans (hb1.mono B0.out.size))
 have H11 := hid ((hb1.block w.heap.size (by have := Z0.out; omega)).trans H1.out)
 have H21 := hid ((hb1.block (w.heap.size + 1) Z0.out).trans H2.out)
 have Z1 : Hid (w.heap.size + 1 < w1.heap.size) := hid (by have := hb1.size; have := Z0.out; omega)
 have j1 : w1.cell? ⟨w.heap.size, 72, none⟩ = some (.slice p1 la.length c1) := (cell_of_row _ _ _ _ _ _ H11.out).trans d1.out
 have j2 : w1.cell? ⟨w.heap.size + 1, 72, none⟩ = some (.slice p2 lb.length c2) := (cell_of_row _ _ _ _ _ _ H21.out).trans d2.out
 have I1 := hid hi1
 clear hb1 hi1 CF RU1 RU2
 rcases (Bool.eq_false_or_eq_true t1).symm with hbt | hbt
 ·subst hbt
  go_wp2
  go_ret
  exact ⟨false, rfl, ⟨fun h => (by cases h), fun f => absurd (I1.out.2 (IFF.out.1 f).1) (by decide)⟩, B1.out⟩
 ·subst hbt
  have YF : Hid F := hid (I1.out.1 rfl)
  by_cases hn : la.length = lb.length
  ·obtain ⟨N, HN⟩ : ∃ N, Hid (la.length = N) := ⟨_, rfl⟩
   have HN2 : Hid (lb.length = N) := hid (by rw [<- hn]; exact HN.out)
   rw [HN.out] at j1 A1 hl1
   rw [HN2.out] at j2 A2 hl2
   clear hn
   go_wp2
   go_loopw [5] (fun ii wr => ∃ I : Nat, I <= N /\ ii = .int .i64 (I : Int) /\ Hid (∀ j, j < I -> la.getD j [] = lb.getD j []) /\ Hid (wr.heap[w.heap.size]? = some (.cells m1 31 (0, 0))) /\ Hid (wr.heap[w.heap.size + 1]? = some (.cells m2 31 (0, 0))) /\ Hid (w.heap.size + 1 < wr.heap.size) /\ Hid (Below w.heap.size w wr)) (fun ii _ => N - (intOf ii).toNat)
   case atStart => exact ⟨0, by omega, rfl, hid (fun j hj => absurd hj (by omega)), H11, H21, Z1, B1⟩
   case round =>
    clear H11 H21 Z1 B1 j1 j2
    obtain ⟨I, hI, rfl, HC, H11, H21, Z1, B1⟩ := hrel
    have j1 : wr.cell? ⟨w.heap.size, 72, none⟩ = some (.slice p1 N c1) := by have := (cell_of_row wr w.heap.size 72 _ _ _ H11.out).trans d1.out; rw [HN.out] at this; exact this
    have j2 : wr.cell? ⟨w.heap.size + 1, 72, none⟩ = some (.slice p2 N c2) := by have := (cell_of_row wr (w.heap.size + 1) 72 _ _ _ H21.out).trans d2.out; rw [HN2.out] at this; exact this
    by_cases hlt : I < N
    ·obtain ⟨b1, o1, rfl, q1⟩ := A1.out (by omega)
     obtain ⟨b2, o2, rfl, q2⟩ := A2.out (by omega)
     obtain ⟨v1, k1, hv1⟩ := q1 I hlt
     obtain ⟨v2, k2, hv2⟩ := q2 I hlt
     have HV1 := hid hv1
     have HV2 := hid hv2
     have FC1 : Hid (∀ W, Below wr.heap.size wr W -> W.cell? ⟨b1, o1 + I, none⟩ = some v1 /\ W.cell? ⟨b2, o2 + I, none⟩ = some v2 /\ W.cell? ⟨w.heap.size, 72, none⟩ = some (.slice (some ⟨b1, o1, none⟩) N c1) /\ W.cell? ⟨w.heap.size + 1, 72, none⟩ = some (.slice (some ⟨b2, o2, none⟩) N c2)) := hid fun W hW => by
      have z := B1.out.trans (hW.mono B1.out.size)
      exact ⟨(z.cell (World.block_lt_of_cell? w _ k1)).trans k1, (z.cell (World.block_lt_of_cell? w _ k2)).trans k2, (hW.cell (p := ⟨w.heap.size, 72, none⟩) (by have := Z1.out; show w.heap.size < _; omega)).trans j1, (hW.cell (p := ⟨w.heap.size + 1, 72, none⟩) Z1.out).trans j2⟩
     have CV : Hid (∀ W, Below wr.heap.size wr W -> (convert 34 9 v1).run Tryz.prog W = .ok (.string (bS (la.getD I []))) W /\ (convert 34 9 v2).run Tryz.prog W = .ok (.string (bS (lb.getD I []))) W) := hid fun W hW => ⟨conv_str (HV1.out.below (B1.out.trans (hW.mono B1.out.size))), conv_str (HV2.out.below (B1.out.trans (hW.mono B1.out.size)))⟩
     have EQ : Hid (bS (la.getD I []) = bS (lb.getD I []) ↔ la.getD I [] = lb.getD I []) := hid ⟨fun h => by rw [<- sB_bS HV1.out.2, h, sB_bS HV2.out.2], fun h => by rw [h]⟩
     obtain ⟨x, Hx⟩ : ∃ x, Hid (bS (la.getD I []) = x) := ⟨_, rfl⟩
     obtain ⟨y, Hy⟩ : ∃ x, Hid (bS (lb.getD I []) = x) := ⟨_, rfl⟩
     rw [Hx.out, Hy.out] at CV EQ
     clear q1 q2 k1 k2 hv1 hv2 Hx Hy
     by_cases he : x = y
     ·have hne : (x.toList == y.toList) = true := by rw [he]; simp
      have YE := hid (EQ.out.1 he)
      clear he EQ
      go_wp2
      refine wp_region_held_drew (S := Below wr.heap.size wr) (by kernel_rfl) (Below.refl _ _).drew (fun hHeld => ?_)
      have HS := hid hHeld
      clear hHeld
      change wpAnyH _ _ _ _ _ _ _ _ (World.drew _)
      refine wpAnyH_take (i := 0) (v := .pointer (some ⟨w.heap.size, 72, none⟩)) rfl (by kernel_rfl) (by kernel_rfl) (by kernel_rfl) (fun _ _ _ h => h) (Or.inl ⟨by rfl, ?q0⟩) HS.out ?_
      case q0 => intro W hSw; obtain ⟨z1, z2, z3, z4⟩ := FC1.out W hSw; obtain ⟨y1, y2⟩ := CV.out W hSw; first | (go_simp; done) | (go_simp; rfl) | (go_simp; intro hq; exfalso; omega)
      simp only [Act.put, lay6]
      refine wpAnyH_take (i := 1) (v := .slice (some ⟨b1, o1, none⟩) N c1) rfl (by kernel_rfl) (by kernel_rfl) (by kernel_rfl) (fun _ _ _ h => h) (Or.inl ⟨by rfl, ?q1⟩) HS.out ?_
      case q1 => intro W hSw; obtain ⟨z1, z2, z3, z4⟩ := FC1.out W hSw; obtain ⟨y1, y2⟩ := CV.out W hSw; first | (go_simp; done) | (go_simp; rfl) | (go_simp; intro hq; exfalso; omega)
      simp only [Act.put, lay6]
      refine wpAnyH_take (i := 2) (v := .int .i64 (I : Int)) rfl (by kernel_rfl) (by kernel_rfl) (by kernel_rfl) (fun _ _ _ h => h) (Or.inl ⟨by rfl, ?q2⟩) HS.out ?_
      case q2 => intro W hSw; obtain ⟨z1, z2, z3, z4⟩ := FC1.out W hSw; obtain ⟨y1, y2⟩ := CV.out W hSw; first | (go_simp; done) | (go_simp; rfl) | (go_simp; intro hq; exfalso; omega)
      simp only [Act.put, lay6]
      refine wpAnyH_take (i := 3) (v := .pointer (some ⟨b1, o1 + I, none⟩)) rfl (by kernel_rfl) (by kernel_rfl) (by kernel_rfl) (fun _ _ _ h => h) (Or.inl ⟨by rfl, ?q3⟩) HS.out ?_
      case q3 => intro W hSw; obtain ⟨z1, z2, z3, z4⟩ := FC1.out W hSw; obtain ⟨y1, y2⟩ := CV.out W hSw; first | (go_simp; done) | (go_simp; rfl) | (go_simp; intro hq; exfalso; omega)
      simp only [Act.put, lay6]
      refine wpAnyH_take (i := 4) (v := v1) rfl (by kernel_rfl) (by kernel_rfl) (by kernel_rfl) (fun _ _ _ h => h) (Or.inl ⟨by rfl, ?q4⟩) HS.out ?_
      case q4 => intro W hSw; obtain ⟨z1, z2, z3, z4⟩ := FC1.out W hSw; obtain ⟨y1, y2⟩ := CV.out W hSw; first | (go_simp; done) | (go_simp; rfl) | (go_simp; intro hq; exfalso; omega)
      simp only [Act.put, lay6]
      refine wpAnyH_take (i := 5) (v := .string x) rfl (by kernel_rfl) (by kernel_rfl) (by kernel_rfl) (fun _ _ _ h => h) (Or.inl ⟨by rfl, ?q5⟩) HS.out ?_
      case q5 => intro W hSw; obtain ⟨z1, z2, z3, z4⟩ := FC1.out W hSw; obtain ⟨y1, y2⟩ := CV.out W hSw; first | (go_simp; done) | (go_simp; rfl) | (go_simp; intro hq; exfalso; omega)
      simp only [Act.put, lay6]
      refine wpAnyH_take (i := 6) (v := .pointer (some ⟨w.heap.size + 1, 72, none⟩)) rfl (by kernel_rfl) (by kernel_rfl) (by kernel_rfl) (fun _ _ _ h => h) (Or.inl ⟨by rfl, ?q6⟩) HS.out ?_
      case q6 => intro W hSw; obtain ⟨z1, z2, z3, z4⟩ := FC1.out W hSw; obtain ⟨y1, y2⟩ := CV.out W hSw; first | (go_simp; done) | (go_simp; rfl) | (go_simp; intro hq; exfalso; omega)
      simp only [Act.put, lay6]
      refine wpAnyH_take (i := 7) (v := .slice (some ⟨b2, o2, none⟩) N c2) rfl (by kernel_rfl) (by kernel_rfl) (by kernel_rfl) (fun _ _ _ h => h) (Or.inl ⟨by rfl, ?q7⟩) HS.out ?_
      case q7 => intro W hSw; obtain ⟨z1, z2, z3, z4⟩ := FC1.out W hSw; obtain ⟨y1, y2⟩ := CV.out W hSw; first | (go_simp; done) | (go_simp; rfl) | (go_simp; intro hq; exfalso; omega)
      simp only [Act.put, lay6]
      refine wpAnyH_take (i := 8) (v := .int .i64 (I : Int)) rfl (by kernel_rfl) (by kernel_rfl) (by kernel_rfl) (fun _ _ _ h => h) (Or.inl ⟨by rfl, ?q8⟩) HS.out ?_
      case q8 => intro W hSw; obtain ⟨z1, z2, z3, z4⟩ := FC1.out W hSw; obtain ⟨y1, y2⟩ := CV.out W hSw; first | (go_simp; done) | (go_simp; rfl) | (go_simp; intro hq; exfalso; omega)
      simp only [Act.put, lay6]
      refine wpAnyH_take (i := 9) (v := .pointer (some ⟨b2, o2 + I, none⟩)) rfl (by kernel_rfl) (by kernel_rfl) (by kernel_rfl) (fun _ _ _ h => h) (Or.inl ⟨by rfl, ?q9⟩) HS.out ?_
      case q9 => intro W hSw; obtain ⟨z1, z2, z3, z4⟩ := FC1.out W hSw; obtain ⟨y1, y2⟩ := CV.out W hSw; first | (go_simp; done) | (go_simp; rfl) | (go_simp; intro hq; exfalso; omega)
      simp only [Act.put, lay6]
      refine wpAnyH_take (i := 10) (v := v2) rfl (by kernel_rfl) (by kernel_rfl) (by kernel_rfl) (fun _ _ _ h => h) (Or.inl ⟨by rfl, ?q10⟩) HS.out ?_
      case q10 => intro W hSw; obtain ⟨z1, z2, z3, z4⟩ := FC1.out W hSw; obtain ⟨y1, y2⟩ := CV.out W hSw; first | (go_simp; done) | (go_simp; rfl) | (go_simp; intro hq; exfalso; omega)
      simp only [Act.put, lay6]
      refine wpAnyH_take (i := 11) (v := .string y) rfl (by kernel_rfl) (by kernel_rfl) (by kernel_rfl) (fun _ _ _ h => h) (Or.inl ⟨by rfl, ?q11⟩) HS.out ?_
      case q11 => intro W hSw; obtain ⟨z1, z2, z3, z4⟩ := FC1.out W hSw; obtain ⟨y1, y2⟩ := CV.out W hSw; first | (go_simp; done) | (go_simp; rfl) | (go_simp; intro hq; exfalso; omega)
      simp only [Act.put, lay6]
      refine wpAnyH_take (i := 12) (v := .bool false) rfl (by kernel_rfl) (by kernel_rfl) (by kernel_rfl) (fun _ _ _ h => h) (Or.inl ⟨by rfl, ?q12⟩) HS.out ?_
      case q12 => intro W hSw; obtain ⟨z1, z2, z3, z4⟩ := FC1.out W hSw; obtain ⟨y1, y2⟩ := CV.out W hSw; first | (go_simp; done) | (go_simp; rfl) | (go_simp; intro hq; exfalso; omega)
      simp only [Act.put, lay6]
      refine wpAnyH_done (by kernel_rfl) ?_ _
      have B5 := hid (B1.out.trans (HS.out.mono B1.out.size))
      have H15 := hid ((HS.out.block w.heap.size (by have := Z1.out; omega)).trans H11.out)
      have H25 := hid ((HS.out.block (w.heap.size + 1) Z1.out).trans H21.out)
      have Z5 : Hid (w.heap.size + 1 < wr.drew.heap.size) := hid (by have := HS.out.size; have := Z1.out; omega)
      go_wp2
      exact ⟨⟨I + 1, by omega, by go_num, hid (fun j hj => by
       by_cases hji : j = I
       ·rw [hji]; exact YE.out
       ·exact HC.out j (by omega)), H15, H25, Z5, B5⟩, by simp [intOf]; omega⟩
     ·have hne : (x.toList == y.toList) = false := by rw [eq_iff_sB]; exact decide_eq_false (fun e => he (sB_inj e))
      have NX : Hid (¬ X) := hid (fun h => he (EQ.out.2 (by rw [(IFF.out.1 h).2])))
      clear he EQ
      go_wp2
      refine wp_region_held_drew (S := Below wr.heap.size wr) (by kernel_rfl) (Below.refl _ _).drew (fun hHeld => ?_)
      have HS := hid hHeld
      clear hHeld
      change wpAnyH _ _ _ _ _ _ _ _ (World.drew _)
      refine wpAnyH_take (i := 0) (v := .pointer (some ⟨w.heap.size, 72, none⟩)) rfl (by kernel_rfl) (by kernel_rfl) (by kernel_rfl) (fun _ _ _ h => h) (Or.inl ⟨by rfl, ?q0⟩) HS.out ?_
      case q0 => intro W hSw; obtain ⟨z1, z2, z3, z4⟩ := FC1.out W hSw; obtain ⟨y1, y2⟩ := CV.out W hSw; first | (go_simp; done) | (go_simp; rfl) | (go_simp; intro hq; exfalso; omega)
      simp only [Act.put, lay6]
      refine wpAnyH_take (i := 1) (v := .slice (some ⟨b1, o1, none⟩) N c1) rfl (by kernel_rfl) (by kernel_rfl) (by kernel_rfl) (fun _ _ _ h => h) (Or.inl ⟨by rfl, ?q1⟩) HS.out ?_
      case q1 => intro W hSw; obtain ⟨z1, z2, z3, z4⟩ := FC1.out W hSw; obtain ⟨y1, y2⟩ := CV.out W hSw; first | (go_simp; done) | (go_simp; rfl) | (go_simp; intro hq; exfalso; omega)
      simp only [Act.put, lay6]
      refine wpAnyH_take (i := 2) (v := .int .i64 (I : Int)) rfl (by kernel_rfl) (by kernel_rfl) (by kernel_rfl) (fun _ _ _ h => h) (Or.inl ⟨by rfl, ?q2⟩) HS.out ?_
      case q2 => intro W hSw; obtain ⟨z1, z2, z3, z4⟩ := FC1.out W hSw; obtain ⟨y1, y2⟩ := CV.out W hSw; first | (go_simp; done) | (go_simp; rfl) | (go_simp; intro hq; exfalso; omega)
      simp only [Act.put, lay6]
      refine wpAnyH_take (i := 3) (v := .pointer (some ⟨b1, o1 + I, none⟩)) rfl (by kernel_rfl) (by kernel_rfl) (by kernel_rfl) (fun _ _ _ h => h) (Or.inl ⟨by rfl, ?q3⟩) HS.out ?_
      case q3 => intro W hSw; obtain ⟨z1, z2, z3, z4⟩ := FC1.out W hSw; obtain ⟨y1, y2⟩ := CV.out W hSw; first | (go_simp; done) | (go_simp; rfl) | (go_simp; intro hq; exfalso; omega)
      simp only [Act.put, lay6]
      refine wpAnyH_take (i := 4) (v := v1) rfl (by kernel_rfl) (by kernel_rfl) (by kernel_rfl) (fun _ _ _ h => h) (Or.inl ⟨by rfl, ?q4⟩) HS.out ?_
      case q4 => intro W hSw; obtain ⟨z1, z2, z3, z4⟩ := FC1.out W hSw; obtain ⟨y1, y2⟩ := CV.out W hSw; first | (go_simp; done) | (go_simp; rfl) | (go_simp; intro hq; exfalso; omega)
      simp only [Act.put, lay6]
      refine wpAnyH_take (i := 5) (v := .string x) rfl (by kernel_rfl) (by kernel_rfl) (by kernel_rfl) (fun _ _ _ h => h) (Or.inl ⟨by rfl, ?q5⟩) HS.out ?_
      case q5 => intro W hSw; obtain ⟨z1, z2, z3, z4⟩ := FC1.out W hSw; obtain ⟨y1, y2⟩ := CV.out W hSw; first | (go_simp; done) | (go_simp; rfl) | (go_simp; intro hq; exfalso; omega)
      simp only [Act.put, lay6]
      refine wpAnyH_take (i := 6) (v := .pointer (some ⟨w.heap.size + 1, 72, none⟩)) rfl (by kernel_rfl) (by kernel_rfl) (by kernel_rfl) (fun _ _ _ h => h) (Or.inl ⟨by rfl, ?q6⟩) HS.out ?_
      case q6 => intro W hSw; obtain ⟨z1, z2, z3, z4⟩ := FC1.out W hSw; obtain ⟨y1, y2⟩ := CV.out W hSw; first | (go_simp; done) | (go_simp; rfl) | (go_simp; intro hq; exfalso; omega)
      simp only [Act.put, lay6]
      refine wpAnyH_take (i := 7) (v := .slice (some ⟨b2, o2, none⟩) N c2) rfl (by kernel_rfl) (by kernel_rfl) (by kernel_rfl) (fun _ _ _ h => h) (Or.inl ⟨by rfl, ?q7⟩) HS.out ?_
      case q7 => intro W hSw; obtain ⟨z1, z2, z3, z4⟩ := FC1.out W hSw; obtain ⟨y1, y2⟩ := CV.out W hSw; first | (go_simp; done) | (go_simp; rfl) | (go_simp; intro hq; exfalso; omega)
      simp only [Act.put, lay6]
      refine wpAnyH_take (i := 8) (v := .int .i64 (I : Int)) rfl (by kernel_rfl) (by kernel_rfl) (by kernel_rfl) (fun _ _ _ h => h) (Or.inl ⟨by rfl, ?q8⟩) HS.out ?_
      case q8 => intro W hSw; obtain ⟨z1, z2, z3, z4⟩ := FC1.out W hSw; obtain ⟨y1, y2⟩ := CV.out W hSw; first | (go_simp; done) | (go_simp; rfl) | (go_simp; intro hq; exfalso; omega)
      simp only [Act.put, lay6]
      refine wpAnyH_take (i := 9) (v := .pointer (some ⟨b2, o2 + I, none⟩)) rfl (by kernel_rfl) (by kernel_rfl) (by kernel_rfl) (fun _ _ _ h => h) (Or.inl ⟨by rfl, ?q9⟩) HS.out ?_
      case q9 => intro W hSw; obtain ⟨z1, z2, z3, z4⟩ := FC1.out W hSw; obtain ⟨y1, y2⟩ := CV.out W hSw; first | (go_simp; done) | (go_simp; rfl) | (go_simp; intro hq; exfalso; omega)
      simp only [Act.put, lay6]
      refine wpAnyH_take (i := 10) (v := v2) rfl (by kernel_rfl) (by kernel_rfl) (by kernel_rfl) (fun _ _ _ h => h) (Or.inl ⟨by rfl, ?q10⟩) HS.out ?_
      case q10 => intro W hSw; obtain ⟨z1, z2, z3, z4⟩ := FC1.out W hSw; obtain ⟨y1, y2⟩ := CV.out W hSw; first | (go_simp; done) | (go_simp; rfl) | (go_simp; intro hq; exfalso; omega)
      simp only [Act.put, lay6]
      refine wpAnyH_take (i := 11) (v := .string y) rfl (by kernel_rfl) (by kernel_rfl) (by kernel_rfl) (fun _ _ _ h => h) (Or.inl ⟨by rfl, ?q11⟩) HS.out ?_
      case q11 => intro W hSw; obtain ⟨z1, z2, z3, z4⟩ := FC1.out W hSw; obtain ⟨y1, y2⟩ := CV.out W hSw; first | (go_simp; done) | (go_simp; rfl) | (go_simp; intro hq; exfalso; omega)
      simp only [Act.put, lay6]
      refine wpAnyH_take (i := 12) (v := .bool true) rfl (by kernel_rfl) (by kernel_rfl) (by kernel_rfl) (fun _ _ _ h => h) (Or.inl ⟨by rfl, ?q12⟩) HS.out ?_
      case q12 => intro W hSw; obtain ⟨z1, z2, z3, z4⟩ := FC1.out W hSw; obtain ⟨y1, y2⟩ := CV.out W hSw; first | (go_simp; done) | (go_simp; rfl) | (go_simp; intro hq; exfalso; omega)
      simp only [Act.put, lay6]
      refine wpAnyH_done (by kernel_rfl) ?_ _
      have B5 := hid (B1.out.trans (HS.out.mono B1.out.size))
      go_wp2
      go_ret
      exact ⟨false, rfl, ⟨fun h => (by cases h), fun f => absurd f NX.out⟩, B5.out⟩
    ·have hIN : I = N := by omega
     subst hIN
     have YX : Hid X := hid (IFF.out.2 ⟨YF.out, List.ext_getElem (by rw [HN.out, HN2.out]) fun i h1 h2 => by
      have := HC.out i (by rw [<- HN.out]; exact h1)
      simpa [List.getD, List.getElem?_eq_getElem h1, List.getElem?_eq_getElem h2] using this⟩)
     go_wp2
     go_ret
     exact ⟨true, rfl, ⟨fun _ => YX.out, fun _ => rfl⟩, B1.out⟩
  ·have hnb : ((la.length : Int) != (lb.length : Int)) = true := by simp; omega
   have NX : Hid (¬ X) := hid (fun h => hn (by rw [(IFF.out.1 h).2]))
   clear hn
   go_wp2
   go_ret
   exact ⟨false, rfl, ⟨fun h => (by cases h), fun f => absurd f NX.out⟩, B1.out⟩
theorem plain_ok : OkS 1 1 50 60 := by unfold OkS; decide
theorem plain_p : plF 1 1 50 60 4 = 228 + (uL 1 1 50 60 : Int) /\ plF 1 1 50 60 5 = 288 + (uL 1 1 50 60 : Int) := by
 have e1 : plF 1 1 50 60 4 = 36 + (uL 1 1 50 60 : Int) + (lgN (1 : Int).toNat : Int) * 32 + ndN (upI 60 50) * 32 + ndN (upI 60 50) * 32 := rfl
 have e2 : plF 1 1 50 60 5 = plF 1 1 50 60 4 + dtN 1 1 50 60 := rfl
 have a1 : (lgN (1 : Int).toNat : Int) = 0 := by decide
 have a2 : ndN (upI 60 50) = 3 := by decide
 have a3 : dtN 1 1 50 60 = 60 := by decide
 rw [a1, a2] at e1
 rw [a3] at e2
 omega
theorem plain_pl : plV 1 1 50 60 1 = 278 + (uL 1 1 50 60 : Int) /\ plN2 1 1 50 60 1 = 10 /\ plE 60 50 1 = 0 := by
 have e1 : plV 1 1 50 60 1 = plF 1 1 50 60 4 + 1 * (50 / 1) := by unfold plV; rw [if_pos (by decide)]; rfl
 have e2 := plain_p.1
 refine ⟨by omega, by decide, by decide⟩
theorem plain_any (w : World) : Calls Tryz.prog 14 #[] w fun e w' => e = .returned (shV (shR 1 1 50 60)) /\ Below w.heap.size w w' := by
 rw [show shV (shR 1 1 50 60) = .agg #[.int .i64 1, .int .i64 1, .int .i64 50, .int .i64 60, .int .i64 2, .int .i64 10, .int .i64 50, .int .i64 10] from by kernel_rfl]
 go_enter Tryz.func14, Tryz.ntmps14
 go_wp2
 refine bodyPost_ret (v := .agg #[.int .i64 1, .int .i64 1, .int .i64 50, .int .i64 60, .int .i64 2, .int .i64 10, .int .i64 50, .int .i64 10]) (results_cell_row (p := 0) (ty := 48) rfl _ _ w.heap.size 48 _ (0, 0) _ rfl (heap_alloc_new w _) Tryz.underlying48 rfl (by exact size_shape)) rfl ?_
 exact ⟨rfl, (Below.refl _ w).alloc (Nat.le_refl _) _⟩
theorem lives_any (w : World) (hkp : KP w) : Calls Tryz.prog 4 #[] w fun e w' => e = .returned (.bool true) /\ Below w.heap.size w w' := by
 have CP := hid fun w => plain_any w
 have C1 := hid fun w => frontLen_ok w 1 1 50 60 plain_ok
 have C2 := hid fun w => len_ok w 1 1 50 60 plain_ok
 have C3 := hid fun w => place_ok w 1 1 50 60 plain_ok 1
 have C4 := hid fun w => length_any w (ubZ 1 1 50 60) (ubZ_ok 1 1 50 60)
 have e0 : chE (ubZ 1 1 50 60) = 0 := by unfold chE; rw [if_pos (show OkS (ubZ 1 1 50 60).k (ubZ 1 1 50 60).n (ubZ 1 1 50 60).g (ubZ 1 1 50 60).z from plain_ok)]
 rw [e0, show (wrL (ubZ 1 1 50 60)).length = uL 1 1 50 60 from rfl] at C4
 rw [plain_p.1] at C1
 rw [plain_p.2] at C2
 rw [plain_pl.1, plain_pl.2.1, plain_pl.2.2] at C3
 have hu := uL_le 1 1 50 60
 have SZ := hid (set_z 1 1 50 60)
 obtain ⟨U, HU⟩ : ∃ U, Hid (uL 1 1 50 60 = U) := ⟨_, rfl⟩
 rw [HU.out] at C1 C2 C3 C4 hu
 obtain ⟨m, Hm⟩ : ∃ m, Hid (shV (shR 1 1 50 60) = m) := ⟨_, rfl⟩
 rw [Hm.out] at C1 C2 C3 CP
 obtain ⟨y, Hy⟩ : ∃ y, Hid (ubA (ubZ 1 1 50 60) = y) := ⟨_, rfl⟩
 rw [Hy.out] at C4 SZ
 have HK := hid hkp
 clear hkp e0
 have k1 : IntKind.i64.wrap (228 + (U : Int)) = 228 + (U : Int) := by rw [IntKind.wrap_i64]; omega
 have k2 : IntKind.i64.wrap (288 + (U : Int)) = 288 + (U : Int) := by rw [IntKind.wrap_i64]; omega
 have k3 : IntKind.i64.wrap (278 + (U : Int)) = 278 + (U : Int) := by rw [IntKind.wrap_i64]; omega
 go_enter Tryz.func4, Tryz.ntmps4
 go_wp2_with fail
 refine (CP.out w).mono ?_
 rintro e w1 ⟨rfl, hb1⟩
 have B1 := hid hb1
 clear hb1
 go_wp2_with fail
 refine (C1.out w1 (HK.out.below B1.out)).mono ?_
 rintro e w2 ⟨rfl, hb2⟩
 have B2 := hid (B1.out.trans (hb2.mono B1.out.size))
 clear hb2
 go_wp2_with fail
 refine (CP.out w2).mono ?_
 rintro e w3 ⟨rfl, hb3⟩
 have B3 := hid (B2.out.trans (hb3.mono B2.out.size))
 clear hb3
 go_wp2_with fail
 refine (C2.out w3 (HK.out.below B3.out)).mono ?_
 rintro e w4 ⟨rfl, hb4⟩
 have B4 := hid (B3.out.trans (hb4.mono B3.out.size))
 clear hb4
 go_wp2_with fail
 refine (CP.out w4).mono ?_
 rintro e w5 ⟨rfl, hb5⟩
 have B5 := hid (B4.out.trans (hb5.mono B4.out.size))
 clear hb5
 go_wp2_with fail
 refine (C3.out w5 (HK.out.below B5.out)).mono ?_
 rintro e w6 ⟨rfl, hb6⟩
 have B6 := hid (B5.out.trans (hb6.mono B5.out.size))
 clear hb6
 go_wp2_with fail
 rw [SZ.out]
 refine (C4.out w6 (HK.out.below B6.out)).mono ?_
 rintro e w7 ⟨rfl, hb7⟩
 have B7 := hid (B6.out.trans (hb7.mono B6.out.size))
 clear hb7 hu
 go_wp2
 go_ret
 exact ⟨rfl, B7.out⟩
end Go.Proofs.YtdgollnapbonjaaGreatDoor
