/- Of the road to tagCallsUptoCard_holds: TcAskR, LentLists2, KeptLists2, OverLists3, TcAskB. -/
import Derived.Test.YtcpchhigiohlnaaDoorG14
import Derived.Test.YtcpchhigiohlnaaDoorG09
import Derived.Deep.AppendLies
import Derived.Deep.RegionHeld3
import Derived.Deep.RegionLaw
import Derived.Deep.DrawnRows
import Derived.Deep.DeepCutAuto
import Derived.Deep.CutBlock
set_option linter.unusedVariables false
set_option linter.unusedSimpArgs false
set_option maxRecDepth 100000
set_option maxHeartbeats 16000000
namespace Go.Proofs.YtcpchhigiohlnaaDoor
open Go Go.RowKit
def Bkt (B g : Nat) (w : World) (n : Nat) : Prop := ∃ (v1 v2 v3 v4 : Value) (x1 x2 : List Value) (l : List (List Int)) (us ms : List Value) (xss : List (List Value)) (lss : List (List (List Int))),
 BkX B g (fun b => B <= b /\ b < w.heap.size) w v1 v2 v3 v4 x1 x2 l l us ms xss lss lss /\ l.length <= n /\ lss.length <= n /\ (∀ q ∈ l, q.length <= 100000000) /\ (∀ ls ∈ lss, ls.length <= 3 /\ ∀ q ∈ ls, q.length <= 2000000)
theorem rdF_bound (raw : List Int) (h : raw.length <= 2000000) : (rdF raw).2.2.2.length <= 3 /\ ∀ q ∈ (rdF raw).2.2.2, q.length <= 2000000 := by
 obtain ⟨⟨fs, p, b⟩, hc⟩ : ∃ x, cutF raw raw.length 0 [] = x := ⟨_, rfl⟩
 have nil : ([] : List (List Int)).length <= 3 /\ ∀ q ∈ ([] : List (List Int)), q.length <= 2000000 := ⟨by simp, fun q hq => by cases hq⟩
 cases b with
 | false => rw [rdF_false hc]; exact nil
 | true =>
  cases fs with
  | nil => exact absurd rfl (cutF_true hc)
  | cons x ls =>
   rw [rdF_true hc]
   by_cases h1 : bwT (bS x) = 0
   ·rw [if_pos h1]; exact nil
   ·rw [if_neg h1]
    by_cases h2 : FitQ (bwT (bS x)) ls
    ·rw [if_pos h2]
     have hl := cutF_len hc
     rw [List.flatten_cons, List.length_append, List.length_cons] at hl
     refine ⟨(fit_ne ⟨⟨by omega, bwT_le _⟩, h2⟩).2, fun q hq => ?_⟩
     have := (List.sublist_flatten_of_mem (show q ∈ ls from hq)).length_le
     omega
    ·rw [if_neg h2]; exact nil
theorem ask_read (B n : Nat) (hnn : n <= 3000000) (w : World) (g : Nat) (o : Tc) (ho : o.ok) (ht : HTc w o) (hk : KC w) (hc : o.cl = 2) (hbk : Bkt B g w n) : Calls Tryd.prog 5 #[.pointer (some ⟨g, 0, none⟩), .agg o.cs.toArray] w fun e w' => e = .returned (.bool true) /\ Bkt B g w' (n + 1) /\ (∀ b, b < B -> w'.heap[b]? = w.heap[b]?) /\ w.heap.size <= w'.heap.size /\ w'.os = w.os /\ w'.tape = w.tape /\ w'.output = w.output := by
 have HO := hid ho
 have HK := hid hk
 have HT := hid ht
 obtain ⟨hp, hd⟩ := ht
 have HP := hid hp
 have HD := hid hd
 obtain ⟨pp, cp, epv, hpc, _⟩ := hp.open
 obtain ⟨pd, cd, edv, hdc, _⟩ := hd.open
 obtain ⟨A, HA⟩ : ∃ A, Hid (o.cs.toArray = A) := ⟨_, rfl⟩
 have SZA : Hid ((Tryd.prog.info? 37).map (·.size) = some A.size) := by refine hid ?_; rw [<- HA.out, List.size_toArray, Tc.len ho]; exact size_op
 rw [HA.out]
 obtain ⟨ps, HPS⟩ : ∃ x, Hid (o.ps = x) := ⟨_, rfl⟩
 obtain ⟨ds, HDS⟩ : ∃ x, Hid (o.ds = x) := ⟨_, rfl⟩
 obtain ⟨t, HTT⟩ : ∃ x, Hid (o.tg = x) := ⟨_, rfl⟩
 obtain ⟨cl, HCL⟩ : ∃ x, Hid (o.cl = x) := ⟨_, rfl⟩
 rw [HCL.out] at hc
 have hps : ps.flatten.length + ps.length + 1 <= 1048576 := by rw [<- HPS.out]; exact ho.ps
 have hds : ds.length <= 1048576 := by rw [<- HDS.out]; exact ho.ds
 rw [HPS.out] at hpc epv HP
 rw [HDS.out] at hdc edv HD
 rw [epv] at HP
 rw [edv] at HD
 have HPSL := hid hps
 have HDSL := hid hds
 obtain ⟨np, HNP⟩ : ∃ x, Hid (ps.length = x) := ⟨_, rfl⟩
 obtain ⟨nd, HND⟩ : ∃ x, Hid (ds.length = x) := ⟨_, rfl⟩
 rw [HNP.out] at epv HP hpc
 rw [HND.out] at edv HD hdc hds
 have CELL : Hid (∀ (W : World) (b : Nat), W.heap[b]? = some (.cells A 37 (0, 0)) -> W.cell? ⟨b, 0, none⟩ = some (.int .i64 cl) /\ W.cell? ⟨b, 1, none⟩ = some (.int .u8 (t : Int)) /\ W.cell? ⟨b, 2, none⟩ = some (.slice pp np cp) /\ W.cell? ⟨b, 3, none⟩ = some (.slice pd nd cd)) := hid fun W b hW => by
  rw [<- HA.out] at hW
  obtain ⟨q0, q1, q2, q3, _⟩ := Tc.at hW
  rw [epv] at q2
  rw [edv] at q3
  rw [HTT.out] at q1
  rw [HCL.out] at q0
  exact ⟨q0, q1, q2, q3⟩
 obtain ⟨W0, hW0⟩ : ∃ W0, Hid (w.alloc (.cells A 37) = W0) := ⟨_, rfl⟩
 have B0 : Hid (Below w.heap.size w W0) := by rw [<- hW0.out]; exact (Below.refl _ w).alloc (Nat.le_refl _) _
 have X0 : Hid (W0.heap[w.heap.size]? = some (.cells A 37 (0, 0))) := by rw [<- hW0.out]; exact heap_alloc_new w _
 have S0 : Hid (w.heap.size < W0.heap.size) := hid (Array.getElem?_eq_some_iff.1 X0.out).1
 obtain ⟨c0, c1, c2, c3⟩ := CELL.out W0 _ X0.out
 subst hc
 obtain ⟨v1, v2, v3, v4, x1, x2, l, us, ms, xss, lss, hbx, hl1, hl2, hl3, hl4⟩ := hbk
 have HBX := hid hbx
 have HL1 := hid hl1
 have HL2 := hid hl2
 have HL3 := hid hl3
 have HL4 := hid hl4
 have HNN := hid hnn
 have GB : Hid (B <= g /\ g < w.heap.size) := hid (hbx.pl g hbx.pg)
 obtain ⟨⟨T, E, PL, ls⟩, HRD⟩ : ∃ x, Hid (rdF ds = x) := ⟨_, rfl⟩
 have HRB : Hid (ls.length <= 3 /\ ∀ q ∈ ls, q.length <= 2000000) := hid (by
  have := rdF_bound ds (by have := HDSL.out; omega)
  rwa [HRD.out] at this)
 have CL := hid (lent_any W0 _ ds (HD.out.below B0.out) (by have := HDSL.out; omega))
 clear ho hk hp hd hps hds hbx hl1 hl2 hl3 hl4 hnn
 go_enter Tryd.func5, Tryd.ntmps5
 go_wp2_with (first | rw [hW0.out] | fail)
 refine CL.out.mono ?_
 rintro e w1 ⟨u1, rfl, ho1, hb1⟩
 obtain ⟨g1, k1, rfl, hg1, hg1b, hc1, hc1b, hbl, _⟩ := lent_part ho1 HD.out.2
 rw [HND.out] at hc1 hbl
 have O1 := hid ho1
 have b1 := hid hb1
 have B1 := hid (B0.out.trans (hb1.mono B0.out.size))
 have X1 := hid ((hb1.block _ S0.out).trans X0.out)
 have G1 := hid (show W0.heap.size <= g1 /\ g1 < w1.heap.size from ⟨hg1, hg1b⟩)
 have HC1 := hid hc1
 have CR := hid (treadC w1 _ ds hbl (by have := HDSL.out; omega))
 rw [HRD.out] at CR
 dsimp only at CR
 clear ho1 hb1 c0 c1 c2 c3 CL hg1 hg1b hbl
 obtain ⟨c0, c1, c2, c3⟩ := CELL.out w1 _ X1.out
 rw [HND.out]
 have r1 : ∀ W, (Instr.slice 30 (.slice (some ⟨g1, 0, none⟩) (nd + 70) k1) none (some (.int .i64 (nd : Int))) none).run Tryd.prog W = .ok (.slice (some ⟨g1, 0, none⟩) nd k1) W := fun W => slice_hT W g1 (nd + 70) k1 nd (by have := HC1.out; omega) (by have := HC1.out; omega)
 go_wp2_with fail
 refine CR.out.mono ?_
 rintro e w2 ⟨u2, xs, rfl, hpx, hb2⟩
 have PX2 := hid hpx
 have b2 := hid hb2
 have B2 := hid (B1.out.trans (hb2.mono B1.out.size))
 have X2 := hid ((hb2.block _ (Array.getElem?_eq_some_iff.1 X1.out).1).trans X1.out)
 obtain ⟨p2, k2, e2⟩ := own_slice hpx.row
 subst e2
 have CK := hid (kept_any w2 _ _ (lent ds) ds (HB.of_own (own_below O1.out hb2) (lent_byt HD.out.2)) (HD.out.below B2.out) (by have := HDSL.out; omega))
 rw [decide_eq_true rfl] at CK
 simp only [HND.out] at CK
 clear c0 c1 c2 c3 CR hpx hb2 r1
 obtain ⟨c0, c1, c2, c3⟩ := CELL.out w2 _ X2.out
 go_wp2_with fail
 refine CK.out.mono ?_
 rintro e w3 ⟨rfl, hb3⟩
 have b3 := hid hb3
 have B3 := hid (B2.out.trans (hb3.mono B2.out.size))
 have CO := hid (over_byt w3 _ _ (lent ds) (own_below (own_below O1.out b2.out) hb3) (lent_byt HD.out.2) (by rw [lent_length]; have := HDSL.out; omega))
 simp only [lent_length, HND.out] at CO
 clear c0 c1 c2 c3 CK hb3
 go_wp2_with fail
 refine CO.out.mono ?_
 rintro e w4 ⟨rfl, -, hg4⟩
 have Q34 : Hid (∀ b, b < w3.heap.size -> b ≠ g1 -> w4.heap[b]? = w3.heap[b]?) := hid fun b q1 q2 => hg4.block b q1 (fun e => q2 (by have e' : some b = some g1 := e; cases e'; rfl))
 have S4 := hid hg4.size
 have B4 : Hid (Below w.heap.size w w4) := hid (B3.out.grown hg4 B3.out.size (fun q e => by have e' : some g1 = some q := e; cases e'; have := G1.out; have := S0.out; omega))
 have X4 : Hid (w4.heap[w.heap.size]? = some (.cells A 37 (0, 0))) := hid ((Q34.out _ (by have := (Array.getElem?_eq_some_iff.1 X2.out).1; have := b3.out.size; omega) (by have := G1.out; have := S0.out; omega)).trans ((b3.out.block _ (Array.getElem?_eq_some_iff.1 X2.out).1).trans X2.out))
 have CD := hid (rreadC w4 _ ds (HD.out.below B4.out) (by have := HDSL.out; omega))
 clear hg4 CO
 obtain ⟨c0, c1, c2, c3⟩ := CELL.out w4 _ X4.out
 go_wp2_with fail
 refine CD.out.mono ?_
 rintro e w5 ⟨t5, u5, a5, E5, rfl, hq5, hb5⟩
 obtain ⟨y1, y2, y3, hq6⟩ := hq5.rd
 rw [HRD.out] at y1 y2 y3 hq6
 dsimp only at y1 y2 y3 hq6
 subst y1 y2 y3
 obtain ⟨p5, k5, e5, _, _⟩ := (hq6 w5 (fun b _ _ => rfl)).open
 subst e5
 have HM := hid hq6
 have b5 := hid hb5
 have B5 := hid (B4.out.trans (hb5.mono B4.out.size))
 have K5 : Hid (∀ b, b < w.heap.size -> w5.heap[b]? = w.heap[b]?) := hid fun b hb => B5.out.block b hb
 have Q25 : Hid (∀ b, w1.heap.size <= b -> b < w2.heap.size -> w5.heap[b]? = w2.heap[b]?) := hid fun b q1 q2 => by
  rw [b5.out.block b (by have := b3.out.size; have := S4.out; omega), Q34.out b (by have := b3.out.size; omega) (by have := G1.out; omega), b3.out.block b q2]
 have PX5 : Hid (PX B w5 (.slice p2 ls.length k2) xs ls) := hid ((PX2.out.keep (fun b q1 q2 => Q25.out b q1 q2)).low (by have := GB.out; have := S0.out; have := G1.out; omega))
 have BX5 : Hid (BkX B g (fun b => B <= b /\ b < w.heap.size) w5 v1 v2 v3 v4 x1 x2 l l us ms xss lss lss) := hid (HBX.out.keep B5.out.size (fun b q => K5.out b q.2))
 clear hq5 hq6 hb5 CD c0 c1 c2 c3 HBX
 obtain ⟨a3, k3, e3⟩ := own_slice BX5.out.r3
 obtain ⟨a4, k4, e4⟩ := own_slice BX5.out.r4
 obtain ⟨nu, HNU⟩ : ∃ x, Hid (us.length = x) := ⟨_, rfl⟩
 obtain ⟨nm, HNM⟩ : ∃ x, Hid (ms.length = x) := ⟨_, rfl⟩
 rw [HNU.out] at e3
 rw [HNM.out] at e4
 subst e3 e4
 obtain ⟨nl, HNL⟩ : ∃ x, Hid (ls.length = x) := ⟨_, rfl⟩
 rw [HNL.out]
 rw [HNL.out] at PX5 HM
 have hnu : nu <= 3000000 := by have := BX5.out.c1; have := BX5.out.c2; have := HL2.out; have := HNU.out; have := HNN.out; omega
 have hnm : nm <= 3000000 := by have := BX5.out.c3; have := HL2.out; have := HNM.out; have := HNN.out; omega
 have g2 : w5.cell? ⟨g, 2, none⟩ = some (.slice a3 nu k3) := by rw [cell_of_row w5 _ _ _ _ _ BX5.out.cell]; rfl
 obtain ⟨w5a, HW5a⟩ : ∃ x, Hid (w5.alloc (.cells #[.slice p2 nl k2] 24) = x) := ⟨_, rfl⟩
 have b5a : Hid (Below w5.heap.size w5 w5a) := by rw [<- HW5a.out]; exact (Below.refl _ _).alloc (Nat.le_refl _) _
 have Z5a : Hid (w5a.heap.size = w5.heap.size + 1) := by rw [<- HW5a.out]; exact hid (by simp)
 have h5a : w5a.cell? ⟨w5.heap.size, 0, none⟩ = some (.slice p2 nl k2) := by rw [<- HW5a.out, cell_of_row _ _ _ _ _ _ (heap_alloc_new w5 _)]; rfl
 have R3 : w5a.ownsRow B 24 1 (.slice a3 nu k3) nu us := by have q := own_below BX5.out.r3 b5a.out; rwa [HNU.out] at q
 have R3h := hid R3
 have H5a := hid h5a
 have hBs : B <= w5a.heap.size := by have := GB.out; have := B5.out.size; have := b5a.out.size; omega
 have HBS := hid hBs
 clear R3 h5a hBs
 go_wp2_with (first | rw [HW5a.out] | (at_builtin; refine wpList_appTo rfl _ _ rfl B _ nu us rfl R3h.out ⟨w5.heap.size, 0, none⟩ 1 (.slice p2 nl k2) rfl rfl H5a.out (by omega) HBS.out ?_))
 intro v3' w6 ho6 hg6 hw6
 have BX7 : Hid (BkX B g (fun b => (B <= b /\ b < w.heap.size) \/ (w1.heap.size <= b /\ b < w2.heap.size) \/ (w5.heap.size <= b /\ b < w6.heap.size)) (w6.setCell ⟨g, 2, none⟩ v3') v1 v2 v3' (.slice a4 nm k4) x1 x2 l l (us ++ [.slice p2 nl k2]) ms (xss ++ [xs]) (lss ++ [ls]) lss) := hid (BX5.out.push3 (Q := fun b => w1.heap.size <= b /\ b < w2.heap.size) (fun b q => ⟨fun e => by have := S0.out; have := b1.out.size; omega, by have := GB.out; have := S0.out; have := b1.out.size; omega, by have := b3.out.size; have := S4.out; have := b5.out.size; omega⟩) PX5.out (fun b e => ⟨(own_atL PX2.out.row (by rw [HNL.out]; exact e)).2.1, (own_atL PX2.out.row (by rw [HNL.out]; exact e)).1⟩) (fun j hj b e => ⟨(own_atL (PX2.out.apt.2.1 j hj) e).2.1, (own_atL (PX2.out.apt.2.1 j hj) e).1⟩)
  (o := .cells #[.slice p2 nl k2] 24) (by rw [HNU.out]; exact ho6) (by rw [HW5a.out]; exact hg6) (by rcases hw6 with q | ⟨q1, q2⟩; exact .inl q; exact .inr ⟨by rw [q1, Z5a.out], by rw [Z5a.out] at q2; exact q2⟩))
 have hz6 : w6.cell? ⟨g, 2, none⟩ = some (.slice a3 nu k3) := by
  have q : w6.heap[g]? = w5a.heap[g]? := hg6.block g (by have := GB.out; have := B5.out.size; have := b5a.out.size; omega) (fun e => ne_bk R3h.out ((b5a.out.block g (Array.getElem?_eq_some_iff.1 BX5.out.cell).1).trans BX5.out.cell) (by decide) e.symm rfl)
  rw [cell_of_row w6 _ _ _ _ _ (q.trans ((b5a.out.block g (Array.getElem?_eq_some_iff.1 BX5.out.cell).1).trans BX5.out.cell))]
  rfl
 have hf6 : w6.frozen? ⟨g, 2, none⟩ = false := by
  have q : w6.heap[g]? = w5a.heap[g]? := hg6.block g (by have := GB.out; have := B5.out.size; have := b5a.out.size; omega) (fun e => ne_bk R3h.out ((b5a.out.block g (Array.getElem?_eq_some_iff.1 BX5.out.cell).1).trans BX5.out.cell) (by decide) e.symm rfl)
  simp [World.frozen?, q.trans ((b5a.out.block g (Array.getElem?_eq_some_iff.1 BX5.out.cell).1).trans BX5.out.cell)]
 obtain ⟨a3', k3', e3⟩ := own_slice ho6
 subst e3
 obtain ⟨w7, HW7⟩ : ∃ x, Hid (w6.setCell ⟨g, 2, none⟩ (.slice a3' (nu + 1) k3') = x) := ⟨_, rfl⟩
 rw [HW7.out] at BX7
 have S6 : Hid (w5.heap.size + 1 <= w6.heap.size) := hid (by have := hg6.size; have := Z5a.out; omega)
 have Z7 : Hid (w7.heap.size = w6.heap.size) := by rw [<- HW7.out]; exact hid (by simp)
 have K57 : Hid (∀ b, w4.heap.size <= b -> b < w5.heap.size -> w7.heap[b]? = w5.heap[b]?) := hid fun b q1 q2 => by
  have hgb : g ≠ b := fun e => by have := GB.out; have := B4.out.size; omega
  rw [<- HW7.out, heap_setCell_other w6 _ _ _ hgb.symm]
  rw [hg6.block b (by have := Z5a.out; omega) (fun e => by have := (BX5.out.f3 b e.symm).2; have := B4.out.size; omega), b5a.out.block b q2]
 have K7 : Hid (∀ b, b < B -> w7.heap[b]? = w.heap[b]?) := hid fun b q1 => by
  have hgb : g ≠ b := fun e => by have := GB.out; omega
  rw [<- HW7.out, heap_setCell_other w6 _ _ _ hgb.symm]
  rw [hg6.block b (by have := Z5a.out; have := GB.out; have := B5.out.size; omega) (fun e => by have := (BX5.out.f3 b e.symm).1; omega), b5a.out.block b (by have := GB.out; have := B5.out.size; omega), K5.out b (by have := GB.out; omega)]
 have OT7 : Hid (w7.os = w.os /\ w7.tape = w.tape /\ w7.output = w.output) := hid (by
  rw [<- HW7.out]
  exact ⟨(hg6.os.trans b5a.out.os).trans B5.out.os, (hg6.tape.trans b5a.out.tape).trans B5.out.tape, (hg6.output.trans b5a.out.output).trans B5.out.output⟩)
 have HM7 : Hid (∀ W : World, (∀ b, (w4.heap.size <= b /\ b < w5.heap.size) -> W.heap[b]? = w7.heap[b]?) -> HL W (.slice p5 nl k5) ls) := hid fun W hW => HM.out W (fun b q1 q2 => (hW b ⟨q1, q2⟩).trans (K57.out b q1 q2))
 clear ho6 hg6 hw6 g2
 have g3 : w7.cell? ⟨g, 3, none⟩ = some (.slice a4 nm k4) := by rw [cell_of_row w7 _ _ _ _ _ BX7.out.cell]; rfl
 obtain ⟨w7a, HW7a⟩ : ∃ x, Hid (w7.alloc (.cells #[.slice p5 nl k5] 24) = x) := ⟨_, rfl⟩
 have b7a : Hid (Below w7.heap.size w7 w7a) := by rw [<- HW7a.out]; exact (Below.refl _ _).alloc (Nat.le_refl _) _
 have Z7a : Hid (w7a.heap.size = w7.heap.size + 1) := by rw [<- HW7a.out]; exact hid (by simp)
 have h7a : w7a.cell? ⟨w7.heap.size, 0, none⟩ = some (.slice p5 nl k5) := by rw [<- HW7a.out, cell_of_row _ _ _ _ _ _ (heap_alloc_new w7 _)]; rfl
 have R4 : w7a.ownsRow B 24 1 (.slice a4 nm k4) nm ms := by have q := own_below BX7.out.r4 b7a.out; rwa [HNM.out] at q
 have R4h := hid R4
 have H7a := hid h7a
 have GS7 : Hid (g < w7.heap.size) := hid (Array.getElem?_eq_some_iff.1 BX7.out.cell).1
 have HBS7 : Hid (B <= w7a.heap.size) := hid (by have := GB.out; have := GS7.out; have := b7a.out.size; omega)
 clear R4 h7a
 go_wp2_with (first | rw [HW7.out] | rw [HW7a.out] | (at_builtin; refine wpList_appTo rfl _ _ rfl B _ nm ms rfl R4h.out ⟨w7.heap.size, 0, none⟩ 1 (.slice p5 nl k5) rfl rfl H7a.out (by omega) HBS7.out ?_))
 intro v4' w8 ho8 hg8 hw8
 have BX9 := hid (BX7.out.push4 (Q := fun b => w4.heap.size <= b /\ b < w5.heap.size) (fun b q => ⟨fun e => by
   rcases e with e | e | e
   ·have := B4.out.size; omega
   ·have := b3.out.size; have := S4.out; omega
   ·omega, by have := GB.out; have := B4.out.size; omega, by have := S6.out; have := Z7.out; omega⟩) HM7.out
  (o := .cells #[.slice p5 nl k5] 24) (by rw [HNM.out]; exact ho8) (by rw [HW7a.out]; exact hg8) (by rcases hw8 with q | ⟨q1, q2⟩; exact .inl q; exact .inr ⟨by rw [q1, Z7a.out], by rw [Z7a.out] at q2; exact q2⟩))
 have q8 : w8.heap[g]? = w7.heap[g]? := (hg8.block g (by have := GS7.out; have := b7a.out.size; omega) (fun e => ne_bk R4h.out ((b7a.out.block g GS7.out).trans BX7.out.cell) (by decide) e.symm rfl)).trans (b7a.out.block g GS7.out)
 have hz8 : w8.cell? ⟨g, 3, none⟩ = some (.slice a4 nm k4) := by
  rw [cell_of_row w8 _ _ _ _ _ (q8.trans BX7.out.cell)]
  rfl
 have hf8 : w8.frozen? ⟨g, 3, none⟩ = false := by simp [World.frozen?, q8.trans BX7.out.cell]
 obtain ⟨a4', k4', e4⟩ := own_slice ho8
 subst e4
 obtain ⟨w9, HW9⟩ : ∃ x, Hid (w8.setCell ⟨g, 3, none⟩ (.slice a4' (nm + 1) k4') = x) := ⟨_, rfl⟩
 rw [HW9.out] at BX9
 have S8 : Hid (w7.heap.size + 1 <= w8.heap.size) := hid (by have := hg8.size; have := Z7a.out; omega)
 have Z9 : Hid (w9.heap.size = w8.heap.size) := by rw [<- HW9.out]; exact hid (by simp)
 have K9 : Hid (∀ b, b < B -> w9.heap[b]? = w.heap[b]?) := hid fun b q1 => by
  have hgb : g ≠ b := fun e => by have := GB.out; omega
  rw [<- HW9.out, heap_setCell_other w8 _ _ _ hgb.symm]
  rw [hg8.block b (by have := Z7a.out; have := GB.out; have := GS7.out; omega) (fun e => by have := (BX7.out.pl b (BX7.out.f4 b e.symm)).1; omega), b7a.out.block b (by have := GB.out; have := GS7.out; omega), K7.out b q1]
 have OT9 : Hid (w9.os = w.os /\ w9.tape = w.tape /\ w9.output = w.output) := hid (by
  rw [<- HW9.out]
  exact ⟨(hg8.os.trans b7a.out.os).trans OT7.out.1, (hg8.tape.trans b7a.out.tape).trans OT7.out.2.1, (hg8.output.trans b7a.out.output).trans OT7.out.2.2⟩)
 have SW : Hid (w.heap.size <= w9.heap.size) := hid (by have := B5.out.size; have := S6.out; have := Z7.out; have := S8.out; have := Z9.out; omega)
 clear ho8 hg8 hw8 g3 q8
 go_wp2_with (first | rw [HW9.out] | fail)
 go_ret
 refine ⟨rfl, ⟨_, _, _, _, _, _, _, _, _, _, _, BX9.out.mono (fun b q => ?_) (fun b q => q), by have := HL1.out; omega, by rw [List.length_append, List.length_singleton]; have := HL2.out; omega, HL3.out, fun q hq => ?_⟩, K9.out, SW.out, OT9.out.1, OT9.out.2.1, OT9.out.2.2⟩
 ·have s1 := SW.out
  have s2 := S8.out
  have s3 := Z9.out
  have s4 := S6.out
  have s5 := Z7.out
  have s6 := GB.out
  have s7 := B5.out.size
  have s8 := B4.out.size
  have s9 := b5.out.size
  have t1 := b3.out.size
  have t2 := S4.out
  have t3 := S0.out
  have t4 := b1.out.size
  rcases q with (q | q | q) | q | q <;> exact ⟨by omega, by omega⟩
 ·rcases List.mem_append.1 hq with hq | hq
  ·exact HL4.out q hq
  ·rw [List.mem_singleton.1 hq]; exact HRB.out
end Go.Proofs.YtcpchhigiohlnaaDoor
namespace Go.Proofs.YtcpchhigiohlnaaDoor
open Go.RowKit
attribute [local go_sem ↓] Go.wp_at_zero Go.wp_at_succ
def LsV (B : Nat) (w : World) (O : Nat) (vF vE : Value) (fU eU : List Value) (ms : List (List Int)) : Prop :=
 (B < O /\ w.heap[B]? = some (.cells #[.slice none 0 0, .slice none 0 0, .slice none 0 0] 50 (0, 0))) /\ w.heap[O]? = some (.cells #[.slice none 0 0, vF, vE] 50 (0, 0)) /\ w.ownsRow B 30 1 vF fU.length fU /\ w.ownsRow B 30 1 vE ms.length eU ∧
  (∀ k, vF.ownBlock = some k -> vE.ownBlock ≠ some k) /\ Apt B w eU (ms.map lent) ∧
  ∀ j, j < fU.length -> j < ms.length -> ∃ p c, eU.getD j undef = .slice p ((ms.getD j []).length + 70) c /\ fU.getD j undef = .slice p (ms.getD j []).length c
theorem LsV.block {B : Nat} {w : World} {O : Nat} {vF vE : Value} {fU eU : List Value} {ms : List (List Int)} (h : LsV B w O vF vE fU eU ms) : BT w O 50 := ⟨_, _, h.2.1⟩
theorem own_away {w w' : World} {B n : Nat} {e : TypeId} {v : Value} {xs : List Value} {row : Option Nat} (h : w.ownsRow B e 1 v n xs) (hg : w.grownBy w' row) (hr : ∀ k, row = some k -> v.ownBlock ≠ some k) : w'.ownsRow B e 1 v n xs := by
 refine h.kept hg ?_
 cases hrow : row with
 | none => cases v.ownBlock <;> simp
 | some k => exact .inr (hr k hrow)
theorem LsV.away {B : Nat} {w w' : World} {O : Nat} {vF vE : Value} {fU eU : List Value} {ms : List (List Int)} {row : Option Nat} (h : LsV B w O vF vE fU eU ms) (hg : w.grownBy w' row) (hr : ∀ k, row = some k -> k ≠ O /\ vF.ownBlock ≠ some k /\ vE.ownBlock ≠ some k /\ k ≠ B /\ ∃ e, BT w k e /\ e ≠ 5) : LsV B w' O vF vE fU eU ms := by
 obtain ⟨h0, h1, h2, h3, h4, h5, h6⟩ := h
 refine ⟨⟨h0.1, by rw [hg.block B (Array.getElem?_eq_some_iff.1 h0.2).1 (fun e => (hr B e.symm).2.2.2.1 rfl)]; exact h0.2⟩, ?_, own_away h2 hg (fun k e => (hr k e).2.1), own_away h3 hg (fun k e => (hr k e).2.2.1), h4, h5.away hg (fun k e => (hr k e).2.2.2.2), h6⟩
 rw [hg.block O (Array.getElem?_eq_some_iff.1 h1).1 (fun e => (hr O e.symm).1 rfl)]
 exact h1
theorem LsV.below {B : Nat} {w w' : World} {O : Nat} {vF vE : Value} {fU eU : List Value} {ms : List (List Int)} (h : LsV B w O vF vE fU eU ms) (hb : Below w.heap.size w w') : LsV B w' O vF vE fU eU ms :=
 h.away (grown_below (r := none) hb) (fun k e => by cases e)
theorem LsV.each {B : Nat} {w w2 : World} {O : Nat} {vF vE vE' : Value} {fU eU : List Value} {ms : List (List Int)} {o : Obj} (h : LsV B w O vF vE fU eU ms) (hg : (w.alloc o).grownBy w2 vE.ownBlock) {u : Value} {x : List Int}
  (hu : w.ownsRow B 5 1 u (lent x).length ((lent x).map (Value.int .u8))) (hd : ∀ j, j < eU.length -> u.ownBlock = none \/ u.ownBlock ≠ (eU.getD j undef).ownBlock) (hle : fU.length <= ms.length)
  (hown : w2.ownsRow B 30 1 vE' (ms.length + 1) (eU ++ [u])) (hloc : vE'.ownBlock = vE.ownBlock \/ vE'.ownBlock = some (w.heap.size + 1)) :
  w2.heap[O]? = some (.cells #[.slice none 0 0, vF, vE] 50 (0, 0)) /\ LsV B (w2.setCell ⟨O, 2, none⟩ vE') O vF vE' fU (eU ++ [u]) (ms ++ [x]) := by
 have h' : LsV B (w.alloc o) O vF vE fU eU ms := h.away (World.grownBy_alloc w o none) (fun k e => by cases e)
 have hu' := hu.alloc o
 obtain ⟨h0, h1, h2, h3, h4, h5, h6⟩ := h'
 have bk : ∀ k, vE.ownBlock = some k -> BT (w.alloc o) k 30 := own_BT h3
 have a2 := own_away h2 hg (fun k e => fun e2 => h4 k e2 e)
 have a5 := h5.away hg (fun k e => ⟨_, bk k e, by decide⟩)
 have au := own_away hu' hg (fun k e => by obtain ⟨cur, fz, hb⟩ := bk k e; exact own_block_ne hu' hb (by decide))
 have hb2 : w2.heap[O]? = some (.cells #[.slice none 0 0, vF, vE] 50 (0, 0)) := by
  rw [hg.block O (Array.getElem?_eq_some_iff.1 h1).1 (fun e => own_block_ne h3 h1 (by decide) e.symm)]
  exact h1
 have hB2 : w2.heap[B]? = some (.cells #[.slice none 0 0, .slice none 0 0, .slice none 0 0] 50 (0, 0)) := by
  rw [hg.block B (Array.getElem?_eq_some_iff.1 h0.2).1 (fun e => own_block_ne h3 h0.2 (by decide) e.symm)]
  exact h0.2
 have gs := grown_set w2 O 2 vE'
 have bO : BT w2 O 50 := ⟨_, _, hb2⟩
 refine ⟨hb2, ⟨h0.1, by rw [gs.block B (Array.getElem?_eq_some_iff.1 hB2).1 (by have := h0.1; simp; omega)]; exact hB2⟩, ?_, own_away a2 gs (fun k e => by cases e; exact own_block_ne a2 hb2 (by decide)), ?_, ?_, ?_, ?_⟩
 ·rw [heap_setCell_same w2 O 2 _ _ vE' hb2]; rfl
 ·rw [List.length_append, List.length_singleton]
  exact own_away hown gs (fun k e => by cases e; exact own_block_ne hown hb2 (by decide))
 ·intro k hk e
  rcases hloc with h | h
  ·rw [h] at e; exact h4 k hk e
  ·rw [h] at e
   have := (h2.lt k hk).2
   simp at this e
   omega
 ·rw [List.map_append]
  exact (a5.away gs (fun k e => by cases e; exact ⟨_, bO, by decide⟩)).snoc (own_away au gs (fun k e => by cases e; exact own_block_ne au hb2 (by decide))) hd
 ·intro j hj hj2
  have hl : eU.length = ms.length := by have := h5.1; simpa using this
  rw [getD_app, getD_app, if_pos (by omega), if_pos (by omega)]
  exact h6 j hj (by omega)
theorem LsV.full {B : Nat} {w w2 : World} {O : Nat} {vF vE vF' : Value} {fU eU : List Value} {ms : List (List Int)} {o : Obj} (h : LsV B w O vF vE fU eU ms) (hg : (w.alloc o).grownBy w2 vF.ownBlock) {u : Value}
  (hu : fU.length < ms.length -> ∃ p c, eU.getD fU.length undef = .slice p ((ms.getD fU.length []).length + 70) c /\ u = .slice p (ms.getD fU.length []).length c)
  (hown : w2.ownsRow B 30 1 vF' (fU.length + 1) (fU ++ [u])) (hloc : vF'.ownBlock = vF.ownBlock \/ vF'.ownBlock = some (w.heap.size + 1)) :
  w2.heap[O]? = some (.cells #[.slice none 0 0, vF, vE] 50 (0, 0)) /\ LsV B (w2.setCell ⟨O, 1, none⟩ vF') O vF' vE (fU ++ [u]) eU ms := by
 have h' : LsV B (w.alloc o) O vF vE fU eU ms := h.away (World.grownBy_alloc w o none) (fun k e => by cases e)
 obtain ⟨h0, h1, h2, h3, h4, h5, h6⟩ := h'
 have bk : ∀ k, vF.ownBlock = some k -> BT (w.alloc o) k 30 := own_BT h2
 have a3 := own_away h3 hg (fun k e => h4 k e)
 have a5 := h5.away hg (fun k e => ⟨_, bk k e, by decide⟩)
 have hb2 : w2.heap[O]? = some (.cells #[.slice none 0 0, vF, vE] 50 (0, 0)) := by
  rw [hg.block O (Array.getElem?_eq_some_iff.1 h1).1 (fun e => own_block_ne h2 h1 (by decide) e.symm)]
  exact h1
 have hB2 : w2.heap[B]? = some (.cells #[.slice none 0 0, .slice none 0 0, .slice none 0 0] 50 (0, 0)) := by
  rw [hg.block B (Array.getElem?_eq_some_iff.1 h0.2).1 (fun e => own_block_ne h2 h0.2 (by decide) e.symm)]
  exact h0.2
 have gs := grown_set w2 O 1 vF'
 have bO : BT w2 O 50 := ⟨_, _, hb2⟩
 refine ⟨hb2, ⟨h0.1, by rw [gs.block B (Array.getElem?_eq_some_iff.1 hB2).1 (by have := h0.1; simp; omega)]; exact hB2⟩, ?_, ?_, own_away a3 gs (fun k e => by cases e; exact own_block_ne a3 hb2 (by decide)), ?_, a5.away gs (fun k e => by cases e; exact ⟨_, bO, by decide⟩), ?_⟩
 ·rw [heap_setCell_same w2 O 1 _ _ vF' hb2]; rfl
 ·rw [List.length_append, List.length_singleton]
  exact own_away hown gs (fun k e => by cases e; exact own_block_ne hown hb2 (by decide))
 ·intro k hk e
  rcases hloc with h | h
  ·rw [h] at hk; exact h4 k hk e
  ·rw [h] at hk
   have := (h3.lt k e).2
   simp at this hk
   omega
 ·intro j hj hj2
  rw [List.length_append, List.length_singleton] at hj
  rw [getD_app]
  by_cases hjl : j < fU.length
  ·rw [if_pos hjl]; exact h6 j hjl hj2
  ·have : j = fU.length := by omega
   subst this
   rw [if_neg (by omega), Nat.sub_self]
   exact hu hj2
def MkV (B : Nat) (w : World) (fU : List Value) (n J : Nat) : Prop :=
 ∀ j, j < J -> w.ownsRow B 5 1 (fU.getD (n + j) undef) 2 [.int .u8 j, .int .u8 99]
theorem MkV.away {B : Nat} {w w' : World} {fU : List Value} {n J : Nat} {row : Option Nat} (h : MkV B w fU n J) (hg : w.grownBy w' row) (hr : ∀ k, row = some k -> ∃ e, BT w k e /\ e ≠ 5) : MkV B w' fU n J := fun j hj =>
 own_away (h j hj) hg (fun k e => by obtain ⟨e', ⟨cur, fz, hb⟩, hne⟩ := hr k e; exact own_block_ne (h j hj) hb (Ne.symm hne))
theorem size_bytes : ∀ w, Sem.run Tryd.prog (Go.sizeOf 30) w = .ok 1 w := fun w => by
 obtain ⟨i0, hi, hz0, hz1, hz2⟩ := info_parts info_bytes
 simp [Go.sizeOf, typeInfo, hi, hz1]
theorem size_lists : (Tryd.prog.info? 50).map (·.size) = some 3 := by kernel_rfl
def XL (B : Nat) (w : World) (vL vF vE : Value) (fU eU : List Value) (ls : List (List Int)) : Prop :=
 w.ownsRow B 30 1 vF (ls.length + 70) fU /\ w.ownsRow B 30 1 vE ls.length eU /\ (∀ k, vF.ownBlock = some k -> vE.ownBlock ≠ some k) /\ Apt B w eU (ls.map lent) ∧
  (∀ j, j < ls.length -> ∃ p c, eU.getD j undef = .slice p ((ls.getD j []).length + 70) c /\ fU.getD j undef = .slice p (ls.getD j []).length c) /\ MkV B w fU ls.length 70 /\ ∃ p c, vF = .slice p (ls.length + 70) c /\ vL = .slice p ls.length c
theorem XL.away {B : Nat} {w w' : World} {vL vF vE : Value} {fU eU : List Value} {ls : List (List Int)} {row : Option Nat} (h : XL B w vL vF vE fU eU ls) (hg : w.grownBy w' row) (hr : ∀ k, row = some k -> ∃ e, BT w k e /\ e ≠ 5 /\ e ≠ 30) : XL B w' vL vF vE fU eU ls := by
 obtain ⟨h1, h2, h3, h4, h5, h6, h7⟩ := h
 have ne : ∀ {v n xs}, w.ownsRow B 30 1 v n xs -> ∀ k, row = some k -> v.ownBlock ≠ some k := fun {v n xs} h k e => by
  obtain ⟨e', ⟨cur, fz, hb⟩, _, hne⟩ := hr k e
  exact own_block_ne h hb (Ne.symm hne)
 exact ⟨own_away h1 hg (ne h1), own_away h2 hg (ne h2), h3, h4.away hg (fun k e => by obtain ⟨e', hb, hne, _⟩ := hr k e; exact ⟨e', hb, hne⟩), h5, h6.away hg (fun k e => by obtain ⟨e', hb, hne, _⟩ := hr k e; exact ⟨e', hb, hne⟩), h7⟩
theorem three_cells {w : World} {g : Nat} {a b c : Value} {T : TypeId} (h : w.heap[g]? = some (.cells #[a, b, c] T (0, 0))) :
  w.cell? ⟨g, 0, none⟩ = some a /\ w.cell? ⟨g, 1, none⟩ = some b /\ w.cell? ⟨g, 2, none⟩ = some c /\ w.frozen? ⟨g, 0, none⟩ = false /\ w.frozen? ⟨g, 1, none⟩ = false /\ w.frozen? ⟨g, 2, none⟩ = false := by
 simp [World.cell?, World.frozen?, h]
theorem lentLists_any (w : World) (v : Value) (ls : List (List Int)) (h : HL w v ls) (hn : ls.length <= 1048576) (hb : ∀ j, (ls.getD j []).length <= 1048576) :
  Calls Tryd.prog 13 #[v] w fun e w' => ∃ vL vF vE fU eU, e = .returned (.agg #[vL, vF, vE]) /\ XL w.heap.size w' vL vF vE fU eU ls /\ Below w.heap.size w w' := by
 obtain ⟨p, c, rfl, hlc, hm, hpc, hcl⟩ := h
 have HC : Hid (0 < ls.length -> _) := fun h0 => hcl (by intro e; subst e; simp at h0)
 clear hcl
 unfold maxLen at hm
 have sz := size_u8
 have HBd := hid hb
 clear hb
 obtain ⟨W0, hW0⟩ : ∃ W0, Hid ((w.alloc (.cells #[.slice none 0 0, .slice none 0 0, .slice none 0 0] 50)).alloc (.cells #[.slice none 0 0, .slice none 0 0, .slice none 0 0] 50) = W0) := ⟨_, rfl⟩
 have B0 : Hid (Below w.heap.size w W0) := by rw [<- hW0.out]; exact ((Below.refl _ w).alloc (Nat.le_refl _) _).alloc (by simp) _
 have L0 : Hid (LsV w.heap.size W0 (w.heap.size + 1) (.slice none 0 0) (.slice none 0 0) [] [] []) := by
  rw [<- hW0.out]
  exact ⟨⟨by omega, heap_alloc2_old _ _ _⟩, heap_alloc2_new _ _ _, World.ownsRow_nil _ _ _ _, World.ownsRow_nil _ _ _ _, fun k e => by simp [Value.ownBlock] at e, ⟨rfl, fun k hk => by simp at hk, fun i j hi => by simp at hi⟩, fun j hj => by simp at hj⟩
 go_enter Tryd.func13, Tryd.ntmps13
 go_wp2_with fail
 rw [hW0.out]
 clear hW0
 obtain ⟨O, hO⟩ : ∃ O, w.heap.size + 1 = O := ⟨_, rfl⟩
 rw [hO] at L0 ⊢
 go_loopw [4] (fun i wr => ∃ I : Nat, I <= ls.length /\ i = .int .i64 I /\ ∃ vF vE fU eU, fU.length = I /\ Hid (LsV w.heap.size wr O vF vE fU eU (ls.take I)) /\ Hid (Below w.heap.size w wr)) (fun i _ => ls.length - (intOf i).toNat)
 case atStart => exact ⟨0, Nat.zero_le _, rfl, _, _, _, _, rfl, L0, B0⟩
 case round =>
  clear L0 B0
  obtain ⟨I, hI, rfl, vF, vE, fU, eU, hfl, HL1, HB1⟩ := hrel
  by_cases hlt : I < ls.length
  ·obtain ⟨b, off, rfl, hh⟩ := HC.out (by omega)
   obtain ⟨u, hcu, hu⟩ := hh I hlt
   have hblt := World.block_lt_of_cell? w _ hcu
   obtain ⟨x, HX⟩ : ∃ x, Hid (ls.getD I [] = x) := ⟨_, rfl⟩
   rw [HX.out] at hu
   have hxl : x.length <= 1048576 := by rw [<- HX.out]; exact HBd.out I
   obtain ⟨pu, cu, eu, _, hmu⟩ := hu.open
   unfold maxLen at hmu
   have HU := hid (hu.below HB1.out)
   have BY := hid hu.2
   subst eu
   have hcr : wr.cell? ⟨b, off + I, none⟩ = some (.slice pu x.length cu) := (HB1.out.cell (p := ⟨b, off + I, none⟩) hblt).trans hcu
   clear hh hu
   go_wp2_with fail
   refine (lent_any wr _ x HU.out (by omega)).mono ?_
   rintro e w1 ⟨v1, rfl, ho1, hB1⟩
   obtain ⟨p1, c1, e1⟩ := own_slice ho1
   rw [lent_length] at e1
   subst e1
   have F1 := HB.of_own ho1 (lent_byt BY.out)
   have hc1 : x.length <= c1 := by
    obtain ⟨p, c, e, h1, _⟩ := F1.open
    rw [lent_length] at e h1
    cases e
    omega
   have L1 := hid (HL1.out.below hB1)
   have O1 := hid ho1
   have B1 := hid (HB1.out.trans (hB1.mono HB1.out.size))
   have hs1 := hB1.size
   have hs0 := HB1.out.size
   have hd1 : Hid (∀ j, j < eU.length -> (Value.slice p1 (x.length + 70) c1).ownBlock = none \/ (Value.slice p1 (x.length + 70) c1).ownBlock ≠ (eU.getD j undef).ownBlock) := by
    intro j hj
    have h1 := (HL1.out.2.2.2.2.2.1.2.1 j hj).lt
    cases hu1 : (Value.slice p1 (x.length + 70) c1).ownBlock with
    | none => exact .inl rfl
    | some k =>
     right
     intro e
     have h3 := h1 k e.symm
     have h4 := ho1.lt k hu1
     omega
   obtain ⟨pF, cF, eF⟩ := own_slice HL1.out.2.2.1
   obtain ⟨pE, cE, eE⟩ := own_slice HL1.out.2.2.2.1
   have htl : (ls.take I).length = I := by rw [List.length_take]; omega
   rw [hfl] at eF
   rw [htl] at eE
   subst eF eE
   obtain ⟨_, k1, k2, _, f1, f2⟩ := three_cells L1.out.2.1
   have hown0 : (w1).ownsRow w.heap.size 30 1 (.slice pE I cE) I eU := by have := L1.out.2.2.2.1; rw [htl] at this; exact this
   have OE := hid hown0
   clear ho1 hB1 HL1 HB1 HU hown0 F1
   go_wp2_with (at_builtin; refine wpList_append_slice rfl _ _ rfl w.heap.size _ I eU rfl (OE.out.alloc _) ⟨w1.heap.size, 0, none⟩ 1 (.slice p1 (x.length + 70) c1) rfl ?q0 rfl ?q1 ?q2 ?_)
   case q0 => exact cell_one_new _ _ _ 0 _ rfl
   case q1 => omega
   case q2 => simp; omega
   intro vE' w2 hown2 hg2 hloc2
   obtain ⟨pE2, cE2, eE2⟩ := own_slice hown2
   subst eE2
   have hlt2 : (ls.take I).length + 1 = I + 1 := by omega
   obtain ⟨hb2, hL2⟩ := L1.out.each (x := x) hg2 (own_mono O1.out (by omega)) hd1.out (by omega) (by rw [hlt2]; exact hown2) hloc2
   obtain ⟨_, _, k22, _, _, f22⟩ := three_cells hb2
   have htk : ls.take I ++ [x] = ls.take (I + 1) := by
    rw [List.take_succ_eq_append_getElem hlt, <- HX.out]; simp [List.getD, List.getElem?_eq_getElem hlt]
   rw [htk] at hL2
   have B2 := hid ((B1.out.alloc B1.out.size (.cells #[.slice p1 (x.length + 70) c1] 30)).grown hg2 (Nat.le_trans B1.out.size (by simp)) (fun k e => (OE.out.lt k e).1))
   have hB2 : Below w.heap.size w (w2.setCell ⟨O, 2, none⟩ (.slice pE2 (I + 1) cE2)) := B2.out.grown (grown_set w2 O 2 _) B2.out.size (fun k e => by cases e; omega)
   obtain ⟨_, k31, _, _, f31, _⟩ := three_cells hL2.2.1
   obtain ⟨W2, hW2⟩ : ∃ W2, w2.setCell ⟨O, 2, none⟩ (.slice pE2 (I + 1) cE2) = W2 := ⟨_, rfl⟩
   rw [hW2] at hL2 hB2 k31 f31
   have L2 := hid hL2
   have B3 := hid hB2
   have hc2 : W2.cell? ⟨b, off + I, none⟩ = some (.slice pu x.length cu) := (hB2.cell (p := ⟨b, off + I, none⟩) hblt).trans hcu
   have hs2 := hB2.size
   have z0 : (0 : Int) <= (x.length : Int) := Int.natCast_nonneg _
   have z1 : (x.length : Int) <= (c1 : Int) := by omega
   have z2 : (0 : Int) <= (I : Int) := Int.natCast_nonneg _
   have z3 : (I : Int) < (ls.length : Int) := by omega
   have OF := hid hL2.2.2.1
   rw [hfl] at OF
   clear hown2 hg2 hloc2 hb2 hL2 hB2 B2 L1 O1 hd1 OE k1 k2 f1 f2 B1
   obtain ⟨i0, hi0, hz0, hz1, hz2⟩ := info_parts info_bytes
   have ag : (Value.slice pF I cF).ownBlock ≠ some O := own_block_ne OF.out L2.out.2.1 (by decide)
   have ab : (Value.slice pF I cF).ownBlock ≠ some b := fun e => by have := (OF.out.lt b e).1; omega
   have lO : O < W2.heap.size := (Array.getElem?_eq_some_iff.1 L2.out.2.1).1
   have lb : b < W2.heap.size := by omega
   have hb24 : (I + 1) * 24 <= 140737488355328 := by omega
   have hm24 : I + 1 <= Go.maxLen := by unfold Go.maxLen; omega
   have HL0 := hid hm24
   clear hm24
   have fz0 : ((W2.alloc (.cells #[.slice p1 x.length c1] 30)).drew).frozen? ⟨O, 1, none⟩ = false := by
    rw [show ((W2.alloc (.cells #[.slice p1 x.length c1] 30)).drew).frozen? ⟨O, 1, none⟩ = (W2.alloc (.cells #[.slice p1 x.length c1] 30)).frozen? ⟨O, 1, none⟩ from rfl, World.frozen?_of_block (w := W2) ((World.grownBy_alloc W2 _ none).block O lO (by simp))]
    exact f31
   have FZ0 := hid fz0
   clear fz0
   have nO := World.new_ne W2 _ k31
   have FIN : Hid (∀ gF cF3 w3, w3.ownsRow w.heap.size 30 1 (.slice (some ⟨gF, 0, none⟩) (I + 1) cF3) (I + 1) (fU ++ [.slice p1 x.length c1]) -> ((W2.alloc (.cells #[.slice p1 x.length c1] 30)).drew).grownBy w3 (Value.slice pF I cF).ownBlock -> ((Value.slice pF I cF).ownBlock = some gF \/ gF = W2.heap.size + 1) →
     Hid (LsV w.heap.size (w3.setCell ⟨O, 1, none⟩ (.slice (some ⟨gF, 0, none⟩) (I + 1) cF3)) O (.slice (some ⟨gF, 0, none⟩) (I + 1) cF3) (.slice pE2 (I + 1) cE2) (fU ++ [.slice p1 x.length c1]) (eU ++ [.slice p1 (x.length + 70) c1]) (ls.take (I + 1))) /\ Hid (Below w.heap.size w (w3.setCell ⟨O, 1, none⟩ (.slice (some ⟨gF, 0, none⟩) (I + 1) cF3)))) := by
    intro gF cF3 w3 ho hgr hat
    have gg : (W2.alloc (.cells #[.slice p1 x.length c1] 30)).grownBy w3 (Value.slice pF I cF).ownBlock := ⟨hgr.os, hgr.tape, hgr.output, hgr.size, hgr.block⟩
    have hel : eU.length = I := by
     have := L2.out.2.2.2.2.2.1.1
     simp at this
     omega
    refine ⟨(L2.out.full gg (u := .slice p1 x.length c1) (fun _ => ⟨p1, c1, ?_, ?_⟩) (by rw [hfl]; exact ho) ?_).2, ?_⟩
    ·rw [hfl, <- htk, getD_app, getD_app, if_neg (by omega), if_neg (by omega), htl, hel, Nat.sub_self]
     rfl
    ·rw [hfl, <- htk, getD_app, if_neg (by omega), htl, Nat.sub_self]
     rfl
    ·rcases hat with h | h
     ·left; rw [h]; rfl
     ·right; rw [<- h]; rfl
    ·have b1 := (B3.out.alloc B3.out.size (.cells #[.slice p1 x.length c1] 30)).grown gg (Nat.le_trans B3.out.size (by simp)) (fun k e => (OF.out.lt k e).1)
     exact b1.grown (grown_set w3 O 1 _) b1.size (fun k e => by cases e; omega)
   have CZ0 : Hid (((W2.alloc (.cells #[.slice p1 x.length c1] 30)).drew).cell? ⟨O, 1, none⟩ = some (.slice pF I cF)) := by
    rw [show ((W2.alloc (.cells #[.slice p1 x.length c1] 30)).drew).cell? ⟨O, 1, none⟩ = (W2.alloc (.cells #[.slice p1 x.length c1] 30)).cell? ⟨O, 1, none⟩ from rfl, World.cell?_of_block (w := W2) ((World.grownBy_alloc W2 _ none).block O lO (by simp))]
    exact hid k31
   go_wp2_with fail
   go_region_law
    ((refine step_append_lies _ (by rfl) _ _ _ (by rfl) w.heap.size 30 i0 _ 1 24 Tryd.underlying24 hi0 hz0 hz1 hz2 rfl (by omega) (.slice pF I cF) I fU (by rfl) ((OF.out.alloc _).drew) ⟨W2.heap.size, 0, none⟩ 1 1 [.slice p1 x.length c1] (by rfl) (by rfl) (World.news_of_block (cs := #[.slice p1 x.length c1]) (t := 30) (fr := (0, 0)) (heap_alloc_new W2 _)) (by simp [Value.oneCell']) (by omega) HL0.out hb24 (by simp; omega) (W2.heap.size + 1) (by simp) ?_; intro gF cF3 w3 hown3 hgrow hat hlt3; have hfz3 : w3.frozen? ⟨O, 1, none⟩ = false := (hgrow.frozen_far _ (by simp; omega) (Ne.symm ag)).trans FZ0.out; have hc3 : w3.cell? ⟨O, 1, none⟩ = some (.slice pF I cF) := (hgrow.cell_far _ (by simp; omega) (Ne.symm ag)).trans CZ0.out))
   all_goals go_wp2
   all_goals exact ⟨⟨I + 1, by omega, by go_num, _, _, _, _, by simp [hfl], (FIN.out gF cF3 w3 hown3 hgrow hat).1, (FIN.out gF cF3 w3 hown3 hgrow hat).2⟩, by simp [intOf]; omega⟩
  ·have hIe : I = ls.length := by omega
   subst hIe
   rw [List.take_of_length_le (Nat.le_refl _)] at HL1
   have M1 : Hid (MkV w.heap.size wr fU ls.length 0) := fun j hj => by omega
   go_wp2_with fail
   go_loopw [6] (fun i wq => ∃ J : Nat, J <= 70 /\ i = .int .i64 J /\ ∃ vF fU, fU.length = ls.length + J /\ Hid (LsV w.heap.size wq O vF vE fU eU ls) /\ Hid (MkV w.heap.size wq fU ls.length J) /\ Hid (Below w.heap.size w wq)) (fun i _ => 70 - (intOf i).toNat)
   case atStart => exact ⟨0, Nat.zero_le _, rfl, _, _, by omega, HL1, M1, HB1⟩
   case round =>
    clear HL1 HB1 M1 hfl
    obtain ⟨J, hJ, rfl, vF, fU, hfl, HL1, HM1, HB1⟩ := hrel
    by_cases hlt : J < 70
    ·obtain ⟨pF, cF, eF⟩ := own_slice HL1.out.2.2.1
     rw [hfl] at eF
     subst eF
     have hO1 : wr.ownsRow w.heap.size 30 1 (.slice pF (ls.length + J) cF) (ls.length + J) fU := by have := HL1.out.2.2.1; rw [hfl] at this; exact this
     obtain ⟨_, k1, _, _, f1, _⟩ := three_cells HL1.out.2.1
     have hs0 := HB1.out.size
     have hJw : IntKind.u8.wrap (J : Int) = J := by
      have e1 : IntKind.u8.bits = 8 := rfl
      have e2 : IntKind.u8.signed = false := rfl
      simp [IntKind.wrap, e1, e2]
      omega
     have lO : O < wr.heap.size := (Array.getElem?_eq_some_iff.1 HL1.out.2.1).1
     have OF := hid hO1
     have nO := World.new_ne wr _ k1
     clear hO1
     go_wp2_with (at_builtin; refine wpList_append_slice rfl _ _ rfl w.heap.size _ (ls.length + J) fU rfl ((OF.out.alloc _).alloc _) ⟨wr.heap.size + 1, 0, none⟩ 1 (.slice (some ⟨wr.heap.size, 0, none⟩) 2 2) rfl ?q0 rfl ?q1 ?q2 ?_)
     case q1 => omega
     case q2 => first | omega | (simp; omega)
     intro vF' w2 hown2 hg2 hloc2
     obtain ⟨pF2, cF2, eF2⟩ := own_slice hown2
     subst eF2
     have ga := World.grownBy_alloc wr (.cells #[.int .u8 J, .int .u8 99] 5) none
     have hL1 : LsV w.heap.size (wr.alloc (.cells #[.int .u8 J, .int .u8 99] 5)) O _ vE fU eU ls := HL1.out.away ga (fun k e => by cases e)
     have hM1 := HM1.out.away ga (fun k e => by cases e)
     have hu1 : (wr.alloc (.cells #[.int .u8 J, .int .u8 99] 5)).ownsRow w.heap.size 5 1 (.slice (some ⟨wr.heap.size, 0, none⟩) 2 2) 2 [.int .u8 J, .int .u8 99] := World.ownsRow_lit (base := w.heap.size) (e := 5) (size := 1) wr #[.int .u8 J, .int .u8 99] 2 hs0 (by decide) rfl
     obtain ⟨hb2, hL2⟩ := hL1.full hg2 (u := .slice (some ⟨wr.heap.size, 0, none⟩) 2 2) (fun h => by omega) (by rw [hfl]; exact hown2) (by simpa using hloc2)
     obtain ⟨_, k2, _, _, f2, _⟩ := three_cells hb2
     have bO : BT w2 O 50 := ⟨_, _, hb2⟩
     have oa := OF.out.alloc (.cells #[.int .u8 J, .int .u8 99] 5)
     have keepM : ∀ {v n xs}, (wr.alloc (.cells #[.int .u8 J, .int .u8 99] 5)).ownsRow w.heap.size 5 1 v n xs -> (w2.setCell ⟨O, 1, none⟩ (.slice pF2 (ls.length + J + 1) cF2)).ownsRow w.heap.size 5 1 v n xs := fun {v n xs} h => by
      have h1 := h.alloc (.cells #[.slice (some ⟨wr.heap.size, 0, none⟩) 2 2] 30)
      have h2 := own_away h1 hg2 (fun k e => by obtain ⟨cur, fz, hb⟩ := own_BT (oa.alloc (.cells #[.slice (some ⟨wr.heap.size, 0, none⟩) 2 2] 30)) k e; exact own_block_ne h1 hb (by decide))
      exact own_away h2 (grown_set w2 O 1 _) (fun k e => by cases e; exact own_block_ne h2 hb2 (by decide))
     have hM2 : MkV w.heap.size (w2.setCell ⟨O, 1, none⟩ (.slice pF2 (ls.length + J + 1) cF2)) (fU ++ [.slice (some ⟨wr.heap.size, 0, none⟩) 2 2]) ls.length (J + 1) := by
      intro j hj
      rw [getD_app]
      by_cases hj2 : j < J
      ·rw [if_pos (by omega)]
       exact keepM (hM1 j hj2)
      ·have : j = J := by omega
       subst this
       rw [if_neg (by omega), hfl, Nat.sub_self]
       exact keepM hu1
     have hB2 : Below w.heap.size w (w2.setCell ⟨O, 1, none⟩ (.slice pF2 (ls.length + J + 1) cF2)) := by
      have b1 := ((HB1.out.alloc hs0 (.cells #[.int .u8 J, .int .u8 99] 5)).alloc (by simp; omega) (.cells #[.slice (some ⟨wr.heap.size, 0, none⟩) 2 2] 30)).grown hg2 (by simp; omega) (fun k e => (OF.out.lt k e).1)
      exact b1.grown (grown_set w2 O 1 _) b1.size (fun k e => by cases e; omega)
     have L2 := hid hL2
     have M2 := hid hM2
     have B2 := hid hB2
     clear hL2 hM2 hB2 keepM oa hu1 hM1 hL1 ga hown2 hg2 hloc2 hb2 k1 f1
     go_wp2
     exact ⟨⟨J + 1, by omega, by go_num, _, _, by simp [hfl]; omega, L2, M2, B2⟩, by simp [intOf]; omega⟩
    ·have hJ70 : J = 70 := by omega
     subst hJ70
     obtain ⟨pF, cF, eF⟩ := own_slice HL1.out.2.2.1
     rw [hfl] at eF
     subst eF
     obtain ⟨k0, k1, k2, f0, f1, f2⟩ := three_cells HL1.out.2.1
     have hs0 := HB1.out.size
     have hO1 := HL1.out.2.2.1
     rw [hfl] at hO1
     have hcF : ls.length <= cF /\ cF <= 2 ^ 63 - 1 := by
      rcases hO1.2 with ⟨e, h0⟩ | ⟨g, cap, cur, e, _, _, h3, h4, _⟩
      ·omega
      ·simp only [Value.slice.injEq, true_and] at e
       obtain ⟨_, rfl⟩ := e
       unfold maxLen at h4
       omega
     obtain ⟨hcF, hcF2⟩ := hcF
     have HX : Hid (XL w.heap.size wr (.slice pF ls.length cF) (.slice pF (ls.length + 70) cF) vE fU eU ls) := ⟨hO1, HL1.out.2.2.2.1, HL1.out.2.2.2.2.1, HL1.out.2.2.2.2.2.1, fun j hj => HL1.out.2.2.2.2.2.2 j (by omega) hj, HM1.out, _, _, rfl, rfl⟩
     have BO := hid HL1.out.block
     have sz2 := size_bytes
     obtain ⟨r0, r1, r2, g0, g1, g2⟩ := three_cells HL1.out.1.2
     have HR := hid HL1.out.1.2
     have hBO : w.heap.size ≠ O := by omega
     obtain ⟨pE, cE, eE⟩ := own_slice HL1.out.2.2.2.1
     subst eE
     have FIN : Hid (∀ a b c d : Value, XL w.heap.size ((((wr.setCell ⟨O, 0, none⟩ a).setCell ⟨w.heap.size, 0, none⟩ b).setCell ⟨w.heap.size, 1, none⟩ c).setCell ⟨w.heap.size, 2, none⟩ d) (.slice pF ls.length cF) (.slice pF (ls.length + 70) cF) (.slice pE ls.length cE) fU eU ls /\ Below w.heap.size w ((((wr.setCell ⟨O, 0, none⟩ a).setCell ⟨w.heap.size, 0, none⟩ b).setCell ⟨w.heap.size, 1, none⟩ c).setCell ⟨w.heap.size, 2, none⟩ d) /\ ((((wr.setCell ⟨O, 0, none⟩ a).setCell ⟨w.heap.size, 0, none⟩ b).setCell ⟨w.heap.size, 1, none⟩ c).setCell ⟨w.heap.size, 2, none⟩ d).heap[w.heap.size]? = some (.cells #[b, c, d] 50 (0, 0))) := by
      intro a b c d
      have x1 := HX.out.away (grown_set wr O 0 a) (fun k e => by cases e; exact ⟨_, BO.out, by decide, by decide⟩)
      have y1 := HB1.out.grown (grown_set wr O 0 a) hs0 (fun k e => by cases e; omega)
      have t1 : (wr.setCell ⟨O, 0, none⟩ a).heap[w.heap.size]? = some (.cells #[.slice none 0 0, .slice none 0 0, .slice none 0 0] 50 (0, 0)) := by rw [(grown_set wr O 0 a).block w.heap.size (Array.getElem?_eq_some_iff.1 HR.out).1 (by simp; omega)]; exact HR.out
      have t2 : ((wr.setCell ⟨O, 0, none⟩ a).setCell ⟨w.heap.size, 0, none⟩ b).heap[w.heap.size]? = some (.cells #[b, .slice none 0 0, .slice none 0 0] 50 (0, 0)) := by rw [heap_setCell_same _ w.heap.size 0 _ _ b t1]; rfl
      have t3 : (((wr.setCell ⟨O, 0, none⟩ a).setCell ⟨w.heap.size, 0, none⟩ b).setCell ⟨w.heap.size, 1, none⟩ c).heap[w.heap.size]? = some (.cells #[b, c, .slice none 0 0] 50 (0, 0)) := by rw [heap_setCell_same _ w.heap.size 1 _ _ c t2]; rfl
      have t4 : ((((wr.setCell ⟨O, 0, none⟩ a).setCell ⟨w.heap.size, 0, none⟩ b).setCell ⟨w.heap.size, 1, none⟩ c).setCell ⟨w.heap.size, 2, none⟩ d).heap[w.heap.size]? = some (.cells #[b, c, d] 50 (0, 0)) := by rw [heap_setCell_same _ w.heap.size 2 _ _ d t3]; rfl
      have x2 := x1.away (grown_set _ w.heap.size 0 b) (fun k e => by cases e; exact ⟨_, ⟨_, _, t1⟩, by decide, by decide⟩)
      have y2 := y1.grown (grown_set _ w.heap.size 0 b) y1.size (fun k e => by cases e; omega)
      have x3 := x2.away (grown_set _ w.heap.size 1 c) (fun k e => by cases e; exact ⟨_, ⟨_, _, t2⟩, by decide, by decide⟩)
      have y3 := y2.grown (grown_set _ w.heap.size 1 c) y2.size (fun k e => by cases e; omega)
      exact ⟨x3.away (grown_set _ w.heap.size 2 d) (fun k e => by cases e; exact ⟨_, ⟨_, _, t3⟩, by decide, by decide⟩), y3.grown (grown_set _ w.heap.size 2 d) y3.size (fun k e => by cases e; omega), t4⟩
     clear HL1 HM1 hO1
     go_wp2
     refine bodyPost_ret (v := .agg #[.slice pF ls.length cF, .slice pF (ls.length + 70) cF, .slice pE ls.length cE]) (results_cell_row (p := 2) (ty := 50) rfl _ _ w.heap.size 50 #[.slice pF ls.length cF, .slice pF (ls.length + 70) cF, .slice pE ls.length cE] (0, 0) _ rfl (FIN.out _ _ _ _).2.2 Tryd.underlying50 rfl size_lists) rfl ?_
     exact ⟨_, _, _, _, _, rfl, (FIN.out _ _ _ _).1, (FIN.out _ _ _ _).2.1⟩
theorem own_cells {w : World} {B n : Nat} {v : Value} {xs : List Value} {e : TypeId} (h : w.ownsRow B e 1 v n xs) (h0 : 0 < n) : ∃ g c, v = .slice (some ⟨g, 0, none⟩) n c /\ B <= g /\ n <= c /\ c <= maxLen /\ ∀ j, j < n -> w.cell? ⟨g, j, none⟩ = some (xs.getD j undef) := by
 have hl := h.1
 rcases h.2 with ⟨_, e0⟩ | ⟨g, cap, cur, rfl, hbg, hg, hnc, hcm, hcs, htake⟩
 ·omega
 ·refine ⟨g, cap, rfl, hbg, hnc, hcm, fun j hj => ?_⟩
  have hjx : j < xs.length := by omega
  have := h.cells (g := g) rfl j (xs.getD j undef) (by rw [List.getElem?_eq_getElem hjx]; simp [List.getD, List.getElem?_eq_getElem hjx])
  rw [Addr.add_mid, Nat.zero_add] at this
  exact this
theorem getD_map_lent (ls : List (List Int)) (j : Nat) (hj : j < ls.length) : (ls.map lent).getD j [] = lent (ls.getD j []) := by
 simp [List.getD, List.getElem?_map, List.getElem?_eq_getElem hj]
theorem XL.elem {B : Nat} {w : World} {vL vF vE : Value} {fU eU : List Value} {ls : List (List Int)} (h : XL B w vL vF vE fU eU ls) (hb : ∀ j, ∀ x ∈ ls.getD j [], 0 <= x /\ x < 256) (j : Nat) (hj : j < ls.length) : HB w (eU.getD j undef) (lent (ls.getD j [])) /\ HB w (fU.getD j undef) (ls.getD j []) := by
 obtain ⟨h1, h2, h3, h4, h5, h6, h7⟩ := h
 have hl : eU.length = ls.length := by have := h4.1; simpa using this
 have ho := h4.2.1 j (by omega)
 rw [getD_map_lent ls j hj] at ho
 have hf := HB.of_own ho (lent_byt (hb j))
 refine ⟨hf, ?_⟩
 obtain ⟨p, c, e1, e2⟩ := h5 j hj
 rw [e1] at hf
 rw [e2]
 refine lent_pre hf ?_
 obtain ⟨p', c', e, h8, _⟩ := hf.open
 rw [lent_length] at e h8
 cases e
 omega
theorem XL.hl {B : Nat} {w : World} {vL vF vE : Value} {fU eU : List Value} {ls : List (List Int)} (h : XL B w vL vF vE fU eU ls) (hb : ∀ j, ∀ x ∈ ls.getD j [], 0 <= x /\ x < 256) : HL w vL ls := by
 have he := h.elem hb
 obtain ⟨h1, h2, h3, h4, h5, h6, p, c, e1, e2⟩ := h
 obtain ⟨g, c', e, hbg, hnc, hcm, hcell⟩ := own_cells h1 (by omega)
 rw [e1] at e
 simp only [Value.slice.injEq, true_and] at e
 obtain ⟨rfl, rfl⟩ := e
 refine ⟨_, c, e2, by omega, hcm, (fun e => by cases e), fun hne => ⟨g, 0, rfl, fun j hj => ⟨_, by rw [Nat.zero_add]; exact hcell j (by omega), (he j hj).2⟩⟩⟩
theorem keptLists_any (B : Nat) (w : World) (vL vF vE v : Value) (fU eU : List Value) (ls : List (List Int)) (x : XL B w vL vF vE fU eU ls) (h : HL w v ls) (hn : ls.length <= 1048576) (hb : ∀ j, (ls.getD j []).length <= 1048576 /\ ∀ x ∈ ls.getD j [], 0 <= x /\ x < 256) :
  Calls Tryd.prog 16 #[.agg #[vL, vF, vE], v] w fun e w' => e = .returned (.bool true) /\ Below w.heap.size w w' := by
 have HXL := hid x
 have HHL := hid h
 obtain ⟨p, c, rfl, hlc, hm, hpc, hcl⟩ := h
 unfold maxLen at hm
 have HBd := hid hb
 obtain ⟨g, cF, eF, _, hcF, hmF, hFc⟩ := own_cells x.1 (by omega)
 obtain ⟨pE, cE, eE⟩ := own_slice x.2.1
 obtain ⟨pL, cL, eL1, eL2⟩ := x.2.2.2.2.2.2
 rw [eF] at eL1
 simp only [Value.slice.injEq, true_and] at eL1
 obtain ⟨rfl, rfl⟩ := eL1
 subst eF eE eL2
 unfold maxLen at hmF
 have sz2 := size_bytes
 clear hcl hb x
 go_enter Tryd.func16, Tryd.ntmps16
 go_wp2_with fail
 obtain ⟨W0, hW0⟩ : ∃ W0, Hid (w.alloc (.cells #[.slice (some ⟨g, 0, none⟩) ls.length cF, .slice (some ⟨g, 0, none⟩) (ls.length + 70) cF, .slice pE ls.length cE] 50) = W0) := ⟨_, rfl⟩
 have B0 : Hid (Below w.heap.size w W0) := by rw [<- hW0.out]; exact (Below.refl _ w).alloc (Nat.le_refl _) _
 have X0 : Hid (W0.heap[w.heap.size]? = some (.cells #[.slice (some ⟨g, 0, none⟩) ls.length cF, .slice (some ⟨g, 0, none⟩) (ls.length + 70) cF, .slice pE ls.length cE] 50 (0, 0))) := by rw [<- hW0.out]; exact heap_alloc_new w _
 rw [hW0.out]
 clear hW0
 have HX0 := hid (HXL.out.away (grown_below (r := none) B0.out) (fun k e => by cases e))
 have HL0 := hid (HHL.out.below B0.out)
 refine (sameLists_any W0 _ _ ls ls (HX0.out.hl (fun j => (HBd.out j).2)) HL0.out).mono ?_
 rintro e w1 ⟨rfl, hd⟩
 rw [decide_eq_true rfl]
 have B1 := hid (B0.out.trans ((hd.below _).mono B0.out.size))
 have X1 : Hid (w1.heap[w.heap.size]? = _) := (congrArg (·[w.heap.size]?) hd.heap).trans X0.out
 have HX1 := hid (HX0.out.away hd.grownBy (fun k e => by cases e))
 have HL1 := hid (HL0.out.dr hd)
 clear hd HX0 HL0 X0 B0
 go_wp2_with fail
 go_loopw [5] (fun i wr => ∃ I : Nat, I <= ls.length /\ i = .int .i64 I /\ Hid (Below w1.heap.size w1 wr)) (fun i _ => ls.length - (intOf i).toNat)
 case atStart => exact ⟨0, Nat.zero_le _, rfl, Below.refl _ _⟩
 case round =>
  obtain ⟨I, hI, rfl, HBr⟩ := hrel
  have hXr : wr.heap[w.heap.size]? = _ := (HBr.out.block _ (Array.getElem?_eq_some_iff.1 X1.out).1).trans X1.out
  obtain ⟨_, y1, y2, _, _, _⟩ := three_cells hXr
  have HXr := hid (HX1.out.away (grown_below (r := none) HBr.out) (fun k e => by cases e))
  have HLr := hid (HL1.out.below HBr.out)
  by_cases hlt : I < ls.length
  ·obtain ⟨gE, cE', eE, _, _, hmE, hcE⟩ := own_cells HXr.out.2.1 (by omega)
   simp only [Value.slice.injEq, true_and] at eE
   obtain ⟨rfl, rfl⟩ := eE
   obtain ⟨b, off, c', e2, _, _, hcl⟩ := HLr.out.ne (by omega)
   simp only [Value.slice.injEq, true_and] at e2
   obtain ⟨rfl, rfl⟩ := e2
   obtain ⟨u, hcu, hu⟩ := hcl I hlt
   have hE := hcE I hlt
   obtain ⟨hEe, _⟩ := HXr.out.elem (fun j => (HBd.out j).2) I hlt
   obtain ⟨t, HT⟩ : ∃ t, Hid (eU.getD I undef = t) := ⟨_, rfl⟩
   obtain ⟨y, HY⟩ : ∃ y, Hid (ls.getD I [] = y) := ⟨_, rfl⟩
   rw [HT.out] at hE hEe
   rw [HY.out] at hEe hu
   have hyl : y.length <= 140737488351232 := by rw [<- HY.out]; have := (HBd.out I).1; omega
   have HE := hid hEe
   have HU := hid hu
   obtain ⟨pt, ct, et, _, _⟩ := hEe.open
   obtain ⟨pu, cu, eu, _, _⟩ := hu.open
   subst et eu
   have z0 : (0 : Int) <= (I : Int) := Int.natCast_nonneg _
   have z1 : (I : Int) < (ls.length : Int) := by omega
   have KC : Hid (∀ q, Calls Tryd.prog 20 #[.slice pt (lent y).length ct, .slice pu y.length cu] (wr.drewN q) fun e w' => e = .returned (.bool true) /\ Hid (Below wr.heap.size wr w')) := by
    intro q
    refine (kept_any (wr.drewN q) _ _ (lent y) y (HE.out.dr ⟨q, rfl⟩) (HU.out.dr ⟨q, rfl⟩) hyl).mono ?_
    rintro e w' ⟨rfl, hb⟩
    rw [decide_eq_true rfl]
    exact ⟨rfl, ((Dr.below ⟨q, rfl⟩ _).trans hb)⟩
   have lX := World.block_lt_of_cell? wr _ y2
   have lE := World.block_lt_of_cell? wr _ hE
   have lu := World.block_lt_of_cell? wr _ hcu
   clear hcl hcE hEe hu y1 hFc
   go_wp2_with fail
   go_region_held3 (fun w' => w'.cell? ⟨w.heap.size, 2, none⟩ = some (.slice (some ⟨gE, 0, none⟩) ls.length cE) /\ w'.cell? ⟨gE, I, none⟩ = some (.slice pt (lent y).length ct) /\ w'.cell? ⟨b, off + I, none⟩ = some (.slice pu y.length cu))
    (first
     | go_keep
     | (refine ⟨(hBk.out.cell (p := ⟨w.heap.size, 2, none⟩) lX).trans y2, (hBk.out.cell (p := ⟨gE, I, none⟩) lE).trans hE, (hBk.out.cell (p := ⟨b, off + I, none⟩) lu).trans hcu⟩))
    ((go_at_call 20; refine (KC.out 1).mono ?_; rintro e wz ⟨rfl, hBk⟩))
   have HBr2 := hid (HBr.out.trans (hBk.out.mono HBr.out.size))
   go_wp2
   exact ⟨⟨I + 1, by omega, by go_num, HBr2⟩, by simp [intOf]; omega⟩
  ·go_wp2_with fail
   go_loopw [6] (fun i wq => ∃ J : Nat, J <= 70 /\ i = .int .i64 J /\ Hid (Below w1.heap.size w1 wq)) (fun i _ => 70 - (intOf i).toNat)
   case atStart => exact ⟨0, Nat.zero_le _, rfl, HBr⟩
   case round =>
    clear HBr hXr y1 y2 HXr HLr
    obtain ⟨J, hJ, rfl, HBr⟩ := hrel
    by_cases hlt : J < 70
    ·have hXr : wr.heap[w.heap.size]? = _ := (HBr.out.block _ (Array.getElem?_eq_some_iff.1 X1.out).1).trans X1.out
     obtain ⟨_, y1, y2, _, _, _⟩ := three_cells hXr
     have HXr := hid (HX1.out.away (grown_below (r := none) HBr.out) (fun k e => by cases e))
     obtain ⟨gF, cF', eF, _, _, _, hcF3⟩ := own_cells HXr.out.1 (by omega)
     simp only [Value.slice.injEq, true_and] at eF
     obtain ⟨eF, rfl⟩ := eF
     simp only [Option.some.injEq, Addr.mk.injEq, and_true] at eF
     subst eF
     have hm1 := hcF3 (ls.length + J) (by omega)
     have hm2 := HXr.out.2.2.2.2.2.1 J hlt
     obtain ⟨gm, cm, em, _, _, hmm, hcm⟩ := own_cells hm2 (by omega)
     rw [em] at hm1
     have c0 := hcm 0 (by omega)
     have c1 := hcm 1 (by omega)
     simp only [List.getD, List.getElem?_cons_zero, List.getElem?_cons_succ, Option.getD_some] at c0 c1
     have hJw : IntKind.u8.wrap (J : Int) = J := by
      have e1 : IntKind.u8.bits = 8 := rfl
      have e2 : IntKind.u8.signed = false := rfl
      simp [IntKind.wrap, e1, e2]
      omega
     have hww : IntKind.i64.wrap ((ls.length : Int) + (J : Int)) = ((ls.length + J : Nat) : Int) := by
      rw [IntKind.wrap_i64]; omega
     clear hcF3 hm2 hcm hFc
     go_wp2
     exact ⟨⟨J + 1, by omega, by go_num, HBr⟩, by simp [intOf]; omega⟩
    ·go_wp2
     go_ret
     exact ⟨rfl, B1.out.trans (HBr.out.mono B1.out.size)⟩
def XO (B : Nat) (w : World) (vF vE : Value) (fU eU : List Value) (ls : List (List Int)) : Prop :=
 w.ownsRow B 30 1 vF (ls.length + 70) fU /\ w.ownsRow B 30 1 vE ls.length eU /\ ∀ j, j < ls.length -> ∃ ys, w.ownsRow B 5 1 (eU.getD j undef) ((ls.getD j []).length + 70) ys
theorem XO.away {B : Nat} {w w' : World} {vF vE : Value} {fU eU : List Value} {ls : List (List Int)} (h : XO B w vF vE fU eU ls) (hg : w.grownBy w' none) : XO B w' vF vE fU eU ls :=
 ⟨own_away h.1 hg (fun k e => by cases e), own_away h.2.1 hg (fun k e => by cases e), fun j hj => by obtain ⟨ys, hy⟩ := h.2.2 j hj; exact ⟨ys, own_away hy hg (fun k e => by cases e)⟩⟩
theorem XL.xo {B : Nat} {w : World} {vL vF vE : Value} {fU eU : List Value} {ls : List (List Int)} (h : XL B w vL vF vE fU eU ls) : XO B w vF vE fU eU ls := by
 obtain ⟨h1, h2, h3, h4, h5, h6, h7⟩ := h
 refine ⟨h1, h2, fun j hj => ?_⟩
 have hl : eU.length = ls.length := by have := h4.1; simpa using this
 have ho := h4.2.1 j (by omega)
 rw [getD_map_lent ls j hj, lent_length] at ho
 exact ⟨_, ho⟩
theorem overLists_any3 (B N1 : Nat) (w : World) (vL vF vE : Value) (fU eU : List Value) (ls : List (List Int)) (x : XL B w vL vF vE fU eU ls) (hN : N1 <= w.heap.size) (hF : ∀ k, vF.ownBlock = some k -> k < N1) (hE : ∀ j, j < ls.length -> ∀ k, (eU.getD j undef).ownBlock = some k -> k < N1) (hn : ls.length <= 1048576) (hb : ∀ j, (ls.getD j []).length <= 1048576) :
  Calls Tryd.prog 17 #[.agg #[vL, vF, vE]] w fun e w' => e = .returned (.tuple #[]) /\ Fr (fun k => B <= k /\ k < N1) w w' /\ HL w' vL (List.replicate ls.length [1, 2, 3]) := by
 have HXO := hid x.xo
 have hel : eU.length = ls.length := by have := x.2.2.2.1.1; simpa using this
 have HAP := hid x.2.2.2.1.2.2
 have HBd := hid hb
 have HEn := hid hE
 obtain ⟨gF, cF, eF, hBF, hcF, hmF, _⟩ := own_cells x.1 (by omega)
 obtain ⟨pE, cE, eE⟩ := own_slice x.2.1
 obtain ⟨pL, cL, eL1, eL2⟩ := x.2.2.2.2.2.2
 rw [eF] at eL1
 simp only [Value.slice.injEq, true_and] at eL1
 obtain ⟨rfl, rfl⟩ := eL1
 subst eF eE eL2
 have hFN := hF gF rfl
 have HCM := hid hmF
 unfold maxLen at hmF
 obtain ⟨W0, hW0⟩ : ∃ W0, Hid (w.alloc (.cells #[.slice (some ⟨gF, 0, none⟩) ls.length cF, .slice (some ⟨gF, 0, none⟩) (ls.length + 70) cF, .slice pE ls.length cE] 50) = W0) := ⟨_, rfl⟩
 have F0 : Hid (Fr (fun k => B <= k /\ k < N1) w W0) := by rw [<- hW0.out]; exact (Fr.refl _ w).step (World.grownBy_alloc w _ none) (fun k e => by cases e)
 have X0 : Hid (W0.heap[w.heap.size]? = some (.cells #[.slice (some ⟨gF, 0, none⟩) ls.length cF, .slice (some ⟨gF, 0, none⟩) (ls.length + 70) cF, .slice pE ls.length cE] 50 (0, 0))) := by rw [<- hW0.out]; exact heap_alloc_new w _
 have O0 : Hid (XO B W0 (.slice (some ⟨gF, 0, none⟩) (ls.length + 70) cF) (.slice pE ls.length cE) fU eU ls) := by rw [<- hW0.out]; exact HXO.out.away (World.grownBy_alloc w _ none)
 clear hb hE hF x
 go_enter Tryd.func17, Tryd.ntmps17
 go_wp2_with fail
 rw [hW0.out]
 clear hW0
 go_loopw [2] (fun i wr => ∃ I : Nat, I <= ls.length /\ i = .int .i64 I /\ Hid (Fr (fun k => B <= k /\ k < N1) w wr) /\ Hid (wr.heap[w.heap.size]? = some (.cells #[.slice (some ⟨gF, 0, none⟩) ls.length cF, .slice (some ⟨gF, 0, none⟩) (ls.length + 70) cF, .slice pE ls.length cE] 50 (0, 0))) /\ Hid (XO B wr (.slice (some ⟨gF, 0, none⟩) (ls.length + 70) cF) (.slice pE ls.length cE) fU eU ls)) (fun i _ => ls.length - (intOf i).toNat)
 case atStart => exact ⟨0, Nat.zero_le _, rfl, F0, X0, O0⟩
 case round =>
  clear F0 X0 O0
  obtain ⟨I, hI, rfl, HF, HXr, HO⟩ := hrel
  obtain ⟨_, y1, y2, _, _, _⟩ := three_cells HXr.out
  by_cases hlt : I < ls.length
  ·obtain ⟨gE, cE', eE, _, _, hmE, hcE⟩ := own_cells HO.out.2.1 (by omega)
   simp only [Value.slice.injEq, true_and] at eE
   obtain ⟨rfl, rfl⟩ := eE
   unfold maxLen at hmE
   have hcell := hcE I hlt
   obtain ⟨ys, hy⟩ := HO.out.2.2 I hlt
   obtain ⟨t, HT⟩ : ∃ t, Hid (eU.getD I undef = t) := ⟨_, rfl⟩
   obtain ⟨m, HM⟩ : ∃ m, Hid ((ls.getD I []).length = m) := ⟨_, rfl⟩
   rw [HT.out] at hcell hy
   rw [HM.out] at hy
   have HY := hid hy
   obtain ⟨pt, ct, et⟩ := own_slice hy
   subst et
   have hln := HBd.out I
   rw [HM.out] at hln
   clear hcE hy
   go_wp2_with fail
   refine (over_any wr B _ (m + 70) ys HY.out (by omega)).mono ?_
   rintro e w2 ⟨rfl, ⟨ys2, hy2⟩, hg2⟩
   have bk := own_BT HY.out
   have F2 : Hid (Fr (fun k => B <= k /\ k < N1) w w2) := HF.out.step hg2 (fun k e => .inl ⟨(HY.out.lt k e).1, HEn.out I hlt k (by rw [HT.out]; exact e)⟩)
   have X2 : Hid (w2.heap[w.heap.size]? = some (.cells #[.slice (some ⟨gF, 0, none⟩) ls.length cF, .slice (some ⟨gF, 0, none⟩) (ls.length + 70) cF, .slice (some ⟨gE, 0, none⟩) ls.length cE] 50 (0, 0))) := by
    show _ = _
    rw [hg2.block w.heap.size (Array.getElem?_eq_some_iff.1 HXr.out).1 (fun e => own_block_ne HY.out HXr.out (by decide) e.symm)]
    exact HXr.out
   have O2 : Hid (XO B w2 (.slice (some ⟨gF, 0, none⟩) (ls.length + 70) cF) (.slice (some ⟨gE, 0, none⟩) ls.length cE) fU eU ls) := by
    refine ⟨own_away HO.out.1 hg2 (fun k e => by obtain ⟨cur, fz, hb⟩ := bk k e; exact own_block_ne HO.out.1 hb (by decide)), own_away HO.out.2.1 hg2 (fun k e => by obtain ⟨cur, fz, hb⟩ := bk k e; exact own_block_ne HO.out.2.1 hb (by decide)), fun j hj => ?_⟩
    by_cases hji : j = I
    ·subst hji
     rw [HT.out, HM.out]
     exact ⟨ys2, hy2⟩
    ·obtain ⟨zs, hz⟩ := HO.out.2.2 j hj
     refine ⟨zs, hz.kept hg2 ?_⟩
     have := HAP.out j I (by omega) (by omega) hji
     rw [HT.out] at this
     exact this
   clear hg2 hy2 bk
   go_wp2
   exact ⟨⟨I + 1, by omega, by go_num, F2, X2, O2⟩, by simp [intOf]; omega⟩
  ·have hcur : ∃ cur, wr.heap[gF]? = some (.cells cur 30 (0, 0)) /\ ls.length + 70 <= cur.size := by
    rcases HO.out.1.2 with ⟨e, h0⟩ | ⟨g, cap, cur, e, _, hh, h3, _, h5, _⟩
    ·omega
    ·simp only [Value.slice.injEq, Option.some.injEq, Addr.mk.injEq, and_true, true_and] at e
     obtain ⟨rfl, rfl⟩ := e
     exact ⟨cur, hh, by omega⟩
   have HCu := hid hcur
   clear hcur HO
   go_wp2_with fail
   clear y1 y2
   go_loopw [3] (fun i wq => ∃ J : Nat, J <= ls.length + 70 /\ i = .int .i64 J /\ Hid (Fr (fun k => B <= k /\ k < N1) w wq) /\ Hid (wq.heap[w.heap.size]? = some (.cells #[.slice (some ⟨gF, 0, none⟩) ls.length cF, .slice (some ⟨gF, 0, none⟩) (ls.length + 70) cF, .slice pE ls.length cE] 50 (0, 0))) /\ Hid (∃ cur, wq.heap[gF]? = some (.cells cur 30 (0, 0)) /\ ls.length + 70 <= cur.size /\ ∀ q, q < J -> ∃ g3, cur[q]? = some (.slice (some ⟨g3, 0, none⟩) 3 3) /\ wq.heap[g3]? = some (.cells #[.int .u8 1, .int .u8 2, .int .u8 3] 5 (0, 0)))) (fun i _ => ls.length + 70 - (intOf i).toNat)
   case atStart =>
    obtain ⟨cur, hq1, hq2⟩ := HCu.out
    exact ⟨0, Nat.zero_le _, rfl, HF, HXr, cur, hq1, hq2, fun q hq => by omega⟩
   case round =>
    clear HF HXr HCu
    obtain ⟨J, hJ, rfl, HF, HXr, HCu⟩ := hrel
    obtain ⟨_, y1, y2, _, _, _⟩ := three_cells HXr.out
    by_cases hlt : J < ls.length + 70
    ·obtain ⟨cur, hcu, hsz, hq3⟩ := HCu.out
     have HQ3 := hid hq3
     have HCU := hid hcu
     clear hq3
     have lF : gF < wr.heap.size := (Array.getElem?_eq_some_iff.1 hcu).1
     have lX : w.heap.size < wr.heap.size := (Array.getElem?_eq_some_iff.1 HXr.out).1
     obtain ⟨W1, hW1⟩ : ∃ W1, wr.alloc (.cells #[.int .u8 1, .int .u8 2, .int .u8 3] 5) = W1 := ⟨_, rfl⟩
     have ga := World.grownBy_alloc wr (.cells #[.int .u8 1, .int .u8 2, .int .u8 3] 5) none
     rw [hW1] at ga
     have hcu1 : W1.heap[gF]? = some (.cells cur 30 (0, 0)) := (ga.block gF lF (by simp)).trans hcu
     have hx1 : W1.heap[w.heap.size]? = _ := (ga.block w.heap.size lX (by simp)).trans HXr.out
     obtain ⟨z, hz⟩ : ∃ z, W1.cell? ⟨gF, J, none⟩ = some z := ⟨cur[J]'(by omega), by simp [World.cell?, hcu1, Array.getElem?_eq_getElem (show J < cur.size by omega)]⟩
     have hfz : W1.frozen? ⟨gF, J, none⟩ = false := by simp [World.frozen?, hcu1]
     have FIN : Hid (Hid (Fr (fun k => B <= k /\ k < N1) w (W1.setCell ⟨gF, J, none⟩ (.slice (some ⟨wr.heap.size, 0, none⟩) 3 3))) /\ Hid ((W1.setCell ⟨gF, J, none⟩ (.slice (some ⟨wr.heap.size, 0, none⟩) 3 3)).heap[w.heap.size]? = some (.cells #[.slice (some ⟨gF, 0, none⟩) ls.length cF, .slice (some ⟨gF, 0, none⟩) (ls.length + 70) cF, .slice pE ls.length cE] 50 (0, 0))) /\ Hid (∃ cur, (W1.setCell ⟨gF, J, none⟩ (.slice (some ⟨wr.heap.size, 0, none⟩) 3 3)).heap[gF]? = some (.cells cur 30 (0, 0)) /\ ls.length + 70 <= cur.size /\ ∀ q, q < J + 1 -> ∃ g3, cur[q]? = some (.slice (some ⟨g3, 0, none⟩) 3 3) /\ (W1.setCell ⟨gF, J, none⟩ (.slice (some ⟨wr.heap.size, 0, none⟩) 3 3)).heap[g3]? = some (.cells #[.int .u8 1, .int .u8 2, .int .u8 3] 5 (0, 0)))) := by
      have gs := grown_set W1 gF J (.slice (some ⟨wr.heap.size, 0, none⟩) 3 3)
      have hnew : W1.heap[wr.heap.size]? = some (.cells #[.int .u8 1, .int .u8 2, .int .u8 3] 5 (0, 0)) := by rw [<- hW1]; exact heap_alloc_new wr _
      refine ⟨(HF.out.step ga (fun k e => by cases e)).step gs (fun k e => by cases e; exact .inl ⟨hBF, hFN⟩), (gs.block w.heap.size (Array.getElem?_eq_some_iff.1 hx1).1 (by simp; omega)).trans hx1, _, heap_setCell_same W1 gF J _ _ (.slice (some ⟨wr.heap.size, 0, none⟩) 3 3) hcu1, by simp; exact hsz, fun q hq => ?_⟩
      by_cases hqJ : q = J
      ·subst hqJ
       refine ⟨wr.heap.size, Array.getElem?_setIfInBounds_self_of_lt (by omega), ?_⟩
       rw [heap_setCell_other _ _ _ _ (show wr.heap.size ≠ gF by omega)]
       exact hnew
      ·obtain ⟨g3, e1, e2⟩ := HQ3.out q (by omega)
       have hg3 : g3 < wr.heap.size := (Array.getElem?_eq_some_iff.1 e2).1
       have hne : g3 ≠ gF := fun e => by rw [e, HCU.out] at e2; simp only [Option.some.injEq, Obj.cells.injEq] at e2; exact absurd e2.2.1 (by decide)
       refine ⟨g3, by rw [Array.getElem?_setIfInBounds_ne (by omega)]; exact e1, ?_⟩
       rw [heap_setCell_other _ _ _ _ hne, ga.block g3 hg3 (by simp)]
       exact e2
     have z0 : (0 : Int) <= (J : Int) := Int.natCast_nonneg _
     have z1 : (J : Int) < (ls.length : Int) + 70 := by omega
     clear hcu1 hx1 hcu ga
     go_wp2
     exact ⟨⟨J + 1, by omega, by go_num, FIN.out.1, FIN.out.2.1, FIN.out.2.2⟩, by simp [intOf]; omega⟩
    ·have HLf : Hid (HL wr (.slice (some ⟨gF, 0, none⟩) ls.length cF) (List.replicate ls.length [1, 2, 3])) := by
      obtain ⟨cur, hcu, hsz, hq3⟩ := HCu.out
      refine ⟨_, cF, by simp, by simp; omega, HCM.out, (fun e => by cases e), fun hne => ⟨gF, 0, rfl, fun j hj => ?_⟩⟩
      simp only [List.length_replicate] at hj
      obtain ⟨g3, e1, e2⟩ := hq3 j (by omega)
      refine ⟨.slice (some ⟨g3, 0, none⟩) 3 3, by rw [cell_of_row _ _ _ _ _ _ hcu, Nat.zero_add]; exact e1, ?_⟩
      have eg : (List.replicate ls.length [(1 : Int), 2, 3]).getD j [] = [1, 2, 3] := by simp [List.getD, hj]
      rw [eg]
      refine ⟨⟨_, 3, rfl, by decide, by decide, (fun e => by cases e), fun _ => ⟨g3, 0, rfl, fun i hi => ?_⟩⟩, by simp⟩
      rw [cell_of_row _ _ _ _ _ _ e2]
      match i, hi with
      | 0, _ => rfl
      | 1, _ => rfl
      | 2, _ => rfl
     go_wp2
     first | go_ret | go_end0
     exact ⟨rfl, HF.out, HLf.out⟩
end Go.Proofs.YtcpchhigiohlnaaDoor
namespace Go.Proofs.YtcpchhigiohlnaaDoor
open Go Go.RowKit
theorem flat_memT {ls : List (List Int)} (j : Nat) : (ls.getD j []).length <= ls.flatten.length := by
 by_cases h : j < ls.length
 ·have h1 : ls.getD j [] ∈ ls := by
   have : ls.getD j [] = ls[j] := by simp [List.getD, h]
   rw [this]; exact List.getElem_mem _
  exact (List.sublist_flatten_of_mem h1).length_le
 ·simp [List.getD, List.getElem?_eq_none (by omega : ls.length <= j)]
theorem HL.bytT {w : World} {v : Value} {ls : List (List Int)} (h : HL w v ls) (j : Nat) : ∀ x ∈ ls.getD j [], 0 <= x /\ x < 256 := by
 by_cases hj : j < ls.length
 ·obtain ⟨b, off, c, _, _, _, hh⟩ := h.ne (by omega)
  obtain ⟨u, _, hb⟩ := hh j hj
  exact hb.2
 ·simp [List.getD, List.getElem?_eq_none (by omega : ls.length <= j)]
theorem XL.keepR {B : Nat} {w w' : World} {vL vF vE : Value} {fU eU : List Value} {ls : List (List Int)} (h : XL B w vL vF vE fU eU ls) (hk : ∀ b, B <= b -> b < w.heap.size -> w'.heap[b]? = w.heap[b]?) : XL B w' vL vF vE fU eU ls := by
 obtain ⟨h1, h2, h3, h4, h5, h6, h7⟩ := h
 have kp : ∀ {e n v xs}, w.ownsRow B e 1 v n xs -> w'.ownsRow B e 1 v n xs := fun {e n v xs} o => own_ofL o (fun b q => hk b (own_atL o q).2.1 (own_atL o q).1)
 exact ⟨kp h1, kp h2, h3, ⟨h4.1, fun j hj => kp (h4.2.1 j hj), h4.2.2⟩, h5, fun j hj => kp (h6 j hj), h7⟩
theorem XL.lo {B : Nat} {w : World} {vL vF vE : Value} {fU eU : List Value} {ls : List (List Int)} (h : XL B w vL vF vE fU eU ls) : (∀ k, vF.ownBlock = some k -> B <= k /\ k < w.heap.size) /\ ∀ j, j < ls.length -> ∀ k, (eU.getD j undef).ownBlock = some k -> B <= k /\ k < w.heap.size :=
 ⟨fun k e => ⟨(own_atL h.1 e).2.1, (own_atL h.1 e).1⟩, fun j hj k e => by
  have hl : eU.length = ls.length := by have := h.2.2.2.1.1; simpa using this
  have ho := h.2.2.2.1.2.1 j (by omega)
  exact ⟨(own_atL ho e).2.1, (own_atL ho e).1⟩⟩
theorem wpList_load_rowT {P : Program} {ops : Array Oper} {rest : List Oper} {o : Oper} {a : Act} {w : World} {Q : Exit -> Act -> World -> Prop} (hw : Region.wanted o (yielded ops a.tmps) = true) (ty : TypeId) (x : Operand) (ho : o.op = .load ty x)
  (g : Nat) (hx : a.eval x = .pointer (some ⟨g, 0, none⟩)) (t : TypeId) (cs : Array Value) (fr : Nat × Nat) (d : TypeDesc) (hg : w.heap[g]? = some (.cells cs t fr))
  (hu : P.underlying ty = some d) (hd : (match d with | .struct _ | .array _ _ => true | _ => false) = true) (hi : (P.info? ty).map (·.size) = some cs.size)
  (h : wpList P ops Q rest (a.put o.dst (.agg cs)) w) : wpList P ops Q (o :: rest) a w := by
 refine wpList_step fun K hK => ?_
 simp only [hw, if_true]
 exact wp_load_row ty x ho g hx t cs fr d hg hu hd hi (hK _ _ h)
theorem size_listsT : (Tryd.prog.info? 50).map (·.size) = some 3 := by kernel_rfl
theorem ask_b (B n : Nat) (hnn : n <= 3000000) (w : World) (g : Nat) (o : Tc) (ho : o.ok) (ht : HTc w o) (hk : KC w) (hc : o.cl = 0 \/ o.cl = 1) (hwB : ∀ W : World, Below B w W -> HTc W o) (hbk : Bkt B g w n) : Calls Tryd.prog 5 #[.pointer (some ⟨g, 0, none⟩), .agg o.cs.toArray] w fun e w' => e = .returned (.bool true) /\ Bkt B g w' (n + 1) /\ (∀ b, b < B -> w'.heap[b]? = w.heap[b]?) /\ w.heap.size <= w'.heap.size /\ w'.os = w.os /\ w'.tape = w.tape /\ w'.output = w.output := by
 have HO := hid ho
 have HK := hid hk
 have HT := hid ht
 obtain ⟨hp, hd⟩ := ht
 have HP := hid hp
 have HD := hid hd
 obtain ⟨pp, cp, epv, hpc, _⟩ := hp.open
 obtain ⟨pd, cd, edv, hdc, _⟩ := hd.open
 obtain ⟨A, HA⟩ : ∃ A, Hid (o.cs.toArray = A) := ⟨_, rfl⟩
 have SZA : Hid ((Tryd.prog.info? 37).map (·.size) = some A.size) := by refine hid ?_; rw [<- HA.out, List.size_toArray, Tc.len ho]; exact size_op
 rw [HA.out]
 obtain ⟨ps, HPS⟩ : ∃ x, Hid (o.ps = x) := ⟨_, rfl⟩
 obtain ⟨ds, HDS⟩ : ∃ x, Hid (o.ds = x) := ⟨_, rfl⟩
 obtain ⟨t, HTT⟩ : ∃ x, Hid (o.tg = x) := ⟨_, rfl⟩
 obtain ⟨cl, HCL⟩ : ∃ x, Hid (o.cl = x) := ⟨_, rfl⟩
 rw [HCL.out] at hc
 have hps : ps.flatten.length + ps.length + 1 <= 1048576 := by rw [<- HPS.out]; exact ho.ps
 have hds : ds.length <= 1048576 := by rw [<- HDS.out]; exact ho.ds
 rw [HPS.out] at hpc epv HP
 rw [HDS.out] at hdc edv HD
 rw [epv] at HP
 rw [edv] at HD
 have HPSL := hid hps
 have HDSL := hid hds
 obtain ⟨np, HNP⟩ : ∃ x, Hid (ps.length = x) := ⟨_, rfl⟩
 obtain ⟨nd, HND⟩ : ∃ x, Hid (ds.length = x) := ⟨_, rfl⟩
 rw [HNP.out] at epv HP hpc
 rw [HND.out] at edv HD hdc hds
 have CELL : Hid (∀ (W : World) (b : Nat), W.heap[b]? = some (.cells A 37 (0, 0)) -> W.cell? ⟨b, 0, none⟩ = some (.int .i64 cl) /\ W.cell? ⟨b, 1, none⟩ = some (.int .u8 (t : Int)) /\ W.cell? ⟨b, 2, none⟩ = some (.slice pp np cp) /\ W.cell? ⟨b, 3, none⟩ = some (.slice pd nd cd)) := hid fun W b hW => by
  rw [<- HA.out] at hW
  obtain ⟨q0, q1, q2, q3, _⟩ := Tc.at hW
  rw [epv] at q2
  rw [edv] at q3
  rw [HTT.out] at q1
  rw [HCL.out] at q0
  exact ⟨q0, q1, q2, q3⟩
 obtain ⟨W0, hW0⟩ : ∃ W0, Hid (w.alloc (.cells A 37) = W0) := ⟨_, rfl⟩
 have B0 : Hid (Below w.heap.size w W0) := by rw [<- hW0.out]; exact (Below.refl _ w).alloc (Nat.le_refl _) _
 have X0 : Hid (W0.heap[w.heap.size]? = some (.cells A 37 (0, 0))) := by rw [<- hW0.out]; exact heap_alloc_new w _
 have S0 : Hid (w.heap.size < W0.heap.size) := hid (Array.getElem?_eq_some_iff.1 X0.out).1
 obtain ⟨c0, c1, c2, c3⟩ := CELL.out W0 _ X0.out
 obtain ⟨v1, v2, v3, v4, x1, x2, l, us, ms, xss, lss, hbx, hl1, hl2, hl3, hl4⟩ := hbk
 have HBX := hid hbx
 have HL1 := hid hl1
 have HL2 := hid hl2
 have HL3 := hid hl3
 have HL4 := hid hl4
 have HNN := hid hnn
 have GB : Hid (B <= g /\ g < w.heap.size) := hid (hbx.pl g hbx.pg)
 have HPB : Hid (∀ j, (ps.getD j []).length <= 1048576) := hid fun j => by have := flat_memT (ls := ps) j; omega
 have HPT : Hid (∀ j, ∀ x ∈ ps.getD j [], 0 <= x /\ x < 256) := hid (HL.bytT HP.out)
 have HPM : Hid (∀ q ∈ ps, ∀ x ∈ q, 0 <= x /\ x < 256) := hid fun q hq x hx => HL.byt HP.out x (List.mem_flatten.2 ⟨q, hq, hx⟩)
 have HPN : Hid (∀ q ∈ ps, q.length <= 140737488351232) := hid fun q hq => by have := (List.sublist_flatten_of_mem hq).length_le; omega
 obtain ⟨E, HE⟩ : ∃ x, Hid (byE t ps = x) := ⟨_, rfl⟩
 obtain ⟨bl, HBL⟩ : ∃ x, Hid (byL t ps = x) := ⟨_, rfl⟩
 have HBLL : Hid (bl.length <= 100000000) := hid (by have := byL_len t ps; rw [HBL.out] at this; omega)
 have HBLB : Hid (∀ x ∈ bl, 0 <= x /\ x < 256) := hid (by rw [<- HBL.out]; exact byL_byt HPM.out)
 obtain ⟨dd, HDD⟩ : ∃ x, Hid (cellsB (tdL t ps) = x) := ⟨_, rfl⟩
 obtain ⟨zd, HZD⟩ : ∃ zd, Hid (cellsB zeros32 = zd) := ⟨_, rfl⟩
 have SD : Hid ((Tryd.prog.info? 34).map (·.size) = some dd.size) := by refine hid ?_; rw [<- HDD.out, cellsB_size, tdL_length]; exact size_digest
 have OD : Hid (dd.all (·.oneCell') = true) := by refine hid ?_; rw [<- HDD.out]; exact cellsB_one _
 have ZD : Hid (zd.size = dd.size) := by refine hid ?_; rw [<- HZD.out, <- HDD.out, cellsB_size, cellsB_size, tdL_length, zeros32_length]
 have heq : Hid (∀ W, (binOp .eql 34 (.agg dd) (.agg dd)).run Tryd.prog W = .ok (.bool true) W) := hid fun W => by
  have := run_eql_bytes W 32 34 Tryd.underlying34 _ _ (tdL_length t ps) (tdL_length t ps)
  rw [decide_eq_true rfl, HDD.out] at this
  exact this
 have CL := lentLists_any W0 _ ps (HP.out.below B0.out) (by omega) HPB.out
 have CL := hid CL
 clear ho hk hp hd hps hds hbx hl1 hl2 hl3 hl4 hnn
 go_enter Tryd.func5, Tryd.ntmps5
 go_upto_if 29 with (first | rw [hW0.out] | fail)
 go_cut [29] (fun v29 wc => v29 = .bool true /\ wc = W0)
 case first =>
  rcases hc with h | h
  ·subst h
   go_wp2
   go_meet
   case rel => exact ⟨rfl, rfl⟩
  ·subst h
   go_wp2
   go_meet
   case rel => exact ⟨rfl, rfl⟩
 case rest =>
 obtain ⟨rfl, hwc⟩ := hcut
 have hwc' := hwc.symm
 subst hwc'
 clear hwc
 go_wp2_with fail
 refine CL.out.mono ?_
 rintro e w1 ⟨vL, vF, vE, fU, eU, rfl, hx, hb1⟩
 have b1 := hid hb1
 have XL1 := hid hx
 obtain ⟨pE, cE, eE⟩ := own_slice hx.2.1
 obtain ⟨pF, cF, eF, eL⟩ := hx.2.2.2.2.2.2
 rw [HNP.out] at eE eF eL
 subst eE eF eL
 have B1 := hid (B0.out.trans (hb1.mono B0.out.size))
 have X1 := hid ((hb1.block _ S0.out).trans X0.out)
 clear hx hb1 CL c0 c1 c2 c3
 obtain ⟨w2, HW2⟩ : ∃ x, Hid (w1.alloc (.cells #[.slice pF np cF, .slice pF (np + 70) cF, .slice pE np cE] 50) = x) := ⟨_, rfl⟩
 have b12 : Hid (Below w1.heap.size w1 w2) := by rw [<- HW2.out]; exact (Below.refl _ w1).alloc (Nat.le_refl _) _
 have S12 : Hid (w2.heap.size = w1.heap.size + 1) := by rw [<- HW2.out]; exact hid (by simp)
 have K2 : Hid (w2.heap[w1.heap.size]? = some (.cells #[.slice pF np cF, .slice pF (np + 70) cF, .slice pE np cE] 50 (0, 0))) := by rw [<- HW2.out]; exact heap_alloc_new w1 _
 have B2 := hid (B1.out.trans (b12.out.mono B1.out.size))
 have X2 := hid ((b12.out.block _ (Array.getElem?_eq_some_iff.1 X1.out).1).trans X1.out)
 have CR := rbytesC w2 t _ ps (HP.out.below B2.out) (by have := HPSL.out; omega)
 rw [HE.out, HBL.out] at CR
 have CR := hid CR
 obtain ⟨c0, c1, c2, c3⟩ := CELL.out w2 _ X2.out
 go_wp2_with (first | rw [HW2.out] | fail)
 refine CR.out.mono ?_
 rintro e w3 ⟨u3, rfl, ho3, hb3⟩
 have O3 := hid ho3
 have b23 := hid hb3
 obtain ⟨p3, k3, e3⟩ := own_slice ho3
 obtain ⟨nb, HNB⟩ : ∃ x, Hid (bl.length = x) := ⟨_, rfl⟩
 rw [HNB.out] at e3
 subst e3
 obtain ⟨w4, HW4⟩ : ∃ x, Hid (w3.alloc (.cells zd 34) = x) := ⟨_, rfl⟩
 have b34 : Hid (Below w3.heap.size w3 w4) := by rw [<- HW4.out]; exact (Below.refl _ w3).alloc (Nat.le_refl _) _
 have D4 : Hid (w4.heap[w3.heap.size]? = some (.cells zd 34 (0, 0))) := by rw [<- HW4.out]; exact heap_alloc_new w3 _
 have b24 := hid (below_th b23.out b34.out)
 have B4 := hid (B2.out.trans (b24.out.mono B2.out.size))
 have X4 := hid ((b24.out.block _ (Array.getElem?_eq_some_iff.1 X2.out).1).trans X2.out)
 have K4 := hid ((b24.out.block _ (Array.getElem?_eq_some_iff.1 K2.out).1).trans K2.out)
 have XL4 : Hid (XL W0.heap.size w4 (.slice pF np cF) (.slice pF (np + 70) cF) (.slice pE np cE) fU eU ps) := hid (XL1.out.keepR (fun b _ q => (b24.out.block b (by have := S12.out; omega)).trans (b12.out.block b q)))
 have HLX4 := hid (XL4.out.hl HPT.out)
 have CD := tdigestC w4 t _ ps HLX4.out HPN.out (HK.out.below B4.out)
 rw [HDD.out, HE.out] at CD
 have CD := hid CD
 clear ho3 hb3 CR c0 c1 c2 c3
 obtain ⟨c0, c1, c2, c3⟩ := CELL.out w4 _ X4.out
 obtain ⟨d0, d1, d2, _, _, _⟩ := three_cells K4.out
 go_wp2_with (first | (refine wpList_alloc_digest rfl rfl ?_; rw [HZD.out, HW4.out]) | fail)
 refine CD.out.mono ?_
 rintro e w5 ⟨rfl, hb5⟩
 have b45 := hid hb5
 obtain ⟨w6, HW6⟩ : ∃ x, Hid ((w5.alloc (.cells zd 34)).setRow w5.heap.size dd = x) := ⟨_, rfl⟩
 have ZA := hid (heap_alloc_new w5 (.cells zd 34))
 have b56 : Hid (Below w5.heap.size w5 w6) := by rw [<- HW6.out]; exact hid (bel_set5 ((Below.refl _ w5).alloc (Nat.le_refl _) _) (Nat.le_refl _) _)
 have D6 : Hid (w6.heap[w5.heap.size]? = some (.cells dd 34 (0, 0))) := by rw [<- HW6.out]; exact hid (setRow_heap _ _ _ _ _ _ ZA.out)
 have b46 := hid (below_th b45.out b56.out)
 have B6 := hid (B4.out.trans (b46.out.mono B4.out.size))
 have X6 := hid ((b46.out.block _ (Array.getElem?_eq_some_iff.1 X4.out).1).trans X4.out)
 have K6 := hid ((b46.out.block _ (Array.getElem?_eq_some_iff.1 K4.out).1).trans K4.out)
 have Z6 := hid ((b46.out.block _ (Array.getElem?_eq_some_iff.1 D4.out).1).trans D4.out)
 have CB := tbytesC w6 t _ ps (HLX4.out.below b46.out) HPN.out
 rw [HE.out, HBL.out] at CB
 have CB := hid CB
 clear hb5 CD c0 c1 c2 c3 d0 d1 d2
 obtain ⟨c0, c1, c2, c3⟩ := CELL.out w6 _ X6.out
 obtain ⟨d0, d1, d2, _, _, _⟩ := three_cells K6.out
 go_wp2_with (first | (refine wpList_alloc_digest rfl rfl ?_; rw [HZD.out]) | (refine wpList_store_row rfl 34 _ _ rfl w5.heap.size dd rfl rfl 34 _ ZA.out SD.out ZD.out OD.out ?_; rw [HW6.out]) | fail)
 refine CB.out.mono ?_
 rintro e w7 ⟨u7, rfl, ho7, hb7⟩
 have O7 := hid ho7
 have b67 := hid hb7
 obtain ⟨p7, k7, e7⟩ := own_slice ho7
 rw [HNB.out] at e7
 subst e7
 have B7 := hid (B6.out.trans (hb7.mono B6.out.size))
 have b47 := hid (below_th b46.out hb7)
 have X7 := hid ((hb7.block _ (Array.getElem?_eq_some_iff.1 X6.out).1).trans X6.out)
 have K7 := hid ((hb7.block _ (Array.getElem?_eq_some_iff.1 K6.out).1).trans K6.out)
 have Z7 := hid ((hb7.block _ (Array.getElem?_eq_some_iff.1 Z6.out).1).trans Z6.out)
 have D7 := hid ((hb7.block _ (Array.getElem?_eq_some_iff.1 D6.out).1).trans D6.out)
 have HB3 : Hid (HB w7 (.slice p3 nb k3) bl) := hid (HB.of_own (own_below (own_below O3.out b34.out) b47.out) HBLB.out)
 clear ho7 hb7 CB c0 c1 c2 c3 d0 d1 d2
 have NE53 : Hid (w5.heap.size ≠ w3.heap.size) := hid (by have := (Array.getElem?_eq_some_iff.1 D4.out).1; have := b45.out.size; omega)
 go_upto_if 57 with fail
 go_cut [] (fun w9 => Hid (w9.heap[w3.heap.size]? = some (.cells dd 34 (0, 0))) /\ Hid (∀ b, b < w7.heap.size -> b ≠ w3.heap.size -> w9.heap[b]? = w7.heap[b]?) /\ Hid (w7.heap.size <= w9.heap.size) /\ Hid (Below w.heap.size w w9))
 case first =>
  by_cases hE : E = 0
  ·have hE2 : (E == 0) = true := by simpa using hE
   have CS := rsum_any w7 _ bl HB3.out (by have := HBLL.out; omega)
   have eD : cellsB (digL bl) = dd := by
    rw [<- HDD.out, <- HBL.out]
    exact congrArg cellsB (td_ok (byE_zero.1 (HE.out.trans hE))).symm
   rw [eD] at CS
   have CS := hid CS
   subst hE
   clear hE2
   go_wp2_with fail
   refine CS.out.mono ?_
   rintro e w8 ⟨rfl, hb8⟩
   have Z8 := hid ((hb8.block _ (Array.getElem?_eq_some_iff.1 Z7.out).1).trans Z7.out)
   obtain ⟨w9, HW9⟩ : ∃ x, Hid (w8.setRow w3.heap.size dd = x) := ⟨_, rfl⟩
   have Y9 : Hid (w9.heap[w3.heap.size]? = some (.cells dd 34 (0, 0))) := by rw [<- HW9.out]; exact hid (setRow_heap _ _ _ _ _ _ Z8.out)
   have Q79 : Hid (∀ b, b < w7.heap.size -> b ≠ w3.heap.size -> w9.heap[b]? = w7.heap[b]?) := hid fun b q1 q2 => by
    rw [<- HW9.out, (grown_setRowT w8 w3.heap.size dd).block b (by have := hb8.size; omega) (fun e => q2 (Option.some.inj e)), hb8.block b q1]
   have S79 : Hid (w7.heap.size <= w9.heap.size) := by rw [<- HW9.out]; exact hid (by have := hb8.size; simpa [World.setRow] using this)
   have B9 : Hid (Below w.heap.size w w9) := by rw [<- HW9.out]; exact hid (bel_set5 (B7.out.trans (hb8.mono B7.out.size)) (by have := B2.out.size; have := b23.out.size; omega) _)
   clear hb8 CS eD
   go_wp2_with (first | (refine wpList_store_row rfl 34 _ _ rfl w3.heap.size dd rfl rfl 34 _ Z8.out SD.out ZD.out OD.out ?_; rw [HW9.out]) | fail)
   go_meet
   case rel => exact ⟨Y9, Q79, S79, B9⟩
  ·have hE2 : (E == 0) = false := by simpa using hE
   have eD : zd = dd := by
    rw [<- HDD.out, <- HZD.out]
    unfold tdL
    rw [if_neg (fun q => hE (HE.out.symm.trans (byE_zero.2 q)))]
   have Y9 : Hid (w7.heap[w3.heap.size]? = some (.cells dd 34 (0, 0))) := by rw [<- eD]; exact Z7
   clear hE
   go_wp2
   go_meet
   case rel => exact ⟨Y9, hid fun b _ _ => rfl, hid (Nat.le_refl _), B7⟩
 case rest =>
 obtain ⟨w9, hw9⟩ : ∃ x, x = wc := ⟨_, rfl⟩
 subst hw9
 obtain ⟨Y9, Q79, S79, B9⟩ := hcut
 have SZS : Hid (W0.heap.size <= w1.heap.size /\ w1.heap.size < w2.heap.size /\ w2.heap.size <= w3.heap.size /\ w3.heap.size < w4.heap.size /\ w4.heap.size <= w5.heap.size /\ w5.heap.size < w6.heap.size /\ w6.heap.size <= w7.heap.size /\ w7.heap.size <= w9.heap.size /\ w.heap.size < W0.heap.size /\ B <= g /\ g < w.heap.size) := hid ⟨b1.out.size, (Array.getElem?_eq_some_iff.1 K2.out).1, b23.out.size, (Array.getElem?_eq_some_iff.1 D4.out).1, b45.out.size, (Array.getElem?_eq_some_iff.1 D6.out).1, b67.out.size, S79.out, S0.out, GB.out.1, GB.out.2⟩
 have X9 : Hid (w9.heap[w.heap.size]? = some (.cells A 37 (0, 0))) := hid ((Q79.out _ (by have := SZS.out; omega) (by have := SZS.out; omega)).trans X7.out)
 have K9 : Hid (w9.heap[w1.heap.size]? = some (.cells #[.slice pF np cF, .slice pF (np + 70) cF, .slice pE np cE] 50 (0, 0))) := hid ((Q79.out _ (by have := SZS.out; omega) (by have := SZS.out; omega)).trans K7.out)
 have D9 : Hid (w9.heap[w5.heap.size]? = some (.cells dd 34 (0, 0))) := hid ((Q79.out _ (by have := SZS.out; omega) (by have := SZS.out; omega)).trans D7.out)
 have O79 : Hid (w9.ownsRow w6.heap.size 5 1 (.slice p7 nb k7) bl.length (bl.map (Value.int .u8))) := hid (own_ofL O7.out (fun b e => Q79.out b (own_atL O7.out e).1 (by have := (own_atL O7.out e).2.1; have := SZS.out; omega)))
 have O39 : Hid (w9.ownsRow w2.heap.size 5 1 (.slice p3 nb k3) bl.length (bl.map (Value.int .u8))) := hid (own_ofL O3.out (fun b e => by
  have q := (own_atL O3.out e).1
  have s := SZS.out
  rw [Q79.out b (by omega) (by omega), b47.out.block b (by omega), b34.out.block b q]))
 have BX9 : Hid (BkX B g (fun b => B <= b /\ b < w.heap.size) w9 v1 v2 v3 v4 x1 x2 l l us ms xss lss lss) := hid (HBX.out.keep B9.out.size (fun b q => B9.out.block b q.2))
 obtain ⟨a1, j1, e1⟩ := own_slice BX9.out.p1.row
 obtain ⟨a2, j2, e2⟩ := own_slice BX9.out.p2.row
 obtain ⟨nl, HNL⟩ : ∃ x, Hid (l.length = x) := ⟨_, rfl⟩
 rw [HNL.out] at e1 e2
 subst e1 e2
 have hnl : nl <= 3000000 := by have := HL1.out; have := HNL.out; have := HNN.out; omega
 have gcell : w9.cell? ⟨g, 0, none⟩ = some (.slice a1 nl j1) := by rw [cell_of_row w9 _ _ _ _ _ BX9.out.cell]; rfl
 obtain ⟨wa, HWa⟩ : ∃ x, Hid (w9.alloc (.cells #[.slice p7 nb k7] 30) = x) := ⟨_, rfl⟩
 have b9a : Hid (Below w9.heap.size w9 wa) := by rw [<- HWa.out]; exact (Below.refl _ _).alloc (Nat.le_refl _) _
 have Za : Hid (wa.heap.size = w9.heap.size + 1) := by rw [<- HWa.out]; exact hid (by simp)
 have Ha : Hid (wa.cell? ⟨w9.heap.size, 0, none⟩ = some (.slice p7 nb k7)) := by rw [<- HWa.out, cell_of_row _ _ _ _ _ _ (heap_alloc_new w9 _)]; exact hid rfl
 have R1 : Hid (wa.ownsRow B 30 1 (.slice a1 nl j1) nl x1) := hid (by have q := own_below BX9.out.p1.row b9a.out; rwa [HNL.out] at q)
 have HBa : Hid (B <= wa.heap.size) := hid (by have := SZS.out; have := b9a.out.size; omega)
 go_wp2_with (first | rw [HWa.out] | (at_builtin; refine wpList_appTb rfl _ _ rfl B _ nl x1 rfl R1.out ⟨w9.heap.size, 0, none⟩ 1 (.slice p7 nb k7) rfl rfl Ha.out (by omega) HBa.out ?_))
 intro v1' wb hob hgb hwb
 have BXc := hid (BX9.out.push1 (Q := fun b => w6.heap.size <= b /\ b < w7.heap.size) (fun b q => ⟨fun e => by have := SZS.out; omega, by have := SZS.out; omega, by have := SZS.out; omega⟩) (own_lowL O79.out (by have := SZS.out; omega)) HBLB.out (fun b e => ⟨(own_atL O7.out e).2.1, (own_atL O7.out e).1⟩)
  (o := .cells #[.slice p7 nb k7] 30) (w2 := wb) (by rw [HNL.out]; exact hob) (by rw [HWa.out]; exact hgb) (by rcases hwb with q | ⟨q1, q2⟩; exact .inl q; exact .inr ⟨by rw [q1, Za.out], by rw [Za.out] at q2; exact q2⟩))
 have qb : wb.heap[g]? = w9.heap[g]? := (hgb.block g (by have := SZS.out; have := b9a.out.size; omega) (fun e => ne_bk R1.out ((b9a.out.block g (by have := SZS.out; omega)).trans BX9.out.cell) (by decide) e.symm rfl)).trans (b9a.out.block g (by have := SZS.out; omega))
 have hzb : wb.cell? ⟨g, 0, none⟩ = some (.slice a1 nl j1) := by
  rw [cell_of_row wb _ _ _ _ _ (qb.trans BX9.out.cell)]
  rfl
 have hfb : wb.frozen? ⟨g, 0, none⟩ = false := by simp [World.frozen?, qb.trans BX9.out.cell]
 obtain ⟨a1', j1', e1⟩ := own_slice hob
 subst e1
 obtain ⟨wc, HWc⟩ : ∃ x, Hid (wb.setCell ⟨g, 0, none⟩ (.slice a1' (nl + 1) j1') = x) := ⟨_, rfl⟩
 rw [HWc.out] at BXc
 have Sb : Hid (w9.heap.size + 1 <= wb.heap.size) := hid (by have := hgb.size; have := Za.out; omega)
 have Zc : Hid (wc.heap.size = wb.heap.size) := by rw [<- HWc.out]; exact hid (by simp)
 -- what is kept: all blocks of w9 but g and those of the book's first list
 have K9c : Hid (∀ b, b < w9.heap.size -> b ≠ g -> (Value.slice a1 nl j1).ownBlock ≠ some b -> wc.heap[b]? = w9.heap[b]?) := hid fun b q1 q2 q3 => by
  rw [<- HWc.out, heap_setCell_other wb _ _ _ q2]
  rw [hgb.block b (by have := Za.out; omega) (fun e => q3 e.symm), b9a.out.block b q1]
 have F1 : Hid (∀ b, (Value.slice a1 nl j1).ownBlock = some b -> B <= b /\ b < w.heap.size) := hid (fun b e => BX9.out.f1 b e)
 have OTc : Hid (wc.os = w.os /\ wc.tape = w.tape /\ wc.output = w.output) := hid (by
  rw [<- HWc.out]
  exact ⟨(hgb.os.trans b9a.out.os).trans B9.out.os, (hgb.tape.trans b9a.out.tape).trans B9.out.tape, (hgb.output.trans b9a.out.output).trans B9.out.output⟩)
 have O3c : Hid (wc.ownsRow w2.heap.size 5 1 (.slice p3 nb k3) bl.length (bl.map (Value.int .u8))) := hid (own_ofL O39.out (fun b e => by
  have q := (own_atL O39.out e)
  have s := SZS.out
  exact K9c.out b q.1 (by omega) (fun e2 => by have := (F1.out b e2).2; omega)))
 clear hob hgb hwb gcell qb
 have gcell : wc.cell? ⟨g, 1, none⟩ = some (.slice a2 nl j2) := by rw [cell_of_row wc _ _ _ _ _ BXc.out.cell]; rfl
 obtain ⟨wd, HWd⟩ : ∃ x, Hid (wc.alloc (.cells #[.slice p3 nb k3] 30) = x) := ⟨_, rfl⟩
 have bcd : Hid (Below wc.heap.size wc wd) := by rw [<- HWd.out]; exact (Below.refl _ _).alloc (Nat.le_refl _) _
 have Zd : Hid (wd.heap.size = wc.heap.size + 1) := by rw [<- HWd.out]; exact hid (by simp)
 have Hd : Hid (wd.cell? ⟨wc.heap.size, 0, none⟩ = some (.slice p3 nb k3)) := by rw [<- HWd.out, cell_of_row _ _ _ _ _ _ (heap_alloc_new wc _)]; exact hid rfl
 have R2 : Hid (wd.ownsRow B 30 1 (.slice a2 nl j2) nl x2) := hid (by have q := own_below BXc.out.p2.row bcd.out; rwa [HNL.out] at q)
 have HBd : Hid (B <= wd.heap.size) := hid (by have := SZS.out; have := bcd.out.size; have := Zc.out; have := Sb.out; omega)
 have GSc : Hid (g < wc.heap.size) := hid (Array.getElem?_eq_some_iff.1 BXc.out.cell).1
 go_wp2_with (first | rw [HWc.out] | rw [HWd.out] | (at_builtin; refine wpList_appTb rfl _ _ rfl B _ nl x2 rfl R2.out ⟨wc.heap.size, 0, none⟩ 1 (.slice p3 nb k3) rfl rfl Hd.out (by omega) HBd.out ?_))
 intro v2' we hoe hge hwe
 have BXf := hid (BXc.out.push2 (Q := fun b => w2.heap.size <= b /\ b < w3.heap.size) (fun b q => ⟨fun e => by
   have s := SZS.out
   rcases e with e | e | e <;> omega, by have := SZS.out; omega, by have := SZS.out; have := Zc.out; have := Sb.out; omega⟩) (own_lowL O3c.out (by have := SZS.out; omega)) HBLB.out (fun b e => ⟨(own_atL O3.out e).2.1, (own_atL O3.out e).1⟩)
  (o := .cells #[.slice p3 nb k3] 30) (w2 := we) (by rw [HNL.out]; exact hoe) (by rw [HWd.out]; exact hge) (by rcases hwe with q | ⟨q1, q2⟩; exact .inl q; exact .inr ⟨by rw [q1, Zd.out], by rw [Zd.out] at q2; exact q2⟩))
 have qe : we.heap[g]? = wc.heap[g]? := (hge.block g (by have := GSc.out; have := bcd.out.size; omega) (fun e => ne_bk R2.out ((bcd.out.block g GSc.out).trans BXc.out.cell) (by decide) e.symm rfl)).trans (bcd.out.block g GSc.out)
 have hze : we.cell? ⟨g, 1, none⟩ = some (.slice a2 nl j2) := by
  rw [cell_of_row we _ _ _ _ _ (qe.trans BXc.out.cell)]
  rfl
 have hfe : we.frozen? ⟨g, 1, none⟩ = false := by simp [World.frozen?, qe.trans BXc.out.cell]
 obtain ⟨a2', j2', e2⟩ := own_slice hoe
 subst e2
 obtain ⟨wf, HWf⟩ : ∃ x, Hid (we.setCell ⟨g, 1, none⟩ (.slice a2' (nl + 1) j2') = x) := ⟨_, rfl⟩
 rw [HWf.out] at BXf
 have Se : Hid (wc.heap.size + 1 <= we.heap.size) := hid (by have := hge.size; have := Zd.out; omega)
 have Zf : Hid (wf.heap.size = we.heap.size) := by rw [<- HWf.out]; exact hid (by simp)
 have F2 : Hid (∀ b, (Value.slice a2 nl j2).ownBlock = some b -> B <= b /\ b < w.heap.size) := hid (fun b e => BX9.out.f2 b e)
 have K9f : Hid (∀ b, b < w9.heap.size -> b ≠ g -> (Value.slice a1 nl j1).ownBlock ≠ some b -> (Value.slice a2 nl j2).ownBlock ≠ some b -> wf.heap[b]? = w9.heap[b]?) := hid fun b q1 q2 q3 q4 => by
  rw [<- HWf.out, heap_setCell_other we _ _ _ q2]
  rw [hge.block b (by have := Zd.out; have := Zc.out; have := Sb.out; omega) (fun e => q4 e.symm), bcd.out.block b (by have := Zc.out; have := Sb.out; omega), K9c.out b q1 q2 q3]
 have KN : Hid (∀ b, w.heap.size <= b -> b < w9.heap.size -> wf.heap[b]? = w9.heap[b]?) := hid fun b q1 q2 => K9f.out b q2 (by have := SZS.out; omega) (fun e => by have := (F1.out b e).2; omega) (fun e => by have := (F2.out b e).2; omega)
 have KB : Hid (∀ b, b < B -> wf.heap[b]? = w.heap[b]?) := hid fun b q => by
  have s := SZS.out
  rw [K9f.out b (by omega) (by omega) (fun e => by have := (F1.out b e).1; omega) (fun e => by have := (F2.out b e).1; omega), B9.out.block b (by omega)]
 have OTf : Hid (wf.os = w.os /\ wf.tape = w.tape /\ wf.output = w.output) := hid (by
  rw [<- HWf.out]
  exact ⟨(hge.os.trans bcd.out.os).trans OTc.out.1, (hge.tape.trans bcd.out.tape).trans OTc.out.2.1, (hge.output.trans bcd.out.output).trans OTc.out.2.2⟩)
 have SF : Hid (w9.heap.size <= wf.heap.size) := hid (by have := Zf.out; have := Se.out; have := Zc.out; have := Sb.out; omega)
 have Xf : Hid (wf.heap[w.heap.size]? = some (.cells A 37 (0, 0))) := hid ((KN.out _ (Nat.le_refl _) (Array.getElem?_eq_some_iff.1 X9.out).1).trans X9.out)
 have Kf : Hid (wf.heap[w1.heap.size]? = some (.cells #[.slice pF np cF, .slice pF (np + 70) cF, .slice pE np cE] 50 (0, 0))) := hid ((KN.out _ (by have := SZS.out; omega) (Array.getElem?_eq_some_iff.1 K9.out).1).trans K9.out)
 have Df : Hid (wf.heap[w5.heap.size]? = some (.cells dd 34 (0, 0))) := hid ((KN.out _ (by have := SZS.out; omega) (Array.getElem?_eq_some_iff.1 D9.out).1).trans D9.out)
 have Yf : Hid (wf.heap[w3.heap.size]? = some (.cells dd 34 (0, 0))) := hid ((KN.out _ (by have := SZS.out; omega) (Array.getElem?_eq_some_iff.1 Y9.out).1).trans Y9.out)
 have XLf : Hid (XL W0.heap.size wf (.slice pF np cF) (.slice pF (np + 70) cF) (.slice pE np cE) fU eU ps) := hid (XL1.out.keepR (fun b q1 q2 => by
  have s := SZS.out
  rw [KN.out b (by omega) (by omega), Q79.out b (by omega) (by omega), b47.out.block b (by omega), b24.out.block b (by omega), b12.out.block b q2]))
 have HPf : Hid (HL wf (.slice pp np cp) ps) := hid (by have q := (hwB wf ⟨OTf.out.1, OTf.out.2.1, OTf.out.2.2, Nat.le_trans B9.out.size SF.out, KB.out⟩).1; rw [HPS.out, epv] at q; exact q)
 have CK := keptLists_any W0.heap.size wf _ _ _ _ fU eU ps XLf.out HPf.out (by have := HPSL.out; omega) (fun j => ⟨HPB.out j, HPT.out j⟩)
 have CK := hid CK
 have SKL : Hid ((Tryd.prog.info? 50).map (·.size) = some (#[Value.slice pF np cF, Value.slice pF (np + 70) cF, Value.slice pE np cE] : Array Value).size) := hid size_listsT
 clear hoe hge hwe gcell qe hzb hfb
 obtain ⟨c0, c1, c2, c3⟩ := CELL.out wf _ Xf.out
 go_wp2_with (first | rw [HWf.out] | (refine wpList_load_row rfl 50 _ rfl w1.heap.size rfl 50 #[.slice pF np cF, .slice pF (np + 70) cF, .slice pE np cE] (0, 0) _ Kf.out Tryd.underlying50 rfl SKL.out ?_) | fail)
 refine CK.out.mono ?_
 rintro e wg ⟨rfl, hbg⟩
 have bfg := hid hbg
 have Kg := hid ((hbg.block _ (Array.getElem?_eq_some_iff.1 Kf.out).1).trans Kf.out)
 have XLg : Hid (XL W0.heap.size wg (.slice pF np cF) (.slice pF (np + 70) cF) (.slice pE np cE) fU eU ps) := hid (XLf.out.keepR (fun b q1 q2 => hbg.block b q2))
 have LOx := hid XL1.out.lo
 have CO := overLists_any3 W0.heap.size w1.heap.size wg _ _ _ fU eU ps XLg.out (by have := SZS.out; have := SF.out; have := hbg.size; omega) (fun k e => (LOx.out.1 k e).2) (fun j hj k e => (LOx.out.2 j hj k e).2) (by have := HPSL.out; omega) HPB.out
 have CO := hid CO
 clear hbg CK c0 c1 c2 c3
 go_wp2_with (first | (refine wpList_load_row rfl 50 _ rfl w1.heap.size rfl 50 #[.slice pF np cF, .slice pF (np + 70) cF, .slice pE np cE] (0, 0) _ Kg.out Tryd.underlying50 rfl SKL.out ?_) | fail)
 refine CO.out.mono ?_
 rintro e wh ⟨rfl, hfr, -⟩
 have Qfh : Hid (∀ b, b < wf.heap.size -> (b < W0.heap.size \/ w1.heap.size <= b) -> wh.heap[b]? = wf.heap[b]?) := hid fun b q1 q2 => by
  rw [hfr.block b (by have := bfg.out.size; omega) (fun q => by omega), bfg.out.block b q1]
 have Sfh : Hid (wf.heap.size <= wh.heap.size) := hid (Nat.le_trans bfg.out.size hfr.size)
 have OTh : Hid (wh.os = w.os /\ wh.tape = w.tape /\ wh.output = w.output) := hid ⟨(hfr.os.trans bfg.out.os).trans OTf.out.1, (hfr.tape.trans bfg.out.tape).trans OTf.out.2.1, (hfr.output.trans bfg.out.output).trans OTf.out.2.2⟩
 have Dh : Hid (wh.heap[w5.heap.size]? = some (.cells dd 34 (0, 0))) := hid ((Qfh.out _ (Array.getElem?_eq_some_iff.1 Df.out).1 (.inr (by have := SZS.out; omega))).trans Df.out)
 have Yh : Hid (wh.heap[w3.heap.size]? = some (.cells dd 34 (0, 0))) := hid ((Qfh.out _ (Array.getElem?_eq_some_iff.1 Yf.out).1 (.inr (by have := SZS.out; omega))).trans Yf.out)
 have BXh := hid (BXf.out.keep Sfh.out (fun b q => Qfh.out b (by
  have s := SZS.out
  have s1 := Zf.out
  have s2 := Se.out
  have s3 := Zc.out
  have s4 := Sb.out
  rcases q with (q | q | q) | q | q <;> omega) (by
  have s := SZS.out
  have s3 := Zc.out
  have s4 := Sb.out
  rcases q with (q | q | q) | q | q <;> omega)))
 clear hfr CO
 have hq := heq.out
 go_wp2_with (first | (refine wpList_load_rowT (by rfl) 34 _ rfl w5.heap.size rfl 34 dd (0, 0) _ Dh.out Tryd.underlying34 rfl SD.out ?_) | (refine wpList_load_rowT (by rfl) 34 _ rfl w3.heap.size rfl 34 dd (0, 0) _ Yh.out Tryd.underlying34 rfl SD.out ?_) | fail)
 go_ret
 refine ⟨rfl, ⟨_, _, _, _, _, _, _, _, _, _, _, BXh.out.mono (fun b q => ?_) (fun b q => q), by rw [List.length_append, List.length_singleton]; have := HL1.out; omega, by have := HL2.out; omega, fun q hq => ?_, HL4.out⟩, fun b q => (Qfh.out b (by have := SZS.out; have := SF.out; omega) (.inl (by have := SZS.out; omega))).trans (KB.out b q), by have := SZS.out; have := SF.out; have := Sfh.out; omega, OTh.out.1, OTh.out.2.1, OTh.out.2.2⟩
 ·have s := SZS.out
  have s1 := Zf.out
  have s2 := Se.out
  have s3 := Zc.out
  have s4 := Sb.out
  have s5 := Sfh.out
  rcases q with (q | q | q) | q | q <;> exact ⟨by omega, by omega⟩
 ·rcases List.mem_append.1 hq with hq | hq
  ·exact HL3.out q hq
  ·rw [List.mem_singleton.1 hq]; exact HBLL.out
end Go.Proofs.YtcpchhigiohlnaaDoor
