/- Of the road to shareOneCard_holds: ShClimbs. -/
import Derived.Test.YtdgollnapbonjaaGreatDoorG15
import Derived.Test.YtdgollnapbonjaaGreatDoorG17
set_option linter.unusedVariables false
set_option linter.unusedSimpArgs false
set_option maxRecDepth 100000
set_option maxHeartbeats 16000000
namespace Go.Proofs.YtdgollnapbonjaaGreatDoor
open Go Go.RowKit
def HL1 (w : World) (v : Value) (ps : List (List Int)) : Prop := ∃ g, v = .slice (some ⟨g, 0, none⟩) 1 1 /\ HL w (.slice (some ⟨g, 0, none⟩) 1 1) ps
def clF (g b1 o1 n1 c1 b2 o2 n2 c2 : Nat) (l1 l2 : List Int) : Nat -> World -> Value -> Prop
 | 0, w, v => v = .pointer (some ⟨g, 70, none⟩)
 | 1, w, v => v = .slice (some ⟨b1, o1, none⟩) n1 c1
 | 2, w, v => v = .pointer (some ⟨b1, o1, none⟩)
 | 3, w, v => v = .slice (some ⟨b1, o1, none⟩) 32 32
 | 4, w, v => HL1 w v [l1]
 | 5, w, v => SlH w v (t1B wRoot l1)
 | 6, w, v => v = .pointer (some ⟨g + 1, 70, none⟩)
 | 7, w, v => v = .slice (some ⟨b2, o2, none⟩) n2 c2
 | 8, w, v => v = .pointer (some ⟨b2, o2, none⟩)
 | 9, w, v => v = .slice (some ⟨b2, o2, none⟩) 32 32
 | 10, w, v => HL1 w v [l2]
 | 11, w, v => SlH w v (t1B wRoot l2)
 | 12, w, v => ∃ t : Bool, v = .bool t /\ (t = false -> NoC (t1B wRoot l1) (t1B wRoot l2))
 | _, _, _ => True
theorem clF_below (g b1 o1 n1 c1 b2 o2 n2 c2 : Nat) (l1 l2 : List Int) : ∀ (k : Nat) (w w' : World) (v : Value), clF g b1 o1 n1 c1 b2 o2 n2 c2 l1 l2 k w v -> Below w.heap.size w w' -> clF g b1 o1 n1 c1 b2 o2 n2 c2 l1 l2 k w' v := by
 intro k w w' v h hb
 match k, h with
 | 0, h => exact h
 | 1, h => exact h
 | 2, h => exact h
 | 3, h => exact h
 | 4, ⟨g, e, h⟩ => exact ⟨g, e, h.below hb⟩
 | 5, ⟨p, c, e, h⟩ => exact ⟨p, c, e, h.below hb⟩
 | 6, h => exact h
 | 7, h => exact h
 | 8, h => exact h
 | 9, h => exact h
 | 10, ⟨g, e, h⟩ => exact ⟨g, e, h.below hb⟩
 | 11, ⟨p, c, e, h⟩ => exact ⟨p, c, e, h.below hb⟩
 | 12, h => exact h
 | k + 13, h => trivial
theorem tmod2c (x : Nat) : (x : Int).tmod 2 = ((x % 2 : Nat) : Int) := by rw [Int.tmod_eq_emod_of_nonneg (by omega)]; omega
theorem tdiv2c (x : Nat) : (x : Int).tdiv 2 = ((x / 2 : Nat) : Int) := by rw [Int.tdiv_eq_ediv_of_nonneg (by omega)]; omega
theorem HB.keepC {w : World} {v : Value} {l : List Int} (h : HB w v l) (hl : 32 < l.length) {g : Nat} {cur : Array Value} {t : TypeId} {fr : Nat × Nat} (hg : w.heap[g]? = some (.cells cur t fr)) (hs : cur.size = 32) (cs' : Array Value) : HB (w.setRow g cs') v l := by
 obtain ⟨b, off, c, hv, h1, h2, h3⟩ := h.ne (by omega)
 have hne : b ≠ g := by
  intro e
  subst e
  have := h3 (l.length - 1) (by omega)
  rw [cell_of_row w b _ _ _ _ hg, Array.getElem?_eq_none (by omega)] at this
  cases this
 have hB : ∀ a : Addr, a.block = b -> (w.setRow g cs').cell? a = w.cell? a := fun a ha => cell_setRow_other w g cs' a (by rw [ha]; exact hne)
 exact ⟨⟨some ⟨b, off, none⟩, c, hv, h1, h2, (fun e => by cases e), fun _ => ⟨b, off, rfl, fun j hj => (hB _ rfl).trans (h3 j hj)⟩⟩, h.2⟩
theorem ndC_len {l r : List Int} (hl : D32 l) (hr : D32 r) : (ndB l r).length = 103 := by simp [ndB, num8, wNode, hl.1, hr.1]
theorem wayC_len {cs : List (List Int)} {x : Nat} {d : List Int} {q : Nat} (hc : ∀ c ∈ cs, D32 c) (hd : D32 d) (hq : q < cs.length) : (wayB cs x d q).length = 103 := by
 have h1 := getD_D hc q hq
 have h2 := clTo_D cs hc x d hd q (by omega)
 unfold wayB
 split
 ·exact ndC_len h1 h2
 ·exact ndC_len h2 h1
def dstC (k : Nat) : Nat := 21 + k
def CmQ (w : World) (k num : Nat) (A B : List (List Int)) (l1 l2 : List Int) (e : Ending) (w' : World) : Prop := ∃ t : Bool, e = .returned (.bool t) /\ (t = false -> NoC (t1B wRoot l1) (t1B wRoot l2) /\ ∀ q, q < k -> NoC (wayB A num (rtL l1) q) (wayB B num (rtL l2) q)) /\ Below w.heap.size w w'
theorem climbs_any (w : World) (s t : Sr) (vc vb vs uc ub us : Value) (hs : HFr w s vc vb vs) (ht : HFr w t uc ub us) (k num : Nat) (hk : k <= 9) (hc1 : s.ch.length = k) (hc2 : t.ch.length = k) (hnum : s.num = (num : Int)) (hnl : num <= 1000) (hb1 : 0 < s.bl.length) (hb2 : 0 < t.bl.length) :
  Calls Tryz.prog 11 #[.agg (frA s vc vb vs), .agg (frA t uc ub us)] w fun e w' => CmQ w k num s.ch t.ch (s.bl.getD 0 []) (t.bl.getD 0 []) e w' := by
 have hsu := hs.u
 have htu := ht.u
 obtain ⟨b1, o1, c1, ev1, _, _, hl1, hr1⟩ := hs.bl.ne hb1
 obtain ⟨b2, o2, c2, ev2, _, _, hl2, hr2⟩ := ht.bl.ne hb2
 have D1 := hid (getD_D hs.bl.2 0 hb1)
 have D2 := hid (getD_D ht.bl.2 0 hb2)
 have R1 : Hid (∀ W, Below w.heap.size w W -> W.rangeAt b1 o1 (dc (s.bl.getD 0 []))) := hid fun W hW => by have := range_below (hr1 0 hb1) hW hl1; rwa [Nat.zero_mul, Nat.add_zero] at this
 have R2 : Hid (∀ W, Below w.heap.size w W -> W.rangeAt b2 o2 (dc (t.bl.getD 0 []))) := hid fun W hW => by have := range_below (hr2 0 hb2) hW hl2; rwa [Nat.zero_mul, Nat.add_zero] at this
 have HCA := hid hs.ch
 have HCB := hid ht.ch
 have n1 := hid (frA_num s vc vb vs)
 have ca1 := hid (frA_ch hsu vc vb vs)
 have cb1 := hid (frA_bl hsu vc vb vs)
 have ca2 := hid (frA_ch htu uc ub us)
 have cb2 := hid (frA_bl htu uc ub us)
 obtain ⟨m1, Hm1⟩ : ∃ x, Hid (frA s vc vb vs = x) := ⟨_, rfl⟩
 obtain ⟨m2, Hm2⟩ : ∃ x, Hid (frA t uc ub us = x) := ⟨_, rfl⟩
 rw [Hm1.out] at n1 ca1 cb1
 rw [Hm2.out] at ca2 cb2
 rw [Hm1.out, Hm2.out]
 rw [hnum] at n1
 rw [ev1] at cb1
 rw [ev2] at cb2
 obtain ⟨pa, cca, eva, _, _⟩ := hs.ch.open
 obtain ⟨pb, ccb, evb, _, _⟩ := ht.ch.open
 rw [eva, hc1] at ca1
 rw [evb, hc2] at ca2
 obtain ⟨l1, Hl1⟩ : ∃ x, Hid (s.bl.getD 0 [] = x) := ⟨_, rfl⟩
 obtain ⟨l2, Hl2⟩ : ∃ x, Hid (t.bl.getD 0 [] = x) := ⟨_, rfl⟩
 rw [Hl1.out] at D1 R1
 rw [Hl2.out] at D2 R2
 rw [Hl1.out, Hl2.out]
 obtain ⟨A, HAA⟩ : ∃ x, Hid (s.ch = x) := ⟨_, rfl⟩
 obtain ⟨B, HBB⟩ : ∃ x, Hid (t.ch = x) := ⟨_, rfl⟩
 rw [HAA.out] at HCA hc1
 rw [HBB.out] at HCB hc2
 rw [HAA.out, HBB.out]
 rw [eva, HAA.out, hc1] at HCA
 rw [evb, HBB.out, hc2] at HCB
 obtain ⟨z1, Hz1⟩ : ∃ x, Hid (s.bl.length = x) := ⟨_, rfl⟩
 obtain ⟨z2, Hz2⟩ : ∃ x, Hid (t.bl.length = x) := ⟨_, rfl⟩
 rw [Hz1.out] at cb1 hb1
 rw [Hz2.out] at cb2 hb2
 have HA1 := hid hc1
 have HB1 := hid hc2
 clear hs ht hsu htu hr1 hr2 Hm1 Hm2 hnum eva evb ev1 ev2 Hl1 Hl2 HAA HBB Hz1 Hz2 hc1 hc2
 obtain ⟨w0, HW0⟩ : ∃ x, Hid ((w.alloc (.cells m1 28)).alloc (.cells m2 28) = x) := ⟨_, rfl⟩
 have H1 : Hid (w0.heap[w.heap.size]? = some (.cells m1 28 (0, 0))) := by refine hid ?_; rw [<- HW0.out]; exact (heap_alloc_old _ _ (by simp)).trans (heap_alloc_new w _)
 have H2 : Hid (w0.heap[w.heap.size + 1]? = some (.cells m2 28 (0, 0))) := by
  refine hid ?_
  rw [<- HW0.out]
  have := heap_alloc_new (w.alloc (.cells m1 28)) (.cells m2 28)
  simpa using this
 have B0 : Hid (Below w.heap.size w w0) := by refine hid ?_; rw [<- HW0.out]; exact ((Below.refl w.heap.size w).alloc (Nat.le_refl _) _).alloc (by simp) _
 have Z0 : Hid (w0.heap.size = w.heap.size + 2) := by refine hid ?_; rw [<- HW0.out]; simp
 have FC : Hid (∀ W, Below w0.heap.size w0 W -> W.cell? ⟨w.heap.size, 0, none⟩ = some (.int .i64 (num : Int)) /\ W.cell? ⟨w.heap.size, 69, none⟩ = some (.slice pa k cca) /\ W.cell? ⟨w.heap.size, 70, none⟩ = some (.slice (some ⟨b1, o1, none⟩) z1 c1) /\ W.cell? ⟨w.heap.size + 1, 69, none⟩ = some (.slice pb k ccb) /\ W.cell? ⟨w.heap.size + 1, 70, none⟩ = some (.slice (some ⟨b2, o2, none⟩) z2 c2)) := hid fun W hW =>
  ⟨(hW.cell (p := ⟨w.heap.size, 0, none⟩) (by rw [Z0.out]; show w.heap.size < _; omega)).trans ((cell_of_row _ _ _ _ _ _ H1.out).trans n1.out), (hW.cell (p := ⟨w.heap.size, 69, none⟩) (by rw [Z0.out]; show w.heap.size < _; omega)).trans ((cell_of_row _ _ _ _ _ _ H1.out).trans ca1.out), (hW.cell (p := ⟨w.heap.size, 70, none⟩) (by rw [Z0.out]; show w.heap.size < _; omega)).trans ((cell_of_row _ _ _ _ _ _ H1.out).trans cb1.out), (hW.cell (p := ⟨w.heap.size + 1, 69, none⟩) (by rw [Z0.out]; show w.heap.size + 1 < _; omega)).trans ((cell_of_row _ _ _ _ _ _ H2.out).trans ca2.out), (hW.cell (p := ⟨w.heap.size + 1, 70, none⟩) (by rw [Z0.out]; show w.heap.size + 1 < _; omega)).trans ((cell_of_row _ _ _ _ _ _ H2.out).trans cb2.out)⟩
 clear n1 ca1 cb1 ca2 cb2
 go_enter Tryz.func11, Tryz.ntmps11
 refine wp_seq_k fun K1 h1 => ?_
 have HK1 := hid h1
 clear h1
 go_wp2
 rw [HW0.out]
 refine HK1.out _ _ ?_
 clear HK1 K1
 obtain ⟨x0, x69, x70, y69, y70⟩ := FC.out w0 (Below.refl _ _)
 have hz1 : ¬ (z1 : Int) = 0 := by omega
 have hz2 : ¬ (z2 : Int) = 0 := by omega
 have hz1b : ((z1 : Int) == 0) = false := by simpa using hz1
 have hz2b : ((z2 : Int) == 0) = false := by simpa using hz2
 go_wp2
 clear x0 x69 x70 y69 y70
 refine wp_region_held_drew (S := fun _ => True) (by kernel_rfl) trivial (fun hHeld => ?_)
 change wpAnyH _ _ _ _ _ _ _ _ (World.drew _)
 refine held_true _ _ _ _ ?_
 clear hHeld
 refine wpAny_rel (low_of (by kernel_rfl)) (dst := dstC) (Φ := clF w.heap.size b1 o1 z1 c1 b2 o2 z2 c2 l1 l2) (Array.replicate 13 false) rfl ?hdst ?hops ?hin (clF_below w.heap.size b1 o1 z1 c1 b2 o2 z2 c2 l1 l2) ?step ?fin 13 (by kernel_rfl)
 case hdst => intro k j _ _ _ _ e; unfold dstC at e; omega
 case hops =>
  intro k o ho _
  have hk : k < 13 := (Array.getElem?_eq_some_iff.1 ho).1
  match k, hk, ho with
  | 0, _, ho => obtain rfl := Option.some.inj ho; rfl
  | 1, _, ho => obtain rfl := Option.some.inj ho; rfl
  | 2, _, ho => obtain rfl := Option.some.inj ho; rfl
  | 3, _, ho => obtain rfl := Option.some.inj ho; rfl
  | 4, _, ho => obtain rfl := Option.some.inj ho; rfl
  | 5, _, ho => obtain rfl := Option.some.inj ho; rfl
  | 6, _, ho => obtain rfl := Option.some.inj ho; rfl
  | 7, _, ho => obtain rfl := Option.some.inj ho; rfl
  | 8, _, ho => obtain rfl := Option.some.inj ho; rfl
  | 9, _, ho => obtain rfl := Option.some.inj ho; rfl
  | 10, _, ho => obtain rfl := Option.some.inj ho; rfl
  | 11, _, ho => obtain rfl := Option.some.inj ho; rfl
  | 12, _, ho => obtain rfl := Option.some.inj ho; rfl
 case hin =>
  intro k hk _
  have hk : k < 13 := hk
  show dstC k < 104
  unfold dstC
  omega
 case step =>
  intro k o ho _ a w3 K vals L hR hd hK
  have hk : k < 13 := (Array.getElem?_eq_some_iff.1 ho).1
  have hrest : ∀ s, s < 21 -> a.tmps[s]? = (_ : Act).tmps[s]? := fun s h1 => hR.rest s (fun j hj _ => by unfold dstC; omega)
  have u2 : a.tmps[2]? = some (.pointer (some ⟨w.heap.size, 0, none⟩)) := hrest 2 (by omega)
  have u3 : a.tmps[3]? = some (.pointer (some ⟨w.heap.size + 1, 0, none⟩)) := hrest 3 (by omega)
  have B3 : Below w0.heap.size w0 w3 := (Below.refl _ w0).drew.trans (hR.bel.mono (by simp))
  have BB : Below w.heap.size w w3 := B0.out.trans (B3.mono B0.out.size)
  obtain ⟨x0, x69, x70, y69, y70⟩ := FC.out w3 B3
  have DN : ∀ j, j < 13 -> L[j]? = some true -> a.tmps[dstC j]? = some (vals j) /\ clF w.heap.size b1 o1 z1 c1 b2 o2 z2 c2 l1 l2 j w3 (vals j) := fun j hj hL => hR.done j hj (by simp [hj]) hL
  clear hrest
  match k, hk, ho with
  | 0, _, ho =>
   obtain rfl := Option.some.inj ho
   clear DN x0 x69 x70 y69 y70
   go_simp
   exact hK _ _ rfl (Below.refl _ _)
  | 1, _, ho =>
   obtain rfl := Option.some.inj ho
   obtain ⟨e0, f0⟩ := DN 0 (by omega) (hd ⟨0, .data⟩ (by simp) rfl)
   have e0 : a.tmps[21]? = some (.pointer (some ⟨w.heap.size, 70, none⟩)) := by have := e0; rw [show vals 0 = _ from f0] at this; exact this
   clear DN
   first | (go_simp; done) | (go_simp; exact hK _ _ rfl (Below.refl _ _)) | (go_simp; intro hq; exfalso; omega)
  | 2, _, ho =>
   obtain rfl := Option.some.inj ho
   obtain ⟨e1, f1⟩ := DN 1 (by omega) (hd ⟨1, .data⟩ (by simp) rfl)
   have e1 : a.tmps[22]? = some (.slice (some ⟨b1, o1, none⟩) z1 c1) := by have := e1; rw [show vals 1 = _ from f1] at this; exact this
   clear DN
   first | (go_simp; done) | (go_simp; exact hK _ _ rfl (Below.refl _ _)) | (go_simp; intro hq; exfalso; omega)
  | 3, _, ho =>
   obtain rfl := Option.some.inj ho
   obtain ⟨e2, f2⟩ := DN 2 (by omega) (hd ⟨2, .data⟩ (by simp) rfl)
   have e2 : a.tmps[23]? = some (.pointer (some ⟨b1, o1, none⟩)) := by have := e2; rw [show vals 2 = _ from f2] at this; exact this
   clear DN
   first | (go_simp; done) | (go_simp; exact hK _ _ rfl (Below.refl _ _)) | (go_simp; intro hq; exfalso; omega)
  | 4, _, ho =>
   obtain rfl := Option.some.inj ho
   obtain ⟨e3, f3⟩ := DN 3 (by omega) (hd ⟨3, .data⟩ (by simp) rfl)
   have e3 : a.tmps[24]? = some (.slice (some ⟨b1, o1, none⟩) 32 32) := by have := e3; rw [show vals 3 = _ from f3] at this; exact this
   have HG := heap_alloc_new w3 (.cells #[.slice (some ⟨b1, o1, none⟩) 32 32] 34)
   have BA := (Below.refl w3.heap.size w3).alloc (Nat.le_refl _) (.cells #[.slice (some ⟨b1, o1, none⟩) 32 32] 34)
   have HT := HL.one HG ((HB_dig D1.out (R1.out w3 BB)).below BA)
   clear DN HG x0 x69 x70 y69 y70
   go_simp
   exact hK _ _ ⟨_, rfl, HT⟩ BA
  | 5, _, ho =>
   obtain rfl := Option.some.inj ho
   obtain ⟨e4, f4⟩ := DN 4 (by omega) (hd ⟨4, .data⟩ (by simp) rfl)
   obtain ⟨g, ev, hl⟩ := f4
   rw [ev] at e4
   have e4 : a.tmps[25]? = some (.slice (some ⟨g, 0, none⟩) 1 1) := e4
   have CL := rlist_root w3 _ l1 hl (by rw [D1.out.1]; omega) D1.out.1
   clear DN ev hl x0 x69 x70 y69 y70
   go_simp
   refine CL.mono ?_
   rintro e w4 ⟨v4, rfl, hv4, hb4⟩
   obtain ⟨p4, c4, ev4, _, _⟩ := hv4.open
   subst ev4
   exact hK _ _ ⟨p4, c4, rfl, hv4⟩ hb4
  | 6, _, ho =>
   obtain rfl := Option.some.inj ho
   clear DN x0 x69 x70 y69 y70
   go_simp
   exact hK _ _ rfl (Below.refl _ _)
  | 7, _, ho =>
   obtain rfl := Option.some.inj ho
   obtain ⟨e6, f6⟩ := DN 6 (by omega) (hd ⟨6, .data⟩ (by simp) rfl)
   have e6 : a.tmps[27]? = some (.pointer (some ⟨w.heap.size + 1, 70, none⟩)) := by have := e6; rw [show vals 6 = _ from f6] at this; exact this
   clear DN
   first | (go_simp; done) | (go_simp; exact hK _ _ rfl (Below.refl _ _)) | (go_simp; intro hq; exfalso; omega)
  | 8, _, ho =>
   obtain rfl := Option.some.inj ho
   obtain ⟨e7, f7⟩ := DN 7 (by omega) (hd ⟨7, .data⟩ (by simp) rfl)
   have e7 : a.tmps[28]? = some (.slice (some ⟨b2, o2, none⟩) z2 c2) := by have := e7; rw [show vals 7 = _ from f7] at this; exact this
   clear DN
   first | (go_simp; done) | (go_simp; exact hK _ _ rfl (Below.refl _ _)) | (go_simp; intro hq; exfalso; omega)
  | 9, _, ho =>
   obtain rfl := Option.some.inj ho
   obtain ⟨e8, f8⟩ := DN 8 (by omega) (hd ⟨8, .data⟩ (by simp) rfl)
   have e8 : a.tmps[29]? = some (.pointer (some ⟨b2, o2, none⟩)) := by have := e8; rw [show vals 8 = _ from f8] at this; exact this
   clear DN
   first | (go_simp; done) | (go_simp; exact hK _ _ rfl (Below.refl _ _)) | (go_simp; intro hq; exfalso; omega)
  | 10, _, ho =>
   obtain rfl := Option.some.inj ho
   obtain ⟨e9, f9⟩ := DN 9 (by omega) (hd ⟨9, .data⟩ (by simp) rfl)
   have e9 : a.tmps[30]? = some (.slice (some ⟨b2, o2, none⟩) 32 32) := by have := e9; rw [show vals 9 = _ from f9] at this; exact this
   have HG := heap_alloc_new w3 (.cells #[.slice (some ⟨b2, o2, none⟩) 32 32] 34)
   have BA := (Below.refl w3.heap.size w3).alloc (Nat.le_refl _) (.cells #[.slice (some ⟨b2, o2, none⟩) 32 32] 34)
   have HT := HL.one HG ((HB_dig D2.out (R2.out w3 BB)).below BA)
   clear DN HG x0 x69 x70 y69 y70
   go_simp
   exact hK _ _ ⟨_, rfl, HT⟩ BA
  | 11, _, ho =>
   obtain rfl := Option.some.inj ho
   obtain ⟨e10, f10⟩ := DN 10 (by omega) (hd ⟨10, .data⟩ (by simp) rfl)
   obtain ⟨g, ev, hl⟩ := f10
   rw [ev] at e10
   have e10 : a.tmps[31]? = some (.slice (some ⟨g, 0, none⟩) 1 1) := e10
   have CL := rlist_root w3 _ l2 hl (by rw [D2.out.1]; omega) D2.out.1
   clear DN ev hl x0 x69 x70 y69 y70
   go_simp
   refine CL.mono ?_
   rintro e w4 ⟨v4, rfl, hv4, hb4⟩
   obtain ⟨p4, c4, ev4, _, _⟩ := hv4.open
   subst ev4
   exact hK _ _ ⟨p4, c4, rfl, hv4⟩ hb4
  | 12, _, ho =>
   obtain rfl := Option.some.inj ho
   obtain ⟨e5, f5⟩ := DN 5 (by omega) (hd ⟨5, .data⟩ (by simp) rfl)
   obtain ⟨e11, f11⟩ := DN 11 (by omega) (hd ⟨11, .data⟩ (by simp) rfl)
   obtain ⟨p3, c3, ev3, hv3⟩ := f5
   obtain ⟨p4, c4, ev4, hv4⟩ := f11
   rw [ev3] at e5
   rw [ev4] at e11
   have zz1 : (t1B wRoot l1).length = 63 := by rw [t1B_root D1.out.1]; simp [num8, wRoot, D1.out.1]
   have zz2 : (t1B wRoot l2).length = 63 := by rw [t1B_root D2.out.1]; simp [num8, wRoot, D2.out.1]
   have e5 : a.tmps[26]? = some (.slice p3 (t1B wRoot l1).length c3) := e5
   have e11 : a.tmps[32]? = some (.slice p4 (t1B wRoot l2).length c4) := e11
   have CC := clash_any w3 _ _ _ _ hv3 hv4 (by omega) (by omega)
   have FIN : ∀ t : Bool, decide (t1B wRoot l1 ≠ t1B wRoot l2 /\ digL (t1B wRoot l1) = digL (t1B wRoot l2)) = t -> (t = false -> NoC (t1B wRoot l1) (t1B wRoot l2)) := fun t e h => by rw [h] at e; exact of_decide_eq_false e
   generalize decide (t1B wRoot l1 ≠ t1B wRoot l2 /\ digL (t1B wRoot l1) = digL (t1B wRoot l2)) = tt at CC FIN
   have FIN := FIN tt rfl
   generalize (t1B wRoot l1).length = z3 at e5 CC
   generalize (t1B wRoot l2).length = z4 at e11 CC
   clear DN ev3 ev4 hv3 hv4 zz1 zz2 x0 x69 x70 y69 y70
   go_simp
   refine CC.mono ?_
   rintro e w4 ⟨rfl, hb4⟩
   exact hK _ _ ⟨tt, rfl, FIN⟩ hb4
 case fin =>
  intro a w3 vals hdf hall hb3
  obtain ⟨ea, fa⟩ := hall 12 (by show 12 < 13; omega) rfl
  obtain ⟨tt, et, ft⟩ : ∃ t : Bool, vals 12 = .bool t /\ (t = false -> NoC (t1B wRoot l1) (t1B wRoot l2)) := fa
  have B3 : Hid (Below w0.heap.size w0 w3) := hid ((Below.refl _ w0).drew.trans (hb3.mono (by simp)))
  have FT := hid ft
  obtain ⟨hd1, hd2, hd3⟩ := hdf
  have lay := tmps_lay3 (N := 13) (base := 21) (vals := vals) (by show 34 <= 104; omega) hd2 (fun s h => hd3 s (fun k hk _ => by have hk : k < 13 := hk; unfold dstC; omega)) (fun k hk => (hall k hk (by simp [hk])).1)
  clear hd2 hd3
  obtain ⟨tm, df⟩ := a
  dsimp only at lay hd1
  subst hd1
  have v12 : vals 12 = .bool tt := et
  simp only [List.range, List.range.loop, List.map_cons, List.map_nil, List.take_succ_cons, List.take_zero, List.cons_append, List.nil_append, List.drop_succ_cons, List.drop_zero, Nat.reduceAdd] at lay
  rw [v12] at lay
  subst lay
  clear hall ea ft et hb3 v12
  cases tt with
  | true =>
   clear FT
   have B9 := hid (B0.out.trans (B3.out.mono B0.out.size))
   go_wp2
   go_ret
   exact ⟨true, rfl, (fun h => by cases h), B9.out⟩
  | false =>
   have FT := hid (FT.out rfl)
   obtain ⟨zd, HZD⟩ : ∃ zd, Hid (cellsB zeros32 = zd) := ⟨_, rfl⟩
   have CR1 := hid fun W => rroot_any W l1 D1.out
   have CR2 := hid fun W => rroot_any W l2 D2.out
   have dr : ∀ d, D32 (rtL d) := fun d => ⟨digL_length _, digL_byt _⟩
   have E1 := hid (dr l1)
   have E2 := hid (dr l2)
   obtain ⟨e1, He1⟩ : ∃ x, Hid (rtL l1 = x) := ⟨_, rfl⟩
   obtain ⟨e2, He2⟩ : ∃ x, Hid (rtL l2 = x) := ⟨_, rfl⟩
   rw [He1.out] at E1 CR1
   rw [He2.out] at E2 CR2
   obtain ⟨q1, Hq1⟩ : ∃ x, Hid (cellsB e1 = x) := ⟨_, rfl⟩
   obtain ⟨q2, Hq2⟩ : ∃ x, Hid (cellsB e2 = x) := ⟨_, rfl⟩
   rw [Hq1.out] at CR1
   rw [Hq2.out] at CR2
   have SD : ∀ (d : List Int) (q : Array Value), D32 d -> cellsB d = q -> ((Tryz.prog.info? 23).map (·.size) = some q.size) /\ q.all (·.oneCell') = true /\ q.size = 32 := fun d q hd e => by
    rw [<- e]
    exact ⟨by rw [cellsB_size, hd.1]; exact size_digest, cellsB_one _, by rw [cellsB_size, hd.1]⟩
   have HSD := hid SD
   have S1 := hid (SD e1 q1 E1.out Hq1.out)
   have S2 := hid (SD e2 q2 E2.out Hq2.out)
   have SZ : Hid (zd.size = 32) := by refine hid ?_; rw [<- HZD.out, cellsB_size]; exact zeros32_length
   clear dr SD
   have BW3 := hid (B0.out.trans (B3.out.mono B0.out.size))
   have RA := hid (R1.out w3 BW3.out)
   obtain ⟨-, -, x70, -, -⟩ := FC.out w3 B3.out
   go_wp2_with (first | (refine wpList_load_mid rfl 23 _ rfl b1 o1 rfl (dc l1) _ RA.out Tryz.underlying23 rfl (size_dig D1.out) ?_; rw [dc_arr]) | fail)
   refine (CR1.out w3).mono ?_
   rintro e w4 ⟨rfl, hb4⟩
   have B4 := hid (B3.out.trans (hb4.mono B3.out.size))
   have ZA := hid (heap_alloc_new w4 (.cells zd 23))
   obtain ⟨w5, HW5⟩ : ∃ x, Hid ((w4.alloc (.cells zd 23)).setRow w4.heap.size q1 = x) := ⟨_, rfl⟩
   have P5 : Hid (Bks w5 w4.heap.size q1) := by refine hid ?_; rw [<- HW5.out]; exact setRow_heap _ _ _ _ _ _ ZA.out
   have B5 : Hid (Below w0.heap.size w0 w5) := by refine hid ?_; rw [<- HW5.out]; exact bel_setRow (B4.out.alloc B4.out.size _) B4.out.size _
   have L5 : Hid (w4.heap.size < w5.heap.size) := by refine hid ?_; rw [<- HW5.out]; simp [World.setRow]
   have BW5 := hid (B0.out.trans (B5.out.mono B0.out.size))
   have RB := hid (R2.out w5 BW5.out)
   obtain ⟨-, -, -, -, y70⟩ := FC.out w5 B5.out
   have hg4 : w0.heap.size <= w4.heap.size := B4.out.size
   have HG4 := hid hg4
   clear hb4 x70 CR1 hg4
   go_wp2_with (first | (refine wpList_alloc_digest rfl rfl ?_; rw [HZD.out]) | (refine wpList_store_row rfl 23 _ _ rfl w4.heap.size q1 rfl rfl 23 _ ZA.out S1.out.1 (by rw [SZ.out, S1.out.2.2]) S1.out.2.1 ?_; rw [HW5.out]) | (refine wpList_load_mid rfl 23 _ rfl b2 o2 rfl (dc l2) _ RB.out Tryz.underlying23 rfl (size_dig D2.out) ?_; rw [dc_arr]) | fail)
   refine (CR2.out w5).mono ?_
   rintro e w6 ⟨rfl, hb6⟩
   have B6 := hid (B5.out.trans (hb6.mono B5.out.size))
   have P6 := hid (P5.out.below hb6)
   have L6 : Hid (w4.heap.size < w6.heap.size) := hid (by have := hb6.size; have := L5.out; omega)
   have ZB := hid (heap_alloc_new w6 (.cells zd 23))
   obtain ⟨w7, HW7⟩ : ∃ x, Hid ((w6.alloc (.cells zd 23)).setRow w6.heap.size q2 = x) := ⟨_, rfl⟩
   have Q7 : Hid (Bks w7 w6.heap.size q2) := by refine hid ?_; rw [<- HW7.out]; exact setRow_heap _ _ _ _ _ _ ZB.out
   have B67 : Hid (Below w6.heap.size w6 w7) := by refine hid ?_; rw [<- HW7.out]; exact bel_setRow ((Below.refl _ _).alloc (Nat.le_refl _) _) (Nat.le_refl _) _
   have P7 := hid (P6.out.below B67.out)
   have B7 := hid (B6.out.trans (B67.out.mono B6.out.size))
   have L7 : Hid (w6.heap.size < w7.heap.size) := by refine hid ?_; rw [<- HW7.out]; simp [World.setRow]
   obtain ⟨x0, -, -, -, -⟩ := FC.out w7 B7.out
   obtain ⟨p5, Hp5⟩ : ∃ x, Hid (w4.heap.size = x) := ⟨_, rfl⟩
   obtain ⟨p6, Hp6⟩ : ∃ x, Hid (w6.heap.size = x) := ⟨_, rfl⟩
   have G56 : Hid (p5 < p6 /\ w0.heap.size <= p5) := hid (by rw [<- Hp5.out, <- Hp6.out]; exact ⟨L6.out, HG4.out⟩)
   rw [Hp5.out] at P7
   rw [Hp6.out] at Q7 L7
   clear hb6 y70 CR2
   go_wp2_with (first | (refine wpList_alloc_digest rfl rfl ?_; rw [HZD.out]) | (refine wpList_store_row rfl 23 _ _ rfl w6.heap.size q2 rfl rfl 23 _ ZB.out S2.out.1 (by rw [SZ.out, S2.out.2.2]) S2.out.2.1 ?_; rw [HW7.out]) | fail)
   rw [Hp5.out, Hp6.out]
   clear Hp5 Hp6 HW7 HW5 P5 P6 B67 B6 B5 B4 L5 L6 ZA ZB HG4 RA RB BW3 BW5 x0
   go_loopw [7, 8] (fun pl ii wr => ∃ I : Nat, I <= k /\ pl = .int .i64 ((num / 2 ^ I : Nat) : Int) /\ ii = .int .i64 (I : Int) /\ Hid (∀ q, q < I -> NoC (wayB A num e1 q) (wayB B num e2 q)) /\ Hid (Bks wr p5 (cellsB (clTo A num e1 I))) /\ Hid (Bks wr p6 (cellsB (clTo B num e2 I))) /\ Hid (Below w0.heap.size w0 wr) /\ Hid (p6 < wr.heap.size)) (fun _ ii _ => k - (intOf ii).toNat)
   case atStart => exact ⟨0, by omega, by simp, rfl, hid (fun q hq => by omega), (by have e : clTo A num e1 0 = e1 := (by unfold clTo; simp [clV]); rw [e, Hq1.out]; exact P7), (by have e : clTo B num e2 0 = e2 := (by unfold clTo; simp [clV]); rw [e, Hq2.out]; exact Q7), B7, L7⟩
   case round =>
    obtain ⟨I, hI, rfl, rfl, HN, HP, HQ, BL, HL6⟩ := hrel
    have BW := hid (B0.out.trans (BL.out.mono B0.out.size))
    by_cases hlt : I < k
    case neg =>
     obtain rfl : I = k := by omega
     have qn : ¬ (I : Int) < (I : Int) := by omega
     obtain ⟨x0, x69, x70, y69, y70⟩ := FC.out wr BL.out
     clear x0 x70 y70
     go_wp2
     go_ret
     exact ⟨false, rfl, fun _ => ⟨FT.out trivial, by rw [He1.out, He2.out]; exact HN.out⟩, BW.out⟩
    case pos =>
     have hlti : (I : Int) < (k : Int) := by omega
     obtain ⟨bc, oc, cc', q1', _, _, hbc, hrc⟩ := HCA.out.ne (by rw [HA1.out]; omega)
     obtain ⟨bd, od, cd', q2', _, _, hbd, hrd⟩ := HCB.out.ne (by rw [HB1.out]; omega)
     rw [HA1.out] at q1'
     rw [HB1.out] at q2'
     simp only [Value.slice.injEq] at q1' q2'
     obtain ⟨rfl, -, -⟩ := q1'
     obtain ⟨rfl, -, -⟩ := q2'
     have hwr := BW.out.size
     have Rcq := hid (range_below (hrc I (by rw [HA1.out]; exact hlt)) BW.out hbc)
     have Rdq := hid (range_below (hrd I (by rw [HB1.out]; exact hlt)) BW.out hbd)
     have cqD := hid (getD_D HCA.out.2 I (by rw [HA1.out]; exact hlt))
     have dqD := hid (getD_D HCB.out.2 I (by rw [HB1.out]; exact hlt))
     have taD := hid (clTo_D A HCA.out.2 num e1 E1.out I (by rw [HA1.out]; omega))
     have tbD := hid (clTo_D B HCB.out.2 num e2 E2.out I (by rw [HB1.out]; omega))
     have nA := hid (clTo_D A HCA.out.2 num e1 E1.out (I + 1) (by rw [HA1.out]; omega))
     have nB := hid (clTo_D B HCB.out.2 num e2 E2.out (I + 1) (by rw [HB1.out]; omega))
     have HWL : Hid (wayB A num e1 I = if (num / 2 ^ I) % 2 = 1 then ndB (A.getD I []) (clTo A num e1 I) else ndB (clTo A num e1 I) (A.getD I [])) := hid rfl
     have HWR : Hid (wayB B num e2 I = if (num / 2 ^ I) % 2 = 1 then ndB (B.getD I []) (clTo B num e2 I) else ndB (clTo B num e2 I) (B.getD I [])) := hid rfl
     have HSTL := hid (wayB_step A num e1 I (by rw [HA1.out]; exact hlt))
     have HSTR := hid (wayB_step B num e2 I (by rw [HB1.out]; exact hlt))
     have HLNL := hid (wayC_len (x := num) HCA.out.2 E1.out (show I < A.length by rw [HA1.out]; exact hlt))
     have HLNR := hid (wayC_len (x := num) HCB.out.2 E2.out (show I < B.length by rw [HB1.out]; exact hlt))
     have HNOS : Hid (NoC (wayB A num e1 I) (wayB B num e2 I) -> ∀ p, p < I + 1 -> NoC (wayB A num e1 p) (wayB B num e2 p)) := hid fun h p hp => by
      by_cases e : p = I
      ·subst e; exact h
      ·exact HN.out p (by omega)
     generalize A.getD I [] = cq at Rcq cqD HWL
     generalize B.getD I [] = dq at Rdq dqD HWR
     obtain ⟨ta, HTA⟩ : ∃ t, Hid (clTo A num e1 I = t) := ⟨_, rfl⟩
     obtain ⟨tb, HTB⟩ : ∃ t, Hid (clTo B num e2 I = t) := ⟨_, rfl⟩
     rw [HTA.out] at HP taD HWL
     rw [HTB.out] at HQ tbD HWR
     obtain ⟨xl, HXL⟩ : ∃ t, Hid (wayB A num e1 I = t) := ⟨_, rfl⟩
     obtain ⟨xr, HXR⟩ : ∃ t, Hid (wayB B num e2 I = t) := ⟨_, rfl⟩
     rw [HXL.out] at HWL HSTL HLNL HNOS
     rw [HXR.out] at HWR HSTR HLNR HNOS
     have HXX : Hid (∀ W, Below wr.heap.size wr W -> HB W (.slice (some ⟨p5, 0, none⟩) 32 32) ta /\ HB W (.slice (some ⟨bc, oc + I * 32, none⟩) 32 32) cq /\ HB W (.slice (some ⟨p6, 0, none⟩) 32 32) tb /\ HB W (.slice (some ⟨bd, od + I * 32, none⟩) 32 32) dq) := hid fun W hW =>
      ⟨HB_dig taD.out (range_below (cells_range HP.out) hW (by have := G56.out; have := HL6.out; omega)), HB_dig cqD.out (range_below Rcq.out hW (by omega)), HB_dig tbD.out (range_below (cells_range HQ.out) hW HL6.out), HB_dig dqD.out (range_below Rdq.out hW (by omega))⟩
     have FCW : Hid (∀ W, Below wr.heap.size wr W -> W.cell? ⟨w.heap.size, 69, none⟩ = some (.slice (some ⟨bc, oc, none⟩) k cca) /\ W.cell? ⟨w.heap.size + 1, 69, none⟩ = some (.slice (some ⟨bd, od, none⟩) k ccb)) := hid fun W hW =>
      ⟨(FC.out W (BL.out.trans (hW.mono BL.out.size))).2.1, (FC.out W (BL.out.trans (hW.mono BL.out.size))).2.2.2.1⟩
     have etm := tmod2c (num / 2 ^ I)
     have etd := tdiv2c (num / 2 ^ I)
     have hdd : Hid (num / 2 ^ I / 2 = num / 2 ^ (I + 1)) := hid (by rw [Nat.div_div_eq_div_mul, <- Nat.pow_succ])
     have hpl : num / 2 ^ I <= 1000 := Nat.le_trans (Nat.div_le_self _ _) hnl
     obtain ⟨pl, HPL⟩ : ∃ p, Hid (num / 2 ^ I = p) := ⟨_, rfl⟩
     rw [HPL.out] at etm etd hdd hpl HWL HWR ⊢
     have ewq : IntKind.i64.wrap ((I : Int) + 1) = (I : Int) + 1 := by rw [IntKind.wrap_i64]; omega
     have ewd : IntKind.i64.wrap ((pl / 2 : Nat) : Int) = ((pl / 2 : Nat) : Int) := by rw [IntKind.wrap_i64]; omega
     have ewm : IntKind.i64.wrap ((pl % 2 : Nat) : Int) = ((pl % 2 : Nat) : Int) := by rw [IntKind.wrap_i64]; omega
     clear hrc hrd HN FC
     obtain ⟨x69, y69⟩ := FCW.out wr (Below.refl _ _)
     go_wp2
     clear x69 y69
     refine wp_region_held_drew (S := Below wr.heap.size wr) (by kernel_rfl) (Below.refl wr.heap.size wr).drew (fun hHeld => ?_)
     have HS := hid hHeld
     clear hHeld
     change wpAnyH _ _ _ _ _ _ _ _ (World.drew _)
     obtain ⟨dva, HWD⟩ : ∃ x, Hid (World.drew wr = x) := ⟨_, rfl⟩
     have BD : Hid (Below wr.heap.size wr dva) := hid (by rw [<- HWD.out]; exact (Below.refl _ _).drew)
     rw [HWD.out] at HS ⊢
     clear HWD
     refine wpAnyH_take (i := 0) (v := .slice (some ⟨p5, 0, none⟩) 32 32) rfl (by kernel_rfl) (by kernel_rfl) (by kernel_rfl) (fun _ _ _ h => h) (Or.inl ⟨by rfl, ?q0⟩) HS.out ?_
     case q0 => intro W hSw; first | (go_simp; done) | (go_simp; rfl) | (go_simp; omega)
     simp only [Act.put, lay6]
     refine wpAnyH_take (i := 1) (v := .pointer (some ⟨w.heap.size, 69, none⟩)) rfl (by kernel_rfl) (by kernel_rfl) (by kernel_rfl) (fun _ _ _ h => h) (Or.inl ⟨by rfl, ?q1⟩) HS.out ?_
     case q1 => intro W hSw; first | (go_simp; done) | (go_simp; rfl) | (go_simp; omega)
     simp only [Act.put, lay6]
     refine wpAnyH_take (i := 2) (v := .slice (some ⟨bc, oc, none⟩) k cca) rfl (by kernel_rfl) (by kernel_rfl) (by kernel_rfl) (fun _ _ _ h => h) (Or.inl ⟨by rfl, ?q2⟩) HS.out ?_
     case q2 => intro W hSw; have xx := (FCW.out W hSw).1; first | (go_simp; done) | (go_simp; rfl) | (go_simp; omega)
     simp only [Act.put, lay6]
     refine wpAnyH_take (i := 3) (v := .int .i64 (I : Int)) rfl (by kernel_rfl) (by kernel_rfl) (by kernel_rfl) (fun _ _ _ h => h) (Or.inl ⟨by rfl, ?q3⟩) HS.out ?_
     case q3 => intro W hSw; first | (go_simp; done) | (go_simp; rfl) | (go_simp; omega)
     simp only [Act.put, lay6]
     refine wpAnyH_take (i := 4) (v := .pointer (some ⟨bc, oc + I * 32, none⟩)) rfl (by kernel_rfl) (by kernel_rfl) (by kernel_rfl) (fun _ _ _ h => h) (Or.inl ⟨by rfl, ?q4⟩) HS.out ?_
     case q4 => intro W hSw; first | (go_simp; done) | (go_simp; rfl) | (go_simp; omega)
     simp only [Act.put, lay6]
     refine wpAnyH_take (i := 5) (v := .slice (some ⟨bc, oc + I * 32, none⟩) 32 32) rfl (by kernel_rfl) (by kernel_rfl) (by kernel_rfl) (fun _ _ _ h => h) (Or.inl ⟨by rfl, ?q5⟩) HS.out ?_
     case q5 => intro W hSw; first | (go_simp; done) | (go_simp; rfl) | (go_simp; omega)
     simp only [Act.put, lay6]
     have BA := (Below.refl dva.heap.size dva).alloc (Nat.le_refl _) (.cells #[.slice (some ⟨p5, 0, none⟩) 32 32, .slice (some ⟨bc, oc + I * 32, none⟩) 32 32] 34)
     have HG := heap_alloc_new dva (.cells #[.slice (some ⟨p5, 0, none⟩) 32 32, .slice (some ⟨bc, oc + I * 32, none⟩) 32 32] 34)
     have HSa := hid (HS.out.trans (BA.mono HS.out.size))
     have hb := HXX.out _ HSa.out
     have CL := hid (rlist_node _ _ ta cq (HL.two' HG hb.1 hb.2.1) taD.out.1 cqD.out.1)
     have BE := hid (BD.out.trans (BA.mono BD.out.size))
     clear BA HG hb BD
     refine wpAnyH_ready (rs := [6]) (by kernel_rfl) (by simp) ?_
     refine AllReadyH.cons rfl (fun K hK => ?_) AllReadyH.nil
     go_simp
     refine hK.out _ _ HSa.out (fun _ => ?_)
     clear hK K
     refine wpAnyH_ready (rs := [7]) (by kernel_rfl) (by simp) ?_
     refine AllReadyH.cons rfl (fun K hK => ?_) AllReadyH.nil
     go_simp
     refine CL.out.mono ?_
     rintro e vaw ⟨va, rfl, hva, hBva⟩
     have Hva := hid hva
     have HSva := hid (HSa.out.trans (hBva.mono HSa.out.size))
     have BVva := hid (BE.out.trans (hBva.mono BE.out.size))
     clear hva hBva CL HSa BE
     refine hK.out _ _ HSva.out (fun _ => ?_)
     clear hK K HS
     have HS := hid HSva.out
     refine wpAnyH_take (i := 8) (v := va) rfl (by kernel_rfl) (by kernel_rfl) (by kernel_rfl) (fun _ _ _ h => h) (Or.inl ⟨by rfl, ?q8⟩) HS.out ?_
     case q8 => intro W hSw; first | (go_simp; done) | (go_simp; rfl) | (go_simp; omega)
     simp only [Act.put, lay6]
     clear HS
     refine wpAnyH_done (by kernel_rfl) ?_ _
     go_wp2
     refine wp_region_held_drew (S := Below wr.heap.size wr) (by kernel_rfl) HSva.out.drew (fun hHeld => ?_)
     have HS := hid hHeld
     clear hHeld
     change wpAnyH _ _ _ _ _ _ _ _ (World.drew _)
     obtain ⟨dvb, HWD⟩ : ∃ x, Hid (World.drew vaw = x) := ⟨_, rfl⟩
     have BD : Hid (Below vaw.heap.size vaw dvb) := hid (by rw [<- HWD.out]; exact (Below.refl _ _).drew)
     rw [HWD.out] at HS ⊢
     clear HWD
     refine wpAnyH_take (i := 0) (v := .slice (some ⟨p6, 0, none⟩) 32 32) rfl (by kernel_rfl) (by kernel_rfl) (by kernel_rfl) (fun _ _ _ h => h) (Or.inl ⟨by rfl, ?q0⟩) HS.out ?_
     case q0 => intro W hSw; first | (go_simp; done) | (go_simp; rfl) | (go_simp; omega)
     simp only [Act.put, lay6]
     refine wpAnyH_take (i := 1) (v := .pointer (some ⟨w.heap.size + 1, 69, none⟩)) rfl (by kernel_rfl) (by kernel_rfl) (by kernel_rfl) (fun _ _ _ h => h) (Or.inl ⟨by rfl, ?q1⟩) HS.out ?_
     case q1 => intro W hSw; first | (go_simp; done) | (go_simp; rfl) | (go_simp; omega)
     simp only [Act.put, lay6]
     refine wpAnyH_take (i := 2) (v := .slice (some ⟨bd, od, none⟩) k ccb) rfl (by kernel_rfl) (by kernel_rfl) (by kernel_rfl) (fun _ _ _ h => h) (Or.inl ⟨by rfl, ?q2⟩) HS.out ?_
     case q2 => intro W hSw; have xx := (FCW.out W hSw).2; first | (go_simp; done) | (go_simp; rfl) | (go_simp; omega)
     simp only [Act.put, lay6]
     refine wpAnyH_take (i := 3) (v := .int .i64 (I : Int)) rfl (by kernel_rfl) (by kernel_rfl) (by kernel_rfl) (fun _ _ _ h => h) (Or.inl ⟨by rfl, ?q3⟩) HS.out ?_
     case q3 => intro W hSw; first | (go_simp; done) | (go_simp; rfl) | (go_simp; omega)
     simp only [Act.put, lay6]
     refine wpAnyH_take (i := 4) (v := .pointer (some ⟨bd, od + I * 32, none⟩)) rfl (by kernel_rfl) (by kernel_rfl) (by kernel_rfl) (fun _ _ _ h => h) (Or.inl ⟨by rfl, ?q4⟩) HS.out ?_
     case q4 => intro W hSw; first | (go_simp; done) | (go_simp; rfl) | (go_simp; omega)
     simp only [Act.put, lay6]
     refine wpAnyH_take (i := 5) (v := .slice (some ⟨bd, od + I * 32, none⟩) 32 32) rfl (by kernel_rfl) (by kernel_rfl) (by kernel_rfl) (fun _ _ _ h => h) (Or.inl ⟨by rfl, ?q5⟩) HS.out ?_
     case q5 => intro W hSw; first | (go_simp; done) | (go_simp; rfl) | (go_simp; omega)
     simp only [Act.put, lay6]
     have BA := (Below.refl dvb.heap.size dvb).alloc (Nat.le_refl _) (.cells #[.slice (some ⟨p6, 0, none⟩) 32 32, .slice (some ⟨bd, od + I * 32, none⟩) 32 32] 34)
     have HG := heap_alloc_new dvb (.cells #[.slice (some ⟨p6, 0, none⟩) 32 32, .slice (some ⟨bd, od + I * 32, none⟩) 32 32] 34)
     have HSa := hid (HS.out.trans (BA.mono HS.out.size))
     have hb := HXX.out _ HSa.out
     have CL := hid (rlist_node _ _ tb dq (HL.two' HG hb.2.2.1 hb.2.2.2) tbD.out.1 dqD.out.1)
     have BE := hid (BD.out.trans (BA.mono BD.out.size))
     clear BA HG hb BD
     refine wpAnyH_ready (rs := [6]) (by kernel_rfl) (by simp) ?_
     refine AllReadyH.cons rfl (fun K hK => ?_) AllReadyH.nil
     go_simp
     refine hK.out _ _ HSa.out (fun _ => ?_)
     clear hK K
     refine wpAnyH_ready (rs := [7]) (by kernel_rfl) (by simp) ?_
     refine AllReadyH.cons rfl (fun K hK => ?_) AllReadyH.nil
     go_simp
     refine CL.out.mono ?_
     rintro e vbw ⟨vb, rfl, hvb, hBvb⟩
     have Hvb := hid hvb
     have HSvb := hid (HSa.out.trans (hBvb.mono HSa.out.size))
     have BVvb := hid (BE.out.trans (hBvb.mono BE.out.size))
     clear hvb hBvb CL HSa BE
     refine hK.out _ _ HSvb.out (fun _ => ?_)
     clear hK K HS
     have HS := hid HSvb.out
     refine wpAnyH_take (i := 8) (v := vb) rfl (by kernel_rfl) (by kernel_rfl) (by kernel_rfl) (fun _ _ _ h => h) (Or.inl ⟨by rfl, ?q8⟩) HS.out ?_
     case q8 => intro W hSw; first | (go_simp; done) | (go_simp; rfl) | (go_simp; omega)
     simp only [Act.put, lay6]
     clear HS
     refine wpAnyH_done (by kernel_rfl) ?_ _
     by_cases hpar : pl % 2 = 1
     case neg =>
      have hpar0 : pl % 2 = 0 := by omega
      have etm0 : ((pl % 2 : Nat) : Int) = 0 := by rw [hpar0]; rfl
      rw [etm0] at etm ewm
      rw [if_neg hpar] at HWL HWR
      clear hpar hpar0 etm0
      have HLb : Hid (HB vbw va xl) := hid (by rw [HWL.out]; exact Hva.out.below BVvb.out)
      have HRb : Hid (HB vbw vb xr) := hid (by rw [HWR.out]; exact Hvb.out)
      have HA9 := hid (HP.out.below HSvb.out)
      have HB9 := hid (HQ.out.below HSvb.out)
      have BL9 := hid (BL.out.trans (HSvb.out.mono BL.out.size))
      have CC := hid (clash_any vbw _ _ _ _ HLb.out HRb.out (by rw [HLNL.out]; decide) (by rw [HLNR.out]; decide))
      obtain ⟨cl, HCL⟩ : ∃ c, Hid (decide (xl ≠ xr /\ digL xl = digL xr) = c) := ⟨_, rfl⟩
      rw [HCL.out] at CC
      go_wp2_with fail
      refine CC.out.mono ?_
      rintro e x1 ⟨rfl, hBx⟩
      have HLx := hid (HLb.out.below hBx)
      have HRx := hid (HRb.out.below hBx)
      have HAx := hid (HA9.out.below hBx)
      have HBx := hid (HB9.out.below hBx)
      have BLx := hid (BL9.out.trans (hBx.mono BL9.out.size))
      have SXx : Hid (p6 < x1.heap.size) := hid (by have := HL6.out; have := HSvb.out.size; have := hBx.size; omega)
      clear hBx CC
      cases cl with
      | true =>
       go_wp2
       go_ret
       exact ⟨true, rfl, (fun h => by cases h), B0.out.trans (BLx.out.mono B0.out.size)⟩
      | false =>
       have HNOQ := hid (HNOS.out (of_decide_eq_false HCL.out))
       have CS1 := hid (rsum_any x1 _ _ HLx.out (by rw [HLNL.out]; decide))
       rw [<- HSTL.out] at CS1
       obtain ⟨na, HNA⟩ : ∃ c, Hid (cellsB (clTo A num e1 (I + 1)) = c) := ⟨_, rfl⟩
       obtain ⟨nb, HNB⟩ : ∃ c, Hid (cellsB (clTo B num e2 (I + 1)) = c) := ⟨_, rfl⟩
       have SNA := hid (HSD.out _ na nA.out HNA.out)
       have SNB := hid (HSD.out _ nb nB.out HNB.out)
       have HSA : Hid ((cellsB ta).size = 32) := hid (by rw [cellsB_size, taD.out.1])
       have HSB : Hid ((cellsB tb).size = 32) := hid (by rw [cellsB_size, tbD.out.1])
       rw [HNA.out] at CS1
       go_wp2_with fail
       refine CS1.out.mono ?_
       rintro e x2 ⟨rfl, hBy⟩
       have HRy := hid (HRx.out.below hBy)
       have HAy := hid (HAx.out.below hBy)
       have HBy := hid (HBx.out.below hBy)
       have BLy := hid (BLx.out.trans (hBy.mono BLx.out.size))
       have SXy : Hid (p6 < x2.heap.size) := hid (by have := SXx.out; have := hBy.size; omega)
       obtain ⟨x3, HX3⟩ : ∃ x3, Hid (x2.setRow p5 na = x3) := ⟨_, rfl⟩
       have HRz : Hid (HB x3 vb xr) := hid (by rw [<- HX3.out]; exact HRy.out.keepC (by rw [HLNR.out]; decide) HAy.out HSA.out na)
       have HAz : Hid (Bks x3 p5 na) := hid (by rw [<- HX3.out]; exact setRow_heap _ _ _ _ _ _ HAy.out)
       have HBz : Hid (Bks x3 p6 (cellsB tb)) := hid (by rw [<- HX3.out]; exact (setRow_other _ _ _ _ (by have := G56.out; omega)).trans HBy.out)
       have BLz : Hid (Below w0.heap.size w0 x3) := hid (by rw [<- HX3.out]; exact bel_setRow BLy.out G56.out.2 _)
       have SXz : Hid (p6 < x3.heap.size) := hid (by rw [<- HX3.out]; simp [World.setRow]; exact SXy.out)
       have CS2 := hid (rsum_any x3 _ _ HRz.out (by rw [HLNR.out]; decide))
       rw [<- HSTR.out, HNB.out] at CS2
       clear hBy CS1
       go_wp2_with (first | (refine wpList_store_row rfl 23 _ _ rfl p5 na rfl rfl 23 (cellsB ta) HAy.out SNA.out.1 (by rw [HSA.out, SNA.out.2.2]) SNA.out.2.1 ?_; rw [HX3.out]) | fail)
       refine CS2.out.mono ?_
       rintro e x4 ⟨rfl, hBu⟩
       have HAu := hid (HAz.out.below hBu)
       have HBu := hid (HBz.out.below hBu)
       have BLu := hid (BLz.out.trans (hBu.mono BLz.out.size))
       have SXu : Hid (p6 < x4.heap.size) := hid (by have := SXz.out; have := hBu.size; omega)
       obtain ⟨x5, HX5⟩ : ∃ x5, Hid (x4.setRow p6 nb = x5) := ⟨_, rfl⟩
       have HAv : Hid (Bks x5 p5 (cellsB (clTo A num e1 (I + 1)))) := hid (by rw [<- HX5.out, HNA.out]; exact (setRow_other _ _ _ _ (by have := G56.out; omega)).trans HAu.out)
       have HBv : Hid (Bks x5 p6 (cellsB (clTo B num e2 (I + 1)))) := hid (by rw [<- HX5.out, HNB.out]; exact setRow_heap _ _ _ _ _ _ HBu.out)
       have BLv : Hid (Below w0.heap.size w0 x5) := hid (by rw [<- HX5.out]; exact bel_setRow BLu.out (by have := G56.out; omega) _)
       have SXv : Hid (p6 < x5.heap.size) := hid (by rw [<- HX5.out]; simp [World.setRow]; exact SXu.out)
       clear hBu CS2
       go_wp2_with (first | (refine wpList_store_row rfl 23 _ _ rfl p6 nb rfl rfl 23 (cellsB tb) HBu.out SNB.out.1 (by rw [HSB.out, SNB.out.2.2]) SNB.out.2.1 ?_; rw [HX5.out]) | fail)
       exact ⟨⟨I + 1, by omega, by rw [<- hdd.out]; exact congrArg (Value.int .i64) (by omega), by go_num, HNOQ, HAv, HBv, BLv, SXv⟩, by simp [intOf]; omega⟩
     case pos =>
      have etm0 : ((pl % 2 : Nat) : Int) = 1 := by rw [hpar]; rfl
      rw [etm0] at etm ewm
      rw [if_pos hpar] at HWL HWR
      clear hpar etm0 Hva Hvb
      go_wp2
      refine wp_region_held_drew (S := Below wr.heap.size wr) (by kernel_rfl) HSvb.out.drew (fun hHeld => ?_)
      have HS := hid hHeld
      clear hHeld
      change wpAnyH _ _ _ _ _ _ _ _ (World.drew _)
      obtain ⟨dve, HWD⟩ : ∃ x, Hid (World.drew vbw = x) := ⟨_, rfl⟩
      have BD : Hid (Below vbw.heap.size vbw dve) := hid (by rw [<- HWD.out]; exact (Below.refl _ _).drew)
      rw [HWD.out] at HS ⊢
      clear HWD
      refine wpAnyH_take (i := 0) (v := .pointer (some ⟨w.heap.size, 69, none⟩)) rfl (by kernel_rfl) (by kernel_rfl) (by kernel_rfl) (fun _ _ _ h => h) (Or.inl ⟨by rfl, ?q0⟩) HS.out ?_
      case q0 => intro W hSw; first | (go_simp; done) | (go_simp; rfl) | (go_simp; omega)
      simp only [Act.put, lay6]
      refine wpAnyH_take (i := 1) (v := .slice (some ⟨bc, oc, none⟩) k cca) rfl (by kernel_rfl) (by kernel_rfl) (by kernel_rfl) (fun _ _ _ h => h) (Or.inl ⟨by rfl, ?q1⟩) HS.out ?_
      case q1 => intro W hSw; have xx := (FCW.out W hSw).1; first | (go_simp; done) | (go_simp; rfl) | (go_simp; omega)
      simp only [Act.put, lay6]
      refine wpAnyH_take (i := 2) (v := .int .i64 (I : Int)) rfl (by kernel_rfl) (by kernel_rfl) (by kernel_rfl) (fun _ _ _ h => h) (Or.inl ⟨by rfl, ?q2⟩) HS.out ?_
      case q2 => intro W hSw; first | (go_simp; done) | (go_simp; rfl) | (go_simp; omega)
      simp only [Act.put, lay6]
      refine wpAnyH_take (i := 3) (v := .pointer (some ⟨bc, oc + I * 32, none⟩)) rfl (by kernel_rfl) (by kernel_rfl) (by kernel_rfl) (fun _ _ _ h => h) (Or.inl ⟨by rfl, ?q3⟩) HS.out ?_
      case q3 => intro W hSw; first | (go_simp; done) | (go_simp; rfl) | (go_simp; omega)
      simp only [Act.put, lay6]
      refine wpAnyH_take (i := 4) (v := .slice (some ⟨bc, oc + I * 32, none⟩) 32 32) rfl (by kernel_rfl) (by kernel_rfl) (by kernel_rfl) (fun _ _ _ h => h) (Or.inl ⟨by rfl, ?q4⟩) HS.out ?_
      case q4 => intro W hSw; first | (go_simp; done) | (go_simp; rfl) | (go_simp; omega)
      simp only [Act.put, lay6]
      refine wpAnyH_take (i := 5) (v := .slice (some ⟨p5, 0, none⟩) 32 32) rfl (by kernel_rfl) (by kernel_rfl) (by kernel_rfl) (fun _ _ _ h => h) (Or.inl ⟨by rfl, ?q5⟩) HS.out ?_
      case q5 => intro W hSw; first | (go_simp; done) | (go_simp; rfl) | (go_simp; omega)
      simp only [Act.put, lay6]
      have BA := (Below.refl dve.heap.size dve).alloc (Nat.le_refl _) (.cells #[.slice (some ⟨bc, oc + I * 32, none⟩) 32 32, .slice (some ⟨p5, 0, none⟩) 32 32] 34)
      have HG := heap_alloc_new dve (.cells #[.slice (some ⟨bc, oc + I * 32, none⟩) 32 32, .slice (some ⟨p5, 0, none⟩) 32 32] 34)
      have HSa := hid (HS.out.trans (BA.mono HS.out.size))
      have hb := HXX.out _ HSa.out
      have CL := hid (rlist_node _ _ cq ta (HL.two' HG hb.2.1 hb.1) cqD.out.1 taD.out.1)
      have BE := hid (BD.out.trans (BA.mono BD.out.size))
      clear BA HG hb BD
      refine wpAnyH_ready (rs := [6]) (by kernel_rfl) (by simp) ?_
      refine AllReadyH.cons rfl (fun K hK => ?_) AllReadyH.nil
      go_simp
      refine hK.out _ _ HSa.out (fun _ => ?_)
      clear hK K
      refine wpAnyH_ready (rs := [7]) (by kernel_rfl) (by simp) ?_
      refine AllReadyH.cons rfl (fun K hK => ?_) AllReadyH.nil
      go_simp
      refine CL.out.mono ?_
      rintro e vew ⟨ve, rfl, hve, hBve⟩
      have Hve := hid hve
      have HSve := hid (HSa.out.trans (hBve.mono HSa.out.size))
      have BVve := hid (BE.out.trans (hBve.mono BE.out.size))
      clear hve hBve CL HSa BE
      refine hK.out _ _ HSve.out (fun _ => ?_)
      clear hK K HS
      have HS := hid HSve.out
      refine wpAnyH_take (i := 8) (v := ve) rfl (by kernel_rfl) (by kernel_rfl) (by kernel_rfl) (fun _ _ _ h => h) (Or.inl ⟨by rfl, ?q8⟩) HS.out ?_
      case q8 => intro W hSw; first | (go_simp; done) | (go_simp; rfl) | (go_simp; omega)
      simp only [Act.put, lay6]
      clear HS
      refine wpAnyH_done (by kernel_rfl) ?_ _
      go_wp2
      refine wp_region_held_drew (S := Below wr.heap.size wr) (by kernel_rfl) HSve.out.drew (fun hHeld => ?_)
      have HS := hid hHeld
      clear hHeld
      change wpAnyH _ _ _ _ _ _ _ _ (World.drew _)
      obtain ⟨dvf, HWD⟩ : ∃ x, Hid (World.drew vew = x) := ⟨_, rfl⟩
      have BD : Hid (Below vew.heap.size vew dvf) := hid (by rw [<- HWD.out]; exact (Below.refl _ _).drew)
      rw [HWD.out] at HS ⊢
      clear HWD
      refine wpAnyH_take (i := 0) (v := .pointer (some ⟨w.heap.size + 1, 69, none⟩)) rfl (by kernel_rfl) (by kernel_rfl) (by kernel_rfl) (fun _ _ _ h => h) (Or.inl ⟨by rfl, ?q0⟩) HS.out ?_
      case q0 => intro W hSw; first | (go_simp; done) | (go_simp; rfl) | (go_simp; omega)
      simp only [Act.put, lay6]
      refine wpAnyH_take (i := 1) (v := .slice (some ⟨bd, od, none⟩) k ccb) rfl (by kernel_rfl) (by kernel_rfl) (by kernel_rfl) (fun _ _ _ h => h) (Or.inl ⟨by rfl, ?q1⟩) HS.out ?_
      case q1 => intro W hSw; have xx := (FCW.out W hSw).2; first | (go_simp; done) | (go_simp; rfl) | (go_simp; omega)
      simp only [Act.put, lay6]
      refine wpAnyH_take (i := 2) (v := .int .i64 (I : Int)) rfl (by kernel_rfl) (by kernel_rfl) (by kernel_rfl) (fun _ _ _ h => h) (Or.inl ⟨by rfl, ?q2⟩) HS.out ?_
      case q2 => intro W hSw; first | (go_simp; done) | (go_simp; rfl) | (go_simp; omega)
      simp only [Act.put, lay6]
      refine wpAnyH_take (i := 3) (v := .pointer (some ⟨bd, od + I * 32, none⟩)) rfl (by kernel_rfl) (by kernel_rfl) (by kernel_rfl) (fun _ _ _ h => h) (Or.inl ⟨by rfl, ?q3⟩) HS.out ?_
      case q3 => intro W hSw; first | (go_simp; done) | (go_simp; rfl) | (go_simp; omega)
      simp only [Act.put, lay6]
      refine wpAnyH_take (i := 4) (v := .slice (some ⟨bd, od + I * 32, none⟩) 32 32) rfl (by kernel_rfl) (by kernel_rfl) (by kernel_rfl) (fun _ _ _ h => h) (Or.inl ⟨by rfl, ?q4⟩) HS.out ?_
      case q4 => intro W hSw; first | (go_simp; done) | (go_simp; rfl) | (go_simp; omega)
      simp only [Act.put, lay6]
      refine wpAnyH_take (i := 5) (v := .slice (some ⟨p6, 0, none⟩) 32 32) rfl (by kernel_rfl) (by kernel_rfl) (by kernel_rfl) (fun _ _ _ h => h) (Or.inl ⟨by rfl, ?q5⟩) HS.out ?_
      case q5 => intro W hSw; first | (go_simp; done) | (go_simp; rfl) | (go_simp; omega)
      simp only [Act.put, lay6]
      have BA := (Below.refl dvf.heap.size dvf).alloc (Nat.le_refl _) (.cells #[.slice (some ⟨bd, od + I * 32, none⟩) 32 32, .slice (some ⟨p6, 0, none⟩) 32 32] 34)
      have HG := heap_alloc_new dvf (.cells #[.slice (some ⟨bd, od + I * 32, none⟩) 32 32, .slice (some ⟨p6, 0, none⟩) 32 32] 34)
      have HSa := hid (HS.out.trans (BA.mono HS.out.size))
      have hb := HXX.out _ HSa.out
      have CL := hid (rlist_node _ _ dq tb (HL.two' HG hb.2.2.2 hb.2.2.1) dqD.out.1 tbD.out.1)
      have BE := hid (BD.out.trans (BA.mono BD.out.size))
      clear BA HG hb BD
      refine wpAnyH_ready (rs := [6]) (by kernel_rfl) (by simp) ?_
      refine AllReadyH.cons rfl (fun K hK => ?_) AllReadyH.nil
      go_simp
      refine hK.out _ _ HSa.out (fun _ => ?_)
      clear hK K
      refine wpAnyH_ready (rs := [7]) (by kernel_rfl) (by simp) ?_
      refine AllReadyH.cons rfl (fun K hK => ?_) AllReadyH.nil
      go_simp
      refine CL.out.mono ?_
      rintro e vfw ⟨vf, rfl, hvf, hBvf⟩
      have Hvf := hid hvf
      have HSvf := hid (HSa.out.trans (hBvf.mono HSa.out.size))
      have BVvf := hid (BE.out.trans (hBvf.mono BE.out.size))
      clear hvf hBvf CL HSa BE
      refine hK.out _ _ HSvf.out (fun _ => ?_)
      clear hK K HS
      have HS := hid HSvf.out
      refine wpAnyH_take (i := 8) (v := vf) rfl (by kernel_rfl) (by kernel_rfl) (by kernel_rfl) (fun _ _ _ h => h) (Or.inl ⟨by rfl, ?q8⟩) HS.out ?_
      case q8 => intro W hSw; first | (go_simp; done) | (go_simp; rfl) | (go_simp; omega)
      simp only [Act.put, lay6]
      clear HS
      refine wpAnyH_done (by kernel_rfl) ?_ _
      have HLb : Hid (HB vfw ve xl) := hid (by rw [HWL.out]; exact Hve.out.below BVvf.out)
      have HRb : Hid (HB vfw vf xr) := hid (by rw [HWR.out]; exact Hvf.out)
      have HA9 := hid (HP.out.below HSvf.out)
      have HB9 := hid (HQ.out.below HSvf.out)
      have BL9 := hid (BL.out.trans (HSvf.out.mono BL.out.size))
      have CC := hid (clash_any vfw _ _ _ _ HLb.out HRb.out (by rw [HLNL.out]; decide) (by rw [HLNR.out]; decide))
      obtain ⟨cl, HCL⟩ : ∃ c, Hid (decide (xl ≠ xr /\ digL xl = digL xr) = c) := ⟨_, rfl⟩
      rw [HCL.out] at CC
      go_wp2_with fail
      refine CC.out.mono ?_
      rintro e x1 ⟨rfl, hBx⟩
      have HLx := hid (HLb.out.below hBx)
      have HRx := hid (HRb.out.below hBx)
      have HAx := hid (HA9.out.below hBx)
      have HBx := hid (HB9.out.below hBx)
      have BLx := hid (BL9.out.trans (hBx.mono BL9.out.size))
      have SXx : Hid (p6 < x1.heap.size) := hid (by have := HL6.out; have := HSvf.out.size; have := hBx.size; omega)
      clear hBx CC
      cases cl with
      | true =>
       go_wp2
       go_ret
       exact ⟨true, rfl, (fun h => by cases h), B0.out.trans (BLx.out.mono B0.out.size)⟩
      | false =>
       have HNOQ := hid (HNOS.out (of_decide_eq_false HCL.out))
       have CS1 := hid (rsum_any x1 _ _ HLx.out (by rw [HLNL.out]; decide))
       rw [<- HSTL.out] at CS1
       obtain ⟨na, HNA⟩ : ∃ c, Hid (cellsB (clTo A num e1 (I + 1)) = c) := ⟨_, rfl⟩
       obtain ⟨nb, HNB⟩ : ∃ c, Hid (cellsB (clTo B num e2 (I + 1)) = c) := ⟨_, rfl⟩
       have SNA := hid (HSD.out _ na nA.out HNA.out)
       have SNB := hid (HSD.out _ nb nB.out HNB.out)
       have HSA : Hid ((cellsB ta).size = 32) := hid (by rw [cellsB_size, taD.out.1])
       have HSB : Hid ((cellsB tb).size = 32) := hid (by rw [cellsB_size, tbD.out.1])
       rw [HNA.out] at CS1
       go_wp2_with fail
       refine CS1.out.mono ?_
       rintro e x2 ⟨rfl, hBy⟩
       have HRy := hid (HRx.out.below hBy)
       have HAy := hid (HAx.out.below hBy)
       have HBy := hid (HBx.out.below hBy)
       have BLy := hid (BLx.out.trans (hBy.mono BLx.out.size))
       have SXy : Hid (p6 < x2.heap.size) := hid (by have := SXx.out; have := hBy.size; omega)
       obtain ⟨x3, HX3⟩ : ∃ x3, Hid (x2.setRow p5 na = x3) := ⟨_, rfl⟩
       have HRz : Hid (HB x3 vf xr) := hid (by rw [<- HX3.out]; exact HRy.out.keepC (by rw [HLNR.out]; decide) HAy.out HSA.out na)
       have HAz : Hid (Bks x3 p5 na) := hid (by rw [<- HX3.out]; exact setRow_heap _ _ _ _ _ _ HAy.out)
       have HBz : Hid (Bks x3 p6 (cellsB tb)) := hid (by rw [<- HX3.out]; exact (setRow_other _ _ _ _ (by have := G56.out; omega)).trans HBy.out)
       have BLz : Hid (Below w0.heap.size w0 x3) := hid (by rw [<- HX3.out]; exact bel_setRow BLy.out G56.out.2 _)
       have SXz : Hid (p6 < x3.heap.size) := hid (by rw [<- HX3.out]; simp [World.setRow]; exact SXy.out)
       have CS2 := hid (rsum_any x3 _ _ HRz.out (by rw [HLNR.out]; decide))
       rw [<- HSTR.out, HNB.out] at CS2
       clear hBy CS1
       go_wp2_with (first | (refine wpList_store_row rfl 23 _ _ rfl p5 na rfl rfl 23 (cellsB ta) HAy.out SNA.out.1 (by rw [HSA.out, SNA.out.2.2]) SNA.out.2.1 ?_; rw [HX3.out]) | fail)
       refine CS2.out.mono ?_
       rintro e x4 ⟨rfl, hBu⟩
       have HAu := hid (HAz.out.below hBu)
       have HBu := hid (HBz.out.below hBu)
       have BLu := hid (BLz.out.trans (hBu.mono BLz.out.size))
       have SXu : Hid (p6 < x4.heap.size) := hid (by have := SXz.out; have := hBu.size; omega)
       obtain ⟨x5, HX5⟩ : ∃ x5, Hid (x4.setRow p6 nb = x5) := ⟨_, rfl⟩
       have HAv : Hid (Bks x5 p5 (cellsB (clTo A num e1 (I + 1)))) := hid (by rw [<- HX5.out, HNA.out]; exact (setRow_other _ _ _ _ (by have := G56.out; omega)).trans HAu.out)
       have HBv : Hid (Bks x5 p6 (cellsB (clTo B num e2 (I + 1)))) := hid (by rw [<- HX5.out, HNB.out]; exact setRow_heap _ _ _ _ _ _ HBu.out)
       have BLv : Hid (Below w0.heap.size w0 x5) := hid (by rw [<- HX5.out]; exact bel_setRow BLu.out (by have := G56.out; omega) _)
       have SXv : Hid (p6 < x5.heap.size) := hid (by rw [<- HX5.out]; simp [World.setRow]; exact SXu.out)
       clear hBu CS2
       go_wp2_with (first | (refine wpList_store_row rfl 23 _ _ rfl p6 nb rfl rfl 23 (cellsB tb) HBu.out SNB.out.1 (by rw [HSB.out, SNB.out.2.2]) SNB.out.2.1 ?_; rw [HX5.out]) | fail)
       exact ⟨⟨I + 1, by omega, by rw [<- hdd.out]; exact congrArg (Value.int .i64) (by omega), by go_num, HNOQ, HAv, HBv, BLv, SXv⟩, by simp [intOf]; omega⟩
end Go.Proofs.YtdgollnapbonjaaGreatDoor
