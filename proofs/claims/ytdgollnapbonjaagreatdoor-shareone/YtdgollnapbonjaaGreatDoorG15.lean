/- Of the road to shareOneCard_holds: ShTag, TgRefB, ShNodes, ShRoot. -/
import Derived.Test.YtdgollnapbonjaaGreatDoorG13
import Derived.Test.YtdgollnapbonjaaGreatDoorG14
import Derived.Test.YtdgollnapbonjaaGreatDoorG08
import Derived.Test.YtdgollnapbonjaaGreatDoorG10
import Derived.Test.YtdgollnapbonjaaGreatDoorG11
set_option linter.unusedVariables false
set_option linter.unusedSimpArgs false
set_option maxRecDepth 100000
set_option maxHeartbeats 16000000
namespace Go.Proofs.YtdgollnapbonjaaGreatDoor
open Go Go.RowKit
section
open Ev
theorem t1B_root {d : List Int} (h : d.length = 32) : t1B wRoot d = num8 15 ++ (wRoot ++ (num8 32 ++ d)) := by
 unfold t1B
 rw [framed_cons, framed_cons, framed_nil, List.append_nil, h]
 rfl
def envR (l : List Int) : Env := ⟨fun i => if i < 32 then l.getD i 0 else (rtL l).getD (i - 32) 0, fun _ => .tuple #[], fun _ _ _ => 0⟩
def expR : List SV := lI (num8 15) ++ (lI wRoot ++ (lI (num8 32) ++ vI 0 32))
theorem expR_inst {l : List Int} (hl : D32 l) (ms : List Nat) : expR.map (SV.inst (envR l) ms) = ((t1B wRoot l).map (Value.int .u8)).map some := by
 rw [t1B_root hl.1]
 unfold expR
 simp only [List.map_append, lI_inst]
 rw [vI_inst (envR l) ms 0 32 l hl.1 (fun i hi => by simp [envR, hi])]
theorem t1B_byt {l : List Int} (hl : D32 l) : ByI (t1B wRoot l) := by
 rw [t1B_root hl.1]
 have k : ∀ l : List Int, (l.all fun x => decide (0 <= x /\ x < 256)) = true -> ByI l := fun l h x hx => by simpa using List.all_eq_true.1 h x hx
 have a : ∀ a b : List Int, ByI a -> ByI b -> ByI (a ++ b) := fun a b ha hb x hx => (List.mem_append.1 hx).elim (ha x) (hb x)
 exact a _ _ (k _ (by decide)) (a _ _ (k _ (by decide)) (a _ _ (k _ (by decide)) hl.2))
theorem root_ev : evCallF Tryz.prog noLore (conSum expR 32) 100 36 [.tv (.agg (vI 0 32))] HK = some (.tv (.agg (vI 32 32)), HK) := by kernel_rfl
theorem root_any (w : World) (l : List Int) (hl : D32 l) (hk : KC w) : Calls Tryz.prog 36 #[.agg (cellsB l)] w fun e w' => e = .returned (.agg (cellsB (rtL l))) /\ Below w.heap.size w w' := by
 have hcon : ConOk Tryz.prog (envR l) (conSum expR 32) := conSum_ok (m := t1B wRoot l) (t1B_byt hl) (by rw [t1B_root hl.1]; simp [num8, wRoot, hl.1]) (expR_inst hl) (fun i hi => by
  simp only [envR]
  rw [if_neg (by omega), show 32 + i - 32 = i by omega]
  rfl)
 refine (calls_of_evHF (noLore_ok (envR l)) hcon mixedOrders 100 root_ev (args := #[.agg (cellsB l)]) w ?_ (holdsK (envR l) w hk)).mono ?_
 ·simp only [List.map_cons, List.map_nil]
  rw [agg_inst (vI_inst (envR l) ms0 0 32 l hl.1 (fun i hi => by simp [envR, hi]))]
 ·rintro e w' ⟨ms, u, rfl, _, h1, _, h3⟩
  rw [agg_inst (vI_inst (envR l) ms 32 32 (rtL l) (digL_length _) (fun i hi => by
   simp only [envR]
   rw [if_neg (by omega), show 32 + i - 32 = i by omega]))] at h1
  simp only [Option.some.injEq] at h1
  rw [<- h1]
  exact ⟨rfl, h3⟩
def roH (H : List Blk) : List Blk := H.map fun k => ⟨true, k.pl, k.cap, k.cells⟩
theorem roH_get {H : List Blk} {i : Nat} {k : Blk} (h : (roH H)[i]? = some k) : ∃ k0, H[i]? = some k0 /\ k = ⟨true, k0.pl, k0.cap, k0.cells⟩ := by
 unfold roH at h
 rw [List.getElem?_map, Option.map_eq_some_iff] at h
 obtain ⟨k0, h1, h2⟩ := h
 exact ⟨k0, h1, h2.symm⟩
theorem holds_ro {ρ : Env} {ms : List Nat} {H : List Blk} {B : Nat} {w : World} (h : Holds ρ ms H B w) : Holds ρ ms (roH H) w.heap.size w where
 len := by rw [h.len]; simp [roH]
 gl := h.gl
 inj := fun i j b k k' hi hj hk hk' hn hn' => by
  obtain ⟨k0, e0, rfl⟩ := roH_get hk
  obtain ⟨k1, e1, rfl⟩ := roH_get hk'
  exact h.inj i j b k0 k1 hi hj e0 e1 hn hn'
 low := fun i b k hi hk hr => by
  obtain ⟨k0, e0, rfl⟩ := roH_get hk
  cases hr
 bnd := fun i b k hi hk hn => by
  obtain ⟨k0, e0, rfl⟩ := roH_get hk
  exact h.bnd i b k0 hi e0 hn
 big := Nat.le_refl _
 plain := fun i k hk hp => by
  obtain ⟨k0, e0, rfl⟩ := roH_get hk
  exact h.plain i k0 e0 hp
 cell := fun i b k hi hk j s hs => by
  obtain ⟨k0, e0, rfl⟩ := roH_get hk
  obtain ⟨v, h1, h2, h3⟩ := h.cell i b k0 hi e0 j s hs
  exact ⟨v, h1, h2, fun hr => by cases hr⟩
 room := fun i b c k0 k hi hc hk0 hr hn hk hcap => by
  obtain ⟨k1, e0, rfl⟩ := roH_get hk0
  cases hr
theorem fitB_ev (a : Addr) (N C : Nat) : evCallF Tryz.prog noLore noCon 100 99 [.tv (.sc (.int .u8 (.lit 3))), .tv (.sc (.sl 2 0 1 1))] (roH (H0 ++ [newBlk [.sla a N C]])) = some (.tv (.sc (.bool true)), roH (H0 ++ [newBlk [.sla a N C]])) := by kernel_rfl
theorem fit_block (w : World) (g : Nat) (a : Addr) (N C : Nat) (T : TypeId) (h : w.heap[g]? = some (.cells #[.slice (some a) N C] T (0, 0))) : Calls Tryz.prog 99 #[.int .u8 3, .slice (some ⟨g, 0, none⟩) 1 1] w fun e w' => e = .returned (.bool true) /\ Below w.heap.size w w' := by
 have hlt : g < w.heap.size := (Array.getElem?_eq_some_iff.1 h).1
 have hH : Holds noEnv (ms0 ++ [g]) (H0 ++ [newBlk [.sla a N C]]) g w := by
  refine (holds_any noEnv w (Nat.le_of_lt hlt)).known (l := [.sla a N C]) (vs := [.slice (some a) N C]) rfl (b0 := g) (Nat.le_refl _) hlt (fun i b k _ hk hne => absurd (dead0 hk) hne) (fun j v hv => ?_)
  match j, hv with
  | 0, hv =>
   obtain rfl := Option.some.inj hv
   exact ⟨(cell_of_row w g 0 _ _ _ h).trans rfl, by simp [World.frozen?, h]⟩
  | j + 1, hv => simp at hv
 refine (calls_of_evHF (noLore_ok noEnv) (noCon_ok _ noEnv) mixedOrders 100 (fitB_ev a N C) (args := #[.int .u8 3, .slice (some ⟨g, 0, none⟩) 1 1]) w ?_ (holds_ro hH)).mono ?_
 ·have e1 : (ms0 ++ [g])[2]? = some g := by simp [ms0, nGl]
  simp [AV.inst, TV.inst, SV.inst, Ex.den, e1]
 ·rintro e w' ⟨ms, u, rfl, _, h1, _, h3⟩
  simp only [AV.inst, TV.inst, SV.inst, Option.some.injEq] at h1
  exact ⟨by rw [<- h1], h3⟩
end
def sBlock : ByteArray := ⟨(wBlock.map fun x => UInt8.ofNat x.toNat).toArray⟩
theorem sBlock_strI : strI sBlock = wBlock := by decide
theorem word_block (w : World) : Calls Tryz.prog 98 #[.int .u8 3] w fun e w' => e = .returned (.string sBlock) /\ w' = w := by
 go_enter Tryz.func98, Tryz.ntmps98
 go_wp2
 go_ret
 exact ⟨rfl, rfl⟩
theorem HL.one {w : World} {g : Nat} {T : TypeId} {u : Value} {l : List Int} (h : w.heap[g]? = some (.cells #[u] T (0, 0))) (hb : HB w u l) : HL w (.slice (some ⟨g, 0, none⟩) 1 1) [l] := by
 refine ⟨_, 1, rfl, Nat.le_refl _, by unfold maxLen; omega, (fun e => by cases e), fun _ => ⟨g, 0, rfl, fun j hj => ?_⟩⟩
 match j, hj with
 | 0, _ => exact ⟨u, (cell_of_row w g 0 _ _ _ h).trans rfl, hb⟩
theorem tbytes_block (w : World) (g : Nat) (a : Addr) (N C : Nat) (T : TypeId) (l : List Int) (h : w.heap[g]? = some (.cells #[.slice (some a) N C] T (0, 0))) (hl : HB w (.slice (some a) N C) l) (hn : l.length <= 100000) : Calls Tryz.prog 90 #[.int .u8 3, .slice (some ⟨g, 0, none⟩) 1 1] w fun e w' => ∃ v, e = .returned (.tuple #[v, .int .i64 0]) /\ HB w' v (t1B wBlock l) /\ Below w.heap.size w w' := by
 have C1 := hid fun w => word_block w
 have hlt : g < w.heap.size := (Array.getElem?_eq_some_iff.1 h).1
 have HLT := hid hlt
 have HG := hid h
 have HLl := hid hl
 have C2 := hid (fit_block w g a N C T h)
 have SI := hid sBlock_strI
 have hs1 : sBlock.size <= 1000 := by decide
 have hse : sBlock.toList.isEmpty = false := by decide +kernel
 obtain ⟨sb, HSB⟩ : ∃ x, Hid (sBlock = x) := ⟨_, rfl⟩
 rw [HSB.out] at C1 SI hs1 hse
 clear h hl hlt
 go_enter Tryz.func90, Tryz.ntmps90
 go_wp2_with fail
 refine (C1.out w).mono ?_
 rintro e w1 ⟨rfl, rfl⟩
 clear C1
 go_wp2_with fail
 refine C2.out.mono ?_
 rintro e w2 ⟨rfl, hb2⟩
 have B2 := hid hb2
 have L2 := hid (HLl.out.below hb2)
 have G2 := hid ((hb2.block g HLT.out).trans HG.out)
 clear hb2 C2
 go_wp2_with (first | (refine wpList_bytes_str rfl _ rfl sb rfl hs1 (fun v3 w3 hv3 hb3 => Hid.out ?_)) | fail)
 rw [SI.out] at hv3
 have B3 := hid (B2.out.trans (hb3.mono B2.out.size))
 have L3 := hid (L2.out.below hb3)
 have G3 := hid ((hb3.block g (by have := HLT.out; have := B2.out.size; omega)).trans G2.out)
 have V3 := hid hv3
 obtain ⟨p3, c3, rfl, _, _⟩ := hv3.open
 have hw3 : wBlock.length = 16 := rfl
 rw [hw3] at V3
 rw [hw3]
 have HA := hid (heap_alloc_new w3 (.cells #[.slice p3 16 c3] 34))
 have HAB := hid ((Below.refl w3.heap.size w3).alloc (Nat.le_refl _) (.cells #[.slice p3 16 c3] 34))
 have HO : Hid (OWL w3 (w3.alloc (.cells #[.slice p3 16 c3] 34)) (.slice (some ⟨w3.heap.size, 0, none⟩) 1 1) [wBlock]) := by
  refine hid ⟨[.slice p3 16 c3], ⟨rfl, .inr ⟨w3.heap.size, 1, _, rfl, Nat.le_refl _, HA.out, Nat.le_refl _, by unfold maxLen; omega, rfl, rfl⟩⟩, fun j hj => ?_⟩
  match j, hj with
  | 0, _ => exact .inr V3.out
 have GA := hid ((heap_alloc_old w3 (.cells #[.slice p3 16 c3] 34) (show g < w3.heap.size by have := HLT.out; have := B3.out.size; omega)).trans G3.out)
 have B4 := hid (B3.out.alloc B3.out.size (.cells #[.slice p3 16 c3] 34))
 have S4 : Hid ((w3.alloc (.cells #[.slice p3 16 c3] 34)).heap.size = w3.heap.size + 1) := by refine hid ?_; simp
 clear hb3 hv3 hw3
 refine hid ?_
 go_wp2_with (at_builtin; refine wpList_append_OWL (w0 := w3) rfl _ _ rfl _ _ rfl HO.out ⟨g, 0, none⟩ 1 1 [.slice (some a) N C] [l] rfl rfl rfl ?q0 ?q1 ?q2 (by simp) (by rw [S4.out]; omega) ?_)
 case q0 =>
  intro j u hu
  match j, hu with
  | 0, hu =>
   obtain rfl := Option.some.inj hu
   exact (cell_of_row _ g 0 _ _ _ GA.out).trans rfl
  | j + 1, hu => simp at hu
 case q1 =>
  intro j hj
  match j, hj with
  | 0, _ => exact .inr L3.out
 case q2 =>
  intro u hu
  simp only [List.mem_cons, List.not_mem_nil, or_false] at hu
  subst hu
  rfl
 intro v5 w5 ho5 hg5 hbk5
 have B5 := hid (B4.out.grown hg5 B4.out.size (fun q e => by have := (hbk5 q e).1; have := B3.out.size; omega))
 have b35 : Below w3.heap.size w3 w5 := HAB.out.grown hg5 (by rw [S4.out]; omega) (fun q e => (hbk5 q e).1)
 have H5 := hid (ho5.hl b35)
 have CF := hid (framed_any w5 v5 _ H5.out (by simp [wBlock]; omega))
 clear ho5 hg5 hbk5 b35
 go_wp2_with fail
 refine CF.out.mono ?_
 rintro e w6 ⟨v6, rfl, _, hb6, hB6⟩
 have H6 := hid hb6
 have B6 := hid (B5.out.trans (hB6.mono B5.out.size))
 clear hb6 hB6 CF
 go_wp2
 go_ret2
 exact ⟨_, rfl, H6.out, B6.out⟩
theorem tdigest_block (w : World) (g : Nat) (a : Addr) (N C : Nat) (T : TypeId) (l : List Int) (h : w.heap[g]? = some (.cells #[.slice (some a) N C] T (0, 0))) (hl : HB w (.slice (some a) N C) l) (hn : l.length <= 100000) (hk : KC w) : Calls Tryz.prog 76 #[.int .u8 3, .slice (some ⟨g, 0, none⟩) 1 1] w fun e w' => e = .returned (.tuple #[.agg (cellsB (bkL1 l)), .int .i64 0]) /\ Below w.heap.size w w' := by
 obtain ⟨zd, HZD⟩ : ∃ zd, Hid (cellsB zeros32 = zd) := ⟨_, rfl⟩
 obtain ⟨W0, hW0⟩ : ∃ W0, Hid (w.alloc (.cells zd 23) = W0) := ⟨_, rfl⟩
 have B0 : Hid (Below w.heap.size w W0) := by rw [<- hW0.out]; exact (Below.refl _ w).alloc (Nat.le_refl _) _
 have R0 : Hid (W0.heap[w.heap.size]? = some (.cells zd 23 (0, 0))) := by rw [<- hW0.out]; exact heap_alloc_new w _
 have Z0 : Hid (W0.heap.size = w.heap.size + 1) := by refine hid ?_; rw [<- hW0.out]; simp
 have DL := hid (digL_length (t1B wBlock l))
 unfold bkL1
 obtain ⟨y, HY⟩ : ∃ y, Hid (cellsB (digL (t1B wBlock l)) = y) := ⟨_, rfl⟩
 have SY : Hid ((Tryz.prog.info? 23).map (·.size) = some y.size) := by refine hid ?_; rw [<- HY.out, cellsB_size, DL.out]; exact size_digest
 have OY : Hid (y.all (·.oneCell') = true) := by refine hid ?_; rw [<- HY.out]; exact cellsB_one _
 have ZY : Hid (zd.size = y.size) := by refine hid ?_; rw [<- HZD.out, <- HY.out, cellsB_size, cellsB_size, DL.out, zeros32_length]
 have hlt : g < w.heap.size := (Array.getElem?_eq_some_iff.1 h).1
 have C1 := hid (tbytes_block W0 g a N C T l ((B0.out.block g hlt).trans h) (hl.below B0.out) hn)
 have HK := hid hk
 have LT : Hid ((t1B wBlock l).length <= 200000) := by refine hid ?_; unfold t1B; rw [framed_length]; simp [wBlock]; omega
 rw [HY.out]
 clear h hl hk
 go_enter Tryz.func76, Tryz.ntmps76
 go_wp2_with (first | (refine wpList_alloc_digest rfl rfl ?_; rw [HZD.out, hW0.out]) | fail)
 refine C1.out.mono ?_
 rintro e w1 ⟨v1, rfl, hv1, hb1⟩
 have B1 := hid (B0.out.trans (hb1.mono B0.out.size))
 have R1 := hid ((hb1.block w.heap.size (by rw [Z0.out]; omega)).trans R0.out)
 have V1 := hid hv1
 obtain ⟨p1, c1, rfl, _, _⟩ := hv1.open
 obtain ⟨L, HLn⟩ : ∃ L, Hid ((t1B wBlock l).length = L) := ⟨_, rfl⟩
 rw [HLn.out] at V1
 rw [HLn.out]
 have HA := hid (heap_alloc_new w1 (.cells #[.slice p1 L c1] 34))
 have BA := hid ((Below.refl w1.heap.size w1).alloc (Nat.le_refl _) (.cells #[.slice p1 L c1] 34))
 have CS := sums_any (w1.alloc (.cells #[.slice p1 L c1] 34)) _ [t1B wBlock l] (HL.one HA.out (V1.out.below BA.out)) ((HK.out.below B1.out).below BA.out) (by have := LT.out; simp; omega)
 rw [show [t1B wBlock l].flatten = t1B wBlock l by simp, HY.out] at CS
 have CS := hid CS
 have B2 := hid (B1.out.trans (BA.out.mono B1.out.size))
 have R2 := hid ((BA.out.block w.heap.size (by have := B1.out.size; have := hb1.size; rw [Z0.out] at this; omega)).trans R1.out)
 have S2 : Hid (w.heap.size < (w1.alloc (.cells #[.slice p1 L c1] 34)).heap.size) := hid (by have := hb1.size; rw [Z0.out] at this; simp; omega)
 clear hb1 hv1 C1
 go_wp2_with fail
 refine CS.out.mono ?_
 rintro e w3 ⟨rfl, hb3⟩
 have B3 := hid (B2.out.trans (hb3.mono B2.out.size))
 have R3 := hid ((hb3.block w.heap.size S2.out).trans R2.out)
 clear hb3 CS
 go_wp2_with (first | (refine wpList_store_row rfl 23 _ _ rfl w.heap.size y rfl rfl 23 _ R3.out SY.out ZY.out OY.out ?_) | fail)
 refine bodyPost_ret (v := .tuple #[.agg y, .int .i64 0]) (results_cellT (p := 4) (u := 5) (ty := 23) rfl _ _ w.heap.size 23 y (0, 0) _ rfl (setRow_heap _ _ _ _ _ _ R3.out) Tryz.underlying23 rfl SY.out _ rfl) rfl ?_
 exact ⟨rfl, bel_setRow B3.out (Nat.le_refl _) _⟩
theorem of_block (w : World) (g : Nat) (a : Addr) (N C : Nat) (T : TypeId) (l : List Int) (h : w.heap[g]? = some (.cells #[.slice (some a) N C] T (0, 0))) (hl : HB w (.slice (some a) N C) l) (hn : l.length <= 100000) (hk : KC w) : Calls Tryz.prog 59 #[.int .u8 3, .slice (some ⟨g, 0, none⟩) 1 1] w fun e w' => e = .returned (.agg (cellsB (bkL1 l))) /\ Below w.heap.size w w' := by
 obtain ⟨zd, HZD⟩ : ∃ zd, Hid (cellsB zeros32 = zd) := ⟨_, rfl⟩
 obtain ⟨W0, hW0⟩ : ∃ W0, Hid (w.alloc (.cells zd 23) = W0) := ⟨_, rfl⟩
 have B0 : Hid (Below w.heap.size w W0) := by rw [<- hW0.out]; exact (Below.refl _ w).alloc (Nat.le_refl _) _
 have R0 : Hid (W0.heap[w.heap.size]? = some (.cells zd 23 (0, 0))) := by rw [<- hW0.out]; exact heap_alloc_new w _
 have Z0 : Hid (W0.heap.size = w.heap.size + 1) := by refine hid ?_; rw [<- hW0.out]; simp
 have DL := hid (digL_length (t1B wBlock l))
 unfold bkL1
 obtain ⟨y, HY⟩ : ∃ y, Hid (cellsB (digL (t1B wBlock l)) = y) := ⟨_, rfl⟩
 have SY : Hid ((Tryz.prog.info? 23).map (·.size) = some y.size) := by refine hid ?_; rw [<- HY.out, cellsB_size, DL.out]; exact size_digest
 have OY : Hid (y.all (·.oneCell') = true) := by refine hid ?_; rw [<- HY.out]; exact cellsB_one _
 have ZY : Hid (zd.size = y.size) := by refine hid ?_; rw [<- HZD.out, <- HY.out, cellsB_size, cellsB_size, DL.out, zeros32_length]
 have hlt : g < w.heap.size := (Array.getElem?_eq_some_iff.1 h).1
 have C1 := tdigest_block W0 g a N C T l ((B0.out.block g hlt).trans h) (hl.below B0.out) hn (hk.below B0.out)
 unfold bkL1 at C1
 rw [HY.out] at C1
 have C1 := hid C1
 rw [HY.out]
 clear h hl hk
 go_enter Tryz.func59, Tryz.ntmps59
 go_wp2_with (first | (refine wpList_alloc_digest rfl rfl ?_; rw [HZD.out, hW0.out]) | fail)
 refine C1.out.mono ?_
 rintro e w1 ⟨rfl, hb1⟩
 have B1 := hid (B0.out.trans (hb1.mono B0.out.size))
 have R1 := hid ((hb1.block w.heap.size (by rw [Z0.out]; omega)).trans R0.out)
 have S1 : Hid (w.heap.size < w1.heap.size) := hid (by have := hb1.size; rw [Z0.out] at this; omega)
 have ZA := hid (heap_alloc_new w1 (.cells zd 23))
 obtain ⟨w2, HW2⟩ : ∃ x, Hid ((w1.alloc (.cells zd 23)).setRow w1.heap.size y = x) := ⟨_, rfl⟩
 have Y2 : Hid (w2.heap[w1.heap.size]? = some (.cells y 23 (0, 0))) := by refine hid ?_; rw [<- HW2.out]; exact setRow_heap _ _ _ _ _ _ ZA.out
 have B2 : Hid (Below w.heap.size w w2) := by refine hid ?_; rw [<- HW2.out]; exact bel_setRow (B1.out.alloc B1.out.size _) B1.out.size _
 have R2 : Hid (w2.heap[w.heap.size]? = some (.cells zd 23 (0, 0))) := by
  refine hid ?_
  rw [<- HW2.out]
  have s1 := S1.out
  exact ((by simp [World.setRow, Array.getElem?_modify, show w1.heap.size ≠ w.heap.size by omega] : ((w1.alloc (.cells zd 23)).setRow w1.heap.size y).heap[w.heap.size]? = (w1.alloc (.cells zd 23)).heap[w.heap.size]?).trans (heap_alloc_old w1 _ s1)).trans R1.out
 clear hb1 C1
 go_wp2_with (first | (refine wpList_alloc_digest rfl rfl ?_; rw [HZD.out]) | (refine wpList_store_row rfl 23 _ _ rfl w1.heap.size y rfl rfl 23 _ ZA.out SY.out ZY.out OY.out ?_; rw [HW2.out]) | (refine wpList_load_row rfl 23 _ rfl w1.heap.size rfl 23 y (0, 0) _ Y2.out Tryz.underlying23 rfl SY.out ?_) | (refine wpList_store_row rfl 23 _ _ rfl w.heap.size y rfl rfl 23 _ R2.out SY.out ZY.out OY.out ?_) | fail)
 refine bodyPost_ret (v := .agg y) (results_cell_row (p := 4) (ty := 23) rfl _ _ w.heap.size 23 y (0, 0) _ rfl (setRow_heap _ _ _ _ _ _ R2.out) Tryz.underlying23 rfl SY.out) rfl ?_
 exact ⟨rfl, bel_setRow B2.out (Nat.le_refl _) _⟩
theorem tblock_any (w : World) (v : Value) (l : List Int) (h : HB w v l) (h0 : 0 < l.length) (hn : l.length <= 100000) (hk : KC w) : Calls Tryz.prog 38 #[v] w fun e w' => e = .returned (.agg (cellsB (bkL1 l))) /\ Below w.heap.size w w' := by
 obtain ⟨zd, HZD⟩ : ∃ zd, Hid (cellsB zeros32 = zd) := ⟨_, rfl⟩
 obtain ⟨W0, hW0⟩ : ∃ W0, Hid (w.alloc (.cells zd 23) = W0) := ⟨_, rfl⟩
 have B0 : Hid (Below w.heap.size w W0) := by rw [<- hW0.out]; exact (Below.refl _ w).alloc (Nat.le_refl _) _
 have R0 : Hid (W0.heap[w.heap.size]? = some (.cells zd 23 (0, 0))) := by rw [<- hW0.out]; exact heap_alloc_new w _
 have Z0 : Hid (W0.heap.size = w.heap.size + 1) := by refine hid ?_; rw [<- hW0.out]; simp
 have DL := hid (digL_length (t1B wBlock l))
 unfold bkL1
 obtain ⟨y, HY⟩ : ∃ y, Hid (cellsB (digL (t1B wBlock l)) = y) := ⟨_, rfl⟩
 have SY : Hid ((Tryz.prog.info? 23).map (·.size) = some y.size) := by refine hid ?_; rw [<- HY.out, cellsB_size, DL.out]; exact size_digest
 have OY : Hid (y.all (·.oneCell') = true) := by refine hid ?_; rw [<- HY.out]; exact cellsB_one _
 have ZY : Hid (zd.size = y.size) := by refine hid ?_; rw [<- HZD.out, <- HY.out, cellsB_size, cellsB_size, DL.out, zeros32_length]
 obtain ⟨b, off, c, rfl⟩ : ∃ b off c, v = .slice (some ⟨b, off, none⟩) l.length c := by
  obtain ⟨⟨p, c, e1, _, _, _, hh⟩, _⟩ := h
  obtain ⟨b, off, rfl, _⟩ := hh (by intro e; rw [e] at h0; simp at h0)
  exact ⟨b, off, c, e1⟩
 have HA := hid (heap_alloc_new W0 (.cells #[.slice (some ⟨b, off, none⟩) l.length c] 34))
 have BA := hid ((Below.refl W0.heap.size W0).alloc (Nat.le_refl _) (.cells #[.slice (some ⟨b, off, none⟩) l.length c] 34))
 have C1 := of_block (W0.alloc (.cells #[.slice (some ⟨b, off, none⟩) l.length c] 34)) W0.heap.size ⟨b, off, none⟩ l.length c 34 l HA.out ((h.below B0.out).below BA.out) hn ((hk.below B0.out).below BA.out)
 unfold bkL1 at C1
 rw [HY.out] at C1
 have C1 := hid C1
 rw [HY.out]
 have B1 := hid (B0.out.trans (BA.out.mono B0.out.size))
 have R1 := hid ((BA.out.block w.heap.size (by rw [Z0.out]; omega)).trans R0.out)
 have S1 : Hid (w.heap.size < (W0.alloc (.cells #[.slice (some ⟨b, off, none⟩) l.length c] 34)).heap.size) := hid (by simp; rw [Z0.out]; omega)
 clear h hk
 go_enter Tryz.func38, Tryz.ntmps38
 go_wp2_with (first | (refine wpList_alloc_digest rfl rfl ?_; rw [HZD.out, hW0.out]) | fail)
 refine C1.out.mono ?_
 rintro e w2 ⟨rfl, hb2⟩
 have B2 := hid (B1.out.trans (hb2.mono B1.out.size))
 have R2 := hid ((hb2.block w.heap.size S1.out).trans R1.out)
 clear hb2 C1
 go_wp2_with (first | (refine wpList_store_row rfl 23 _ _ rfl w.heap.size y rfl rfl 23 _ R2.out SY.out ZY.out OY.out ?_) | fail)
 refine bodyPost_ret (v := .agg y) (results_cell_row (p := 2) (ty := 23) rfl _ _ w.heap.size 23 y (0, 0) _ rfl (setRow_heap _ _ _ _ _ _ R2.out) Tryz.underlying23 rfl SY.out) rfl ?_
 exact ⟨rfl, bel_setRow B2.out (Nat.le_refl _) _⟩
def sblock : ByteArray := ⟨(wBlock.map fun x => UInt8.ofNat x.toNat).toArray⟩
theorem sblock_strI : strI sblock = wBlock := by decide
theorem rword_block (w : World) : Calls Tryz.prog 47 #[.int .u8 3] w fun e w' => e = .returned (.string sblock) /\ w' = w := by
 go_enter Tryz.func47, Tryz.ntmps47
 go_wp2
 go_ret
 exact ⟨rfl, rfl⟩
theorem rbytes_block (w : World) (v : Value) (ps : List (List Int)) (h : HL w v ps) (hF : ∀ w', Below w.heap.size w w' -> Calls Tryz.prog 48 #[.int .u8 3, v] w' fun e w'' => e = .returned (.bool true) /\ w'' = w') (hbig : ps.flatten.length + 8 * ps.length <= 100000000000000) :
  Calls Tryz.prog 29 #[.int .u8 3, v] w fun e w' => ∃ v', e = .returned (.tuple #[v', .int .i64 0]) /\ w'.ownsRow w.heap.size 5 1 v' (framed (strI sblock :: ps)).length ((framed (strI sblock :: ps)).map (Value.int .u8)) /\ Below w.heap.size w w' := by
 have hsz : sblock.size <= 1000 := by decide
 have hse : sblock.toList.isEmpty = false := by decide +kernel
 have A0 := hid h
 obtain ⟨p, c, e, hlc, hm⟩ := h.open
 unfold maxLen at hm
 have A : Hid (0 < ps.length -> ∃ b off, p = some ⟨b, off, none⟩ /\ ∀ j, j < ps.length -> ∃ u, w.cell? ⟨b, off + j, none⟩ = some u /\ HB w u (ps.getD j [])) := by
  intro h0
  obtain ⟨b, off, c', e', _, _, hh⟩ := h.ne h0
  rw [e] at e'
  simp only [Value.slice.injEq, true_and] at e'
  exact ⟨b, off, e'.1, hh⟩
 have HF := hid hF
 obtain ⟨n, HN⟩ : ∃ n, Hid (ps.length = n) := ⟨_, rfl⟩
 have HBig := hid hbig
 rw [HN.out] at e hlc hbig
 subst e
 clear h hF
 go_enter Tryz.func29, Tryz.ntmps29
 go_wp2_with fail
 refine (rword_block _).mono ?_
 rintro e w1 ⟨rfl, rfl⟩
 go_wp2_with fail
 refine (HF.out _ (Below.refl _ _)).mono ?_
 rintro e w2 ⟨rfl, rfl⟩
 go_wp2_with fail
 refine (rword_block _).mono ?_
 rintro e w3 ⟨rfl, rfl⟩
 go_wp2_with (refine wpList_bytes_str rfl _ rfl sblock rfl hsz ?_)
 intro v4 w4 hb4 hB4
 have HB4 := hid hb4
 have BL4 := hid hB4
 clear hb4 hB4
 go_wp2_with fail
 refine (rframe_any w4 v4 _ HB4.out (by rw [strI_length]; omega)).mono ?_
 rintro e w5 ⟨v5, rfl, ho5, hB5⟩
 have HO5 : Hid (w5.ownsRow w3.heap.size 5 1 v5 (frK (strI sblock) ps 0).length ((frK (strI sblock) ps 0).map (Value.int .u8))) := by
  rw [frK_zero]
  exact own_mono ho5 BL4.out.size
 have BL5 := hid (BL4.out.trans (hB5.mono BL4.out.size))
 clear ho5 hB5
 go_wp2
 go_loopw [6, 7] (fun o i wr => ∃ k : Nat, k <= n /\ i = .int .i64 k /\ Hid (wr.ownsRow w3.heap.size 5 1 o (frK (strI sblock) ps k).length ((frK (strI sblock) ps k).map (Value.int .u8))) /\ Hid (Below w3.heap.size w3 wr)) (fun _ i _ => n - (intOf i).toNat)
 case atStart => exact ⟨0, Nat.zero_le _, rfl, HO5, BL5⟩
 case round =>
  obtain ⟨k, hk, rfl, HO, HBel⟩ := hrel
  by_cases hlt : k < n
  ·obtain ⟨b, off, rfl, hh⟩ := A.out (by rw [HN.out]; omega)
   obtain ⟨u, hu0, hb⟩ := hh k (by rw [HN.out]; exact hlt)
   have hu : wr.cell? ⟨b, off + k, none⟩ = some u := (HBel.out.cell (World.block_lt_of_cell? w3 _ hu0)).trans hu0
   have HBu := hid (hb.below HBel.out)
   have hls : (ps.getD k []).length <= 100000000000000 := by
    have h1 := flat_take_le ps (k + 1)
    rw [flat_snoc ps k (by rw [HN.out]; exact hlt), List.length_append] at h1
    have := HBig.out
    omega
   have HS := hid (frK_snoc (strI sblock) ps k (by rw [HN.out]; exact hlt))
   have HLe := hid (frK_le (strI sblock) ps (k + 1))
   rw [HS.out, List.length_append, strI_length] at HLe
   clear hh hb hu0
   go_wp2_with fail
   refine (rframe_any wr u _ HBu.out (by omega)).mono ?_
   rintro e w6 ⟨v6, rfl, ho6, hB6⟩
   have HB6 : Hid (HB w6 v6 (fr1 (ps.getD k []))) := HB.of_own ho6 (fr1_byt HBu.out.2)
   have HO6 := hid (own_below HO.out hB6)
   have BL6 := hid (HBel.out.trans (hB6.mono HBel.out.size))
   clear ho6 hB6
   go_wp2_with (at_builtin; refine wpList_append_HB rfl _ _ rfl w3.heap.size _ _ _ rfl HO6.out _ _ rfl HB6.out ?q1 ?q2 ?_)
   case q1 => have := HLe.out; have := HBig.out; omega
   case q2 => exact BL6.out.size
   intro v7 w7 ho7 hg7
   have HO7 : Hid (w7.ownsRow w3.heap.size 5 1 v7 (frK (strI sblock) ps (k + 1)).length ((frK (strI sblock) ps (k + 1)).map (Value.int .u8))) := by
    rw [HS.out, List.length_append, List.map_append]
    exact ho7
   have BL7 : Hid (Below w3.heap.size w3 w7) := BL6.out.grown hg7 BL6.out.size (fun k e => (HO6.out.lt k e).1)
   clear ho7 hg7
   go_wp2
   exact ⟨⟨k + 1, by omega, by go_num, HO7, BL7⟩, by simp [intOf]; omega⟩
  ·have hkn : k = ps.length := by rw [HN.out]; omega
   have HO8 := hid HO.out
   rw [hkn, frK_all] at HO8
   go_wp2
   go_ret2
   exact ⟨_, rfl, HO8.out, HBel.out⟩
theorem rdigest_block (w : World) (v : Value) (ps : List (List Int)) (h : HL w v ps) (hF : ∀ w', Below w.heap.size w w' -> Calls Tryz.prog 48 #[.int .u8 3, v] w' fun e w'' => e = .returned (.bool true) /\ w'' = w') (hbig : ps.flatten.length + 8 * ps.length <= 2000) (hby : ∀ l ∈ ps, ∀ x ∈ l, 0 <= x /\ x < 256) :
  Calls Tryz.prog 25 #[.int .u8 3, v] w fun e w' => e = .returned (.agg (cellsB (digL (framed (strI sblock :: ps))))) /\ Below w.heap.size w w' := by
 have hsz : sblock.size <= 1000 := by decide
 obtain ⟨zd, HZD⟩ : ∃ zd, Hid (cellsB zeros32 = zd) := ⟨_, rfl⟩
 obtain ⟨W0, hW0⟩ : ∃ W0, Hid (w.alloc (.cells zd 23) = W0) := ⟨_, rfl⟩
 have HB0 : Hid (Below w.heap.size w W0) := by rw [<- hW0.out]; exact (Below.refl _ w).alloc (Nat.le_refl _) _
 have HR0 : Hid (W0.heap[w.heap.size]? = some (.cells zd 23 (0, 0))) := by rw [<- hW0.out]; exact heap_alloc_new w _
 have hS0 : W0.heap.size = w.heap.size + 1 := by rw [<- hW0.out]; simp
 have HF := hid hF
 have HL0 := hid (h.below HB0.out)
 obtain ⟨m, HM⟩ : ∃ m, Hid (framed (strI sblock :: ps) = m) := ⟨_, rfl⟩
 have hmb : ∀ x ∈ m, 0 <= x /\ x < 256 := by
  rw [<- HM.out]
  refine framed_byt _ fun l hl => ?_
  rcases List.mem_cons.1 hl with rfl | hl
  ·intro x hx
   unfold strI at hx
   obtain ⟨b, _, rfl⟩ := List.mem_map.1 hx
   have := b.toNat_lt
   omega
  ·exact hby l hl
 have hml : m.length <= 4000 := by
  rw [<- HM.out, framed_length]
  simp only [List.flatten_cons, List.length_append, List.length_cons, strI_length]
  omega
 clear h hF
 go_enter Tryz.func25, Tryz.ntmps25
 go_wp2_with (refine wpList_alloc_digest rfl rfl ?_; rw [HZD.out, hW0.out])
 refine (rbytes_block W0 v ps HL0.out (fun w' hb => HF.out w' (HB0.out.trans (hb.mono HB0.out.size))) (by omega)).mono ?_
 rintro e w1 ⟨v1, rfl, ho1, hB1⟩
 rw [HM.out] at ho1
 have HB1 := hid (HB.of_own ho1 hmb)
 have BL1 := hid hB1
 clear ho1 hB1
 go_wp2_with fail
 refine (rsum_any w1 v1 m HB1.out (by omega)).mono ?_
 rintro e w2 ⟨rfl, hB2⟩
 obtain ⟨dm, HD⟩ : ∃ dm, Hid (cellsB (digL m) = dm) := ⟨_, rfl⟩
 have hds : dm.size = 32 := by rw [<- HD.out]; simp [cellsB, digL_length]
 have SD : Hid ((Tryz.prog.info? 23).map (·.size) = some dm.size) := by rw [hds]; exact size_digest
 have OD : Hid (dm.all (·.oneCell') = true) := by rw [<- HD.out]; exact cellsB_one _
 have ZD : Hid (zd.size = dm.size) := by rw [hds, <- HZD.out]; rfl
 have HR2 : Hid (w2.heap[w.heap.size]? = some (.cells zd 23 (0, 0))) := by
  show _ = _
  rw [hB2.block _ (by have := BL1.out.size; omega), BL1.out.block _ (by omega)]
  exact HR0.out
 have HBF := hid (below_setRow ((HB0.out.trans (BL1.out.mono (by omega))).trans (hB2.mono (by have := BL1.out.size; omega))) (g := w.heap.size) (Nat.le_refl _) dm)
 rw [HD.out]
 clear hB2 hds
 go_wp2_with (refine wpList_store_row rfl 23 _ _ rfl w.heap.size dm rfl rfl 23 _ HR2.out SD.out ZD.out OD.out ?_)
 refine bodyPost_ret (v := .agg dm) (results_cell_row (p := 4) (ty := 23) rfl _ _ w.heap.size 23 dm (0, 0) _ rfl (setRow_heap _ _ _ _ _ _ HR2.out) Tryz.underlying23 rfl SD.out) rfl ?_
 exact ⟨by rw [HM.out, HD.out], HBF.out⟩
def sroot : ByteArray := ⟨(wRoot.map fun x => UInt8.ofNat x.toNat).toArray⟩
theorem sroot_strI : strI sroot = wRoot := by decide
theorem rword_root (w : World) : Calls Tryz.prog 47 #[.int .u8 5] w fun e w' => e = .returned (.string sroot) /\ w' = w := by
 go_enter Tryz.func47, Tryz.ntmps47
 go_wp2
 go_ret
 exact ⟨rfl, rfl⟩
theorem rbytes_root (w : World) (v : Value) (ps : List (List Int)) (h : HL w v ps) (hF : ∀ w', Below w.heap.size w w' -> Calls Tryz.prog 48 #[.int .u8 5, v] w' fun e w'' => e = .returned (.bool true) /\ w'' = w') (hbig : ps.flatten.length + 8 * ps.length <= 100000000000000) :
  Calls Tryz.prog 29 #[.int .u8 5, v] w fun e w' => ∃ v', e = .returned (.tuple #[v', .int .i64 0]) /\ w'.ownsRow w.heap.size 5 1 v' (framed (strI sroot :: ps)).length ((framed (strI sroot :: ps)).map (Value.int .u8)) /\ Below w.heap.size w w' := by
 have hsz : sroot.size <= 1000 := by decide
 have hse : sroot.toList.isEmpty = false := by decide +kernel
 have A0 := hid h
 obtain ⟨p, c, e, hlc, hm⟩ := h.open
 unfold maxLen at hm
 have A : Hid (0 < ps.length -> ∃ b off, p = some ⟨b, off, none⟩ /\ ∀ j, j < ps.length -> ∃ u, w.cell? ⟨b, off + j, none⟩ = some u /\ HB w u (ps.getD j [])) := by
  intro h0
  obtain ⟨b, off, c', e', _, _, hh⟩ := h.ne h0
  rw [e] at e'
  simp only [Value.slice.injEq, true_and] at e'
  exact ⟨b, off, e'.1, hh⟩
 have HF := hid hF
 obtain ⟨n, HN⟩ : ∃ n, Hid (ps.length = n) := ⟨_, rfl⟩
 have HBig := hid hbig
 rw [HN.out] at e hlc hbig
 subst e
 clear h hF
 go_enter Tryz.func29, Tryz.ntmps29
 go_wp2_with fail
 refine (rword_root _).mono ?_
 rintro e w1 ⟨rfl, rfl⟩
 go_wp2_with fail
 refine (HF.out _ (Below.refl _ _)).mono ?_
 rintro e w2 ⟨rfl, rfl⟩
 go_wp2_with fail
 refine (rword_root _).mono ?_
 rintro e w3 ⟨rfl, rfl⟩
 go_wp2_with (refine wpList_bytes_str rfl _ rfl sroot rfl hsz ?_)
 intro v4 w4 hb4 hB4
 have HB4 := hid hb4
 have BL4 := hid hB4
 clear hb4 hB4
 go_wp2_with fail
 refine (rframe_any w4 v4 _ HB4.out (by rw [strI_length]; omega)).mono ?_
 rintro e w5 ⟨v5, rfl, ho5, hB5⟩
 have HO5 : Hid (w5.ownsRow w3.heap.size 5 1 v5 (frK (strI sroot) ps 0).length ((frK (strI sroot) ps 0).map (Value.int .u8))) := by
  rw [frK_zero]
  exact own_mono ho5 BL4.out.size
 have BL5 := hid (BL4.out.trans (hB5.mono BL4.out.size))
 clear ho5 hB5
 go_wp2
 go_loopw [6, 7] (fun o i wr => ∃ k : Nat, k <= n /\ i = .int .i64 k /\ Hid (wr.ownsRow w3.heap.size 5 1 o (frK (strI sroot) ps k).length ((frK (strI sroot) ps k).map (Value.int .u8))) /\ Hid (Below w3.heap.size w3 wr)) (fun _ i _ => n - (intOf i).toNat)
 case atStart => exact ⟨0, Nat.zero_le _, rfl, HO5, BL5⟩
 case round =>
  obtain ⟨k, hk, rfl, HO, HBel⟩ := hrel
  by_cases hlt : k < n
  ·obtain ⟨b, off, rfl, hh⟩ := A.out (by rw [HN.out]; omega)
   obtain ⟨u, hu0, hb⟩ := hh k (by rw [HN.out]; exact hlt)
   have hu : wr.cell? ⟨b, off + k, none⟩ = some u := (HBel.out.cell (World.block_lt_of_cell? w3 _ hu0)).trans hu0
   have HBu := hid (hb.below HBel.out)
   have hls : (ps.getD k []).length <= 100000000000000 := by
    have h1 := flat_take_le ps (k + 1)
    rw [flat_snoc ps k (by rw [HN.out]; exact hlt), List.length_append] at h1
    have := HBig.out
    omega
   have HS := hid (frK_snoc (strI sroot) ps k (by rw [HN.out]; exact hlt))
   have HLe := hid (frK_le (strI sroot) ps (k + 1))
   rw [HS.out, List.length_append, strI_length] at HLe
   clear hh hb hu0
   go_wp2_with fail
   refine (rframe_any wr u _ HBu.out (by omega)).mono ?_
   rintro e w6 ⟨v6, rfl, ho6, hB6⟩
   have HB6 : Hid (HB w6 v6 (fr1 (ps.getD k []))) := HB.of_own ho6 (fr1_byt HBu.out.2)
   have HO6 := hid (own_below HO.out hB6)
   have BL6 := hid (HBel.out.trans (hB6.mono HBel.out.size))
   clear ho6 hB6
   go_wp2_with (at_builtin; refine wpList_append_HB rfl _ _ rfl w3.heap.size _ _ _ rfl HO6.out _ _ rfl HB6.out ?q1 ?q2 ?_)
   case q1 => have := HLe.out; have := HBig.out; omega
   case q2 => exact BL6.out.size
   intro v7 w7 ho7 hg7
   have HO7 : Hid (w7.ownsRow w3.heap.size 5 1 v7 (frK (strI sroot) ps (k + 1)).length ((frK (strI sroot) ps (k + 1)).map (Value.int .u8))) := by
    rw [HS.out, List.length_append, List.map_append]
    exact ho7
   have BL7 : Hid (Below w3.heap.size w3 w7) := BL6.out.grown hg7 BL6.out.size (fun k e => (HO6.out.lt k e).1)
   clear ho7 hg7
   go_wp2
   exact ⟨⟨k + 1, by omega, by go_num, HO7, BL7⟩, by simp [intOf]; omega⟩
  ·have hkn : k = ps.length := by rw [HN.out]; omega
   have HO8 := hid HO.out
   rw [hkn, frK_all] at HO8
   go_wp2
   go_ret2
   exact ⟨_, rfl, HO8.out, HBel.out⟩
theorem rdigest_root (w : World) (v : Value) (ps : List (List Int)) (h : HL w v ps) (hF : ∀ w', Below w.heap.size w w' -> Calls Tryz.prog 48 #[.int .u8 5, v] w' fun e w'' => e = .returned (.bool true) /\ w'' = w') (hbig : ps.flatten.length + 8 * ps.length <= 2000) (hby : ∀ l ∈ ps, ∀ x ∈ l, 0 <= x /\ x < 256) :
  Calls Tryz.prog 25 #[.int .u8 5, v] w fun e w' => e = .returned (.agg (cellsB (digL (framed (strI sroot :: ps))))) /\ Below w.heap.size w w' := by
 have hsz : sroot.size <= 1000 := by decide
 obtain ⟨zd, HZD⟩ : ∃ zd, Hid (cellsB zeros32 = zd) := ⟨_, rfl⟩
 obtain ⟨W0, hW0⟩ : ∃ W0, Hid (w.alloc (.cells zd 23) = W0) := ⟨_, rfl⟩
 have HB0 : Hid (Below w.heap.size w W0) := by rw [<- hW0.out]; exact (Below.refl _ w).alloc (Nat.le_refl _) _
 have HR0 : Hid (W0.heap[w.heap.size]? = some (.cells zd 23 (0, 0))) := by rw [<- hW0.out]; exact heap_alloc_new w _
 have hS0 : W0.heap.size = w.heap.size + 1 := by rw [<- hW0.out]; simp
 have HF := hid hF
 have HL0 := hid (h.below HB0.out)
 obtain ⟨m, HM⟩ : ∃ m, Hid (framed (strI sroot :: ps) = m) := ⟨_, rfl⟩
 have hmb : ∀ x ∈ m, 0 <= x /\ x < 256 := by
  rw [<- HM.out]
  refine framed_byt _ fun l hl => ?_
  rcases List.mem_cons.1 hl with rfl | hl
  ·intro x hx
   unfold strI at hx
   obtain ⟨b, _, rfl⟩ := List.mem_map.1 hx
   have := b.toNat_lt
   omega
  ·exact hby l hl
 have hml : m.length <= 4000 := by
  rw [<- HM.out, framed_length]
  simp only [List.flatten_cons, List.length_append, List.length_cons, strI_length]
  omega
 clear h hF
 go_enter Tryz.func25, Tryz.ntmps25
 go_wp2_with (refine wpList_alloc_digest rfl rfl ?_; rw [HZD.out, hW0.out])
 refine (rbytes_root W0 v ps HL0.out (fun w' hb => HF.out w' (HB0.out.trans (hb.mono HB0.out.size))) (by omega)).mono ?_
 rintro e w1 ⟨v1, rfl, ho1, hB1⟩
 rw [HM.out] at ho1
 have HB1 := hid (HB.of_own ho1 hmb)
 have BL1 := hid hB1
 clear ho1 hB1
 go_wp2_with fail
 refine (rsum_any w1 v1 m HB1.out (by omega)).mono ?_
 rintro e w2 ⟨rfl, hB2⟩
 obtain ⟨dm, HD⟩ : ∃ dm, Hid (cellsB (digL m) = dm) := ⟨_, rfl⟩
 have hds : dm.size = 32 := by rw [<- HD.out]; simp [cellsB, digL_length]
 have SD : Hid ((Tryz.prog.info? 23).map (·.size) = some dm.size) := by rw [hds]; exact size_digest
 have OD : Hid (dm.all (·.oneCell') = true) := by rw [<- HD.out]; exact cellsB_one _
 have ZD : Hid (zd.size = dm.size) := by rw [hds, <- HZD.out]; rfl
 have HR2 : Hid (w2.heap[w.heap.size]? = some (.cells zd 23 (0, 0))) := by
  show _ = _
  rw [hB2.block _ (by have := BL1.out.size; omega), BL1.out.block _ (by omega)]
  exact HR0.out
 have HBF := hid (below_setRow ((HB0.out.trans (BL1.out.mono (by omega))).trans (hB2.mono (by have := BL1.out.size; omega))) (g := w.heap.size) (Nat.le_refl _) dm)
 rw [HD.out]
 clear hB2 hds
 go_wp2_with (refine wpList_store_row rfl 23 _ _ rfl w.heap.size dm rfl rfl 23 _ HR2.out SD.out ZD.out OD.out ?_)
 refine bodyPost_ret (v := .agg dm) (results_cell_row (p := 4) (ty := 23) rfl _ _ w.heap.size 23 dm (0, 0) _ rfl (setRow_heap _ _ _ _ _ _ HR2.out) Tryz.underlying23 rfl SD.out) rfl ?_
 exact ⟨by rw [HM.out, HD.out], HBF.out⟩
def sueb : ByteArray := ⟨(wUeb.map fun x => UInt8.ofNat x.toNat).toArray⟩
theorem sueb_strI : strI sueb = wUeb := by decide
theorem rword_ueb (w : World) : Calls Tryz.prog 47 #[.int .u8 8] w fun e w' => e = .returned (.string sueb) /\ w' = w := by
 go_enter Tryz.func47, Tryz.ntmps47
 go_wp2
 go_ret
 exact ⟨rfl, rfl⟩
theorem rbytes_ueb (w : World) (v : Value) (ps : List (List Int)) (h : HL w v ps) (hF : ∀ w', Below w.heap.size w w' -> Calls Tryz.prog 48 #[.int .u8 8, v] w' fun e w'' => e = .returned (.bool true) /\ w'' = w') (hbig : ps.flatten.length + 8 * ps.length <= 100000000000000) :
  Calls Tryz.prog 29 #[.int .u8 8, v] w fun e w' => ∃ v', e = .returned (.tuple #[v', .int .i64 0]) /\ w'.ownsRow w.heap.size 5 1 v' (framed (strI sueb :: ps)).length ((framed (strI sueb :: ps)).map (Value.int .u8)) /\ Below w.heap.size w w' := by
 have hsz : sueb.size <= 1000 := by decide
 have hse : sueb.toList.isEmpty = false := by decide +kernel
 have A0 := hid h
 obtain ⟨p, c, e, hlc, hm⟩ := h.open
 unfold maxLen at hm
 have A : Hid (0 < ps.length -> ∃ b off, p = some ⟨b, off, none⟩ /\ ∀ j, j < ps.length -> ∃ u, w.cell? ⟨b, off + j, none⟩ = some u /\ HB w u (ps.getD j [])) := by
  intro h0
  obtain ⟨b, off, c', e', _, _, hh⟩ := h.ne h0
  rw [e] at e'
  simp only [Value.slice.injEq, true_and] at e'
  exact ⟨b, off, e'.1, hh⟩
 have HF := hid hF
 obtain ⟨n, HN⟩ : ∃ n, Hid (ps.length = n) := ⟨_, rfl⟩
 have HBig := hid hbig
 rw [HN.out] at e hlc hbig
 subst e
 clear h hF
 go_enter Tryz.func29, Tryz.ntmps29
 go_wp2_with fail
 refine (rword_ueb _).mono ?_
 rintro e w1 ⟨rfl, rfl⟩
 go_wp2_with fail
 refine (HF.out _ (Below.refl _ _)).mono ?_
 rintro e w2 ⟨rfl, rfl⟩
 go_wp2_with fail
 refine (rword_ueb _).mono ?_
 rintro e w3 ⟨rfl, rfl⟩
 go_wp2_with (refine wpList_bytes_str rfl _ rfl sueb rfl hsz ?_)
 intro v4 w4 hb4 hB4
 have HB4 := hid hb4
 have BL4 := hid hB4
 clear hb4 hB4
 go_wp2_with fail
 refine (rframe_any w4 v4 _ HB4.out (by rw [strI_length]; omega)).mono ?_
 rintro e w5 ⟨v5, rfl, ho5, hB5⟩
 have HO5 : Hid (w5.ownsRow w3.heap.size 5 1 v5 (frK (strI sueb) ps 0).length ((frK (strI sueb) ps 0).map (Value.int .u8))) := by
  rw [frK_zero]
  exact own_mono ho5 BL4.out.size
 have BL5 := hid (BL4.out.trans (hB5.mono BL4.out.size))
 clear ho5 hB5
 go_wp2
 go_loopw [6, 7] (fun o i wr => ∃ k : Nat, k <= n /\ i = .int .i64 k /\ Hid (wr.ownsRow w3.heap.size 5 1 o (frK (strI sueb) ps k).length ((frK (strI sueb) ps k).map (Value.int .u8))) /\ Hid (Below w3.heap.size w3 wr)) (fun _ i _ => n - (intOf i).toNat)
 case atStart => exact ⟨0, Nat.zero_le _, rfl, HO5, BL5⟩
 case round =>
  obtain ⟨k, hk, rfl, HO, HBel⟩ := hrel
  by_cases hlt : k < n
  ·obtain ⟨b, off, rfl, hh⟩ := A.out (by rw [HN.out]; omega)
   obtain ⟨u, hu0, hb⟩ := hh k (by rw [HN.out]; exact hlt)
   have hu : wr.cell? ⟨b, off + k, none⟩ = some u := (HBel.out.cell (World.block_lt_of_cell? w3 _ hu0)).trans hu0
   have HBu := hid (hb.below HBel.out)
   have hls : (ps.getD k []).length <= 100000000000000 := by
    have h1 := flat_take_le ps (k + 1)
    rw [flat_snoc ps k (by rw [HN.out]; exact hlt), List.length_append] at h1
    have := HBig.out
    omega
   have HS := hid (frK_snoc (strI sueb) ps k (by rw [HN.out]; exact hlt))
   have HLe := hid (frK_le (strI sueb) ps (k + 1))
   rw [HS.out, List.length_append, strI_length] at HLe
   clear hh hb hu0
   go_wp2_with fail
   refine (rframe_any wr u _ HBu.out (by omega)).mono ?_
   rintro e w6 ⟨v6, rfl, ho6, hB6⟩
   have HB6 : Hid (HB w6 v6 (fr1 (ps.getD k []))) := HB.of_own ho6 (fr1_byt HBu.out.2)
   have HO6 := hid (own_below HO.out hB6)
   have BL6 := hid (HBel.out.trans (hB6.mono HBel.out.size))
   clear ho6 hB6
   go_wp2_with (at_builtin; refine wpList_append_HB rfl _ _ rfl w3.heap.size _ _ _ rfl HO6.out _ _ rfl HB6.out ?q1 ?q2 ?_)
   case q1 => have := HLe.out; have := HBig.out; omega
   case q2 => exact BL6.out.size
   intro v7 w7 ho7 hg7
   have HO7 : Hid (w7.ownsRow w3.heap.size 5 1 v7 (frK (strI sueb) ps (k + 1)).length ((frK (strI sueb) ps (k + 1)).map (Value.int .u8))) := by
    rw [HS.out, List.length_append, List.map_append]
    exact ho7
   have BL7 : Hid (Below w3.heap.size w3 w7) := BL6.out.grown hg7 BL6.out.size (fun k e => (HO6.out.lt k e).1)
   clear ho7 hg7
   go_wp2
   exact ⟨⟨k + 1, by omega, by go_num, HO7, BL7⟩, by simp [intOf]; omega⟩
  ·have hkn : k = ps.length := by rw [HN.out]; omega
   have HO8 := hid HO.out
   rw [hkn, frK_all] at HO8
   go_wp2
   go_ret2
   exact ⟨_, rfl, HO8.out, HBel.out⟩
theorem rdigest_ueb (w : World) (v : Value) (ps : List (List Int)) (h : HL w v ps) (hF : ∀ w', Below w.heap.size w w' -> Calls Tryz.prog 48 #[.int .u8 8, v] w' fun e w'' => e = .returned (.bool true) /\ w'' = w') (hbig : ps.flatten.length + 8 * ps.length <= 2000) (hby : ∀ l ∈ ps, ∀ x ∈ l, 0 <= x /\ x < 256) :
  Calls Tryz.prog 25 #[.int .u8 8, v] w fun e w' => e = .returned (.agg (cellsB (digL (framed (strI sueb :: ps))))) /\ Below w.heap.size w w' := by
 have hsz : sueb.size <= 1000 := by decide
 obtain ⟨zd, HZD⟩ : ∃ zd, Hid (cellsB zeros32 = zd) := ⟨_, rfl⟩
 obtain ⟨W0, hW0⟩ : ∃ W0, Hid (w.alloc (.cells zd 23) = W0) := ⟨_, rfl⟩
 have HB0 : Hid (Below w.heap.size w W0) := by rw [<- hW0.out]; exact (Below.refl _ w).alloc (Nat.le_refl _) _
 have HR0 : Hid (W0.heap[w.heap.size]? = some (.cells zd 23 (0, 0))) := by rw [<- hW0.out]; exact heap_alloc_new w _
 have hS0 : W0.heap.size = w.heap.size + 1 := by rw [<- hW0.out]; simp
 have HF := hid hF
 have HL0 := hid (h.below HB0.out)
 obtain ⟨m, HM⟩ : ∃ m, Hid (framed (strI sueb :: ps) = m) := ⟨_, rfl⟩
 have hmb : ∀ x ∈ m, 0 <= x /\ x < 256 := by
  rw [<- HM.out]
  refine framed_byt _ fun l hl => ?_
  rcases List.mem_cons.1 hl with rfl | hl
  ·intro x hx
   unfold strI at hx
   obtain ⟨b, _, rfl⟩ := List.mem_map.1 hx
   have := b.toNat_lt
   omega
  ·exact hby l hl
 have hml : m.length <= 4000 := by
  rw [<- HM.out, framed_length]
  simp only [List.flatten_cons, List.length_append, List.length_cons, strI_length]
  omega
 clear h hF
 go_enter Tryz.func25, Tryz.ntmps25
 go_wp2_with (refine wpList_alloc_digest rfl rfl ?_; rw [HZD.out, hW0.out])
 refine (rbytes_ueb W0 v ps HL0.out (fun w' hb => HF.out w' (HB0.out.trans (hb.mono HB0.out.size))) (by omega)).mono ?_
 rintro e w1 ⟨v1, rfl, ho1, hB1⟩
 rw [HM.out] at ho1
 have HB1 := hid (HB.of_own ho1 hmb)
 have BL1 := hid hB1
 clear ho1 hB1
 go_wp2_with fail
 refine (rsum_any w1 v1 m HB1.out (by omega)).mono ?_
 rintro e w2 ⟨rfl, hB2⟩
 obtain ⟨dm, HD⟩ : ∃ dm, Hid (cellsB (digL m) = dm) := ⟨_, rfl⟩
 have hds : dm.size = 32 := by rw [<- HD.out]; simp [cellsB, digL_length]
 have SD : Hid ((Tryz.prog.info? 23).map (·.size) = some dm.size) := by rw [hds]; exact size_digest
 have OD : Hid (dm.all (·.oneCell') = true) := by rw [<- HD.out]; exact cellsB_one _
 have ZD : Hid (zd.size = dm.size) := by rw [hds, <- HZD.out]; rfl
 have HR2 : Hid (w2.heap[w.heap.size]? = some (.cells zd 23 (0, 0))) := by
  show _ = _
  rw [hB2.block _ (by have := BL1.out.size; omega), BL1.out.block _ (by omega)]
  exact HR0.out
 have HBF := hid (below_setRow ((HB0.out.trans (BL1.out.mono (by omega))).trans (hB2.mono (by have := BL1.out.size; omega))) (g := w.heap.size) (Nat.le_refl _) dm)
 rw [HD.out]
 clear hB2 hds
 go_wp2_with (refine wpList_store_row rfl 23 _ _ rfl w.heap.size dm rfl rfl 23 _ HR2.out SD.out ZD.out OD.out ?_)
 refine bodyPost_ret (v := .agg dm) (results_cell_row (p := 4) (ty := 23) rfl _ _ w.heap.size 23 dm (0, 0) _ rfl (setRow_heap _ _ _ _ _ _ HR2.out) Tryz.underlying23 rfl SD.out) rfl ?_
 exact ⟨by rw [HM.out, HD.out], HBF.out⟩
theorem rfits_block (w : World) (v : Value) (l : List Int) (h : HL w v [l])  : Calls Tryz.prog 48 #[.int .u8 3, v] w fun e w' => e = .returned (.bool true) /\ w' = w := by
 obtain ⟨b, off, c, rfl, hc1, hc2, hh⟩ := h.ne (by simp)
 obtain ⟨u0, h0, hb0⟩ := hh 0 (by simp)
 obtain ⟨p0, c0, rfl, _, _⟩ := hb0.open
 simp only [List.getD_cons_zero, List.getD_cons_succ, List.length_cons, List.length_nil, Nat.add_zero, Nat.zero_add, Nat.reduceAdd] at h0 ⊢
 clear hh hb0 h
 go_enter Tryz.func48, Tryz.ntmps48
 go_wp2
 go_ret
 exact ⟨rfl, rfl⟩
theorem rfits_root (w : World) (v : Value) (l : List Int) (h : HL w v [l]) (hl : l.length = 32) : Calls Tryz.prog 48 #[.int .u8 5, v] w fun e w' => e = .returned (.bool true) /\ w' = w := by
 obtain ⟨b, off, c, rfl, hc1, hc2, hh⟩ := h.ne (by simp)
 obtain ⟨u0, h0, hb0⟩ := hh 0 (by simp)
 obtain ⟨p0, c0, rfl, _, _⟩ := hb0.open
 simp only [List.getD_cons_zero, List.getD_cons_succ, List.length_cons, List.length_nil, Nat.add_zero, Nat.zero_add, Nat.reduceAdd] at h0 ⊢
 clear hh hb0 h
 go_enter Tryz.func48, Tryz.ntmps48
 go_wp2
 go_ret
 exact ⟨rfl, rfl⟩
theorem rfits_ueb (w : World) (v : Value) (l : List Int) (h : HL w v [l])  : Calls Tryz.prog 48 #[.int .u8 8, v] w fun e w' => e = .returned (.bool true) /\ w' = w := by
 obtain ⟨b, off, c, rfl, hc1, hc2, hh⟩ := h.ne (by simp)
 obtain ⟨u0, h0, hb0⟩ := hh 0 (by simp)
 obtain ⟨p0, c0, rfl, _, _⟩ := hb0.open
 simp only [List.getD_cons_zero, List.getD_cons_succ, List.length_cons, List.length_nil, Nat.add_zero, Nat.zero_add, Nat.reduceAdd] at h0 ⊢
 clear hh hb0 h
 go_enter Tryz.func48, Tryz.ntmps48
 go_wp2
 go_ret
 exact ⟨rfl, rfl⟩
theorem frame_byt {wd l : List Int} (h1 : ∀ x ∈ wd, 0 <= x /\ x < 256) (h2 : ∀ x ∈ l, 0 <= x /\ x < 256) : ∀ x ∈ framed [wd, l], 0 <= x /\ x < 256 := framed_byt _ fun q hq => by
 simp only [List.mem_cons, List.not_mem_nil, or_false] at hq
 rcases hq with rfl | rfl
 ·exact h1
 ·exact h2
theorem HL.at0 {w : World} {v : Value} {l : List Int} (h : HL w v [l]) : ∀ x ∈ l, 0 <= x /\ x < 256 := fun x hx => h.byt x (by simpa using hx)
theorem rlist_block (w : World) (v : Value) (l : List Int) (h : HL w v [l]) (hb : l.length <= 10000000)  : Calls Tryz.prog 10 #[.int .u8 3, v] w fun e w' => ∃ v', e = .returned v' /\ HB w' v' (t1B wBlock l) /\ Below w.heap.size w w' := by
 have C := rbytes_block w v [l] h (fun w' hB => rfits_block w' v l (h.below hB) ) (by simp; omega)
 rw [sblock_strI] at C
 have C := hid C
 have BY := hid (frame_byt (wd := wBlock) (l := l) (by decide) h.at0)
 obtain ⟨p, c, rfl, _, _⟩ := h.open
 clear h
 go_enter Tryz.func10, Tryz.ntmps10
 go_wp2_with fail
 refine C.out.mono ?_
 rintro e w1 ⟨v1, rfl, ho1, hb1⟩
 have H1 := hid (HB.of_own ho1 BY.out)
 have B1 := hid hb1
 clear ho1 hb1 C
 go_wp2
 go_ret
 exact ⟨_, rfl, H1.out, B1.out⟩
theorem rlist_root (w : World) (v : Value) (l : List Int) (h : HL w v [l]) (hb : l.length <= 10000000) (hl : l.length = 32) : Calls Tryz.prog 10 #[.int .u8 5, v] w fun e w' => ∃ v', e = .returned v' /\ HB w' v' (t1B wRoot l) /\ Below w.heap.size w w' := by
 have C := rbytes_root w v [l] h (fun w' hB => rfits_root w' v l (h.below hB) hl) (by simp; omega)
 rw [sroot_strI] at C
 have C := hid C
 have BY := hid (frame_byt (wd := wRoot) (l := l) (by decide) h.at0)
 obtain ⟨p, c, rfl, _, _⟩ := h.open
 clear h
 go_enter Tryz.func10, Tryz.ntmps10
 go_wp2_with fail
 refine C.out.mono ?_
 rintro e w1 ⟨v1, rfl, ho1, hb1⟩
 have H1 := hid (HB.of_own ho1 BY.out)
 have B1 := hid hb1
 clear ho1 hb1 C
 go_wp2
 go_ret
 exact ⟨_, rfl, H1.out, B1.out⟩
theorem rlist_ueb (w : World) (v : Value) (l : List Int) (h : HL w v [l]) (hb : l.length <= 10000000)  : Calls Tryz.prog 10 #[.int .u8 8, v] w fun e w' => ∃ v', e = .returned v' /\ HB w' v' (t1B wUeb l) /\ Below w.heap.size w w' := by
 have C := rbytes_ueb w v [l] h (fun w' hB => rfits_ueb w' v l (h.below hB) ) (by simp; omega)
 rw [sueb_strI] at C
 have C := hid C
 have BY := hid (frame_byt (wd := wUeb) (l := l) (by decide) h.at0)
 obtain ⟨p, c, rfl, _, _⟩ := h.open
 clear h
 go_enter Tryz.func10, Tryz.ntmps10
 go_wp2_with fail
 refine C.out.mono ?_
 rintro e w1 ⟨v1, rfl, ho1, hb1⟩
 have H1 := hid (HB.of_own ho1 BY.out)
 have B1 := hid hb1
 clear ho1 hb1 C
 go_wp2
 go_ret
 exact ⟨_, rfl, H1.out, B1.out⟩
theorem rlist_node (w : World) (v : Value) (l r : List Int) (h : HL w v [l, r]) (hl : l.length = 32) (hr : r.length = 32) : Calls Tryz.prog 10 #[.int .u8 6, v] w fun e w' => ∃ v', e = .returned v' /\ HB w' v' (ndB l r) /\ Below w.heap.size w w' := by
 have C := rbytes_node w v [l, r] h (fun w' hB => rfits_node w' v l r (h.below hB) hl hr) (by simp; omega)
 rw [framed_node l r hl hr] at C
 have C := hid C
 have BY : Hid (∀ x ∈ ndB l r, 0 <= x /\ x < 256) := hid (ndB_byt ⟨hl, fun x hx => h.byt x (by simp; exact Or.inl hx)⟩ ⟨hr, fun x hx => h.byt x (by simp; exact Or.inr hx)⟩)
 obtain ⟨p, c, rfl, _, _⟩ := h.open
 clear h
 go_enter Tryz.func10, Tryz.ntmps10
 go_wp2_with fail
 refine C.out.mono ?_
 rintro e w1 ⟨v1, rfl, ho1, hb1⟩
 have H1 := hid (HB.of_own ho1 BY.out)
 have B1 := hid hb1
 clear ho1 hb1 C
 go_wp2
 go_ret
 exact ⟨_, rfl, H1.out, B1.out⟩
theorem rueb_any (w : World) (v : Value) (l : List Int) (h : HB w v l) (hn : l.length <= 1500) : Calls Tryz.prog 7 #[v] w fun e w' => e = .returned (.agg (cellsB (ueL l))) /\ Below w.heap.size w w' := by
 obtain ⟨zd, HZD⟩ : ∃ zd, Hid (cellsB zeros32 = zd) := ⟨_, rfl⟩
 obtain ⟨W0, hW0⟩ : ∃ W0, Hid (w.alloc (.cells zd 23) = W0) := ⟨_, rfl⟩
 have B0 : Hid (Below w.heap.size w W0) := by rw [<- hW0.out]; exact (Below.refl _ w).alloc (Nat.le_refl _) _
 have R0 : Hid (W0.heap[w.heap.size]? = some (.cells zd 23 (0, 0))) := by rw [<- hW0.out]; exact heap_alloc_new w _
 have Z0 : Hid (W0.heap.size = w.heap.size + 1) := by refine hid ?_; rw [<- hW0.out]; simp
 have DL := hid (digL_length (t1B wUeb l))
 unfold ueL
 obtain ⟨y, HY⟩ : ∃ y, Hid (cellsB (digL (t1B wUeb l)) = y) := ⟨_, rfl⟩
 have SY : Hid ((Tryz.prog.info? 23).map (·.size) = some y.size) := by refine hid ?_; rw [<- HY.out, cellsB_size, DL.out]; exact size_digest
 have OY : Hid (y.all (·.oneCell') = true) := by refine hid ?_; rw [<- HY.out]; exact cellsB_one _
 have ZY : Hid (zd.size = y.size) := by refine hid ?_; rw [<- HZD.out, <- HY.out, cellsB_size, cellsB_size, DL.out, zeros32_length]
 obtain ⟨p, c, rfl, _, _⟩ := h.open
 have HA := hid (heap_alloc_new W0 (.cells #[.slice p l.length c] 34))
 have BA := hid ((Below.refl W0.heap.size W0).alloc (Nat.le_refl _) (.cells #[.slice p l.length c] 34))
 have hl1 := HL.one HA.out ((h.below B0.out).below BA.out)
 have C1 := rdigest_ueb (W0.alloc (.cells #[.slice p l.length c] 34)) _ [l] hl1 (fun w' hB => rfits_ueb w' _ l (hl1.below hB)) (by simp; omega) (fun q hq => by simp at hq; subst hq; exact h.2)
 rw [sueb_strI, show framed [wUeb, l] = t1B wUeb l from rfl, HY.out] at C1
 have C1 := hid C1
 rw [HY.out]
 have B1 := hid (B0.out.trans (BA.out.mono B0.out.size))
 have R1 := hid ((BA.out.block w.heap.size (by rw [Z0.out]; omega)).trans R0.out)
 have S1 : Hid (w.heap.size < (W0.alloc (.cells #[.slice p l.length c] 34)).heap.size) := hid (by simp; rw [Z0.out]; omega)
 clear h hl1
 go_enter Tryz.func7, Tryz.ntmps7
 go_wp2_with (first | (refine wpList_alloc_digest rfl rfl ?_; rw [HZD.out, hW0.out]) | fail)
 refine C1.out.mono ?_
 rintro e w2 ⟨rfl, hb2⟩
 have B2 := hid (B1.out.trans (hb2.mono B1.out.size))
 have R2 := hid ((hb2.block w.heap.size S1.out).trans R1.out)
 clear hb2 C1
 go_wp2_with (first | (refine wpList_store_row rfl 23 _ _ rfl w.heap.size y rfl rfl 23 _ R2.out SY.out ZY.out OY.out ?_) | fail)
 refine bodyPost_ret (v := .agg y) (results_cell_row (p := 2) (ty := 23) rfl _ _ w.heap.size 23 y (0, 0) _ rfl (setRow_heap _ _ _ _ _ _ R2.out) Tryz.underlying23 rfl SY.out) rfl ?_
 exact ⟨rfl, bel_setRow B2.out (Nat.le_refl _) _⟩
def HLs (w : World) (v : Value) (ps : List (List Int)) : Prop := ∃ g, v = .slice (some ⟨g, 0, none⟩) 2 2 /\ HL w (.slice (some ⟨g, 0, none⟩) 2 2) ps
def SlH (w : World) (v : Value) (l : List Int) : Prop := ∃ p c, v = .slice p l.length c /\ HB w (.slice p l.length c) l
theorem HB_dig {w : World} {b o : Nat} {d : List Int} (hd : D32 d) (h : w.rangeAt b o (dc d)) : HB w (.slice (some ⟨b, o, none⟩) 32 32) d := by
 refine ⟨⟨_, 32, by rw [hd.1], by rw [hd.1]; exact Nat.le_refl _, by unfold maxLen; omega, (fun e => by cases e), fun _ => ⟨b, o, rfl, fun j hj => ?_⟩⟩, hd.2⟩
 rw [hd.1] at hj
 refine (h j (.int .u8 (d.getD j 0)) ?_).trans rfl
 unfold dc
 rw [List.getElem?_map, List.getElem?_eq_getElem (by rw [hd.1]; exact hj)]
 simp [List.getD, List.getElem?_eq_getElem (show j < d.length by rw [hd.1]; exact hj)]
theorem HL.two' {w : World} {g : Nat} {T : TypeId} {u v : Value} {l r : List Int} (h : w.heap[g]? = some (.cells #[u, v] T (0, 0))) (hu : HB w u l) (hv : HB w v r) : HL w (.slice (some ⟨g, 0, none⟩) 2 2) [l, r] := by
 refine ⟨_, 2, rfl, Nat.le_refl _, by unfold maxLen; omega, (fun e => by cases e), fun _ => ⟨g, 0, rfl, fun j hj => ?_⟩⟩
 match j, hj with
 | 0, _ => exact ⟨u, (cell_of_row w g 0 _ _ _ h).trans rfl, hu⟩
 | 1, _ => exact ⟨v, (cell_of_row w g 1 _ _ _ h).trans rfl, hv⟩
def ndF (i : Nat) (b1 o1 n1 c1 b2 o2 n2 c2 : Nat) (l1 r1 l2 r2 : List Int) : Nat -> World -> Value -> Prop
 | 0, w, v => v = .slice (some ⟨b1, o1, none⟩) n1 c1
 | 1, w, v => v = .int .i64 (i : Int)
 | 2, w, v => v = .int .i64 (2 * (i : Int))
 | 3, w, v => v = .int .i64 (2 * (i : Int) - 1)
 | 4, w, v => v = .pointer (some ⟨b1, o1 + (2 * i - 1) * 32, none⟩)
 | 5, w, v => v = .slice (some ⟨b1, o1 + (2 * i - 1) * 32, none⟩) 32 32
 | 6, w, v => v = .slice (some ⟨b1, o1, none⟩) n1 c1
 | 7, w, v => v = .int .i64 (i : Int)
 | 8, w, v => v = .int .i64 (2 * (i : Int))
 | 9, w, v => v = .pointer (some ⟨b1, o1 + 2 * i * 32, none⟩)
 | 10, w, v => v = .slice (some ⟨b1, o1 + 2 * i * 32, none⟩) 32 32
 | 11, w, v => HLs w v [l1, r1]
 | 12, w, v => SlH w v (ndB l1 r1)
 | 13, w, v => v = .slice (some ⟨b2, o2, none⟩) n2 c2
 | 14, w, v => v = .int .i64 (i : Int)
 | 15, w, v => v = .int .i64 (2 * (i : Int))
 | 16, w, v => v = .int .i64 (2 * (i : Int) - 1)
 | 17, w, v => v = .pointer (some ⟨b2, o2 + (2 * i - 1) * 32, none⟩)
 | 18, w, v => v = .slice (some ⟨b2, o2 + (2 * i - 1) * 32, none⟩) 32 32
 | 19, w, v => v = .slice (some ⟨b2, o2, none⟩) n2 c2
 | 20, w, v => v = .int .i64 (i : Int)
 | 21, w, v => v = .int .i64 (2 * (i : Int))
 | 22, w, v => v = .pointer (some ⟨b2, o2 + 2 * i * 32, none⟩)
 | 23, w, v => v = .slice (some ⟨b2, o2 + 2 * i * 32, none⟩) 32 32
 | 24, w, v => HLs w v [l2, r2]
 | 25, w, v => SlH w v (ndB l2 r2)
 | 26, w, v => ∃ t : Bool, v = .bool t /\ (t = false -> NoC (ndB l1 r1) (ndB l2 r2))
 | _, _, _ => True
theorem ndF_below (i : Nat) (b1 o1 n1 c1 b2 o2 n2 c2 : Nat) (l1 r1 l2 r2 : List Int) : ∀ (k : Nat) (w w' : World) (v : Value), ndF i b1 o1 n1 c1 b2 o2 n2 c2 l1 r1 l2 r2 k w v -> Below w.heap.size w w' -> ndF i b1 o1 n1 c1 b2 o2 n2 c2 l1 r1 l2 r2 k w' v := by
 intro k w w' v h hb
 match k, h with
 | 0, h => exact h
 | 1, h => exact h
 | 2, h => exact h
 | 3, h => exact h
 | 4, h => exact h
 | 5, h => exact h
 | 6, h => exact h
 | 7, h => exact h
 | 8, h => exact h
 | 9, h => exact h
 | 10, h => exact h
 | 11, ⟨g, e, h⟩ => exact ⟨g, e, h.below hb⟩
 | 12, ⟨p, c, e, h⟩ => exact ⟨p, c, e, h.below hb⟩
 | 13, h => exact h
 | 14, h => exact h
 | 15, h => exact h
 | 16, h => exact h
 | 17, h => exact h
 | 18, h => exact h
 | 19, h => exact h
 | 20, h => exact h
 | 21, h => exact h
 | 22, h => exact h
 | 23, h => exact h
 | 24, ⟨g, e, h⟩ => exact ⟨g, e, h.below hb⟩
 | 25, ⟨p, c, e, h⟩ => exact ⟨p, c, e, h.below hb⟩
 | 26, h => exact h
 | k + 27, h => trivial
def dstN (k : Nat) : Nat := 20 + k
def NdQ (w : World) (A B : List (List Int)) (e : Ending) (w' : World) : Prop := ∃ t : Bool, e = .returned (.bool t) /\ (t = false -> NoN A B) /\ Below w.heap.size w w'
theorem nodes_any (w : World) (va vb : Value) (A B : List (List Int)) (ha : HDs w va A) (hb : HDs w vb B) (hla : A.length <= 100000) (hlb : B.length <= 100000) : Calls Tryz.prog 12 #[va, vb] w fun e w' => NdQ w A B e w' := by
 obtain ⟨pa, c1, ea, _, _⟩ := ha.open
 obtain ⟨pb, c2, eb, _, _⟩ := hb.open
 have HA := hid ha
 have HBs := hid hb
 obtain ⟨n1, HN1⟩ : ∃ n, Hid (A.length = n) := ⟨_, rfl⟩
 obtain ⟨n2, HN2⟩ : ∃ n, Hid (B.length = n) := ⟨_, rfl⟩
 rw [HN1.out] at ea hla
 rw [HN2.out] at eb hlb
 subst ea eb
 clear ha hb
 go_enter Tryz.func12, Tryz.ntmps12
 go_wp2
 go_loopw [5] (fun ii wr => ∃ i : Nat, 1 <= i /\ i <= n1 + 1 /\ ii = .int .i64 (i : Int) /\ Hid (∀ j, 1 <= j -> j < i -> NoC (ndB (A.getD (2 * j - 1) []) (A.getD (2 * j) [])) (ndB (B.getD (2 * j - 1) []) (B.getD (2 * j) []))) /\ Hid (Below w.heap.size w wr)) (fun ii _ => n1 + 1 - (intOf ii).toNat)
 case atStart => exact ⟨1, by omega, by omega, rfl, hid (fun j h1 h2 => by omega), Below.refl _ _⟩
 case round =>
  obtain ⟨i, hi1, hi2, rfl, HC, B0⟩ := hrel
  have e2 : IntKind.i64.wrap (2 * (i : Int)) = 2 * (i : Int) := by rw [IntKind.wrap_i64]; omega
  have e3 : IntKind.i64.wrap (2 * (i : Int) - 1) = 2 * (i : Int) - 1 := by rw [IntKind.wrap_i64]; omega
  by_cases hlt : 2 * i < n1 /\ 2 * i < n2
  ·obtain ⟨h1, h2⟩ := hlt
   have q1 : 2 * (i : Int) < (n1 : Int) := by omega
   have q2 : 2 * (i : Int) < (n2 : Int) := by omega
   obtain ⟨b1, o1, c1x, ev1, _, _, hb1, hr1⟩ := HA.out.ne (by have := HN1.out; omega)
   obtain ⟨b2, o2, c2x, ev2, _, _, hb2, hr2⟩ := HBs.out.ne (by have := HN2.out; omega)
   rw [HN1.out] at ev1
   rw [HN2.out] at ev2
   injection ev1 with x1 x2 x3
   injection ev2 with y1 y2 y3
   subst x1 x3 y1 y3
   have DA := hid fun j (hj : j < n1) => getD_D HA.out.2 j (by rw [HN1.out]; exact hj)
   have DB := hid fun j (hj : j < n2) => getD_D HBs.out.2 j (by rw [HN2.out]; exact hj)
   have R1 := hid fun j (hj : j < n1) => hr1 j (by rw [HN1.out]; exact hj)
   have R2 := hid fun j (hj : j < n2) => hr2 j (by rw [HN2.out]; exact hj)
   have HRR : Hid (∀ W, Below w.heap.size w W -> HB W (.slice (some ⟨b1, o1 + (2 * i - 1) * 32, none⟩) 32 32) (A.getD (2 * i - 1) []) /\ HB W (.slice (some ⟨b1, o1 + 2 * i * 32, none⟩) 32 32) (A.getD (2 * i) []) /\ HB W (.slice (some ⟨b2, o2 + (2 * i - 1) * 32, none⟩) 32 32) (B.getD (2 * i - 1) []) /\ HB W (.slice (some ⟨b2, o2 + 2 * i * 32, none⟩) 32 32) (B.getD (2 * i) [])) := hid fun W hW =>
    ⟨HB_dig (DA.out _ (by omega)) (range_below (R1.out (2 * i - 1) (by omega)) hW hb1), HB_dig (DA.out _ (by omega)) (range_below (R1.out (2 * i) (by omega)) hW hb1), HB_dig (DB.out _ (by omega)) (range_below (R2.out (2 * i - 1) (by omega)) hW hb2), HB_dig (DB.out _ (by omega)) (range_below (R2.out (2 * i) (by omega)) hW hb2)⟩
   obtain ⟨l1, Hl1⟩ : ∃ x, Hid (A.getD (2 * i - 1) [] = x) := ⟨_, rfl⟩
   obtain ⟨r1, Hr1⟩ : ∃ x, Hid (A.getD (2 * i) [] = x) := ⟨_, rfl⟩
   obtain ⟨l2, Hl2⟩ : ∃ x, Hid (B.getD (2 * i - 1) [] = x) := ⟨_, rfl⟩
   obtain ⟨r2, Hr2⟩ : ∃ x, Hid (B.getD (2 * i) [] = x) := ⟨_, rfl⟩
   have L1 : Hid (l1.length = 32) := hid (by rw [<- Hl1.out]; exact (DA.out _ (by omega)).1)
   have L2 : Hid (r1.length = 32) := hid (by rw [<- Hr1.out]; exact (DA.out _ (by omega)).1)
   have L3 : Hid (l2.length = 32) := hid (by rw [<- Hl2.out]; exact (DB.out _ (by omega)).1)
   have L4 : Hid (r2.length = 32) := hid (by rw [<- Hr2.out]; exact (DB.out _ (by omega)).1)
   rw [Hl1.out, Hr1.out, Hl2.out, Hr2.out] at HRR
   have t1 : (2 * (i : Int)).toNat = 2 * i := by omega
   have t2 : (2 * (i : Int) - 1).toNat = 2 * i - 1 := by omega
   have q3 : 1 <= 2 * (i : Int) := by omega
   have q4 : 2 * (i : Int) - 1 < (n1 : Int) := by omega
   have q5 : 2 * (i : Int) - 1 < (n2 : Int) := by omega
   clear hr1 hr2 R1 R2 DA DB
   go_wp2
   refine wp_region_held_drew (S := fun _ => True) (by kernel_rfl) trivial (fun hHeld => ?_)
   change wpAnyH _ _ _ _ _ _ _ _ (World.drew _)
   refine held_true _ _ _ _ ?_
   clear hHeld
   refine wpAny_rel (low_of (by kernel_rfl)) (dst := dstN) (Φ := ndF i b1 o1 n1 c1 b2 o2 n2 c2 l1 r1 l2 r2) (Array.replicate 27 false) rfl ?hdst ?hops ?hin (ndF_below i b1 o1 n1 c1 b2 o2 n2 c2 l1 r1 l2 r2) ?step ?fin 27 (by kernel_rfl)
   case hdst => intro k j _ _ _ _ e; unfold dstN at e; omega
   case hops =>
    intro k o ho _
    have hk : k < 27 := (Array.getElem?_eq_some_iff.1 ho).1
    match k, hk, ho with
    | 0, _, ho => obtain rfl := Option.some.inj ho; rfl
    | 1, _, ho => obtain rfl := Option.some.inj ho; rfl
    | 2, _, ho => obtain rfl := Option.some.inj ho; rfl
    | 3, _, ho => obtain rfl := Option.some.inj ho; rfl
    | 4, _, ho => obtain rfl := Option.some.inj ho; rfl
    | 5, _, ho => obtain rfl := Option.some.inj ho; rfl
    | 6, _, ho => obtain rfl := Option.some.inj ho; rfl
    | 7, _, ho => obtain rfl := Option.some.inj ho; rfl
    | 8, _, ho => obtain rfl := Option.some.inj ho; rfl
    | 9, _, ho => obtain rfl := Option.some.inj ho; rfl
    | 10, _, ho => obtain rfl := Option.some.inj ho; rfl
    | 11, _, ho => obtain rfl := Option.some.inj ho; rfl
    | 12, _, ho => obtain rfl := Option.some.inj ho; rfl
    | 13, _, ho => obtain rfl := Option.some.inj ho; rfl
    | 14, _, ho => obtain rfl := Option.some.inj ho; rfl
    | 15, _, ho => obtain rfl := Option.some.inj ho; rfl
    | 16, _, ho => obtain rfl := Option.some.inj ho; rfl
    | 17, _, ho => obtain rfl := Option.some.inj ho; rfl
    | 18, _, ho => obtain rfl := Option.some.inj ho; rfl
    | 19, _, ho => obtain rfl := Option.some.inj ho; rfl
    | 20, _, ho => obtain rfl := Option.some.inj ho; rfl
    | 21, _, ho => obtain rfl := Option.some.inj ho; rfl
    | 22, _, ho => obtain rfl := Option.some.inj ho; rfl
    | 23, _, ho => obtain rfl := Option.some.inj ho; rfl
    | 24, _, ho => obtain rfl := Option.some.inj ho; rfl
    | 25, _, ho => obtain rfl := Option.some.inj ho; rfl
    | 26, _, ho => obtain rfl := Option.some.inj ho; rfl
   case hin =>
    intro k hk _
    have hk : k < 27 := hk
    show dstN k < 47
    unfold dstN
    omega
   case fin =>
    intro a w3 vals hdf hall hb3
    obtain ⟨ea, fa⟩ := hall 26 (by show 26 < 27; omega) rfl
    have e26 : a.tmps[46]? = some (vals 26) := ea
    obtain ⟨t, et, ft⟩ : ∃ t : Bool, vals 26 = .bool t /\ (t = false -> NoC (ndB l1 r1) (ndB l2 r2)) := fa
    rw [et] at e26
    have BB := hid (B0.out.trans (((Below.refl _ wr).drew.trans (hb3.mono (by simp))).mono B0.out.size))
    have FT := hid ft
    obtain ⟨hd1, hd2, hd3⟩ := hdf
    have lay := tmps_lay (N := 27) (base := 20) (vals := vals) rfl hd2 (fun s h => hd3 s (fun k hk _ => by unfold dstN; omega)) (fun k hk => (hall k hk (by simp [hk])).1)
    clear hd2 hd3
    obtain ⟨tm, df⟩ := a
    dsimp only at lay hd1
    subst hd1
    have v26 : vals 26 = .bool t := et
    simp only [List.range, List.range.loop, List.map_cons, List.map_nil, List.take_succ_cons, List.take_zero, List.cons_append, List.nil_append] at lay
    rw [v26] at lay
    subst lay
    clear hall ea ft et hb3 e26 v26
    cases t with
    | true =>
     clear FT
     go_wp2
     go_ret
     exact ⟨true, rfl, (fun h => by cases h), BB.out⟩
    | false =>
     have FT := hid (FT.out rfl)
     go_wp2
     exact ⟨⟨i + 1, by omega, by omega, by go_num, hid (fun j g1 g2 => by
      by_cases hji : j = i
      ·rw [hji, Hl1.out, Hr1.out, Hl2.out, Hr2.out]; exact FT.out
      ·exact HC.out j g1 (by omega)), BB⟩, by simp [intOf]; omega⟩
   case step =>
    intro k o ho _ a w3 K vals L hR hd hK
    have hk : k < 27 := (Array.getElem?_eq_some_iff.1 ho).1
    have hrest : ∀ s, s < 20 -> a.tmps[s]? = (_ : Act).tmps[s]? := fun s h1 => hR.rest s (fun j hj _ => by unfold dstN; omega)
    have u0 : a.tmps[0]? = some (.slice (some ⟨b1, o1, none⟩) n1 c1) := hrest 0 (by omega)
    have u1 : a.tmps[1]? = some (.slice (some ⟨b2, o2, none⟩) n2 c2) := hrest 1 (by omega)
    have u5 : a.tmps[5]? = some (.int .i64 (i : Int)) := hrest 5 (by omega)
    have BB : Below w.heap.size w w3 := B0.out.trans (((Below.refl _ wr).drew.trans (hR.bel.mono (by simp))).mono B0.out.size)
    have DN : ∀ j, j < 27 -> L[j]? = some true -> a.tmps[dstN j]? = some (vals j) /\ ndF i b1 o1 n1 c1 b2 o2 n2 c2 l1 r1 l2 r2 j w3 (vals j) := fun j hj hL => hR.done j hj (by simp [hj]) hL
    clear hrest
    match k, hk, ho with
    | 0, _, ho =>
     obtain rfl := Option.some.inj ho
     clear DN
     first | (go_simp; done) | (go_simp; exact hK _ _ rfl (Below.refl _ _)) | (go_simp; intro hq; exfalso; omega)
    | 1, _, ho =>
     obtain rfl := Option.some.inj ho
     clear DN
     first | (go_simp; done) | (go_simp; exact hK _ _ rfl (Below.refl _ _)) | (go_simp; intro hq; exfalso; omega)
    | 2, _, ho =>
     obtain rfl := Option.some.inj ho
     obtain ⟨e1, f1⟩ := DN 1 (by omega) (hd ⟨1, .data⟩ (by simp) rfl)
     have e1 : a.tmps[21]? = some (.int .i64 (i : Int)) := by have := e1; rw [show vals 1 = _ from f1] at this; exact this
     clear DN
     first | (go_simp; done) | (go_simp; exact hK _ _ rfl (Below.refl _ _)) | (go_simp; intro hq; exfalso; omega)
    | 3, _, ho =>
     obtain rfl := Option.some.inj ho
     obtain ⟨e2, f2⟩ := DN 2 (by omega) (hd ⟨2, .data⟩ (by simp) rfl)
     have e2 : a.tmps[22]? = some (.int .i64 (2 * (i : Int))) := by have := e2; rw [show vals 2 = _ from f2] at this; exact this
     clear DN
     first | (go_simp; done) | (go_simp; exact hK _ _ rfl (Below.refl _ _)) | (go_simp; intro hq; exfalso; omega)
    | 4, _, ho =>
     obtain rfl := Option.some.inj ho
     obtain ⟨e0, f0⟩ := DN 0 (by omega) (hd ⟨0, .data⟩ (by simp) rfl)
     obtain ⟨e3, f3⟩ := DN 3 (by omega) (hd ⟨3, .data⟩ (by simp) rfl)
     have e0 : a.tmps[20]? = some (.slice (some ⟨b1, o1, none⟩) n1 c1) := by have := e0; rw [show vals 0 = _ from f0] at this; exact this
     have e3 : a.tmps[23]? = some (.int .i64 (2 * (i : Int) - 1)) := by have := e3; rw [show vals 3 = _ from f3] at this; exact this
     clear DN
     first | (go_simp; done) | (go_simp; exact hK _ _ rfl (Below.refl _ _)) | (go_simp; intro hq; exfalso; omega)
    | 5, _, ho =>
     obtain rfl := Option.some.inj ho
     obtain ⟨e4, f4⟩ := DN 4 (by omega) (hd ⟨4, .data⟩ (by simp) rfl)
     have e4 : a.tmps[24]? = some (.pointer (some ⟨b1, o1 + (2 * i - 1) * 32, none⟩)) := by have := e4; rw [show vals 4 = _ from f4] at this; exact this
     clear DN
     first | (go_simp; done) | (go_simp; exact hK _ _ rfl (Below.refl _ _)) | (go_simp; intro hq; exfalso; omega)
    | 6, _, ho =>
     obtain rfl := Option.some.inj ho
     clear DN
     first | (go_simp; done) | (go_simp; exact hK _ _ rfl (Below.refl _ _)) | (go_simp; intro hq; exfalso; omega)
    | 7, _, ho =>
     obtain rfl := Option.some.inj ho
     clear DN
     first | (go_simp; done) | (go_simp; exact hK _ _ rfl (Below.refl _ _)) | (go_simp; intro hq; exfalso; omega)
    | 8, _, ho =>
     obtain rfl := Option.some.inj ho
     obtain ⟨e7, f7⟩ := DN 7 (by omega) (hd ⟨7, .data⟩ (by simp) rfl)
     have e7 : a.tmps[27]? = some (.int .i64 (i : Int)) := by have := e7; rw [show vals 7 = _ from f7] at this; exact this
     clear DN
     first | (go_simp; done) | (go_simp; exact hK _ _ rfl (Below.refl _ _)) | (go_simp; intro hq; exfalso; omega)
    | 9, _, ho =>
     obtain rfl := Option.some.inj ho
     obtain ⟨e6, f6⟩ := DN 6 (by omega) (hd ⟨6, .data⟩ (by simp) rfl)
     obtain ⟨e8, f8⟩ := DN 8 (by omega) (hd ⟨8, .data⟩ (by simp) rfl)
     have e6 : a.tmps[26]? = some (.slice (some ⟨b1, o1, none⟩) n1 c1) := by have := e6; rw [show vals 6 = _ from f6] at this; exact this
     have e8 : a.tmps[28]? = some (.int .i64 (2 * (i : Int))) := by have := e8; rw [show vals 8 = _ from f8] at this; exact this
     clear DN
     first | (go_simp; done) | (go_simp; exact hK _ _ rfl (Below.refl _ _)) | (go_simp; intro hq; exfalso; omega)
    | 10, _, ho =>
     obtain rfl := Option.some.inj ho
     obtain ⟨e9, f9⟩ := DN 9 (by omega) (hd ⟨9, .data⟩ (by simp) rfl)
     have e9 : a.tmps[29]? = some (.pointer (some ⟨b1, o1 + 2 * i * 32, none⟩)) := by have := e9; rw [show vals 9 = _ from f9] at this; exact this
     clear DN
     first | (go_simp; done) | (go_simp; exact hK _ _ rfl (Below.refl _ _)) | (go_simp; intro hq; exfalso; omega)
    | 11, _, ho =>
     obtain rfl := Option.some.inj ho
     obtain ⟨e5, f5⟩ := DN 5 (by omega) (hd ⟨5, .data⟩ (by simp) rfl)
     obtain ⟨e10, f10⟩ := DN 10 (by omega) (hd ⟨10, .data⟩ (by simp) rfl)
     have e5 : a.tmps[25]? = some (.slice (some ⟨b1, o1 + (2 * i - 1) * 32, none⟩) 32 32) := by have := e5; rw [show vals 5 = _ from f5] at this; exact this
     have e10 : a.tmps[30]? = some (.slice (some ⟨b1, o1 + 2 * i * 32, none⟩) 32 32) := by have := e10; rw [show vals 10 = _ from f10] at this; exact this
     have HG := heap_alloc_new w3 (.cells #[.slice (some ⟨b1, o1 + (2 * i - 1) * 32, none⟩) 32 32, .slice (some ⟨b1, o1 + 2 * i * 32, none⟩) 32 32] 34)
     have BA := (Below.refl w3.heap.size w3).alloc (Nat.le_refl _) (.cells #[.slice (some ⟨b1, o1 + (2 * i - 1) * 32, none⟩) 32 32, .slice (some ⟨b1, o1 + 2 * i * 32, none⟩) 32 32] 34)
     have HT := HL.two' HG (((HRR.out w3 BB).1).below BA) (((HRR.out w3 BB).2.1).below BA)
     clear DN HG
     go_simp
     exact hK _ _ ⟨_, rfl, HT⟩ BA
    | 12, _, ho =>
     obtain rfl := Option.some.inj ho
     obtain ⟨e11, f11⟩ := DN 11 (by omega) (hd ⟨11, .data⟩ (by simp) rfl)
     obtain ⟨g, ev, hl⟩ := f11
     rw [ev] at e11
     have e11 : a.tmps[31]? = some (.slice (some ⟨g, 0, none⟩) 2 2) := e11
     have CL := rlist_node w3 _ l1 r1 hl L1.out L2.out
     clear DN ev hl
     go_simp
     refine CL.mono ?_
     rintro e w4 ⟨v4, rfl, hv4, hb4⟩
     obtain ⟨p4, c4, ev4, _, _⟩ := hv4.open
     subst ev4
     exact hK _ _ ⟨p4, c4, rfl, hv4⟩ hb4
    | 13, _, ho =>
     obtain rfl := Option.some.inj ho
     clear DN
     first | (go_simp; done) | (go_simp; exact hK _ _ rfl (Below.refl _ _)) | (go_simp; intro hq; exfalso; omega)
    | 14, _, ho =>
     obtain rfl := Option.some.inj ho
     clear DN
     first | (go_simp; done) | (go_simp; exact hK _ _ rfl (Below.refl _ _)) | (go_simp; intro hq; exfalso; omega)
    | 15, _, ho =>
     obtain rfl := Option.some.inj ho
     obtain ⟨e14, f14⟩ := DN 14 (by omega) (hd ⟨14, .data⟩ (by simp) rfl)
     have e14 : a.tmps[34]? = some (.int .i64 (i : Int)) := by have := e14; rw [show vals 14 = _ from f14] at this; exact this
     clear DN
     first | (go_simp; done) | (go_simp; exact hK _ _ rfl (Below.refl _ _)) | (go_simp; intro hq; exfalso; omega)
    | 16, _, ho =>
     obtain rfl := Option.some.inj ho
     obtain ⟨e15, f15⟩ := DN 15 (by omega) (hd ⟨15, .data⟩ (by simp) rfl)
     have e15 : a.tmps[35]? = some (.int .i64 (2 * (i : Int))) := by have := e15; rw [show vals 15 = _ from f15] at this; exact this
     clear DN
     first | (go_simp; done) | (go_simp; exact hK _ _ rfl (Below.refl _ _)) | (go_simp; intro hq; exfalso; omega)
    | 17, _, ho =>
     obtain rfl := Option.some.inj ho
     obtain ⟨e13, f13⟩ := DN 13 (by omega) (hd ⟨13, .data⟩ (by simp) rfl)
     obtain ⟨e16, f16⟩ := DN 16 (by omega) (hd ⟨16, .data⟩ (by simp) rfl)
     have e13 : a.tmps[33]? = some (.slice (some ⟨b2, o2, none⟩) n2 c2) := by have := e13; rw [show vals 13 = _ from f13] at this; exact this
     have e16 : a.tmps[36]? = some (.int .i64 (2 * (i : Int) - 1)) := by have := e16; rw [show vals 16 = _ from f16] at this; exact this
     clear DN
     first | (go_simp; done) | (go_simp; exact hK _ _ rfl (Below.refl _ _)) | (go_simp; intro hq; exfalso; omega)
    | 18, _, ho =>
     obtain rfl := Option.some.inj ho
     obtain ⟨e17, f17⟩ := DN 17 (by omega) (hd ⟨17, .data⟩ (by simp) rfl)
     have e17 : a.tmps[37]? = some (.pointer (some ⟨b2, o2 + (2 * i - 1) * 32, none⟩)) := by have := e17; rw [show vals 17 = _ from f17] at this; exact this
     clear DN
     first | (go_simp; done) | (go_simp; exact hK _ _ rfl (Below.refl _ _)) | (go_simp; intro hq; exfalso; omega)
    | 19, _, ho =>
     obtain rfl := Option.some.inj ho
     clear DN
     first | (go_simp; done) | (go_simp; exact hK _ _ rfl (Below.refl _ _)) | (go_simp; intro hq; exfalso; omega)
    | 20, _, ho =>
     obtain rfl := Option.some.inj ho
     clear DN
     first | (go_simp; done) | (go_simp; exact hK _ _ rfl (Below.refl _ _)) | (go_simp; intro hq; exfalso; omega)
    | 21, _, ho =>
     obtain rfl := Option.some.inj ho
     obtain ⟨e20, f20⟩ := DN 20 (by omega) (hd ⟨20, .data⟩ (by simp) rfl)
     have e20 : a.tmps[40]? = some (.int .i64 (i : Int)) := by have := e20; rw [show vals 20 = _ from f20] at this; exact this
     clear DN
     first | (go_simp; done) | (go_simp; exact hK _ _ rfl (Below.refl _ _)) | (go_simp; intro hq; exfalso; omega)
    | 22, _, ho =>
     obtain rfl := Option.some.inj ho
     obtain ⟨e19, f19⟩ := DN 19 (by omega) (hd ⟨19, .data⟩ (by simp) rfl)
     obtain ⟨e21, f21⟩ := DN 21 (by omega) (hd ⟨21, .data⟩ (by simp) rfl)
     have e19 : a.tmps[39]? = some (.slice (some ⟨b2, o2, none⟩) n2 c2) := by have := e19; rw [show vals 19 = _ from f19] at this; exact this
     have e21 : a.tmps[41]? = some (.int .i64 (2 * (i : Int))) := by have := e21; rw [show vals 21 = _ from f21] at this; exact this
     clear DN
     first | (go_simp; done) | (go_simp; exact hK _ _ rfl (Below.refl _ _)) | (go_simp; intro hq; exfalso; omega)
    | 23, _, ho =>
     obtain rfl := Option.some.inj ho
     obtain ⟨e22, f22⟩ := DN 22 (by omega) (hd ⟨22, .data⟩ (by simp) rfl)
     have e22 : a.tmps[42]? = some (.pointer (some ⟨b2, o2 + 2 * i * 32, none⟩)) := by have := e22; rw [show vals 22 = _ from f22] at this; exact this
     clear DN
     first | (go_simp; done) | (go_simp; exact hK _ _ rfl (Below.refl _ _)) | (go_simp; intro hq; exfalso; omega)
    | 24, _, ho =>
     obtain rfl := Option.some.inj ho
     obtain ⟨e18, f18⟩ := DN 18 (by omega) (hd ⟨18, .data⟩ (by simp) rfl)
     obtain ⟨e23, f23⟩ := DN 23 (by omega) (hd ⟨23, .data⟩ (by simp) rfl)
     have e18 : a.tmps[38]? = some (.slice (some ⟨b2, o2 + (2 * i - 1) * 32, none⟩) 32 32) := by have := e18; rw [show vals 18 = _ from f18] at this; exact this
     have e23 : a.tmps[43]? = some (.slice (some ⟨b2, o2 + 2 * i * 32, none⟩) 32 32) := by have := e23; rw [show vals 23 = _ from f23] at this; exact this
     have HG := heap_alloc_new w3 (.cells #[.slice (some ⟨b2, o2 + (2 * i - 1) * 32, none⟩) 32 32, .slice (some ⟨b2, o2 + 2 * i * 32, none⟩) 32 32] 34)
     have BA := (Below.refl w3.heap.size w3).alloc (Nat.le_refl _) (.cells #[.slice (some ⟨b2, o2 + (2 * i - 1) * 32, none⟩) 32 32, .slice (some ⟨b2, o2 + 2 * i * 32, none⟩) 32 32] 34)
     have HT := HL.two' HG (((HRR.out w3 BB).2.2.1).below BA) (((HRR.out w3 BB).2.2.2).below BA)
     clear DN HG
     go_simp
     exact hK _ _ ⟨_, rfl, HT⟩ BA
    | 25, _, ho =>
     obtain rfl := Option.some.inj ho
     obtain ⟨e24, f24⟩ := DN 24 (by omega) (hd ⟨24, .data⟩ (by simp) rfl)
     obtain ⟨g, ev, hl⟩ := f24
     rw [ev] at e24
     have e24 : a.tmps[44]? = some (.slice (some ⟨g, 0, none⟩) 2 2) := e24
     have CL := rlist_node w3 _ l2 r2 hl L3.out L4.out
     clear DN ev hl
     go_simp
     refine CL.mono ?_
     rintro e w4 ⟨v4, rfl, hv4, hb4⟩
     obtain ⟨p4, c4, ev4, _, _⟩ := hv4.open
     subst ev4
     exact hK _ _ ⟨p4, c4, rfl, hv4⟩ hb4
    | 26, _, ho =>
     obtain rfl := Option.some.inj ho
     obtain ⟨e12, f12⟩ := DN 12 (by omega) (hd ⟨12, .data⟩ (by simp) rfl)
     obtain ⟨e25, f25⟩ := DN 25 (by omega) (hd ⟨25, .data⟩ (by simp) rfl)
     obtain ⟨p3, c3, ev3, hv3⟩ := f12
     obtain ⟨p4, c4, ev4, hv4⟩ := f25
     rw [ev3] at e12
     rw [ev4] at e25
     have z1 : (ndB l1 r1).length = 103 := by unfold ndB; simp [num8, wNode, L1.out, L2.out]
     have z2 : (ndB l2 r2).length = 103 := by unfold ndB; simp [num8, wNode, L3.out, L4.out]
     have e12 : a.tmps[32]? = some (.slice p3 (ndB l1 r1).length c3) := e12
     have e25 : a.tmps[45]? = some (.slice p4 (ndB l2 r2).length c4) := e25
     have CC := clash_any w3 _ _ _ _ hv3 hv4 (by omega) (by omega)
     have FIN : ∀ t : Bool, decide (ndB l1 r1 ≠ ndB l2 r2 /\ digL (ndB l1 r1) = digL (ndB l2 r2)) = t -> (t = false -> NoC (ndB l1 r1) (ndB l2 r2)) := fun t e h => by rw [h] at e; exact of_decide_eq_false e
     generalize decide (ndB l1 r1 ≠ ndB l2 r2 /\ digL (ndB l1 r1) = digL (ndB l2 r2)) = tt at CC FIN
     have FIN := FIN tt rfl
     generalize (ndB l1 r1).length = z3 at e12 CC
     generalize (ndB l2 r2).length = z4 at e25 CC
     clear DN ev3 ev4 hv3 hv4 z1 z2
     go_simp
     refine CC.mono ?_
     rintro e w4 ⟨rfl, hb4⟩
     exact hK _ _ ⟨tt, rfl, FIN⟩ hb4
  ·have FIN : Hid (NoN A B) := hid (fun j g1 g2 g3 => HC.out j g1 (by rw [HN1.out] at g2; rw [HN2.out] at g3; omega))
   by_cases q1 : 2 * i < n1
   ·have q2 : ¬ 2 * (i : Int) < (n2 : Int) := by omega
    have q1' : 2 * (i : Int) < (n1 : Int) := by omega
    clear hlt q1
    go_wp2
    go_ret
    exact ⟨false, rfl, fun _ => FIN.out, B0.out⟩
   ·have q1' : ¬ 2 * (i : Int) < (n1 : Int) := by omega
    clear hlt q1
    go_wp2
    go_ret
    exact ⟨false, rfl, fun _ => FIN.out, B0.out⟩
theorem cells_range {w : World} {g : Nat} {T : TypeId} {fr : Nat × Nat} {d : List Int} (h : w.heap[g]? = some (.cells (cellsB d) T fr)) : w.rangeAt g 0 (dc d) := by
 intro j v hv
 rw [Nat.zero_add, cell_of_row _ _ _ _ _ _ h]
 show (dc d).toArray[j]? = some v
 rw [List.getElem?_toArray]
 exact hv
theorem rroot_any (w : World) (l : List Int) (hd : D32 l) : Calls Tryz.prog 30 #[.agg (cellsB l)] w fun e w' => e = .returned (.agg (cellsB (rtL l))) /\ Below w.heap.size w w' := by
 obtain ⟨zd, HZD⟩ : ∃ zd, Hid (cellsB zeros32 = zd) := ⟨_, rfl⟩
 obtain ⟨W0, hW0⟩ : ∃ W0, Hid ((w.alloc (.cells (cellsB l) 23)).alloc (.cells zd 23) = W0) := ⟨_, rfl⟩
 have B0 : Hid (Below w.heap.size w W0) := by refine hid ?_; rw [<- hW0.out]; exact ((Below.refl _ w).alloc (Nat.le_refl _) _).alloc (by simp) _
 have G0 : Hid (W0.heap[w.heap.size]? = some (.cells (cellsB l) 23 (0, 0))) := by refine hid ?_; rw [<- hW0.out]; exact (heap_alloc_old _ _ (by simp)).trans (heap_alloc_new w _)
 have R0 : Hid (W0.heap[w.heap.size + 1]? = some (.cells zd 23 (0, 0))) := by
  refine hid ?_
  rw [<- hW0.out]
  have := heap_alloc_new (w.alloc (.cells (cellsB l) 23)) (.cells zd 23)
  simpa using this
 have Z0 : Hid (W0.heap.size = w.heap.size + 2) := by refine hid ?_; rw [<- hW0.out]; simp
 have DL := hid (digL_length (t1B wRoot l))
 unfold rtL
 obtain ⟨y, HY⟩ : ∃ y, Hid (cellsB (digL (t1B wRoot l)) = y) := ⟨_, rfl⟩
 have SY : Hid ((Tryz.prog.info? 23).map (·.size) = some y.size) := by refine hid ?_; rw [<- HY.out, cellsB_size, DL.out]; exact size_digest
 have OY : Hid (y.all (·.oneCell') = true) := by refine hid ?_; rw [<- HY.out]; exact cellsB_one _
 have ZY : Hid (zd.size = y.size) := by refine hid ?_; rw [<- HZD.out, <- HY.out, cellsB_size, cellsB_size, DL.out, zeros32_length]
 have HA := hid (heap_alloc_new W0 (.cells #[.slice (some ⟨w.heap.size, 0, none⟩) 32 32] 34))
 have BA := hid ((Below.refl W0.heap.size W0).alloc (Nat.le_refl _) (.cells #[.slice (some ⟨w.heap.size, 0, none⟩) 32 32] 34))
 have hl1 := HL.one HA.out ((HB_dig hd (cells_range G0.out)).below BA.out)
 have C1 := rdigest_root (W0.alloc (.cells #[.slice (some ⟨w.heap.size, 0, none⟩) 32 32] 34)) _ [l] hl1 (fun w' hB => rfits_root w' _ l (hl1.below hB) hd.1) (by simp [hd.1]) (fun q hq => by simp at hq; subst hq; exact hd.2)
 rw [sroot_strI, show framed [wRoot, l] = t1B wRoot l from rfl, HY.out] at C1
 have C1 := hid C1
 rw [HY.out]
 have B1 := hid (B0.out.trans (BA.out.mono B0.out.size))
 have R1 := hid ((BA.out.block (w.heap.size + 1) (by rw [Z0.out]; omega)).trans R0.out)
 have S1 : Hid (w.heap.size + 1 < (W0.alloc (.cells #[.slice (some ⟨w.heap.size, 0, none⟩) 32 32] 34)).heap.size) := hid (by simp; rw [Z0.out]; omega)
 obtain ⟨cl, HCl⟩ : ∃ x, Hid (cellsB l = x) := ⟨_, rfl⟩
 rw [HCl.out] at hW0
 rw [HCl.out]
 have HS32 : Hid (cl.size = 32) := by refine hid ?_; rw [<- HCl.out, cellsB_size, hd.1]
 clear hl1
 go_enter Tryz.func30, Tryz.ntmps30
 go_wp2_with (first | (refine wpList_alloc_digest rfl rfl ?_; rw [HZD.out, hW0.out]) | fail)
 refine C1.out.mono ?_
 rintro e w2 ⟨rfl, hb2⟩
 have B2 := hid (B1.out.trans (hb2.mono B1.out.size))
 have R2 := hid ((hb2.block (w.heap.size + 1) S1.out).trans R1.out)
 clear hb2 C1
 go_wp2_with (first | (refine wpList_store_row rfl 23 _ _ rfl (w.heap.size + 1) y rfl rfl 23 _ R2.out SY.out ZY.out OY.out ?_) | fail)
 refine bodyPost_ret (v := .agg y) (results_cell_row (p := 2) (ty := 23) rfl _ _ (w.heap.size + 1) 23 y (0, 0) _ rfl (setRow_heap _ _ _ _ _ _ R2.out) Tryz.underlying23 rfl SY.out) rfl ?_
 exact ⟨rfl, bel_setRow B2.out (by omega) _⟩
theorem clTo_par (cs : List (List Int)) (k i : Nat) (d : List Int) (hl : cs.length = k) : ∀ j, j <= k -> clTo cs (2 ^ k + i) d j = clTo cs i d j
 | 0, _ => by unfold clTo; simp [clV]
 | j + 1, h => by
  rw [clTo_step j cs (2 ^ k + i) d (by omega), clTo_step j cs i d (by omega), clTo_par cs k i d hl j (by omega), par_leaf k i j (by omega)]
theorem wayB_par (cs : List (List Int)) (k i : Nat) (d : List Int) (hl : cs.length = k) (q : Nat) (hq : q < k) : wayB cs (2 ^ k + i) d q = wayB cs i d q := by
 unfold wayB
 rw [clTo_par cs k i d hl q (by omega), par_leaf k i q hq]
theorem tmps_lay3 {a a0 : Act} {N base : Nat} {vals : Nat -> Value} (hs0 : base + N <= a0.tmps.size) (hs : a.tmps.size = a0.tmps.size) (h1 : ∀ s, s < base \/ base + N <= s -> a.tmps[s]? = a0.tmps[s]?) (h2 : ∀ i, i < N -> a.tmps[base + i]? = some (vals i)) : a.tmps = (a0.tmps.toList.take base ++ ((List.range N).map vals ++ a0.tmps.toList.drop (base + N))).toArray := by
 have hl0 : a0.tmps.toList.length = a0.tmps.size := by rw [Array.length_toList]
 have key : a.tmps.toList = a0.tmps.toList.take base ++ ((List.range N).map vals ++ a0.tmps.toList.drop (base + N)) := by
  refine List.ext_getElem? fun s => ?_
  rw [Array.getElem?_toList]
  by_cases hb : s < base
  ·rw [List.getElem?_append_left (by rw [List.length_take]; omega), List.getElem?_take, if_pos hb, h1 s (Or.inl hb), Array.getElem?_toList]
  ·rw [List.getElem?_append_right (by rw [List.length_take]; omega), List.length_take, Nat.min_eq_left (by omega)]
   by_cases hn : s < base + N
   ·have e := h2 (s - base) (by omega)
    rw [show base + (s - base) = s by omega] at e
    rw [e, List.getElem?_append_left (by rw [List.length_map, List.length_range]; omega), List.getElem?_map, List.getElem?_range (by omega)]
    rfl
   ·rw [List.getElem?_append_right (by rw [List.length_map, List.length_range]; omega), List.length_map, List.length_range, List.getElem?_drop, show base + N + (s - base - N) = s by omega, h1 s (Or.inr (by omega)), Array.getElem?_toList]
 rw [<- key]
end Go.Proofs.YtdgollnapbonjaaGreatDoor
