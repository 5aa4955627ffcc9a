/- Of the road to serverTicksUpto_holds: SvMs, SvOrd, SvBd, SvLoad, OpensKt, SvSort, SvKs, SvLitK. -/
import Derived.Test.YthmhpenjegfbcaaG02
import Derived.Test.YthmhpenjegfbcaaG01
import Derived.Test.YthmhpenjegfbcaaG00
import Derived.Deep.Slices
import Derived.ChangeArms
import Derived.Shelf.SlGeneric
import Derived.Shelf.SlSortCmp.WholeK
import Derived.Shelf.SlSortCmp.NoneTotal
import Derived.Ground.SlsfProg
import Derived.Test.YthmhpenjegfbcaaProg
set_option linter.unusedVariables false
set_option linter.unusedSimpArgs false
namespace Go.Proofs.Ythmhpenjegfbcaa
open Go Go.RowKit
structure Rk where
  k : Kp
  vb : Value
  vl : Value
def rkL (x : Rk) : List Value := kpL x.k x.vb x.vl
def RdK (w : World) (vk : Value) (Ks : List Rk) : Prop := ∃ (p : Option Addr) (c : Nat), vk = .slice p Ks.length c ∧ (Ks ≠ [] → ∃ b off, p = some ⟨b, off, none⟩ ∧ b < w.heap.size ∧ ∀ i (hi : i < Ks.length), w.rangeAt b (off + i * 19) (rkL Ks[i])) ∧ ∀ x ∈ Ks, x.k.sp.ok ∧ HB w x.vb x.k.bs ∧ RdL w x.vl x.k.ls
theorem RdK.below {w w' : World} {vk : Value} {Ks : List Rk} (h : RdK w vk Ks) (hb : Below w.heap.size w w') : RdK w' vk Ks := by
  obtain ⟨p, c, h1, h2, h3⟩ := h
  refine ⟨p, c, h1, fun hl => ?_, fun x hx => ⟨(h3 x hx).1, (h3 x hx).2.1.below hb, (h3 x hx).2.2.below hb⟩⟩
  obtain ⟨b, off, e, hbl, hr⟩ := h2 hl
  exact ⟨b, off, e, Nat.lt_of_lt_of_le hbl hb.size, fun i hi => range_below0 (hr i hi) hb hbl⟩
abbrev zkept : Array Value := #[.int .u8 0, .int .u8 0, .int .u8 0, .int .u8 0, .int .u8 0, .int .u8 0, .int .u8 0, .int .u8 0, .int .u8 0, .int .u8 0, .int .u8 0, .int .u8 0, .int .u8 0, .int .u8 0, .int .u8 0, .int .u8 0, .int .i64 0, .slice none 0 0, .slice none 0 0]
theorem size_kept : (Try.prog.info? 60).map (·.size) = some 19 := by kernel_rfl
theorem rkL_length {x : Rk} (h : x.k.sp.ok) : (rkL x).length = 19 := kpL_length h _ _
theorem size_rk {x : Rk} (h : x.k.sp.ok) : (Try.prog.info? 60).map (·.size) = some (rkL x).length := by rw [rkL_length h]; exact size_kept
theorem rkL_one {w : World} {x : Rk} (hb : HB w x.vb x.k.bs) (hl : RdL w x.vl x.k.ls) {v : Value} (h : v ∈ rkL x) : v.oneCell' = true := by
  unfold rkL kpL at h
  obtain ⟨p, c, hv, -, -⟩ := hb.open
  obtain ⟨p2, c2, hv2, -⟩ := hl
  rcases List.mem_append.1 h with h | h
  · obtain ⟨y, _, rfl⟩ := List.mem_map.1 h; rfl
  · simp only [List.mem_cons, List.not_mem_nil, or_false] at h
    rcases h with rfl | rfl | rfl
    · rfl
    · rw [hv]; rfl
    · rw [hv2]; rfl
def usedK (Ks : List Rk) : Int := (Ks.map fun x => (x.k.bs.length : Int)).sum
def StJ (t : Int) (Ks : List Rk) (j : Nat) : Prop := ∀ hj : j < Ks.length, (∀ h0 : 0 < j, cmpS (Ks[j - 1]'(by omega)).k.sp Ks[j].k.sp < 0) ∧ KpQ t Ks[j].k
def StQ (room t : Int) (Ks : List Rk) : Prop := (∀ j, StJ t Ks j) ∧ rmB room = true ∧ tkB t = true ∧ usedK Ks ≤ room
theorem usedK_take (Ks : List Rk) (k : Nat) (h : k < Ks.length) : usedK (Ks.take (k + 1)) = usedK (Ks.take k) + (Ks[k].k.bs.length : Int) := by
  unfold usedK
  rw [List.take_succ_eq_append_getElem h, List.map_append, List.sum_append, List.map_cons, List.map_nil, List.sum_cons, List.sum_nil, Int.add_zero]
theorem usedK_bound {t : Int} {Ks : List Rk} : ∀ k, k ≤ Ks.length → (∀ j, j < k → StJ t Ks j) → 0 ≤ usedK (Ks.take k) ∧ usedK (Ks.take k) ≤ 33554432 * (k : Int)
  | 0, _, _ => by simp [usedK]
  | k + 1, hk, h => by
    have ih := usedK_bound k (by omega) (fun j hj => h j (by omega))
    have h1 := (h k (by omega) (by omega)).2.2.1
    rw [usedK_take Ks k (by omega)]
    constructor
    · omega
    · have : ((k + 1 : Nat) : Int) = (k : Int) + 1 := by simp
      rw [this]
      omega
set_option maxRecDepth 100000 in
set_option maxHeartbeats 16000000 in
theorem mayStore_any (w : World) (room t : Int) (vk : Value) (Ks : List Rk) (h : RdK w vk Ks) (hn : Ks.length ≤ 1048576) : Calls Try.prog 17 #[.agg #[.int .i64 room, .int .i64 t, vk]] w fun e w' => ∃ r, e = .returned (.bool r) ∧ (r = true ↔ StQ room t Ks) ∧ Below w.heap.size w w' := by
  have HKS := hid h
  obtain ⟨pk, ck, hvk, hcells, hall⟩ := h
  subst hvk
  obtain ⟨W0, HW0⟩ : ∃ W : World, Hid (w.alloc (.cells #[.int .i64 room, .int .i64 t, .slice pk Ks.length ck] 24) = W) := ⟨_, hid rfl⟩
  have B0 : Hid (Below w.heap.size w W0) := by rw [← HW0.out]; exact hid ((Below.refl _ w).alloc (Nat.le_refl _) _)
  have HLT0 : Hid (w.heap.size < W0.heap.size) := hid (by rw [← HW0.out]; simp)
  have s0 : W0.cell? ⟨w.heap.size, 0, none⟩ = some (.int .i64 room) := by rw [← HW0.out]; exact (cell_of_row _ _ _ _ _ _ (heap_alloc_new w _)).trans rfl
  have s1 : W0.cell? ⟨w.heap.size, 1, none⟩ = some (.int .i64 t) := by rw [← HW0.out]; exact (cell_of_row _ _ _ _ _ _ (heap_alloc_new w _)).trans rfl
  have s2 : W0.cell? ⟨w.heap.size, 2, none⟩ = some (.slice pk Ks.length ck) := by rw [← HW0.out]; exact (cell_of_row _ _ _ _ _ _ (heap_alloc_new w _)).trans rfl
  have HCE := hid hcells
  have HAL := hid hall
  have CB := hid bySpot_any
  have CRm := hid isRoom_any
  have CTk := hid isTick_any
  clear hcells hall
  go_enter Try.func17, Try.ntmps17
  refine wp_seq_k fun K0 h0 => ?_
  have H0 := hid h0
  clear h0
  go_wp2
  rw [HW0.out]
  refine H0.out _ _ ?_
  go_wp2
  go_loopw [3, 9] (fun u3 u9 wr => ∃ k : Nat, k ≤ Ks.length ∧ u3 = .int .i64 (usedK (Ks.take k)) ∧ u9 = .int .i64 k ∧ (∀ j, j < k → StJ t Ks j) ∧ Below W0.heap.size W0 wr) (fun _ u9 _ => Ks.length - (intOf u9).toNat)
  case atStart => exact ⟨0, Nat.zero_le _, by simp [usedK], rfl, fun j hj => by omega, Below.refl _ _⟩
  case round =>
    obtain ⟨k, hk, rfl, rfl, hM, hB⟩ := hrel
    obtain ⟨ub1, ub2⟩ := usedK_bound k hk hM
    have HM := hid hM
    have HB := hid hB
    clear hM
    by_cases hlt : k < Ks.length
    · obtain ⟨b, off, epk, hbl, hrg⟩ := HCE.out (List.length_pos_iff.1 (by omega))
      obtain ⟨hok, hHB, hRL⟩ := HAL.out Ks[k] (List.getElem_mem hlt)
      have hbl0 : b < W0.heap.size := Nat.lt_of_lt_of_le hbl B0.out.size
      have hrk := range_below0 (range_below0 (hrg k hlt) B0.out hbl) hB hbl0
      have HRK := hid hrk
      have HSZ := hid (size_rk hok)
      have HBB := hid (B0.out.trans (hB.mono B0.out.size))
      have v1 := hid (hHB.below HBB.out)
      have v2 := hid (hRL.below HBB.out)
      subst epk
      have hlt' : (k : Int) < (Ks.length : Int) := by omega
      obtain ⟨m, HMm⟩ : ∃ x, Hid ((rkL Ks[k]).toArray = x) := ⟨_, hid rfl⟩
      have hms : Hid (m.size = 19) := hid (by rw [← HMm.out, List.size_toArray]; exact rkL_length hok)
      have hm1 : Hid (m.all (·.oneCell') = true) := hid (by rw [← HMm.out]; exact all_oneCell_toArray fun v hv => rkL_one hHB hRL hv)
      have hmi : Hid ((Try.prog.info? 60).map (·.size) = some m.size) := hid (by rw [hms.out]; exact size_kept)
      obtain ⟨W1, HW1⟩ : ∃ W : World, Hid ((wr.alloc (.cells zkept 60)).setRow wr.heap.size m = W) := ⟨_, hid rfl⟩
      have hb1 : Below wr.heap.size wr W1 := by
        rw [← HW1.out]
        refine ⟨rfl, rfl, rfl, by simp [World.setRow], fun k hk => ?_⟩
        simp only [World.setRow, Array.getElem?_modify]
        rw [if_neg (by omega)]
        exact Below.heap_alloc _ _ _ hk
      have hsb1 : W1.heap[wr.heap.size]? = some (.cells m 60 (0, 0)) := by
        rw [← HW1.out]
        exact setRow_heap _ _ _ _ _ _ (heap_alloc_new wr (.cells zkept 60))
      have HLT : Hid (wr.heap.size < W1.heap.size) := hid (by rw [← HW1.out]; simp [World.setRow])
      have B1 := hid hb1
      have B01 := hid (hB.trans (hb1.mono hB.size))
      have BW1 := hid (HBB.out.trans (hb1.mono HBB.out.size))
      have R5 : Hid (W1.rangeAt wr.heap.size 0 (rkL Ks[k])) := hid (range_of (by rw [hsb1, ← HMm.out]))
      have c17 : W1.cell? ⟨wr.heap.size, 17, none⟩ = some Ks[k].vb := by
        have := kpL_17 hok Ks[k].vb Ks[k].vl
        have q := R5.out 17 _ this
        rwa [Nat.zero_add] at q
      have CK : Hid (∀ W, Below W1.heap.size W1 W → Calls Try.prog 33 #[.agg m, .int .i64 t] W fun e w' => ∃ r, e = .returned (.bool r) ∧ (r = true ↔ KpQ t Ks[k].k) ∧ Below W.heap.size W w') := hid fun W hW => by
        rw [← HMm.out]
        exact mayKeep_any W Ks[k].k hok Ks[k].vb Ks[k].vl t ((hHB.below BW1.out).below hW) ((hRL.below BW1.out).below hW)
      have z1 := (B01.out.cell (p := ⟨w.heap.size, 1, none⟩) HLT0.out).trans s1
      have z2 := (B01.out.cell (p := ⟨w.heap.size, 2, none⟩) HLT0.out).trans s2
      have HLT01 : Hid (w.heap.size < W1.heap.size) := hid (Nat.lt_of_lt_of_le HLT0.out B01.out.size)
      have K12 : Hid (∀ W, Below W1.heap.size W1 W → W.cell? ⟨w.heap.size, 1, none⟩ = some (.int .i64 t) ∧ W.cell? ⟨w.heap.size, 2, none⟩ = some (.slice (some ⟨b, off, none⟩) Ks.length ck)) := hid fun W hW => ⟨(hW.cell (p := ⟨w.heap.size, 1, none⟩) HLT01.out).trans z1, (hW.cell (p := ⟨w.heap.size, 2, none⟩) HLT01.out).trans z2⟩
      obtain ⟨pv, cv, hvb, -, -⟩ := hHB.open
      rw [hvb] at c17
      have hnb : (Ks[k].k.bs.length : Int) ≤ 9223372036854775807 := by
        obtain ⟨p', c', e', l1, l2⟩ := hHB.open
        unfold maxLen at l2
        omega
      obtain ⟨X, HX⟩ : ∃ y, Hid (usedK (Ks.take k) = y) := ⟨_, hid rfl⟩
      obtain ⟨nn, HNN⟩ : ∃ y, Hid (Ks[k].k.bs.length = y) := ⟨_, hid rfl⟩
      rw [HX.out] at ub1 ub2
      rw [HNN.out] at c17 hnb
      rw [HX.out]
      have HUB := hid (And.intro ub1 ub2)
      have bd : Below W1.heap.size W1 W1.drew := (Below.refl _ W1).drew
      have HOK := hid hok
      clear hrk hrg hHB hRL hb1 hsb1 hB hvb hok ub1 ub2
      by_cases hk0 : k = 0
      · have d3 : decide (0 < k) = false := decide_eq_false (by omega)
        have HK0 := hid hk0
        clear hk0
        go_wp2_with (first | (refine wpList_load_mid rfl 60 _ rfl b (off + k * 19) rfl (rkL Ks[k]) _ HRK.out Try.underlying60 rfl HSZ.out ?_; rw [HMm.out]) | (refine wpList_store_row rfl 60 _ _ rfl wr.heap.size m rfl rfl 60 zkept (heap_alloc_new wr _) hmi.out (by rw [hms.out]; rfl) hm1.out ?_; rw [HW1.out]))
        refine wp_region_held_drew (S := Below W1.heap.size W1) (by kernel_rfl) bd (fun hHeld => ?_)
        have HS := hid hHeld
        clear hHeld
        change wpAnyH _ _ _ _ _ _ _ _ (World.drew _)
        refine wpAnyH_take (i := 0) (v := ?_) rfl (by kernel_rfl) (by kernel_rfl) (by kernel_rfl) (fun _ _ _ h => h) (Or.inl ⟨by rfl, ?q0⟩) HS.out ?_
        case q0 => intro w hSw; obtain ⟨q1, q2⟩ := K12.out _ hSw; go_simp; rfl
        simp only [Act.put, List.getElem_toArray, List.getElem_cons_zero, List.getElem_cons_succ, List.setIfInBounds_toArray, List.set_cons_zero, List.set_cons_succ]
        refine wpAnyH_take (i := 1) (v := ?_) rfl (by kernel_rfl) (by kernel_rfl) (by kernel_rfl) (fun _ _ _ h => h) (Or.inl ⟨by rfl, ?q1⟩) HS.out ?_
        case q1 => intro w hSw; obtain ⟨q1, q2⟩ := K12.out _ hSw; go_simp; rfl
        simp only [Act.put, List.getElem_toArray, List.getElem_cons_zero, List.getElem_cons_succ, List.setIfInBounds_toArray, List.set_cons_zero, List.set_cons_succ]
        refine wpAnyH_take (i := 2) (v := ?_) rfl (by kernel_rfl) (by kernel_rfl) (by kernel_rfl) (fun _ _ _ h => h) (Or.inl ⟨by rfl, ?q2⟩) HS.out ?_
        case q2 => intro w hSw; obtain ⟨q1, q2⟩ := K12.out _ hSw; go_simp; rfl
        simp only [Act.put, List.getElem_toArray, List.getElem_cons_zero, List.getElem_cons_succ, List.setIfInBounds_toArray, List.set_cons_zero, List.set_cons_succ]
        refine wpAnyH_take (i := 3) (v := undef) rfl (by kernel_rfl) (by kernel_rfl) (by kernel_rfl) (fun _ _ _ h => h) (Or.inr ⟨by rfl, rfl⟩) HS.out ?_
        simp only [Act.put, List.getElem_toArray, List.getElem_cons_zero, List.getElem_cons_succ, List.setIfInBounds_toArray, List.set_cons_zero, List.set_cons_succ]
        refine wpAnyH_take (i := 4) (v := undef) rfl (by kernel_rfl) (by kernel_rfl) (by kernel_rfl) (fun _ _ _ h => h) (Or.inr ⟨by rfl, rfl⟩) HS.out ?_
        simp only [Act.put, List.getElem_toArray, List.getElem_cons_zero, List.getElem_cons_succ, List.setIfInBounds_toArray, List.set_cons_zero, List.set_cons_succ]
        refine wpAnyH_take (i := 5) (v := undef) rfl (by kernel_rfl) (by kernel_rfl) (by kernel_rfl) (fun _ _ _ h => h) (Or.inr ⟨by rfl, rfl⟩) HS.out ?_
        simp only [Act.put, List.getElem_toArray, List.getElem_cons_zero, List.getElem_cons_succ, List.setIfInBounds_toArray, List.set_cons_zero, List.set_cons_succ]
        refine wpAnyH_take (i := 6) (v := undef) rfl (by kernel_rfl) (by kernel_rfl) (by kernel_rfl) (fun _ _ _ h => h) (Or.inr ⟨by rfl, rfl⟩) HS.out ?_
        simp only [Act.put, List.getElem_toArray, List.getElem_cons_zero, List.getElem_cons_succ, List.setIfInBounds_toArray, List.set_cons_zero, List.set_cons_succ]
        refine wpAnyH_take (i := 7) (v := undef) rfl (by kernel_rfl) (by kernel_rfl) (by kernel_rfl) (fun _ _ _ h => h) (Or.inr ⟨by rfl, rfl⟩) HS.out ?_
        simp only [Act.put, List.getElem_toArray, List.getElem_cons_zero, List.getElem_cons_succ, List.setIfInBounds_toArray, List.set_cons_zero, List.set_cons_succ]
        refine wpAnyH_take (i := 8) (v := undef) rfl (by kernel_rfl) (by kernel_rfl) (by kernel_rfl) (fun _ _ _ h => h) (Or.inr ⟨by rfl, rfl⟩) HS.out ?_
        simp only [Act.put, List.getElem_toArray, List.getElem_cons_zero, List.getElem_cons_succ, List.setIfInBounds_toArray, List.set_cons_zero, List.set_cons_succ]
        refine wpAnyH_take (i := 9) (v := undef) rfl (by kernel_rfl) (by kernel_rfl) (by kernel_rfl) (fun _ _ _ h => h) (Or.inr ⟨by rfl, rfl⟩) HS.out ?_
        simp only [Act.put, List.getElem_toArray, List.getElem_cons_zero, List.getElem_cons_succ, List.setIfInBounds_toArray, List.set_cons_zero, List.set_cons_succ]
        refine wpAnyH_take (i := 10) (v := undef) rfl (by kernel_rfl) (by kernel_rfl) (by kernel_rfl) (fun _ _ _ h => h) (Or.inr ⟨by rfl, rfl⟩) HS.out ?_
        simp only [Act.put, List.getElem_toArray, List.getElem_cons_zero, List.getElem_cons_succ, List.setIfInBounds_toArray, List.set_cons_zero, List.set_cons_succ]
        refine wpAnyH_take (i := 11) (v := undef) rfl (by kernel_rfl) (by kernel_rfl) (by kernel_rfl) (fun _ _ _ h => h) (Or.inr ⟨by rfl, rfl⟩) HS.out ?_
        simp only [Act.put, List.getElem_toArray, List.getElem_cons_zero, List.getElem_cons_succ, List.setIfInBounds_toArray, List.set_cons_zero, List.set_cons_succ]
        refine wpAnyH_take (i := 12) (v := ?_) rfl (by kernel_rfl) (by kernel_rfl) (by kernel_rfl) (fun _ _ _ h => h) (Or.inl ⟨by rfl, ?q12⟩) HS.out ?_
        case q12 => intro w hSw; obtain ⟨q1, q2⟩ := K12.out _ hSw; go_simp; rfl
        simp only [Act.put, List.getElem_toArray, List.getElem_cons_zero, List.getElem_cons_succ, List.setIfInBounds_toArray, List.set_cons_zero, List.set_cons_succ]
        refine wpAnyH_take (i := 13) (v := ?_) rfl (by kernel_rfl) (by kernel_rfl) (by kernel_rfl) (fun _ _ _ h => h) (Or.inl ⟨by rfl, ?q13⟩) HS.out ?_
        case q13 => intro w hSw; obtain ⟨q1, q2⟩ := K12.out _ hSw; go_simp; rfl
        simp only [Act.put, List.getElem_toArray, List.getElem_cons_zero, List.getElem_cons_succ, List.setIfInBounds_toArray, List.set_cons_zero, List.set_cons_succ]
        refine wpAnyH_take (i := 14) rfl (by kernel_rfl) (by kernel_rfl) (by kernel_rfl) (fun _ _ _ h => h) (yieldsIf_load_mid (by rfl) 60 _ rfl wr.heap.size 0 rfl (rkL Ks[k]) _ (fun W hW => range_below0 R5.out hW HLT.out) Try.underlying60 rfl HSZ.out) HS.out ?_
        simp only [Act.put, List.getElem_toArray, List.getElem_cons_zero, List.getElem_cons_succ, List.setIfInBounds_toArray, List.set_cons_zero, List.set_cons_succ]
        rw [HMm.out]
        refine wpAnyH_take (i := 15) (v := ?_) rfl (by kernel_rfl) (by kernel_rfl) (by kernel_rfl) (fun _ _ _ h => h) (Or.inl ⟨by rfl, ?q15⟩) HS.out ?_
        case q15 => intro w hSw; obtain ⟨q1, q2⟩ := K12.out _ hSw; go_simp; rfl
        simp only [Act.put, List.getElem_toArray, List.getElem_cons_zero, List.getElem_cons_succ, List.setIfInBounds_toArray, List.set_cons_zero, List.set_cons_succ]
        refine wpAnyH_take (i := 16) (v := ?_) rfl (by kernel_rfl) (by kernel_rfl) (by kernel_rfl) (fun _ _ _ h => h) (Or.inl ⟨by rfl, ?q16⟩) HS.out ?_
        case q16 => intro w hSw; obtain ⟨q1, q2⟩ := K12.out _ hSw; go_simp; rfl
        simp only [Act.put, List.getElem_toArray, List.getElem_cons_zero, List.getElem_cons_succ, List.setIfInBounds_toArray, List.set_cons_zero, List.set_cons_succ]
        refine wpAnyH_ready (rs := [17]) (by kernel_rfl) (by simp) ?_
        refine AllReadyH.cons rfl (fun K hK => ?_) AllReadyH.nil
        replace hK := hid hK
        go_simp
        refine (CK.out _ HS.out).mono ?_
        rintro e w3 ⟨r, rfl, hr, hb3⟩
        have B3 := hid (HS.out.trans (hb3.mono HS.out.size))
        have HR := hid hr
        clear hb3 hr
        refine hK.out _ _ B3.out (fun _ => ?_)
        clear hK K HS
        have HS := B3
        refine wpAnyH_take (i := 18) (v := ?_) rfl (by kernel_rfl) (by kernel_rfl) (by kernel_rfl) (fun _ _ _ h => h) (Or.inl ⟨by rfl, ?q18⟩) HS.out ?_
        case q18 => intro w hSw; obtain ⟨q1, q2⟩ := K12.out _ hSw; go_simp; rfl
        simp only [Act.put, List.getElem_toArray, List.getElem_cons_zero, List.getElem_cons_succ, List.setIfInBounds_toArray, List.set_cons_zero, List.set_cons_succ]
        refine wpAnyH_take (i := 19) (v := ?_) rfl (by kernel_rfl) (by kernel_rfl) (by kernel_rfl) (fun _ _ _ h => h) (Or.inl ⟨by rfl, ?q19⟩) HS.out ?_
        case q19 => intro w hSw; obtain ⟨q1, q2⟩ := K12.out _ hSw; go_simp; rfl
        simp only [Act.put, List.getElem_toArray, List.getElem_cons_zero, List.getElem_cons_succ, List.setIfInBounds_toArray, List.set_cons_zero, List.set_cons_succ]
        refine wpAnyH_done (by kernel_rfl) ?_ _
        cases r with
        | false =>
          have HNK : Hid (¬ KpQ t Ks[k].k) := hid (fun q => by have := HR.out.2 q; cases this)
          have B9 := hid (B0.out.trans ((B01.out.trans (HS.out.mono B01.out.size)).mono B0.out.size))
          go_wp2
          go_ret
          exact ⟨false, rfl, ⟨fun q => (by cases q), fun q => absurd ((q.1 k hlt).2) HNK.out⟩, B9.out⟩
        | true =>
          have HKQ : Hid (KpQ t Ks[k].k) := hid (HR.out.1 rfl)
          have hn2 : (nn : Int) ≤ 33554432 := by have := HKQ.out.2.1; rw [HNN.out] at this; omega
          have e17 := (HS.out.cell (p := ⟨wr.heap.size, 17, none⟩) HLT.out).trans c17
          have B9 := hid (B01.out.trans (HS.out.mono B01.out.size))
          have HJ : Hid (StJ t Ks k) := hid (fun hj => ⟨fun h0 => absurd HK0.out (by omega), HKQ.out⟩)
          obtain ⟨u1, u2⟩ := HUB.out
          clear c17 HR
          go_wp2
          refine ⟨⟨k + 1, by omega, ?_, by go_num, fun i hi => ?_, B9.out⟩, by simp [intOf]; omega⟩
          · rw [usedK_take Ks k hlt, HX.out, HNN.out]
          · by_cases e : i = k
            · rw [e]; exact HJ.out
            · exact HM.out i (by omega)
      · obtain ⟨j, rfl⟩ : ∃ j, k = j + 1 := ⟨k - 1, by omega⟩
        clear hk0
        have hj1 : j < Ks.length := by omega
        obtain ⟨b2, off2, epk2, hbl2, hrg2⟩ := HCE.out (List.length_pos_iff.1 (by omega))
        simp only [Option.some.injEq, Addr.mk.injEq, and_true] at epk2
        obtain ⟨rfl, rfl⟩ := epk2
        have hokj := (HAL.out Ks[j] (List.getElem_mem hj1)).1
        have PRG := hid (range_below0 (range_below0 (hrg2 j hj1) B0.out hbl) B01.out hbl0)
        have HBL1 : Hid (b < W1.heap.size) := hid (Nat.lt_of_lt_of_le hbl0 B01.out.size)
        have PSZ := hid (size_rk hokj)
        obtain ⟨cz, HCZ⟩ : ∃ y, Hid (cmpS Ks[j].k.sp Ks[j + 1].k.sp = y) := ⟨_, hid rfl⟩
        have CS : Hid (∀ W, Calls Try.prog 28 #[.agg (rkL Ks[j]).toArray, .agg (rkL Ks[j + 1]).toArray] W fun e w' => e = .returned (.int .i64 cz) ∧ Below W.heap.size W w') := hid fun W => by
          rw [← HCZ.out]
          refine (CB.out W Ks[j].k Ks[j + 1].k hokj HOK.out _ _ _ _).mono ?_
          rintro e w' ⟨rfl, q, os, rfl⟩
          exact ⟨rfl, (bel_drewN (Below.refl _ W) q).trans (show Below W.heap.size (W.drewN q) _ from grow_bel (W.drewN q) os)⟩
        have hj1' : (j : Int) < (Ks.length : Int) := by omega
        have hwj : IntKind.i64.wrap (j : Int) = (j : Int) := by simp [IntKind.wrap, IntKind.bits, IntKind.signed]; omega
        clear hrg2 hbl2
        by_cases hcz : 0 ≤ cz
        · have HNC : Hid (¬ cmpS Ks[j].k.sp Ks[j + 1].k.sp < 0) := hid (by rw [HCZ.out]; omega)
          go_wp2_with (first | (refine wpList_load_mid rfl 60 _ rfl b (off + (j + 1) * 19) rfl (rkL Ks[(j + 1)]) _ HRK.out Try.underlying60 rfl HSZ.out ?_; rw [HMm.out]) | (refine wpList_store_row rfl 60 _ _ rfl wr.heap.size m rfl rfl 60 zkept (heap_alloc_new wr _) hmi.out (by rw [hms.out]; rfl) hm1.out ?_; rw [HW1.out]))
          refine wp_region_held_drew (S := Below W1.heap.size W1) (by kernel_rfl) bd (fun hHeld => ?_)
          have HS := hid hHeld
          clear hHeld
          change wpAnyH _ _ _ _ _ _ _ _ (World.drew _)
          refine wpAnyH_take (i := 0) (v := ?_) rfl (by kernel_rfl) (by kernel_rfl) (by kernel_rfl) (fun _ _ _ h => h) (Or.inl ⟨by rfl, ?q0⟩) HS.out ?_
          case q0 => intro w hSw; obtain ⟨q1, q2⟩ := K12.out _ hSw; go_simp; rfl
          simp only [Act.put, List.getElem_toArray, List.getElem_cons_zero, List.getElem_cons_succ, List.setIfInBounds_toArray, List.set_cons_zero, List.set_cons_succ]
          refine wpAnyH_take (i := 1) (v := ?_) rfl (by kernel_rfl) (by kernel_rfl) (by kernel_rfl) (fun _ _ _ h => h) (Or.inl ⟨by rfl, ?q1⟩) HS.out ?_
          case q1 => intro w hSw; obtain ⟨q1, q2⟩ := K12.out _ hSw; go_simp; rfl
          simp only [Act.put, List.getElem_toArray, List.getElem_cons_zero, List.getElem_cons_succ, List.setIfInBounds_toArray, List.set_cons_zero, List.set_cons_succ]
          refine wpAnyH_take (i := 2) (v := ?_) rfl (by kernel_rfl) (by kernel_rfl) (by kernel_rfl) (fun _ _ _ h => h) (Or.inl ⟨by rfl, ?q2⟩) HS.out ?_
          case q2 => intro w hSw; obtain ⟨q1, q2⟩ := K12.out _ hSw; go_simp; rfl
          simp only [Act.put, List.getElem_toArray, List.getElem_cons_zero, List.getElem_cons_succ, List.setIfInBounds_toArray, List.set_cons_zero, List.set_cons_succ]
          refine wpAnyH_take (i := 3) (v := ?_) rfl (by kernel_rfl) (by kernel_rfl) (by kernel_rfl) (fun _ _ _ h => h) (Or.inl ⟨by rfl, ?q3⟩) HS.out ?_
          case q3 => intro w hSw; obtain ⟨q1, q2⟩ := K12.out _ hSw; go_simp; rfl
          simp only [Act.put, List.getElem_toArray, List.getElem_cons_zero, List.getElem_cons_succ, List.setIfInBounds_toArray, List.set_cons_zero, List.set_cons_succ]
          refine wpAnyH_take (i := 4) (v := ?_) rfl (by kernel_rfl) (by kernel_rfl) (by kernel_rfl) (fun _ _ _ h => h) (Or.inl ⟨by rfl, ?q4⟩) HS.out ?_
          case q4 => intro w hSw; obtain ⟨q1, q2⟩ := K12.out _ hSw; go_simp; rfl
          simp only [Act.put, List.getElem_toArray, List.getElem_cons_zero, List.getElem_cons_succ, List.setIfInBounds_toArray, List.set_cons_zero, List.set_cons_succ]
          refine wpAnyH_take (i := 5) (v := ?_) rfl (by kernel_rfl) (by kernel_rfl) (by kernel_rfl) (fun _ _ _ h => h) (Or.inl ⟨by rfl, ?q5⟩) HS.out ?_
          case q5 => intro w hSw; obtain ⟨q1, q2⟩ := K12.out _ hSw; go_simp; rfl
          simp only [Act.put, List.getElem_toArray, List.getElem_cons_zero, List.getElem_cons_succ, List.setIfInBounds_toArray, List.set_cons_zero, List.set_cons_succ]
          refine wpAnyH_take (i := 6) (v := ?_) rfl (by kernel_rfl) (by kernel_rfl) (by kernel_rfl) (fun _ _ _ h => h) (Or.inl ⟨by rfl, ?q6⟩) HS.out ?_
          case q6 => intro w hSw; obtain ⟨q1, q2⟩ := K12.out _ hSw; go_simp; rfl
          simp only [Act.put, List.getElem_toArray, List.getElem_cons_zero, List.getElem_cons_succ, List.setIfInBounds_toArray, List.set_cons_zero, List.set_cons_succ]
          refine wpAnyH_take (i := 7) (v := ?_) rfl (by kernel_rfl) (by kernel_rfl) (by kernel_rfl) (fun _ _ _ h => h) (Or.inl ⟨by rfl, ?q7⟩) HS.out ?_
          case q7 => intro w hSw; obtain ⟨q1, q2⟩ := K12.out _ hSw; go_simp; rfl
          simp only [Act.put, List.getElem_toArray, List.getElem_cons_zero, List.getElem_cons_succ, List.setIfInBounds_toArray, List.set_cons_zero, List.set_cons_succ]
          refine wpAnyH_take (i := 8) rfl (by kernel_rfl) (by kernel_rfl) (by kernel_rfl) (fun _ _ _ h => h) (yieldsIf_load_mid (by rfl) 60 _ rfl b (off + j * 19) rfl (rkL Ks[j]) _ (fun W hW => range_below0 PRG.out hW HBL1.out) Try.underlying60 rfl PSZ.out) HS.out ?_
          simp only [Act.put, List.getElem_toArray, List.getElem_cons_zero, List.getElem_cons_succ, List.setIfInBounds_toArray, List.set_cons_zero, List.set_cons_succ]
          refine wpAnyH_take (i := 9) rfl (by kernel_rfl) (by kernel_rfl) (by kernel_rfl) (fun _ _ _ h => h) (yieldsIf_load_mid (by rfl) 60 _ rfl wr.heap.size 0 rfl (rkL Ks[(j + 1)]) _ (fun W hW => range_below0 R5.out hW HLT.out) Try.underlying60 rfl HSZ.out) HS.out ?_
          simp only [Act.put, List.getElem_toArray, List.getElem_cons_zero, List.getElem_cons_succ, List.setIfInBounds_toArray, List.set_cons_zero, List.set_cons_succ]
          refine wpAnyH_ready (rs := [10]) (by kernel_rfl) (by simp) ?_
          refine AllReadyH.cons rfl (fun K hK => ?_) AllReadyH.nil
          replace hK := hid hK
          go_simp
          refine (CS.out _).mono ?_
          rintro e w2 ⟨rfl, hb2⟩
          have B2 := hid (HS.out.trans (hb2.mono HS.out.size))
          clear hb2
          refine hK.out _ _ B2.out (fun _ => ?_)
          clear hK K HS
          have HS := B2
          refine wpAnyH_take (i := 11) (v := ?_) rfl (by kernel_rfl) (by kernel_rfl) (by kernel_rfl) (fun _ _ _ h => h) (Or.inl ⟨by rfl, ?q11⟩) HS.out ?_
          case q11 => intro w hSw; obtain ⟨q1, q2⟩ := K12.out _ hSw; go_simp; rfl
          simp only [Act.put, List.getElem_toArray, List.getElem_cons_zero, List.getElem_cons_succ, List.setIfInBounds_toArray, List.set_cons_zero, List.set_cons_succ]
          refine wpAnyH_take (i := 12) (v := ?_) rfl (by kernel_rfl) (by kernel_rfl) (by kernel_rfl) (fun _ _ _ h => h) (Or.inl ⟨by rfl, ?q12⟩) HS.out ?_
          case q12 => intro w hSw; obtain ⟨q1, q2⟩ := K12.out _ hSw; go_simp; rfl
          simp only [Act.put, List.getElem_toArray, List.getElem_cons_zero, List.getElem_cons_succ, List.setIfInBounds_toArray, List.set_cons_zero, List.set_cons_succ]
          refine wpAnyH_take (i := 13) (v := ?_) rfl (by kernel_rfl) (by kernel_rfl) (by kernel_rfl) (fun _ _ _ h => h) (Or.inl ⟨by rfl, ?q13⟩) HS.out ?_
          case q13 => intro w hSw; obtain ⟨q1, q2⟩ := K12.out _ hSw; go_simp; rfl
          simp only [Act.put, List.getElem_toArray, List.getElem_cons_zero, List.getElem_cons_succ, List.setIfInBounds_toArray, List.set_cons_zero, List.set_cons_succ]
          refine wpAnyH_take (i := 14) (v := undef) rfl (by kernel_rfl) (by kernel_rfl) (by kernel_rfl) (fun _ _ _ h => h) (Or.inr ⟨by rfl, rfl⟩) HS.out ?_
          simp only [Act.put, List.getElem_toArray, List.getElem_cons_zero, List.getElem_cons_succ, List.setIfInBounds_toArray, List.set_cons_zero, List.set_cons_succ]
          refine wpAnyH_take (i := 15) (v := undef) rfl (by kernel_rfl) (by kernel_rfl) (by kernel_rfl) (fun _ _ _ h => h) (Or.inr ⟨by rfl, rfl⟩) HS.out ?_
          simp only [Act.put, List.getElem_toArray, List.getElem_cons_zero, List.getElem_cons_succ, List.setIfInBounds_toArray, List.set_cons_zero, List.set_cons_succ]
          refine wpAnyH_take (i := 16) (v := undef) rfl (by kernel_rfl) (by kernel_rfl) (by kernel_rfl) (fun _ _ _ h => h) (Or.inr ⟨by rfl, rfl⟩) HS.out ?_
          simp only [Act.put, List.getElem_toArray, List.getElem_cons_zero, List.getElem_cons_succ, List.setIfInBounds_toArray, List.set_cons_zero, List.set_cons_succ]
          refine wpAnyH_take (i := 17) (v := undef) rfl (by kernel_rfl) (by kernel_rfl) (by kernel_rfl) (fun _ _ _ h => h) (Or.inr ⟨by rfl, rfl⟩) HS.out ?_
          simp only [Act.put, List.getElem_toArray, List.getElem_cons_zero, List.getElem_cons_succ, List.setIfInBounds_toArray, List.set_cons_zero, List.set_cons_succ]
          refine wpAnyH_take (i := 18) (v := undef) rfl (by kernel_rfl) (by kernel_rfl) (by kernel_rfl) (fun _ _ _ h => h) (Or.inr ⟨by rfl, rfl⟩) HS.out ?_
          simp only [Act.put, List.getElem_toArray, List.getElem_cons_zero, List.getElem_cons_succ, List.setIfInBounds_toArray, List.set_cons_zero, List.set_cons_succ]
          refine wpAnyH_take (i := 19) (v := ?_) rfl (by kernel_rfl) (by kernel_rfl) (by kernel_rfl) (fun _ _ _ h => h) (Or.inl ⟨by rfl, ?q19⟩) HS.out ?_
          case q19 => intro w hSw; obtain ⟨q1, q2⟩ := K12.out _ hSw; go_simp; rfl
          simp only [Act.put, List.getElem_toArray, List.getElem_cons_zero, List.getElem_cons_succ, List.setIfInBounds_toArray, List.set_cons_zero, List.set_cons_succ]
          refine wpAnyH_done (by kernel_rfl) ?_ _
          have B9 := hid (B0.out.trans ((B01.out.trans (HS.out.mono B01.out.size)).mono B0.out.size))
          go_wp2
          go_ret
          exact ⟨false, rfl, ⟨fun q => (by cases q), fun q => absurd ((q.1 (j + 1) hlt).1 (by omega)) (by simpa using HNC.out)⟩, B9.out⟩
        · have HNC : Hid (cmpS Ks[j].k.sp Ks[j + 1].k.sp < 0) := hid (by rw [HCZ.out]; omega)
          have d5 : decide (0 ≤ cz) = false := decide_eq_false hcz
          clear hcz
          go_wp2_with (first | (refine wpList_load_mid rfl 60 _ rfl b (off + (j + 1) * 19) rfl (rkL Ks[(j + 1)]) _ HRK.out Try.underlying60 rfl HSZ.out ?_; rw [HMm.out]) | (refine wpList_store_row rfl 60 _ _ rfl wr.heap.size m rfl rfl 60 zkept (heap_alloc_new wr _) hmi.out (by rw [hms.out]; rfl) hm1.out ?_; rw [HW1.out]))
          refine wp_region_held_drew (S := Below W1.heap.size W1) (by kernel_rfl) bd (fun hHeld => ?_)
          have HS := hid hHeld
          clear hHeld
          change wpAnyH _ _ _ _ _ _ _ _ (World.drew _)
          refine wpAnyH_take (i := 0) (v := ?_) rfl (by kernel_rfl) (by kernel_rfl) (by kernel_rfl) (fun _ _ _ h => h) (Or.inl ⟨by rfl, ?q0⟩) HS.out ?_
          case q0 => intro w hSw; obtain ⟨q1, q2⟩ := K12.out _ hSw; go_simp; rfl
          simp only [Act.put, List.getElem_toArray, List.getElem_cons_zero, List.getElem_cons_succ, List.setIfInBounds_toArray, List.set_cons_zero, List.set_cons_succ]
          refine wpAnyH_take (i := 1) (v := ?_) rfl (by kernel_rfl) (by kernel_rfl) (by kernel_rfl) (fun _ _ _ h => h) (Or.inl ⟨by rfl, ?q1⟩) HS.out ?_
          case q1 => intro w hSw; obtain ⟨q1, q2⟩ := K12.out _ hSw; go_simp; rfl
          simp only [Act.put, List.getElem_toArray, List.getElem_cons_zero, List.getElem_cons_succ, List.setIfInBounds_toArray, List.set_cons_zero, List.set_cons_succ]
          refine wpAnyH_take (i := 2) (v := ?_) rfl (by kernel_rfl) (by kernel_rfl) (by kernel_rfl) (fun _ _ _ h => h) (Or.inl ⟨by rfl, ?q2⟩) HS.out ?_
          case q2 => intro w hSw; obtain ⟨q1, q2⟩ := K12.out _ hSw; go_simp; rfl
          simp only [Act.put, List.getElem_toArray, List.getElem_cons_zero, List.getElem_cons_succ, List.setIfInBounds_toArray, List.set_cons_zero, List.set_cons_succ]
          refine wpAnyH_take (i := 3) (v := ?_) rfl (by kernel_rfl) (by kernel_rfl) (by kernel_rfl) (fun _ _ _ h => h) (Or.inl ⟨by rfl, ?q3⟩) HS.out ?_
          case q3 => intro w hSw; obtain ⟨q1, q2⟩ := K12.out _ hSw; go_simp; rfl
          simp only [Act.put, List.getElem_toArray, List.getElem_cons_zero, List.getElem_cons_succ, List.setIfInBounds_toArray, List.set_cons_zero, List.set_cons_succ]
          refine wpAnyH_take (i := 4) (v := ?_) rfl (by kernel_rfl) (by kernel_rfl) (by kernel_rfl) (fun _ _ _ h => h) (Or.inl ⟨by rfl, ?q4⟩) HS.out ?_
          case q4 => intro w hSw; obtain ⟨q1, q2⟩ := K12.out _ hSw; go_simp; rfl
          simp only [Act.put, List.getElem_toArray, List.getElem_cons_zero, List.getElem_cons_succ, List.setIfInBounds_toArray, List.set_cons_zero, List.set_cons_succ]
          refine wpAnyH_take (i := 5) (v := ?_) rfl (by kernel_rfl) (by kernel_rfl) (by kernel_rfl) (fun _ _ _ h => h) (Or.inl ⟨by rfl, ?q5⟩) HS.out ?_
          case q5 => intro w hSw; obtain ⟨q1, q2⟩ := K12.out _ hSw; go_simp; rfl
          simp only [Act.put, List.getElem_toArray, List.getElem_cons_zero, List.getElem_cons_succ, List.setIfInBounds_toArray, List.set_cons_zero, List.set_cons_succ]
          refine wpAnyH_take (i := 6) (v := ?_) rfl (by kernel_rfl) (by kernel_rfl) (by kernel_rfl) (fun _ _ _ h => h) (Or.inl ⟨by rfl, ?q6⟩) HS.out ?_
          case q6 => intro w hSw; obtain ⟨q1, q2⟩ := K12.out _ hSw; go_simp; rfl
          simp only [Act.put, List.getElem_toArray, List.getElem_cons_zero, List.getElem_cons_succ, List.setIfInBounds_toArray, List.set_cons_zero, List.set_cons_succ]
          refine wpAnyH_take (i := 7) (v := ?_) rfl (by kernel_rfl) (by kernel_rfl) (by kernel_rfl) (fun _ _ _ h => h) (Or.inl ⟨by rfl, ?q7⟩) HS.out ?_
          case q7 => intro w hSw; obtain ⟨q1, q2⟩ := K12.out _ hSw; go_simp; rfl
          simp only [Act.put, List.getElem_toArray, List.getElem_cons_zero, List.getElem_cons_succ, List.setIfInBounds_toArray, List.set_cons_zero, List.set_cons_succ]
          refine wpAnyH_take (i := 8) rfl (by kernel_rfl) (by kernel_rfl) (by kernel_rfl) (fun _ _ _ h => h) (yieldsIf_load_mid (by rfl) 60 _ rfl b (off + j * 19) rfl (rkL Ks[j]) _ (fun W hW => range_below0 PRG.out hW HBL1.out) Try.underlying60 rfl PSZ.out) HS.out ?_
          simp only [Act.put, List.getElem_toArray, List.getElem_cons_zero, List.getElem_cons_succ, List.setIfInBounds_toArray, List.set_cons_zero, List.set_cons_succ]
          refine wpAnyH_take (i := 9) rfl (by kernel_rfl) (by kernel_rfl) (by kernel_rfl) (fun _ _ _ h => h) (yieldsIf_load_mid (by rfl) 60 _ rfl wr.heap.size 0 rfl (rkL Ks[(j + 1)]) _ (fun W hW => range_below0 R5.out hW HLT.out) Try.underlying60 rfl HSZ.out) HS.out ?_
          simp only [Act.put, List.getElem_toArray, List.getElem_cons_zero, List.getElem_cons_succ, List.setIfInBounds_toArray, List.set_cons_zero, List.set_cons_succ]
          refine wpAnyH_ready (rs := [10]) (by kernel_rfl) (by simp) ?_
          refine AllReadyH.cons rfl (fun K hK => ?_) AllReadyH.nil
          replace hK := hid hK
          go_simp
          refine (CS.out _).mono ?_
          rintro e w2 ⟨rfl, hb2⟩
          have B2 := hid (HS.out.trans (hb2.mono HS.out.size))
          clear hb2
          refine hK.out _ _ B2.out (fun _ => ?_)
          clear hK K HS
          have HS := B2
          refine wpAnyH_take (i := 11) (v := ?_) rfl (by kernel_rfl) (by kernel_rfl) (by kernel_rfl) (fun _ _ _ h => h) (Or.inl ⟨by rfl, ?q11⟩) HS.out ?_
          case q11 => intro w hSw; obtain ⟨q1, q2⟩ := K12.out _ hSw; go_simp; rfl
          simp only [Act.put, List.getElem_toArray, List.getElem_cons_zero, List.getElem_cons_succ, List.setIfInBounds_toArray, List.set_cons_zero, List.set_cons_succ]
          refine wpAnyH_take (i := 12) (v := ?_) rfl (by kernel_rfl) (by kernel_rfl) (by kernel_rfl) (fun _ _ _ h => h) (Or.inl ⟨by rfl, ?q12⟩) HS.out ?_
          case q12 => intro w hSw; obtain ⟨q1, q2⟩ := K12.out _ hSw; go_simp; rfl
          simp only [Act.put, List.getElem_toArray, List.getElem_cons_zero, List.getElem_cons_succ, List.setIfInBounds_toArray, List.set_cons_zero, List.set_cons_succ]
          refine wpAnyH_take (i := 13) (v := ?_) rfl (by kernel_rfl) (by kernel_rfl) (by kernel_rfl) (fun _ _ _ h => h) (Or.inl ⟨by rfl, ?q13⟩) HS.out ?_
          case q13 => intro w hSw; obtain ⟨q1, q2⟩ := K12.out _ hSw; go_simp; rfl
          simp only [Act.put, List.getElem_toArray, List.getElem_cons_zero, List.getElem_cons_succ, List.setIfInBounds_toArray, List.set_cons_zero, List.set_cons_succ]
          refine wpAnyH_take (i := 14) rfl (by kernel_rfl) (by kernel_rfl) (by kernel_rfl) (fun _ _ _ h => h) (yieldsIf_load_mid (by rfl) 60 _ rfl wr.heap.size 0 rfl (rkL Ks[(j + 1)]) _ (fun W hW => range_below0 R5.out hW HLT.out) Try.underlying60 rfl HSZ.out) HS.out ?_
          simp only [Act.put, List.getElem_toArray, List.getElem_cons_zero, List.getElem_cons_succ, List.setIfInBounds_toArray, List.set_cons_zero, List.set_cons_succ]
          rw [HMm.out]
          refine wpAnyH_take (i := 15) (v := ?_) rfl (by kernel_rfl) (by kernel_rfl) (by kernel_rfl) (fun _ _ _ h => h) (Or.inl ⟨by rfl, ?q15⟩) HS.out ?_
          case q15 => intro w hSw; obtain ⟨q1, q2⟩ := K12.out _ hSw; go_simp; rfl
          simp only [Act.put, List.getElem_toArray, List.getElem_cons_zero, List.getElem_cons_succ, List.setIfInBounds_toArray, List.set_cons_zero, List.set_cons_succ]
          refine wpAnyH_take (i := 16) (v := ?_) rfl (by kernel_rfl) (by kernel_rfl) (by kernel_rfl) (fun _ _ _ h => h) (Or.inl ⟨by rfl, ?q16⟩) HS.out ?_
          case q16 => intro w hSw; obtain ⟨q1, q2⟩ := K12.out _ hSw; go_simp; rfl
          simp only [Act.put, List.getElem_toArray, List.getElem_cons_zero, List.getElem_cons_succ, List.setIfInBounds_toArray, List.set_cons_zero, List.set_cons_succ]
          refine wpAnyH_ready (rs := [17]) (by kernel_rfl) (by simp) ?_
          refine AllReadyH.cons rfl (fun K hK => ?_) AllReadyH.nil
          replace hK := hid hK
          go_simp
          refine (CK.out _ HS.out).mono ?_
          rintro e w3 ⟨r, rfl, hr, hb3⟩
          have B3 := hid (HS.out.trans (hb3.mono HS.out.size))
          have HR := hid hr
          clear hb3 hr
          refine hK.out _ _ B3.out (fun _ => ?_)
          clear hK K HS
          have HS := B3
          refine wpAnyH_take (i := 18) (v := ?_) rfl (by kernel_rfl) (by kernel_rfl) (by kernel_rfl) (fun _ _ _ h => h) (Or.inl ⟨by rfl, ?q18⟩) HS.out ?_
          case q18 => intro w hSw; obtain ⟨q1, q2⟩ := K12.out _ hSw; go_simp; rfl
          simp only [Act.put, List.getElem_toArray, List.getElem_cons_zero, List.getElem_cons_succ, List.setIfInBounds_toArray, List.set_cons_zero, List.set_cons_succ]
          refine wpAnyH_take (i := 19) (v := ?_) rfl (by kernel_rfl) (by kernel_rfl) (by kernel_rfl) (fun _ _ _ h => h) (Or.inl ⟨by rfl, ?q19⟩) HS.out ?_
          case q19 => intro w hSw; obtain ⟨q1, q2⟩ := K12.out _ hSw; go_simp; rfl
          simp only [Act.put, List.getElem_toArray, List.getElem_cons_zero, List.getElem_cons_succ, List.setIfInBounds_toArray, List.set_cons_zero, List.set_cons_succ]
          refine wpAnyH_done (by kernel_rfl) ?_ _
          cases r with
          | false =>
            have HNK : Hid (¬ KpQ t Ks[(j + 1)].k) := hid (fun q => by have := HR.out.2 q; cases this)
            have B9 := hid (B0.out.trans ((B01.out.trans (HS.out.mono B01.out.size)).mono B0.out.size))
            go_wp2
            go_ret
            exact ⟨false, rfl, ⟨fun q => (by cases q), fun q => absurd ((q.1 (j + 1) hlt).2) HNK.out⟩, B9.out⟩
          | true =>
            have HKQ : Hid (KpQ t Ks[(j + 1)].k) := hid (HR.out.1 rfl)
            have hn2 : (nn : Int) ≤ 33554432 := by have := HKQ.out.2.1; rw [HNN.out] at this; omega
            have e17 := (HS.out.cell (p := ⟨wr.heap.size, 17, none⟩) HLT.out).trans c17
            have B9 := hid (B01.out.trans (HS.out.mono B01.out.size))
            have HJ : Hid (StJ t Ks (j + 1)) := hid (fun hj => ⟨fun h0 => by simpa using HNC.out, HKQ.out⟩)
            obtain ⟨u1, u2⟩ := HUB.out
            clear c17 HR
            go_wp2
            refine ⟨⟨(j + 1) + 1, by omega, ?_, by go_num, fun i hi => ?_, B9.out⟩, by simp [intOf]; omega⟩
            · rw [usedK_take Ks (j + 1) hlt, HX.out, HNN.out]
            · by_cases e : i = (j + 1)
              · rw [e]; exact HJ.out
              · exact HM.out i (by omega)
    · have hkl : k = Ks.length := by omega
      have HKL := hid hkl
      have d6 : decide ((k : Int) < (Ks.length : Int)) = false := decide_eq_false (by omega)
      have z0 := (hB.cell (p := ⟨w.heap.size, 0, none⟩) HLT0.out).trans s0
      have z1 := (hB.cell (p := ⟨w.heap.size, 1, none⟩) HLT0.out).trans s1
      have eU : usedK (Ks.take k) = usedK Ks := by rw [hkl, List.take_of_length_le (Nat.le_refl _)]
      rw [eU] at ub1 ub2 ⊢
      obtain ⟨X, HX⟩ : ∃ y, Hid (usedK Ks = y) := ⟨_, hid rfl⟩
      rw [HX.out] at ub1 ub2 ⊢
      have HALL : Hid (∀ j, StJ t Ks j) := hid (fun j hj => HM.out j (by omega) hj)
      have B9 := hid (B0.out.trans (hB.mono B0.out.size))
      obtain ⟨zr, HZR⟩ : ∃ y, Hid (rmB room = y) := ⟨_, hid rfl⟩
      obtain ⟨zt, HZT⟩ : ∃ y, Hid (tkB t = y) := ⟨_, hid rfl⟩
      have CRm' : Hid (∀ W, Calls Try.prog 32 #[.int .i64 room] W fun e w' => e = .returned (.bool zr) ∧ w' = W) := hid (by rw [← HZR.out]; exact fun W => CRm.out W room)
      have CTk' : Hid (∀ W, Calls Try.prog 34 #[.int .i64 t] W fun e w' => e = .returned (.bool zt) ∧ w' = W) := hid (by rw [← HZT.out]; exact fun W => CTk.out W t)
      clear hkl hB eU
      cases zr with
      | false =>
        have HNQ : Hid (¬ StQ room t Ks) := hid (fun q => by have := q.2.1; rw [HZR.out] at this; cases this)
        go_wp2_with fail
        refine (CRm'.out _).mono ?_
        rintro e w2 ⟨rfl, hw2⟩
        subst hw2
        go_wp2
        go_ret
        exact ⟨false, rfl, ⟨fun q => (by cases q), fun q => absurd q HNQ.out⟩, B9.out⟩
      | true =>
        cases zt with
        | false =>
          have HNQ : Hid (¬ StQ room t Ks) := hid (fun q => by have := q.2.2.1; rw [HZT.out] at this; cases this)
          go_wp2_with fail
          refine (CRm'.out _).mono ?_
          rintro e w2 ⟨rfl, hw2⟩
          subst hw2
          go_wp2_with fail
          refine (CTk'.out _).mono ?_
          rintro e w2 ⟨rfl, hw2⟩
          subst hw2
          go_wp2
          go_ret
          exact ⟨false, rfl, ⟨fun q => (by cases q), fun q => absurd q HNQ.out⟩, B9.out⟩
        | true =>
          by_cases hx : X ≤ room
          · have HQ : Hid (StQ room t Ks) := hid ⟨HALL.out, HZR.out, HZT.out, by rw [HX.out]; exact hx⟩
            go_wp2_with fail
            refine (CRm'.out _).mono ?_
            rintro e w2 ⟨rfl, hw2⟩
            subst hw2
            go_wp2_with fail
            refine (CTk'.out _).mono ?_
            rintro e w2 ⟨rfl, hw2⟩
            subst hw2
            go_wp2
            go_ret
            exact ⟨true, by simp [hx], ⟨fun _ => HQ.out, fun _ => rfl⟩, B9.out⟩
          · have HNQ : Hid (¬ StQ room t Ks) := hid (fun q => hx (by have := q.2.2.2; rw [HX.out] at this; exact this))
            go_wp2_with fail
            refine (CRm'.out _).mono ?_
            rintro e w2 ⟨rfl, hw2⟩
            subst hw2
            go_wp2_with fail
            refine (CTk'.out _).mono ?_
            rintro e w2 ⟨rfl, hw2⟩
            subst hw2
            go_wp2
            go_ret
            exact ⟨false, by simp [hx], ⟨fun q => (by cases q), fun q => absurd q HNQ.out⟩, B9.out⟩
end Go.Proofs.Ythmhpenjegfbcaa
namespace Go.Proofs.Ythmhpenjegfbcaa
open Go
theorem cmpS_self (s : Sp) : cmpS s s = 0 := by unfold cmpS cmpN; rw [cmpB_self]; simp
theorem cmpS_eq0 {s t : Sp} (h : cmpS s t = 0) : s = t := by
  unfold cmpS at h
  by_cases q : cmpB s.ix t.ix = 0
  · rw [if_neg (by omega)] at h
    have e1 := cmpB_eq0 _ _ q
    have e2 : s.nb = t.nb := by
      unfold cmpN at h
      rcases (by omega : s.nb < t.nb ∨ t.nb < s.nb ∨ s.nb = t.nb) with p | p | p
      · rw [if_pos p] at h; omega
      · rw [if_neg (by omega), if_pos p] at h; omega
      · exact p
    cases s; cases t
    simp_all
  · rw [if_pos q] at h
    omega
theorem cmpS_trans {s t u : Sp} (h1 : cmpS s t < 0) (h2 : cmpS t u < 0) : cmpS s u < 0 := by
  unfold cmpS at h1 h2 ⊢
  by_cases q : cmpB s.ix t.ix = 0
  · rw [if_neg (by omega)] at h1
    have e := cmpB_eq0 _ _ q
    rw [e]
    by_cases p : cmpB t.ix u.ix = 0
    · rw [if_neg (by omega)] at h2 ⊢
      rw [cmpN_lt] at h1 h2 ⊢
      omega
    · rw [if_pos p] at h2 ⊢
      exact h2
  · rw [if_pos q] at h1
    by_cases p : cmpB t.ix u.ix = 0
    · have e := cmpB_eq0 _ _ p
      rw [← e, if_pos q]
      exact h1
    · rw [if_pos p] at h2
      have := cmpB_trans _ _ _ h1 h2
      rw [if_pos (by omega)]
      exact this
theorem cmpS_three (s t : Sp) : cmpS s t < 0 ∨ s = t ∨ cmpS t s < 0 := by
  rcases (by omega : cmpS s t < 0 ∨ cmpS s t = 0 ∨ 0 < cmpS s t) with h | h | h
  · exact .inl h
  · exact .inr (.inl (cmpS_eq0 h))
  · refine .inr (.inr ?_)
    unfold cmpS at h ⊢
    have hn := cmpB_neg s.ix t.ix
    by_cases q : cmpB s.ix t.ix = 0
    · rw [if_neg (by omega)] at h
      rw [if_neg (by omega), cmpN_lt]
      unfold cmpN at h
      split at h
      · omega
      · split at h <;> omega
    · rw [if_pos q] at h
      rw [if_pos (by omega)]
      omega
theorem cmpS_ne {s t : Sp} (h : cmpS s t < 0) : s ≠ t := fun e => by
  rw [e, cmpS_self] at h
  omega
end Go.Proofs.Ythmhpenjegfbcaa
namespace Go.Proofs.Ythmhpenjegfbcaa
open Go Go.RowKit
theorem wpList_build_runS {P : Program} {ops : Array Oper} {rest : List Oper} {o : Oper} {a : Act} {w : World} {Q : Exit → Act → World → Prop} (hw : Region.wanted o (yielded ops a.tmps) = true) (t : TypeId) (parts : Array (Nat × Operand)) (ho : o.op = .build t parts) (ps : Array (Nat × Value)) (hps : (parts.map fun (i, x) => (i, a.eval x)) = ps) (v : Value)
    (hr : (Instr.build t ps).run P w = .ok v w) (h : wpList P ops Q rest (a.put o.dst v) w) : wpList P ops Q (o :: rest) a w := by
  refine wpList_step fun K hK => ?_
  simp only [hw, if_true]
  unfold Oper.wp execOp
  simp only [ho, Sem.run_bind, hps, hr, Result.andThen_ok]
  exact hK _ _ h
def ixA (s : Sp) : Array Value := (s.ix.map (Value.int .u8)).toArray
set_option maxRecDepth 100000 in
set_option maxHeartbeats 4000000 in
theorem run_build_spot (w : World) {s : Sp} (h : s.ok) : (Instr.build 63 #[(0, .agg (ixA s)), (1, .int .i64 s.nb)]).run Try.prog w = .ok (.agg (spA s)) w := by
  obtain ⟨x0, x1, x2, x3, x4, x5, x6, x7, x8, x9, x10, x11, x12, x13, x14, x15, hx⟩ := list16s s.ix h.1
  obtain ⟨ix, nb⟩ := s
  simp only at hx
  subst hx
  unfold ixA spA spL
  kernel_rfl
theorem StJ.lt {t : Int} {Ks : List Rk} (h : ∀ j, StJ t Ks j) : ∀ (d i : Nat) (hi : i + d + 1 < Ks.length), cmpS (Ks[i]'(by omega)).k.sp Ks[i + d + 1].k.sp < 0
  | 0, i, hi => by
    have := (h (i + 1) hi).1 (by omega)
    simpa using this
  | d + 1, i, hi => by
    have h1 := StJ.lt h d i (by omega)
    have h2 := (h (i + (d + 1) + 1) hi).1 (by omega)
    simp only [Nat.add_sub_cancel] at h2
    exact cmpS_trans h1 h2
theorem StJ.ne {t : Int} {Ks : List Rk} (h : ∀ j, StJ t Ks j) {i j : Nat} (hi : i < j) (hj : j < Ks.length) : (Ks[i]'(by omega)).k.sp ≠ Ks[j].k.sp := by
  have := StJ.lt h (j - i - 1) i (by omega)
  simp only [show i + (j - i - 1) + 1 = j by omega] at this
  exact cmpS_ne this
theorem usedL_k {Z : List (MapEntry × En)} {Ks : List Rk} (h : Z.map (·.2.k) = Ks.map (·.k)) : usedL Z = usedK Ks := by
  have e1 : usedL Z = ((Z.map (·.2.k)).map fun k => (k.bs.length : Int)).sum := by unfold usedL; rw [List.map_map]; rfl
  have e2 : usedK Ks = ((Ks.map (·.k)).map fun k => (k.bs.length : Int)).sum := by unfold usedK; rw [List.map_map]; rfl
  rw [e1, e2, h]
theorem HZ.empty {w : World} {g b c : Nat} {room tick : Int} (h : HSt w g b room tick 0) (hb : w.heap[b]? = some (.map #[] c)) : HZ w g b c room tick [] (fun k => k = g ∨ k = b) :=
  ⟨h, hb, (fun z hz => by cases hz), (fun z hz => by cases hz), by simp, (fun z hz => by cases hz), by simp, by simp, by simp, .inl rfl, .inr rfl, (fun z hz => by cases hz), fun k hk => by
    rcases hk with rfl | rfl
    · exact (Array.getElem?_eq_some_iff.1 h).1
    · exact (Array.getElem?_eq_some_iff.1 hb).1⟩
def LdQ (w0 : Nat) (g : Nat) (room t : Int) (Ks : List Rk) (w : World) : Prop := ∃ b c Z S, HZ w g b c room t Z S ∧ Z.map (·.2.k) = Ks.map (·.k) ∧ ∀ k, S k → w0 ≤ k
set_option maxRecDepth 100000 in
set_option maxHeartbeats 16000000 in
theorem load_ok (w : World) (room t : Int) (vk : Value) (Ks : List Rk) (h : RdK w vk Ks) (hn : Ks.length ≤ 1048576) (hq : StQ room t Ks) (hby : ∀ x ∈ Ks, x.k.bs.length ≤ 1048576) : Calls Try.prog 6 #[.agg #[.int .i64 room, .int .i64 t, vk]] w fun e w' => ∃ g, e = .returned (.tuple #[.pointer (some ⟨g, 0, none⟩), .int .i64 0]) ∧ LdQ w.heap.size g room t Ks w' ∧ Below w.heap.size w w' := by
  have HKS := hid h
  obtain ⟨pk, ck, hvk, hcells, hall⟩ := h
  subst hvk
  obtain ⟨W0, HW0⟩ : ∃ W : World, Hid (w.alloc (.cells #[.int .i64 room, .int .i64 t, .slice pk Ks.length ck] 24) = W) := ⟨_, hid rfl⟩
  have B0 : Hid (Below w.heap.size w W0) := by rw [← HW0.out]; exact hid ((Below.refl _ w).alloc (Nat.le_refl _) _)
  have HLT0 : Hid (w.heap.size < W0.heap.size) := hid (by rw [← HW0.out]; simp)
  have s0 : W0.cell? ⟨w.heap.size, 0, none⟩ = some (.int .i64 room) := by rw [← HW0.out]; exact (cell_of_row _ _ _ _ _ _ (heap_alloc_new w _)).trans rfl
  have s1 : W0.cell? ⟨w.heap.size, 1, none⟩ = some (.int .i64 t) := by rw [← HW0.out]; exact (cell_of_row _ _ _ _ _ _ (heap_alloc_new w _)).trans rfl
  have s2 : W0.cell? ⟨w.heap.size, 2, none⟩ = some (.slice pk Ks.length ck) := by rw [← HW0.out]; exact (cell_of_row _ _ _ _ _ _ (heap_alloc_new w _)).trans rfl
  have CMS : Hid (Calls Try.prog 17 #[.agg #[.int .i64 room, .int .i64 t, .slice pk Ks.length ck]] W0 fun e w' => e = .returned (.bool true) ∧ Below W0.heap.size W0 w') := hid (by
    refine (mayStore_any W0 room t _ Ks (HKS.out.below B0.out) hn).mono ?_
    rintro e w' ⟨r, rfl, hr, hb⟩
    exact ⟨by rw [hr.2 hq], hb⟩)
  have HCE := hid hcells
  have HAL := hid hall
  have HQ := hid hq
  have HBY := hid hby
  clear hcells hall hq hby
  go_enter Try.func6, Try.ntmps6
  refine wp_seq_k fun K0 h0 => ?_
  have H0 := hid h0
  clear h0
  go_wp2
  rw [HW0.out]
  refine H0.out _ _ ?_
  go_wp2_with fail
  refine CMS.out.mono ?_
  rintro e w1 ⟨rfl, hb1⟩
  have B1 := hid hb1
  have t0 := (hb1.cell (p := ⟨w.heap.size, 0, none⟩) HLT0.out).trans s0
  have t1 := (hb1.cell (p := ⟨w.heap.size, 1, none⟩) HLT0.out).trans s1
  have t2 := (hb1.cell (p := ⟨w.heap.size, 2, none⟩) HLT0.out).trans s2
  clear hb1 s0 s1 s2
  go_wp2_with fail
  refine (empty_any _ room t).mono ?_
  rintro e w2 ⟨g, b, c0, rfl, q1, q2, q3, q4, q5⟩
  have hlw1 : w.heap.size < w1.heap.size := Nat.lt_of_lt_of_le HLT0.out B1.out.size
  have t2 := (q5.cell (p := ⟨w.heap.size, 2, none⟩) hlw1).trans t2
  have Z2 := hid (HZ.empty q1 q2)
  have B2 := hid (B1.out.trans (q5.mono B1.out.size))
  have HG : Hid (∀ k, (k = g ∨ k = b) → W0.heap.size ≤ k) := hid (fun k hk => by have := B1.out.size; rcases hk with rfl | rfl <;> omega)
  clear q1 q2 q3 q4 q5 t0 t1
  go_wp2
  go_loopw [18] (fun u wr => ∃ (k c : Nat) (Z : List (MapEntry × En)) (S : Nat → Prop), k ≤ Ks.length ∧ u = .int .i64 k ∧ HZ wr g b c room t Z S ∧ Z.map (·.2.k) = (Ks.take k).map (·.k) ∧ (∀ k, S k → W0.heap.size ≤ k) ∧ Below W0.heap.size W0 wr) (fun u _ => Ks.length - (intOf u).toNat)
  case atStart => exact ⟨0, c0, [], _, Nat.zero_le _, rfl, Z2.out, by simp, HG.out, B2.out⟩
  case round =>
    obtain ⟨k, c, Z, S, hk, rfl, hZ, hZK, hfr, hB⟩ := hrel
    by_cases hlt : k < Ks.length
    · obtain ⟨bk, off, epk, hbl, hrg⟩ := HCE.out (List.length_pos_iff.1 (by omega))
      obtain ⟨hok, hHB, hRL⟩ := HAL.out Ks[k] (List.getElem_mem hlt)
      have hbl0 : bk < W0.heap.size := Nat.lt_of_lt_of_le hbl B0.out.size
      have HRK := hid (range_below0 (range_below0 (hrg k hlt) B0.out hbl) hB hbl0)
      have HSZ := hid (size_rk hok)
      have HBB := hid (B0.out.trans (hB.mono B0.out.size))
      subst epk
      have hlt' : (k : Int) < (Ks.length : Int) := by omega
      obtain ⟨m, HMm⟩ : ∃ x, Hid ((rkL Ks[k]).toArray = x) := ⟨_, hid rfl⟩
      have hms : Hid (m.size = 19) := hid (by rw [← HMm.out, List.size_toArray]; exact rkL_length hok)
      have hm1 : Hid (m.all (·.oneCell') = true) := hid (by rw [← HMm.out]; exact all_oneCell_toArray fun v hv => rkL_one hHB hRL hv)
      have hmi : Hid ((Try.prog.info? 60).map (·.size) = some m.size) := hid (by rw [hms.out]; exact size_kept)
      obtain ⟨W1, HW1⟩ : ∃ W : World, Hid ((wr.alloc (.cells zkept 60)).setRow wr.heap.size m = W) := ⟨_, hid rfl⟩
      have hb1 : Below wr.heap.size wr W1 := by
        rw [← HW1.out]
        refine ⟨rfl, rfl, rfl, by simp [World.setRow], fun k hk => ?_⟩
        simp only [World.setRow, Array.getElem?_modify]
        rw [if_neg (by omega)]
        exact Below.heap_alloc _ _ _ hk
      have hsb1 : W1.heap[wr.heap.size]? = some (.cells m 60 (0, 0)) := by
        rw [← HW1.out]
        exact setRow_heap _ _ _ _ _ _ (heap_alloc_new wr (.cells zkept 60))
      have R5 : W1.rangeAt wr.heap.size 0 (rkL Ks[k]) := range_of (by rw [hsb1, ← HMm.out])
      have c16 : W1.cell? ⟨wr.heap.size, 16, none⟩ = some (.int .i64 Ks[k].k.sp.nb) := by
        have q := R5 16 _ (kpL_16 hok Ks[k].vb Ks[k].vl)
        rwa [Nat.zero_add] at q
      have c17 : W1.cell? ⟨wr.heap.size, 17, none⟩ = some Ks[k].vb := by
        have q := R5 17 _ (kpL_17 hok Ks[k].vb Ks[k].vl)
        rwa [Nat.zero_add] at q
      have c18 : W1.cell? ⟨wr.heap.size, 18, none⟩ = some Ks[k].vl := by
        have q := R5 18 _ (kpL_18 hok Ks[k].vb Ks[k].vl)
        rwa [Nat.zero_add] at q
      have RIX : Hid (W1.rangeAt wr.heap.size 0 (Ks[k].k.sp.ix.map (Value.int .u8))) := hid (fun j v hv => by
        refine R5 j v ?_
        have hj := (List.getElem?_eq_some_iff.1 hv).1
        unfold rkL kpL
        rw [List.getElem?_append_left hj]
        exact hv)
      have HSI : Hid ((Try.prog.info? 27).map (·.size) = some (Ks[k].k.sp.ix.map (Value.int .u8)).length) := hid (by rw [List.length_map, hok.1]; kernel_rfl)
      have BW1 := hid (HBB.out.trans (hb1.mono HBB.out.size))
      have hKQ := (HQ.out.1 k hlt).2
      have hZ1 := hZ.below hb1
      have hnew : ∀ z ∈ Z, z.2.k.sp ≠ Ks[k].k.sp := fun z hz e => by
        have hm : z.2.k ∈ (Ks.take k).map (·.k) := by rw [← hZK]; exact List.mem_map.2 ⟨z, hz, rfl⟩
        obtain ⟨x, hx, hxe⟩ := List.mem_map.1 hm
        obtain ⟨i, hi, hix⟩ := List.getElem_of_mem hx
        have hik : i < k := by simp at hi; omega
        rw [List.getElem_take] at hix
        exact StJ.ne HQ.out.1 hik hlt (by rw [hix, hxe, e])
      have hus : usedL Z ≤ 1125899906842624 := by
        rw [usedL_k hZK]
        have := (usedK_bound k hk (fun j _ => HQ.out.1 j)).2
        omega
      have CKP := hid (keep_any hZ1 Ks[k].k.sp hok hnew Ks[k].vb Ks[k].vl Ks[k].k.bs Ks[k].k.ls (hHB.below BW1.out) (HBY.out _ (List.getElem_mem hlt)) (hRL.below BW1.out) hKQ.2.2.1 (by have := hKQ.2.2.2.1; omega) hus)
      have hbs := hid (fun W => run_build_spot W hok)
      obtain ⟨pv, cv, hvb, -, -⟩ := hHB.open
      obtain ⟨pl, cl, hvl, -⟩ := hRL
      obtain ⟨ia, Hia⟩ : ∃ x, Hid (ixA Ks[k].k.sp = x) := ⟨_, hid rfl⟩
      obtain ⟨ms, Hms⟩ : ∃ x, Hid (spA Ks[k].k.sp = x) := ⟨_, hid rfl⟩
      have HIA : Hid ((Ks[k].k.sp.ix.map (Value.int .u8)).toArray = ia) := hid (by rw [← Hia.out]; rfl)
      rw [Hia.out, Hms.out] at hbs
      rw [Hms.out] at CKP
      rw [hvb] at c17 CKP
      rw [hvl] at c18 CKP
      have HZK := hid hZK
      have HFR := hid hfr
      have HB1 := hid (hB.trans (hb1.mono hB.size))
      clear hrg hHB hb1 hsb1 hB hok R5 hKQ hZ1 hnew hus hZ hZK hfr
      go_wp2_with (first | (refine wpList_load_mid rfl 60 _ rfl bk (off + k * 19) rfl (rkL Ks[k]) _ HRK.out Try.underlying60 rfl HSZ.out ?_; rw [HMm.out]) | (refine wpList_store_row rfl 60 _ _ rfl wr.heap.size m rfl rfl 60 zkept (heap_alloc_new wr _) hmi.out (by rw [hms.out]; rfl) hm1.out ?_; rw [HW1.out]) | (refine wpList_load_mid rfl 27 _ rfl wr.heap.size 0 rfl (Ks[k].k.sp.ix.map (Value.int .u8)) _ RIX.out Try.underlying27 rfl HSI.out ?_; rw [HIA.out]) | (refine wpList_build_runS rfl 63 _ rfl #[(0, .agg ia), (1, .int .i64 Ks[k].k.sp.nb)] (by go_simp) _ (hbs.out _) ?_))
      refine CKP.out.mono ?_
      rintro e w4 ⟨z, rfl, hzk, hz4, hzf, hx4⟩
      have Z4 := hid hz4
      have F4 := hid hzf
      have E4 := hid hx4
      have K4 := hid hzk
      clear hz4 hzf hx4 hzk CKP
      go_wp2
      refine ⟨⟨k + 1, c + 1, Z ++ [z], SU S z.2, by omega, by go_num, Z4.out, ?_, ?_, ?_⟩, by simp [intOf]; omega⟩
      · rw [List.take_succ_eq_append_getElem hlt, List.map_append, List.map_append, HZK.out, List.map_cons, List.map_nil, List.map_cons, List.map_nil, K4.out]
      · intro k hk
        rcases hk with q | q
        · exact HFR.out k q
        · have := F4.out k q
          have := HB1.out.size
          omega
      · exact HB1.out.trans (E4.out.below HB1.out.size (fun k q => HFR.out k q))
    · have hkl : k = Ks.length := by omega
      have d6 : decide ((k : Int) < (Ks.length : Int)) = false := decide_eq_false (by omega)
      have HKL := hid hkl
      have HZ9 := hid hZ
      have HK9 := hid hZK
      have HF9 := hid hfr
      have HB9 := hid hB
      clear hkl hZ hZK hfr hB
      go_wp2
      go_ret2
      refine ⟨g, rfl, ⟨b, c, Z, S, HZ9.out, ?_, fun k hk => Nat.le_trans B0.out.size (HF9.out k hk)⟩, B0.out.trans (HB9.out.mono B0.out.size)⟩
      have := HK9.out
      rwa [HKL.out, List.take_of_length_le (Nat.le_refl _)] at this
set_option maxRecDepth 100000 in
set_option maxHeartbeats 4000000 in
theorem load_bad (w : World) (room t : Int) (vk : Value) (Ks : List Rk) (h : RdK w vk Ks) (hn : Ks.length ≤ 1048576) (hq : ¬ StQ room t Ks) : Calls Try.prog 6 #[.agg #[.int .i64 room, .int .i64 t, vk]] w fun e w' => e = .returned (.tuple #[.pointer none, .int .i64 192]) ∧ Below w.heap.size w w' := by
  have HKS := hid h
  obtain ⟨pk, ck, hvk, hcells, hall⟩ := h
  subst hvk
  obtain ⟨W0, HW0⟩ : ∃ W : World, Hid (w.alloc (.cells #[.int .i64 room, .int .i64 t, .slice pk Ks.length ck] 24) = W) := ⟨_, hid rfl⟩
  have B0 : Hid (Below w.heap.size w W0) := by rw [← HW0.out]; exact hid ((Below.refl _ w).alloc (Nat.le_refl _) _)
  have s0 : W0.cell? ⟨w.heap.size, 0, none⟩ = some (.int .i64 room) := by rw [← HW0.out]; exact (cell_of_row _ _ _ _ _ _ (heap_alloc_new w _)).trans rfl
  have s1 : W0.cell? ⟨w.heap.size, 1, none⟩ = some (.int .i64 t) := by rw [← HW0.out]; exact (cell_of_row _ _ _ _ _ _ (heap_alloc_new w _)).trans rfl
  have s2 : W0.cell? ⟨w.heap.size, 2, none⟩ = some (.slice pk Ks.length ck) := by rw [← HW0.out]; exact (cell_of_row _ _ _ _ _ _ (heap_alloc_new w _)).trans rfl
  have CMS : Hid (Calls Try.prog 17 #[.agg #[.int .i64 room, .int .i64 t, .slice pk Ks.length ck]] W0 fun e w' => e = .returned (.bool false) ∧ Below W0.heap.size W0 w') := hid (by
    refine (mayStore_any W0 room t _ Ks (HKS.out.below B0.out) hn).mono ?_
    rintro e w' ⟨r, rfl, hr, hb⟩
    refine ⟨?_, hb⟩
    cases r with
    | false => rfl
    | true => exact absurd (hr.1 rfl) hq)
  clear hcells hall hq
  go_enter Try.func6, Try.ntmps6
  refine wp_seq_k fun K0 h0 => ?_
  have H0 := hid h0
  clear h0
  go_wp2
  rw [HW0.out]
  refine H0.out _ _ ?_
  go_wp2_with fail
  refine CMS.out.mono ?_
  rintro e w1 ⟨rfl, hb1⟩
  have B1 := hid (B0.out.trans (hb1.mono B0.out.size))
  clear hb1
  go_wp2
  go_ret2
  exact ⟨rfl, B1.out⟩
end Go.Proofs.Ythmhpenjegfbcaa
namespace Go.Proofs.Ythmhpenjegfbcaa
open Go.ChangeShapes Go.WideShapes Go.ChangeAt Go.RowKit
variable {H : Type} {enc : TypeId × Value → H} {W : World}
theorem bulk_memS {H : Type} {d : DataW H} : ∀ {l : List (DataW H)}, d ∈ l → Rows.uptoBulk d ≤ Rows.uptoBulkAll l
  | [], h => by cases h
  | x :: r, h => by
    rcases List.mem_cons.1 h with rfl | h
    · simp only [Rows.uptoBulkAll]; omega
    · have := bulk_memS h
      simp only [Rows.uptoBulkAll]; omega
theorem part_bulkS {xs : List (DataW H × List MemPlace)} {i : Nat} {x : DataW H × List MemPlace} (h : xs[i]? = some x) : Rows.uptoBulk x.1 ≤ Rows.uptoBulkAll (xs.map (·.1)) :=
  bulk_memS (List.mem_map.2 ⟨x, List.mem_of_getElem? h, rfl⟩)
theorem part_ofS {cs : List Value} {o n : Nat} {l : List Value} (h : (cs.drop o).take n = l) (hn : l.length = n) (m : List Value) (hm : cs.drop (o + n) = m) : cs.drop o = l ++ m := by
  rw [← List.take_append_drop n (cs.drop o), h, List.drop_drop, hm]
theorem Opn.cells_intS : Try.prog.cellsOf 3 = 1 := by kernel_rfl
theorem Opn.cells_u32S : Try.prog.cellsOf 28 = 1 := by kernel_rfl
theorem Opn.cells_bytesS : Try.prog.cellsOf 31 = 1 := by kernel_rfl
theorem Opn.cells_lzS : Try.prog.cellsOf 30 = 2 := by kernel_rfl
theorem Opn.cells_lsS : Try.prog.cellsOf 58 = 1 := by kernel_rfl
theorem Opn.cells_ixS : Try.prog.cellsOf 27 = 16 := by kernel_rfl
theorem Opn.cells_ktS : Try.prog.cellsOf 60 = 19 := by kernel_rfl
theorem Opn.cells_ksS : Try.prog.cellsOf 22 = 1 := by kernel_rfl
theorem Opn.cells_stS : Try.prog.cellsOf 24 = 3 := by kernel_rfl
theorem open_intS {base fuel : Nat} {cs : List Value} {x : DataW H × List MemPlace} (h : DataW.trod enc Try.prog W base (fun _ => true) true fuel 3 cs = some x) : ∃ z : Int, cs = [.int .i64 z] ∧ -9223372036854775808 ≤ z ∧ z ≤ 9223372036854775807 := by
  obtain ⟨z, e1, _, w1⟩ := DataW.trod_int Try.underlying3 h
  have := bounds_i64 w1
  exact ⟨z, e1, by omega, by omega⟩
theorem open_bytS {base fuel : Nat} {cs : List Value} {x : DataW H × List MemPlace} (h : DataW.trod enc Try.prog W base (fun _ => true) true fuel 31 cs = some x) : ∃ v l, cs = [v] ∧ HB W v l ∧ l.length ≤ Rows.uptoBulk x.1 := by
  obtain ⟨d, p⟩ := x
  obtain ⟨q, c', l, hcs, h1, h2, h3, h4, h5, h6⟩ := open_row Try.underlying31 Try.underlying5 Opn.cells_u8 h
  exact ⟨_, l, hcs, ⟨⟨q, c', rfl, h1, h2, h3, h4⟩, byte_wf h5⟩, by show l.length ≤ Rows.uptoBulk d; omega⟩
theorem open_ixS {base fuel : Nat} {cs : List Value} {x : DataW H × List MemPlace} (h : DataW.trod enc Try.prog W base (fun _ => true) true fuel 27 cs = some x) : ∃ d : List Int, (d.length = 16 ∧ ∀ x ∈ d, 0 ≤ x ∧ x < 256) ∧ cs = d.map (Value.int .u8) := by
  obtain ⟨xs, m, rfl, rfl, hl, hxl, hx⟩ := DataW.trod_array Try.underlying27 h
  rw [Opn.cells_ixS] at hl
  have each : ∀ j, j < 16 → ∃ k : Int, (0 ≤ k ∧ k < 256) ∧ cs[j]? = some (.int .u8 k) := fun j hj => by
    have hj2 := hx j hj
    rw [Opn.cells_u8, List.getElem?_eq_getElem (by omega)] at hj2
    obtain ⟨z, e1, _, w1⟩ := DataW.trod_int Try.underlying5 hj2
    refine ⟨z, by have := bounds_u8 w1; omega, ?_⟩
    have e2 : ((cs.drop (j * 1)).take 1)[0]? = some (.int .u8 z) := by rw [e1]; rfl
    rw [List.getElem?_take, if_pos (by decide), List.getElem?_drop] at e2
    simpa using e2
  refine ⟨(List.range 16).map fun j => if hj : j < 16 then Classical.choose (each j hj) else 0, ⟨by simp, fun y hy => ?_⟩, ?_⟩
  · obtain ⟨j, hj, rfl⟩ := List.mem_map.1 hy
    have hj' := List.mem_range.1 hj
    simp only [hj', dif_pos]
    exact (Classical.choose_spec (each j hj')).1
  · rw [List.map_map]
    refine List.ext_getElem? fun j => ?_
    by_cases hj : j < 16
    · rw [(Classical.choose_spec (each j hj)).2]
      simp [hj]
    · rw [List.getElem?_eq_none (by omega), List.getElem?_eq_none (by simp; omega)]
theorem open_lzS {base fuel : Nat} {cs : List Value} {x : DataW H × List MemPlace} (hm : DataW.trod enc Try.prog W base (fun _ => true) true fuel 30 cs = some x) : ∃ l : Lz, cs = lzC l := by
  obtain ⟨xs, n, rfl, rfl, hl, hxl, hf⟩ := DataW.trod_struct Try.underlying30 hm
  rw [Opn.cells_lzS] at hl
  have g : ∀ (i : Nat) (f : Field), _ → DataW.trod enc Try.prog W base (fun _ => true) true n f.type ((cs.drop f.offset).take (Try.prog.cellsOf f.type)) = xs[i]? := fun i f hi => hf i f hi
  have hx : ∀ i, i < 2 → ∃ x, xs[i]? = some x := fun i hi => ⟨_, List.getElem?_eq_getElem (by rw [hxl]; exact hi)⟩
  obtain ⟨x0, e0⟩ := hx 0 (by omega)
  obtain ⟨x1, e1⟩ := hx 1 (by omega)
  have f0 : DataW.trod enc Try.prog W base (fun _ => true) true n 28 ((cs.drop 0).take (Try.prog.cellsOf 28)) = xs[0]? := g 0 _ rfl
  have f1 : DataW.trod enc Try.prog W base (fun _ => true) true n 3 ((cs.drop 1).take (Try.prog.cellsOf 3)) = xs[1]? := g 1 _ rfl
  rw [e0, Opn.cells_u32S] at f0
  rw [e1, Opn.cells_intS] at f1
  obtain ⟨z, q0, _, _⟩ := DataW.trod_int Try.underlying28 f0
  obtain ⟨u, q1, _⟩ := open_intS f1
  refine ⟨⟨z, u⟩, ?_⟩
  have hb : cs.drop 2 = [] := List.drop_eq_nil_of_le (by omega)
  have h1 := part_ofS q1 rfl _ hb
  have h0 := part_ofS q0 rfl _ h1
  rw [List.drop_zero] at h0
  rw [h0]
  simp [lzC]
theorem lzL_get {ls : List Lz} {i : Nat} (hi : i < ls.length) {j : Nat} {u : Value} (h : (lzC ls[i])[j]? = some u) : (lzL ls)[i * 2 + j]? = some u := by
  have hj : j < 2 := (List.getElem?_eq_some_iff.1 h).1
  have q := lzL_at ls i hi
  rcases (by omega : j = 0 ∨ j = 1) with rfl | rfl
  · rw [← h]; exact (by simpa [lzC, Nat.mul_comm] using q.1)
  · rw [← h]; exact (by simpa [lzC, Nat.mul_comm] using q.2)
theorem open_lsS {base fuel : Nat} {cs : List Value} {x : DataW H × List MemPlace} (h : DataW.trod enc Try.prog W base (fun _ => true) true fuel 58 cs = some x) : ∃ v ls, cs = [v] ∧ RdL W v ls := by
  rcases Go.Deep.open_slice Try.underlying58 h with ⟨hcs, hx⟩ | ⟨a, len, cap, m, n, D, Pl, hcs, hb, hl, hm, hmm, hx, hel⟩
  · exact ⟨_, [], hcs, none, 0, rfl, fun h => absurd rfl h⟩
  · simp only [if_true] at hmm
    subst hmm
    have each : ∀ i, i < len → ∃ o : Lz, ∀ j u, (lzC o)[j]? = some u → W.cell? ((a.add (i * 2)).add j) = some u := by
      intro i hi
      obtain ⟨cs', h1, h2⟩ := hel i (by omega)
      rw [Opn.cells_lzS] at h1
      obtain ⟨o, d2⟩ := open_lzS h2
      obtain ⟨_, _, hc⟩ := World.cells?_some h1
      refine ⟨o, fun j u hj => ?_⟩
      have hj2 : j < 2 := (List.getElem?_eq_some_iff.1 hj).1
      rw [hc j hj2, d2]
      exact hj
    have hch : ∃ T : Nat → Lz, ∀ i, i < len → ∀ j u, (lzC (T i))[j]? = some u → W.cell? ((a.add (i * 2)).add j) = some u := by
      refine ⟨fun i => if hi : i < len then Classical.choose (each i hi) else ⟨0, 0⟩, fun i hi => ?_⟩
      simp only [hi, dif_pos]
      exact Classical.choose_spec (each i hi)
    obtain ⟨T, hT⟩ := hch
    have hlen : ((List.range len).map T).length = len := by simp
    refine ⟨_, (List.range len).map T, hcs, some a, _, by rw [hlen], fun hne => ?_⟩
    have h0 : 0 < len := by rw [← hlen]; exact List.length_pos_iff.2 hne
    obtain ⟨b, off, sp⟩ := a
    have hsp : sp = none := by
      have := hT 0 h0 0 (.int .u32 (T 0).who) rfl
      simpa [Addr.add] using World.cell?_spot this
    subst hsp
    refine ⟨b, off, rfl, fun j u hj => ?_⟩
    have hjl : j < 2 * len := by
      have := (List.getElem?_eq_some_iff.1 hj).1
      rw [lzL_length, hlen] at this
      exact this
    have hi : j / 2 < len := by omega
    have hat := lzL_at ((List.range len).map T) (j / 2) (by rw [hlen]; exact hi)
    have hge : ((List.range len).map T)[j / 2]'(by rw [hlen]; exact hi) = T (j / 2) := by simp
    rw [hge] at hat
    rcases (by omega : j % 2 = 0 ∨ j % 2 = 1) with e | e
    · have ej : j = j / 2 * 2 := by omega
      rw [ej] at hj ⊢
      rw [hat.1] at hj
      cases hj
      have := hT (j / 2) hi 0 _ rfl
      simpa [Go.WideShapes.add_plain] using this
    · have ej : j = j / 2 * 2 + 1 := by omega
      rw [ej] at hj ⊢
      rw [hat.2] at hj
      cases hj
      have := hT (j / 2) hi 1 _ rfl
      rw [Go.WideShapes.add_plain, Go.WideShapes.add_plain] at this
      rw [← Nat.add_assoc]
      exact this
def KtQ (W : World) (n : Nat) (x : Rk) : Prop := (x.k.sp.ok ∧ HB W x.vb x.k.bs ∧ RdL W x.vl x.k.ls) ∧ x.k.bs.length ≤ n
set_option maxRecDepth 100000 in
theorem open_ktS {base fuel : Nat} {cs : List Value} {x : DataW H × List MemPlace} (hm : DataW.trod enc Try.prog W base (fun _ => true) true fuel 60 cs = some x) : ∃ o : Rk, KtQ W (Rows.uptoBulk x.1) o ∧ cs = rkL o := by
  obtain ⟨xs, n, rfl, rfl, hl, hxl, hf⟩ := DataW.trod_struct Try.underlying60 hm
  rw [Opn.cells_ktS] at hl
  have g : ∀ (i : Nat) (f : Field), _ → DataW.trod enc Try.prog W base (fun _ => true) true n f.type ((cs.drop f.offset).take (Try.prog.cellsOf f.type)) = xs[i]? := fun i f hi => hf i f hi
  have hx : ∀ i, i < 4 → ∃ x, xs[i]? = some x := fun i hi => ⟨_, List.getElem?_eq_getElem (by rw [hxl]; exact hi)⟩
  obtain ⟨x0, e0⟩ := hx 0 (by omega)
  have f0 : DataW.trod enc Try.prog W base (fun _ => true) true n 27 ((cs.drop 0).take (Try.prog.cellsOf 27)) = xs[0]? := g 0 _ rfl
  obtain ⟨x1, e1⟩ := hx 1 (by omega)
  have f1 : DataW.trod enc Try.prog W base (fun _ => true) true n 3 ((cs.drop 16).take (Try.prog.cellsOf 3)) = xs[1]? := g 1 _ rfl
  obtain ⟨x2, e2⟩ := hx 2 (by omega)
  have f2 : DataW.trod enc Try.prog W base (fun _ => true) true n 31 ((cs.drop 17).take (Try.prog.cellsOf 31)) = xs[2]? := g 2 _ rfl
  obtain ⟨x3, e3⟩ := hx 3 (by omega)
  have f3 : DataW.trod enc Try.prog W base (fun _ => true) true n 58 ((cs.drop 18).take (Try.prog.cellsOf 58)) = xs[3]? := g 3 _ rfl
  rw [e0, Opn.cells_ixS] at f0
  rw [e1, Opn.cells_intS] at f1
  rw [e2, Opn.cells_bytesS] at f2
  rw [e3, Opn.cells_lsS] at f3
  obtain ⟨ix, hix, q0⟩ := open_ixS f0
  obtain ⟨nb, q1, n0, n1⟩ := open_intS f1
  obtain ⟨bv, bs, q2, hb2, lb⟩ := open_bytS f2
  obtain ⟨lv, ls, q3, hl3⟩ := open_lsS f3
  have b2 := part_bulkS e2
  refine ⟨⟨⟨⟨ix, nb⟩, bs, ls⟩, bv, lv⟩, ⟨⟨⟨hix.1, hix.2, n0, n1⟩, hb2, hl3⟩, ?_⟩, ?_⟩
  · show bs.length ≤ Rows.uptoBulk (.agg (xs.map (·.1)))
    simp only [Rows.uptoBulk]
    omega
  · have hb : cs.drop 19 = [] := List.drop_eq_nil_of_le (by omega)
    have h3 := part_ofS q3 rfl _ hb
    have h2 := part_ofS q2 rfl _ h3
    have h1 := part_ofS q1 rfl _ h2
    have h0 := part_ofS q0 (by simp [hix.1]) _ h1
    rw [List.drop_zero] at h0
    rw [h0]
    simp [rkL, kpL]
def zzRk : Rk := ⟨⟨⟨[], 0⟩, [], []⟩, .slice none 0 0, .slice none 0 0⟩
theorem open_ksS {base fuel : Nat} {cs : List Value} {x : DataW H × List MemPlace} (h : DataW.trod enc Try.prog W base (fun _ => true) true fuel 22 cs = some x) : ∃ (p : Option Addr) (n c : Nat) (Ks : List Rk), cs = [.slice p n c] ∧ RdK W (.slice p n c) Ks ∧ Ks.length ≤ Rows.uptoBulk x.1 ∧ ∀ y ∈ Ks, y.k.bs.length ≤ Rows.uptoBulk x.1 := by
  obtain ⟨d, p⟩ := x
  rcases Go.Deep.open_slice Try.underlying22 h with ⟨hcs, hx⟩ | ⟨a, len, cap, m, n, D, Pl, hcs, hb, hl, hm, hmm, hx, hel⟩
  · exact ⟨_, _, _, [], hcs, ⟨none, 0, rfl, fun h => absurd rfl h, fun y hy => by cases hy⟩, Nat.zero_le _, fun y hy => by cases hy⟩
  · simp only [if_true] at hmm
    subst hmm
    simp only [Prod.mk.injEq] at hx
    obtain ⟨rfl, _⟩ := hx
    have hBe : ∀ i, i < len → Rows.uptoBulk (D i) ≤ Rows.uptoBulkAll ((List.range len).map D) := fun i hi => bulk_memS (List.mem_map.2 ⟨i, List.mem_range.2 hi, rfl⟩)
    have each : ∀ i, i < len → ∃ o : Rk, KtQ W (Rows.uptoBulk (D i)) o ∧ ∀ j u, (rkL o)[j]? = some u → W.cell? ((a.add (i * 19)).add j) = some u := by
      intro i hi
      obtain ⟨cs', h1, h2⟩ := hel i (by omega)
      rw [Opn.cells_ktS] at h1
      obtain ⟨o, d1, d2⟩ := open_ktS h2
      obtain ⟨_, _, hc⟩ := World.cells?_some h1
      refine ⟨o, d1, fun j u hj => ?_⟩
      have hj2 : j < 19 := by have := (List.getElem?_eq_some_iff.1 hj).1; rwa [rkL_length d1.1.1] at this
      rw [hc j hj2, d2]
      exact hj
    have hch : ∃ T : Nat → Rk, ∀ i, i < len → KtQ W (Rows.uptoBulk (D i)) (T i) ∧ ∀ j u, (rkL (T i))[j]? = some u → W.cell? ((a.add (i * 19)).add j) = some u := by
      refine ⟨fun i => if hi : i < len then Classical.choose (each i hi) else zzRk, fun i hi => ?_⟩
      simp only [hi, dif_pos]
      exact Classical.choose_spec (each i hi)
    obtain ⟨T, hT⟩ := hch
    have hlen : ((List.range len).map T).length = len := by simp
    have h5 : len ≤ Rows.uptoBulkAll ((List.range len).map D) := by
      have := bulk_len ((List.range len).map D)
      simpa using this
    refine ⟨some a, len, _, (List.range len).map T, hcs, ⟨some a, _, by rw [hlen], fun hne => ?_, fun y hy => ?_⟩, ?_, fun y hy => ?_⟩
    · have h0 : 0 < len := by rw [← hlen]; exact List.length_pos_iff.2 hne
      obtain ⟨b, off, sp⟩ := a
      have hz := (hT 0 h0).2 0 _ (kpL_ix (hT 0 h0).1.1.1 _ _ (j := 0) (by decide))
      have hsp : sp = none := by
        simpa [Addr.add] using World.cell?_spot hz
      subst hsp
      refine ⟨b, off, rfl, World.block_lt_of_cell? W _ hz, fun i hi j u hj => ?_⟩
      rw [hlen] at hi
      have hge : ((List.range len).map T)[i]'(by rw [hlen]; exact hi) = T i := by simp
      rw [hge] at hj
      have := (hT i hi).2 j u hj
      rwa [Go.WideShapes.add_plain, Go.WideShapes.add_plain] at this
    · obtain ⟨i, hi, rfl⟩ := List.mem_map.1 hy
      exact (hT i (List.mem_range.1 hi)).1.1
    · rw [hlen]
      simp only [Rows.uptoBulk]
      omega
    · obtain ⟨i, hi, rfl⟩ := List.mem_map.1 hy
      have q1 := (hT i (List.mem_range.1 hi)).1.2
      have q2 := hBe i (List.mem_range.1 hi)
      simp only [Rows.uptoBulk]
      omega
set_option maxRecDepth 100000 in
theorem open_stS {base : Nat} {v : Value} {d : DataW H} {p : List MemPlace} (h : DataW.Trod enc Try.prog W base (fun _ => true) true 24 v d p) (hv : ∃ cs : Array Value, v = .agg cs ∧ cs.size = 3) : ∃ (room t : Int) (pk : Option Addr) (nk ck : Nat) (Ks : List Rk), v = .agg #[.int .i64 room, .int .i64 t, .slice pk nk ck] ∧ RdK W (.slice pk nk ck) Ks ∧ Ks.length ≤ Rows.uptoBulk d ∧ ∀ y ∈ Ks, y.k.bs.length ≤ Rows.uptoBulk d := by
  obtain ⟨cs, rfl, hsz⟩ := hv
  obtain ⟨fuel, hm⟩ := h
  obtain ⟨xs, n, rfl, hxx, hl, hxl, hf⟩ := DataW.trod_struct Try.underlying24 hm
  have g : ∀ (i : Nat) (f : Field), _ → DataW.trod enc Try.prog W base (fun _ => true) true n f.type ((cs.toList.drop f.offset).take (Try.prog.cellsOf f.type)) = xs[i]? := fun i f hi => hf i f hi
  have hx : ∀ i, i < 3 → ∃ x, xs[i]? = some x := fun i hi => ⟨_, List.getElem?_eq_getElem (by rw [hxl]; exact hi)⟩
  obtain ⟨x0, e0⟩ := hx 0 (by omega)
  have f0 : DataW.trod enc Try.prog W base (fun _ => true) true n 3 ((cs.toList.drop 0).take (Try.prog.cellsOf 3)) = xs[0]? := g 0 _ rfl
  obtain ⟨x1, e1⟩ := hx 1 (by omega)
  have f1 : DataW.trod enc Try.prog W base (fun _ => true) true n 3 ((cs.toList.drop 1).take (Try.prog.cellsOf 3)) = xs[1]? := g 1 _ rfl
  obtain ⟨x2, e2⟩ := hx 2 (by omega)
  have f2 : DataW.trod enc Try.prog W base (fun _ => true) true n 22 ((cs.toList.drop 2).take (Try.prog.cellsOf 22)) = xs[2]? := g 2 _ rfl
  rw [e0, Opn.cells_intS] at f0
  rw [e1, Opn.cells_intS] at f1
  rw [e2, Opn.cells_ksS] at f2
  obtain ⟨room, q0, _⟩ := open_intS f0
  obtain ⟨t, q1, _⟩ := open_intS f1
  obtain ⟨pk, nk, ck, Ks, q2, h3, h4, h5⟩ := open_ksS f2
  have b2 := part_bulkS e2
  simp only [Prod.mk.injEq] at hxx
  have hd : d = .agg (xs.map (·.1)) := hxx.1
  have hbd : Rows.uptoBulk x2.1 ≤ Rows.uptoBulk d := by
    rw [hd]
    simp only [Rows.uptoBulk]
    omega
  refine ⟨room, t, pk, nk, ck, Ks, ?_, h3, Nat.le_trans h4 hbd, fun y hy => Nat.le_trans (h5 y hy) hbd⟩
  have hb : cs.toList.drop 3 = [] := List.drop_eq_nil_of_le (by simp [hsz])
  have p2 := part_ofS q2 rfl _ hb
  have p1 := part_ofS q1 rfl _ p2
  have p0 := part_ofS q0 rfl _ p1
  rw [List.drop_zero] at p0
  have : cs = #[.int .i64 room, .int .i64 t, .slice pk nk ck] := by
    rw [← Array.toList_inj, p0]
    rfl
  rw [this]
end Go.Proofs.Ythmhpenjegfbcaa
namespace Go.Proofs.Ythmhpenjegfbcaa
open Go Go.Shelf Go.Proofs
def sortK_ren : Go.Shelf.Ren := ⟨fun | 6 => 27 | 15 => 40 | 14 => 39 | 28 => 61 | 29 => 62 | 20 => 53 | 21 => 54 | 22 => 55 | 23 => 56 | 24 => 57 | 25 => 58 | 26 => 59 | 27 => 60 | 46 => 73 | 47 => 74 | 48 => 75 | 49 => 76 | 50 => 77 | 57 => 82 | n => n, fun | 22 => 22 | 24 => 60 | 25 => 77 | 3 => 3 | 39 => 91 | 0 => 0 | 53 => 28 | 55 => 107 | 4 => 4 | 46 => 99 | 45 => 98 | 50 => 103 | 5 => 5 | 9 => 9 | 66 => 115 | 70 => 119 | 76 => 123 | 77 => 124 | n => n, fun | n => n⟩
theorem sortK : Go.Proofs.SlLaysF0.n6 Try.prog sortK_ren := {
  mixed := by kernel_rfl
  f6 := ⟨Try.f27.name, by decide, Try.func27.trans (congrArg some (by kernel_rfl))⟩
  f14 := ⟨Try.f39.name, by decide, Try.func39.trans (congrArg some (by kernel_rfl))⟩
  f15 := Try.func40.trans (congrArg some (by kernel_rfl))
  f20 := ⟨Try.f53.name, by decide, Try.func53.trans (congrArg some (by kernel_rfl))⟩
  f21 := ⟨Try.f54.name, by decide, Try.func54.trans (congrArg some (by kernel_rfl))⟩
  f22 := ⟨Try.f55.name, by decide, Try.func55.trans (congrArg some (by kernel_rfl))⟩
  f23 := ⟨Try.f56.name, by decide, Try.func56.trans (congrArg some (by kernel_rfl))⟩
  f24 := ⟨Try.f57.name, by decide, Try.func57.trans (congrArg some (by kernel_rfl))⟩
  f25 := ⟨Try.f58.name, by decide, Try.func58.trans (congrArg some (by kernel_rfl))⟩
  f26 := ⟨Try.f59.name, by decide, Try.func59.trans (congrArg some (by kernel_rfl))⟩
  f27 := ⟨Try.f60.name, by decide, Try.func60.trans (congrArg some (by kernel_rfl))⟩
  f28 := Try.func61.trans (congrArg some (by kernel_rfl))
  f29 := Try.func62.trans (congrArg some (by kernel_rfl))
  f46 := ⟨Try.f73.name, by decide, Try.func73.trans (congrArg some (by kernel_rfl))⟩
  f47 := Try.func74.trans (congrArg some (by kernel_rfl))
  f48 := Try.func75.trans (congrArg some (by kernel_rfl))
  f49 := ⟨Try.f76.name, by decide, Try.func76.trans (congrArg some (by kernel_rfl))⟩
  f50 := ⟨Try.f77.name, by decide, Try.func77.trans (congrArg some (by kernel_rfl))⟩
  f57 := ⟨Try.f82.name, by decide, Try.func82.trans (congrArg some (by kernel_rfl))⟩
  t0 := Try.underlying0
  a0 := Try.isAgg0
  z0 := Try.sizeOf0
  v0 := Try.zeroValue0
  t3 := Try.underlying3
  a3 := Try.isAgg3
  z3 := Try.sizeOf3
  v3 := Try.zeroValue3
  t4 := Try.underlying4
  a4 := Try.isAgg4
  z4 := Try.sizeOf4
  v4 := Try.zeroValue4
  t5 := Try.underlying5
  a5 := Try.isAgg5
  z5 := Try.sizeOf5
  v5 := Try.zeroValue5
  t9 := Try.underlying9
  a9 := Try.isAgg9
  z9 := Try.sizeOf9
  v9 := Try.zeroValue9
  t22 := Try.underlying22
  a22 := Try.isAgg22
  z22 := Try.sizeOf22
  v22 := Try.zeroValue22
  t25 := Try.underlying77
  a25 := Try.isAgg77
  z25 := Try.sizeOf77
  v25 := Try.zeroValue77
  t39 := Try.underlying91
  a39 := Try.isAgg91
  z39 := Try.sizeOf91
  v39 := Try.zeroValue91
  t45 := Try.underlying98
  a45 := Try.isAgg98
  z45 := Try.sizeOf98
  v45 := Try.zeroValue98
  t46 := Try.underlying99
  a46 := Try.isAgg99
  z46 := Try.sizeOf99
  v46 := Try.zeroValue99
  t50 := Try.underlying103
  a50 := Try.isAgg103
  z50 := Try.sizeOf103
  v50 := Try.zeroValue103
  t53 := Try.underlying28
  a53 := Try.isAgg28
  z53 := Try.sizeOf28
  v53 := Try.zeroValue28
  t55 := Try.underlying107
  a55 := Try.isAgg107
  z55 := Try.sizeOf107
  v55 := Try.zeroValue107
  t66 := Try.underlying115
  a66 := Try.isAgg115
  z66 := Try.sizeOf115
  v66 := Try.zeroValue115
  t70 := Try.underlying119
  a70 := Try.isAgg119
  z70 := Try.sizeOf119
  v70 := Try.zeroValue119
  t76 := Try.underlying123
  a76 := Try.isAgg123
  z76 := Try.sizeOf123
  v76 := Try.zeroValue123
  t77 := Try.underlying124
  a77 := Try.isAgg124
  z77 := Try.sizeOf124
  v77 := Try.zeroValue124 }
end Go.Proofs.Ythmhpenjegfbcaa
namespace Go.Proofs.Ythmhpenjegfbcaa
open Go Go.RowKit Go.Shelf Go.Proofs
def RkOk (x : Rk) : Prop := x.k.sp.ok ∧ x.vb.oneCell' = true ∧ x.vl.oneCell' = true
abbrev RkS : Type := { x : Rk // RkOk x }
def sp0 : Sp := ⟨List.replicate 16 0, 0⟩
theorem sp0_ok : sp0.ok := ⟨rfl, (fun x hx => by have := (List.mem_replicate.1 hx).2; omega), by decide, by decide⟩
def rk0 : RkS := ⟨⟨⟨sp0, [], []⟩, .slice none 0 0, .slice none 0 0⟩, sp0_ok, rfl, rfl⟩
instance : Inhabited RkS := ⟨rk0⟩
def encK (x : RkS) : List Value := rkL x.1
def cfK (x y : RkS) : Int := cmpS x.1.k.sp y.1.k.sp
theorem encK_len (x : RkS) : (encK x).length = 19 := rkL_length x.2.1
theorem encK_one (x : RkS) : ∀ v ∈ encK x, v.oneCell' = true := fun v h => by
  unfold encK rkL kpL at h
  rcases List.mem_append.1 h with h | h
  · obtain ⟨y, _, rfl⟩ := List.mem_map.1 h; rfl
  · simp only [List.mem_cons, List.not_mem_nil, or_false] at h
    rcases h with rfl | rfl | rfl
    · rfl
    · exact x.2.2.1
    · exact x.2.2.2
theorem swoK : Go.Sort.SWO (ltOf cfK) where
  irrefl x := by unfold ltOf cfK; rw [cmpS_self]; rfl
  trans x y z h1 h2 := by
    unfold ltOf cfK at *
    rw [decide_eq_true_eq] at *
    exact cmpS_trans h1 h2
  ntrans x y z h1 h2 := by
    unfold ltOf cfK at *
    rw [decide_eq_false_iff_not] at *
    intro h
    rcases cmpS_three x.1.k.sp y.1.k.sp with q | q | q
    · exact h1 q
    · rw [q] at h; exact h2 h
    · exact h2 (cmpS_trans q h)
theorem cmpLaysK (blk off size : Nat) (w : World) : CmpLays Try.prog 28 #[] encK 19 cfK blk off size w :=
  fun _ _ _ _ x y => bySpot_any _ x.1.k y.1.k x.2.1 y.2.1 _ _ _ _
theorem isAgg_kept : ∀ w, (isAgg 60).run Try.prog w = .ok true w := fun w => by simp [isAgg, run_underlying Try.underlying60]
theorem sizeOf_kept : ∀ w, (Go.sizeOf 60).run Try.prog w = .ok 19 w := fun w => by
  cases hi : Try.prog.info? 60 with
  | none => have := size_kept; rw [hi] at this; cases this
  | some i0 =>
    have hz : i0.size = 19 := by have := size_kept; rw [hi] at this; simpa using this
    simp [Go.sizeOf, typeInfo, hi, hz]
def RwK (w : World) (b : Nat) (C : List Rk) : Prop := ∀ i (hi : i < C.length), w.rangeAt b (i * 19) (rkL C[i])
theorem sw_other {w : World} {b m k : Nat} {d : Array RkS} {os : Array Obj} (hk : k < w.heap.size) (hn : k ≠ b) : (sortWorldK encK 19 w b 0 m d os).heap[k]? = w.heap[k]? := by
  unfold sortWorldK
  simp only [Sort.grow, Sort.putRowK, Sort.putRow, Sort.mapBlock]
  rw [Array.getElem?_append_left (by simpa [Sort.ahead] using hk)]
  simp [Array.getElem?_modify, Ne.symm hn, Sort.ahead]
theorem sw_ex {w : World} {b m : Nat} {d : Array RkS} {os : Array Obj} : Ex (fun k => k = b) w (sortWorldK encK 19 w b 0 m d os) := by
  refine ⟨rfl, rfl, rfl, ?_, fun k hk hn => sw_other hk hn⟩
  unfold sortWorldK
  simp only [Sort.grow, Sort.putRowK, Sort.putRow, Sort.mapBlock]
  simp [Sort.ahead]
theorem holdsK_of {w : World} {b : Nat} {C : List Rk} {d : Array RkS} (hd : d.toList.map (·.1) = C) (hr : RwK w b C) {cs : Array Value} {T : TypeId} (hb : w.heap[b]? = some (.cells cs T (0, 0))) : Sort.HoldsK encK 19 w b 0 d := by
  intro j hj
  rw [Sort.size_flatK] at hj
  refine ⟨?_, free_of hb _⟩
  rw [Sort.get_flatK encK 19 d j hj]
  have hi : j / 19 < d.size := by omega
  have hl : d.size = C.length := by rw [← hd, List.length_map, Array.length_toList]
  have e1 : d[j / 19]! = d[j / 19] := getElem!_pos d (j / 19) hi
  have e2 : (d[j / 19]).1 = C[j / 19]'(by omega) := by
    have : (d.toList.map (·.1))[j / 19]? = C[j / 19]? := by rw [hd]
    rw [List.getElem?_map, Array.getElem?_toList, Array.getElem?_eq_getElem hi, List.getElem?_eq_getElem (by omega)] at this
    simpa using this
  have hlen := encK_len d[j / 19]
  have hm : j % 19 < 19 := Nat.mod_lt _ (by decide)
  have h3 : (encK d[j / 19])[j % 19]? = some (encK d[j / 19])[j % 19]! := by
    rw [List.getElem?_eq_getElem (by omega)]
    congr 1
    exact (getElem!_pos _ _ (by omega)).symm
  rw [e1]
  have := hr (j / 19) (by omega) (j % 19) _ (by rw [← e2]; exact h3)
  rw [show j / 19 * 19 + j % 19 = j by omega] at this
  rw [Nat.zero_add]
  exact this
theorem rwK_of {w : World} {b : Nat} {C : List Rk} {d : Array RkS} (hd : d.toList.map (·.1) = C) (h : Sort.HoldsK encK 19 w b 0 d) : RwK w b C := by
  intro i hi r v hv
  have hl : d.size = C.length := by rw [← hd, List.length_map, Array.length_toList]
  have hid : i < d.size := by omega
  have e2 : (d[i]).1 = C[i] := by
    have : (d.toList.map (·.1))[i]? = C[i]? := by rw [hd]
    rw [List.getElem?_map, Array.getElem?_toList, Array.getElem?_eq_getElem hid, List.getElem?_eq_getElem hi] at this
    simpa using this
  have hlen := encK_len d[i]
  have hr : r < 19 := by
    have := (List.getElem?_eq_some_iff.1 hv).1
    rw [← e2] at this
    unfold encK at hlen
    omega
  have q := (h (i * 19 + r) (by rw [Sort.size_flatK]; omega)).1
  rw [Sort.get_flatK encK 19 d _ (by omega), Nat.zero_add] at q
  rw [show (i * 19 + r) / 19 = i by omega, show (i * 19 + r) % 19 = r by omega, getElem!_pos d i hid] at q
  rw [q]
  congr 1
  have h3 : (encK d[i])[r]? = some (encK d[i])[r]! := by
    rw [List.getElem?_eq_getElem (by omega)]
    congr 1
    exact (getElem!_pos _ _ (by omega)).symm
  have h4 : (encK d[i])[r]? = some v := by unfold encK; rw [e2]; exact hv
  rw [h3] at h4
  exact Option.some.inj h4
theorem ksort_any (w : World) (b cap : Nat) (C : List Rk) (hC : ∀ x ∈ C, RkOk x) (hr : RwK w b C) {cs : Array Value} {T : TypeId} (hb : w.heap[b]? = some (.cells cs T (0, 0))) (hn : C.length ≤ 1048576) :
    Calls Try.prog 27 #[.slice (some ⟨b, 0, none⟩) C.length cap, .func (.func 28) #[] #[]] w fun e w' => e = .returned (.tuple #[]) ∧ ∃ C', C'.Perm C ∧ C'.Pairwise (fun x y => ¬ cmpS y.k.sp x.k.sp < 0) ∧ RwK w' b C' ∧ Ex (fun k => k = b) w w' := by
  obtain ⟨d, hd⟩ : ∃ d : Array RkS, d.toList.map (·.1) = C := ⟨(C.attach.map fun x => (⟨x.1, hC x.1 x.2⟩ : RkS)).toArray, by rw [List.toList_toArray, List.map_map]; exact List.attach_map_subtype_val C⟩
  have hl : d.size = C.length := by rw [← hd, List.length_map, Array.length_toList]
  have eg : ∀ args w, (callFunc 28 args).run Try.prog w = .ok (.enter 28 args) w := enters_of Try.func28 (by kernel_rfl) rfl
  have hH := holdsK_of hd hr hb
  have hbl : b < w.heap.size := (Array.getElem?_eq_some_iff.1 hb).1
  have hcon := AnyQ.slices_SortFunc sortK 19 isAgg_kept sizeOf_kept encK encK_len encK_one cfK swoK 28 #[] b 0 cap d w eg (cmpLaysK b 0 d.size w) hH hbl (by omega)
  rw [hl] at hcon
  change Calls Try.prog 27 _ _ _ at hcon
  refine hcon.mono ?_
  rintro e w' ⟨rfl, d', n, os, hp, hs, rfl⟩
  refine ⟨rfl, d'.toList.map (·.1), ?_, ?_, rwK_of rfl (holdsK_sortWorldK_c encK 19 w b 0 d d' n os hH hbl hp.1), sw_ex⟩
  · have h1 := hp.2.2
    have e1 : (d'.extract 0 C.length).toList = d'.toList := by rw [← hl, ← hp.1]; simp
    have e2 : (d.extract 0 C.length).toList = d.toList := by rw [← hl]; simp
    rw [e1, e2] at h1
    rw [← hd]
    exact h1.map _
  · rw [List.pairwise_map, List.pairwise_iff_getElem]
    intro i j hi hj hij
    have hj' : j < d'.size := by simpa using hj
    have := hs i j (Nat.zero_le _) hij (by rw [← hl, ← hp.1]; exact hj')
    rw [getElem!_pos d' j hj', getElem!_pos d' i (by omega)] at this
    unfold ltOf cfK at this
    simpa using this
end Go.Proofs.Ythmhpenjegfbcaa
namespace Go.Proofs.Ythmhpenjegfbcaa
open Go Go.RowKit
set_option maxRecDepth 100000 in
set_option maxHeartbeats 4000000 in
theorem run_build_kept (w : World) {k : Kp} (h : k.sp.ok) (p1 p2 : Option Addr) (n1 c1 n2 c2 : Nat) : (Instr.build 60 #[(0, .agg (ixA k.sp)), (1, .int .i64 k.sp.nb), (2, .slice p1 n1 c1), (3, .slice p2 n2 c2)]).run Try.prog w = .ok (.agg (kpL k (.slice p1 n1 c1) (.slice p2 n2 c2)).toArray) w := by
  obtain ⟨x0, x1, x2, x3, x4, x5, x6, x7, x8, x9, x10, x11, x12, x13, x14, x15, hx⟩ := list16s k.sp.ix h.1
  obtain ⟨⟨ix, nb⟩, bs, ls⟩ := k
  simp only at hx
  subst hx
  unfold ixA kpL
  kernel_rfl
set_option maxRecDepth 100000 in
set_option maxHeartbeats 4000000 in
theorem run_lit_kept (w : World) {k : Kp} (h : k.sp.ok) (p1 p2 : Option Addr) (n1 c1 n2 c2 : Nat) : (Instr.buildSlice 22 1 #[(0, .agg (kpL k (.slice p1 n1 c1) (.slice p2 n2 c2)).toArray)]).run Try.prog w = .ok (.slice (some ⟨w.heap.size, 0, none⟩) 1 1) (w.alloc (.cells (kpL k (.slice p1 n1 c1) (.slice p2 n2 c2)).toArray 60)) := by
  obtain ⟨x0, x1, x2, x3, x4, x5, x6, x7, x8, x9, x10, x11, x12, x13, x14, x15, hx⟩ := list16s k.sp.ix h.1
  obtain ⟨⟨ix, nb⟩, bs, ls⟩ := k
  simp only at hx
  subst hx
  unfold kpL
  kernel_rfl
theorem info_kept : (Try.prog.info? 60).map (fun i => (i.zero, i.size, i.bytes)) = some (some (.agg zkept), 19, 72) := by kernel_rfl
end Go.Proofs.Ythmhpenjegfbcaa
