/- Of the road to uebReadCard_holds: UbWrite, UbMap, RegInv, RegLow. -/
import Derived.Test.YtklklldmhoofnaaDoorG03
import Derived.Test.YtklklldmhoofnaaDoorG00
import Derived.Test.YtklklldmhoofnaaDoorChecked
import Derived.MapKept
import Derived.RegionTactic
import Derived.Orders
import Derived.Deep.RegionHeld
set_option linter.unusedVariables false
set_option linter.unusedSimpArgs false
namespace Go.Proofs.YtklklldmhoofnaaDoor
open Go Go.RowKit
def nmK : ByteArray := ⟨#[107]⟩
def nmN : ByteArray := ⟨#[110]⟩
def nmSeg : ByteArray := ⟨#[115, 101, 103]⟩
def nmSegs : ByteArray := ⟨#[115, 101, 103, 109, 101, 110, 116, 115]⟩
def nmShares : ByteArray := ⟨#[115, 104, 97, 114, 101, 115]⟩
def nmSize : ByteArray := ⟨#[115, 105, 122, 101]⟩
def ubRows (u : Ub) : List Rw := [(nmK, dgL u.k.toNat), (nmN, dgL u.n.toNat), (nmSeg, dgL u.g.toNat), (nmSegs, u.b), (nmShares, u.a), (nmSize, dgL u.z.toNat)]
def RB (u : Ub) : Prop := (0 ≤ u.k ∧ u.k ≤ 2147483647) ∧ (0 ≤ u.n ∧ u.n ≤ 2147483647) ∧ (0 ≤ u.g ∧ u.g ≤ 2147483647) ∧ 0 ≤ u.z ∧ u.z ≤ 2147483647
theorem dg_len_int (x : Int) (h : x ≤ 2147483647) : (dgL x.toNat).length ≤ 65536 := by
  rw [dgL_length]
  have := dec_len_mono 2147483647 x.toNat (by omega)
  have h2 : (Lib.decDigits 2147483647).length = 10 := by decide +kernel
  omega
theorem OkS.le {k n g z : Int} (h : OkS k n g z) : (0 ≤ k ∧ k ≤ 2147483647) ∧ (0 ≤ n ∧ n ≤ 2147483647) ∧ (0 ≤ g ∧ g ≤ 2147483647) ∧ 0 ≤ z ∧ z ≤ 2147483647 := by
  obtain ⟨h1, h2, h3, h4, h5, h6, h7, h8, h9⟩ := h
  have := most_lt h1 (by omega)
  omega
theorem nm_up : leS nmK noS = false ∧ leS nmN nmK = false ∧ leS nmSeg nmN = false ∧ leS nmSegs nmSeg = false ∧ leS nmShares nmSegs = false ∧ leS nmSize nmShares = false := by decide +kernel
theorem ubRows_may {u : Ub} (hu : u.ok) (h : OkS u.k u.n u.g u.z) : mayT (ubRows u) := by
  obtain ⟨q1, q2, q3, q4⟩ := h.le
  obtain ⟨p1, p2, p3, p4, p5, p6⟩ := nm_up
  refine ⟨by simp [ubRows], ⟨p1, (by show nmK.size ≤ 64; decide +kernel), dg_len_int _ q1.2⟩, ⟨p2, (by show nmN.size ≤ 64; decide +kernel), dg_len_int _ q2.2⟩, ⟨p3, (by show nmSeg.size ≤ 64; decide +kernel), dg_len_int _ q3.2⟩, ⟨p4, (by show nmSegs.size ≤ 64; decide +kernel), ?_⟩, ⟨p5, (by show nmShares.size ≤ 64; decide +kernel), ?_⟩, ⟨p6, (by show nmSize.size ≤ 64; decide +kernel), dg_len_int _ q4.2⟩, trivial⟩
  · show u.b.length ≤ 65536
    rw [hu.2.1]; omega
  · show u.a.length ≤ 65536
    rw [hu.1.1]; omega
def wrL (u : Ub) : List Int := if chE u = 0 then packL (ubRows u) else []
theorem HB_part {w : World} {m : Array Value} {blk o : Nat} {T : TypeId} {l : List Int} (hb : w.heap[blk]? = some (.cells m T (0, 0))) (hl : l.length = 32) (hy : Byt8 l) (hm : ∀ j, j < 32 → m[o + j]? = some (.int .u8 (l.getD j 0))) : HB w (.slice (some ⟨blk, o, none⟩) 32 32) l := by
  refine ⟨⟨_, 32, by rw [hl], by omega, by unfold maxLen; omega, (fun e => by cases e), fun _ => ⟨blk, o, rfl, fun j hj => ?_⟩⟩, hy⟩
  rw [hl] at hj
  rw [cell_of_row _ _ _ _ _ _ hb]
  exact hm j hj
theorem ubA_a {u : Ub} (hu : u.ok) (j : Nat) (hj : j < 32) : (ubA u)[4 + j]? = some (.int .u8 (u.a.getD j 0)) := by
  have h1 := hu.1.1
  unfold ubA ubL
  rw [List.getElem?_toArray, show 4 + j = j + 4 by omega]
  simp only [List.getElem?_cons_succ]
  rw [List.getElem?_append_left (by simp; omega), List.getElem?_map, List.getElem?_eq_getElem (by omega : j < u.a.length)]
  simp [List.getD, List.getElem?_eq_getElem (by omega : j < u.a.length)]
theorem ubA_b {u : Ub} (hu : u.ok) (j : Nat) (hj : j < 32) : (ubA u)[36 + j]? = some (.int .u8 (u.b.getD j 0)) := by
  have h1 := hu.1.1
  have h2 := hu.2.1
  unfold ubA ubL
  rw [List.getElem?_toArray, show 36 + j = (32 + j) + 4 by omega]
  simp only [List.getElem?_cons_succ]
  rw [List.getElem?_append_right (by simp; omega), List.length_map, h1, show 32 + j - 32 = j by omega, List.getElem?_map, List.getElem?_eq_getElem (by omega : j < u.b.length)]
  simp [List.getD, List.getElem?_eq_getElem (by omega : j < u.b.length)]
set_option maxRecDepth 100000 in
set_option maxHeartbeats 16000000 in
theorem uwrite_any (wz : World) (u : Ub) (hu : u.ok) (hkp : KP wz) : Calls Tryd.prog 7 #[.agg (ubA u)] wz fun e w' => ∃ v', e = .returned (.tuple #[v', .int .i64 (chE u)]) ∧ w'.ownsRow wz.heap.size 5 1 v' (wrL u).length ((wrL u).map (Value.int .u8)) ∧ Below wz.heap.size wz w' := by
  have C := hid fun w => ucheck_any w u hu
  have HS := hid (size_ub hu)
  have q0 : (ubA u)[0]? = some (.int .i64 u.k) := rfl
  have q1 : (ubA u)[1]? = some (.int .i64 u.n) := rfl
  have q2 : (ubA u)[2]? = some (.int .i64 u.g) := rfl
  have q3 : (ubA u)[3]? = some (.int .i64 u.z) := rfl
  have HA := hid (ubA_a hu)
  have HB := hid (ubA_b hu)
  have HKP := hid hkp
  by_cases hok : chE u = 0
  · have hle := (ch_ok hok).le
    have hmay := ubRows_may hu (ch_ok hok)
    have e1 : wrL u = packL (ubRows u) := by unfold wrL; rw [if_pos hok]
    rw [hok] at C
    rw [hok, e1]
    have HMAY := hid hmay
    obtain ⟨m, HM⟩ : ∃ x, Hid (ubA u = x) := ⟨_, rfl⟩
    obtain ⟨k, Hk⟩ : ∃ x, Hid (u.k = x) := ⟨_, rfl⟩
    obtain ⟨n, Hn⟩ : ∃ x, Hid (u.n = x) := ⟨_, rfl⟩
    obtain ⟨g, Hg⟩ : ∃ x, Hid (u.g = x) := ⟨_, rfl⟩
    obtain ⟨z, Hz⟩ : ∃ x, Hid (u.z = x) := ⟨_, rfl⟩
    rw [Hk.out] at q0
    rw [Hn.out] at q1
    rw [Hg.out] at q2
    rw [Hz.out] at q3
    rw [Hk.out, Hn.out, Hg.out, Hz.out] at hle
    rw [HM.out] at HS q0 q1 q2 q3 C HA HB ⊢
    obtain ⟨⟨k0, k1⟩, ⟨n0, n1⟩, ⟨g0, g1⟩, z0, z1⟩ := hle
    have HUR : Hid (ubRows u = [(nmK, dgL k.toNat), (nmN, dgL n.toNat), (nmSeg, dgL g.toNat), (nmSegs, u.b), (nmShares, u.a), (nmSize, dgL z.toNat)]) := by unfold ubRows; rw [Hk.out, Hn.out, Hg.out, Hz.out]; exact rfl
    have HU := hid hu
    clear hmay e1 hok hu hkp
    go_enter Tryd.func7, Tryd.ntmps7
    go_wp2_with (first | (refine wpList_load_row rfl 25 _ rfl wz.heap.size rfl 25 m (0, 0) _ (heap_alloc_new wz _) Tryd.underlying25 rfl HS.out ?_) | fail)
    refine (C.out _).mono ?_
    rintro e w1 ⟨rfl, hb1⟩
    have hA := (Below.refl wz.heap.size wz).alloc (Nat.le_refl _) (.cells m 25)
    have B1 := hid (hA.trans (hb1.mono (by simp)))
    have HBL : Hid (w1.heap[wz.heap.size]? = some (.cells m 25 (0, 0))) := (hb1.block wz.heap.size (by simp)).trans (heap_alloc_new wz _)
    have hlt : wz.heap.size < w1.heap.size := by have := hb1.size; simp at this; omega
    have HC0 : Hid (w1.cell? ⟨wz.heap.size, 0, none⟩ = some (.int .i64 k)) := by refine hid ?_; rw [cell_of_row _ _ _ _ _ _ HBL.out]; exact q0
    have HC1 : Hid (w1.cell? ⟨wz.heap.size, 1, none⟩ = some (.int .i64 n)) := by refine hid ?_; rw [cell_of_row _ _ _ _ _ _ HBL.out]; exact q1
    have HC2 : Hid (w1.cell? ⟨wz.heap.size, 2, none⟩ = some (.int .i64 g)) := by refine hid ?_; rw [cell_of_row _ _ _ _ _ _ HBL.out]; exact q2
    have HC3 : Hid (w1.cell? ⟨wz.heap.size, 3, none⟩ = some (.int .i64 z)) := by refine hid ?_; rw [cell_of_row _ _ _ _ _ _ HBL.out]; exact q3
    have HLT := hid hlt
    have HVb := hid (HB_part (o := 36) HBL.out HU.out.2.1 HU.out.2.2 HB.out)
    have HVa := hid (HB_part (o := 4) HBL.out HU.out.1.1 HU.out.1.2 HA.out)
    clear hb1 hA C q0 q1 q2 q3
    go_wp2
    refine wp_region_held_drew (S := Below w1.heap.size w1) (by kernel_rfl) (Below.refl _ _).drew (fun hHeld => ?_)
    have HS := hid hHeld
    clear hHeld
    change wpAnyH _ _ _ _ _ _ _ _ (World.drew _)
    refine wpAnyH_take (i := 0) (v := .pointer (some ⟨wz.heap.size, 0, none⟩)) rfl (by kernel_rfl) (by kernel_rfl) (by kernel_rfl) (fun _ _ _ h => h) (Or.inl ⟨by rfl, ?q0⟩) HS.out ?_
    case q0 => intro w hSw; have s0 := (hSw.cell (p := ⟨wz.heap.size, 0, none⟩) HLT.out).trans HC0.out; have s1 := (hSw.cell (p := ⟨wz.heap.size, 1, none⟩) HLT.out).trans HC1.out; have s2 := (hSw.cell (p := ⟨wz.heap.size, 2, none⟩) HLT.out).trans HC2.out; have s3 := (hSw.cell (p := ⟨wz.heap.size, 3, none⟩) HLT.out).trans HC3.out; go_simp
    simp only [Act.put, List.getElem_toArray, List.getElem_cons_zero, List.getElem_cons_succ, List.setIfInBounds_toArray, List.set_cons_zero, List.set_cons_succ]
    refine wpAnyH_take (i := 1) (v := .int .i64 k) rfl (by kernel_rfl) (by kernel_rfl) (by kernel_rfl) (fun _ _ _ h => h) (Or.inl ⟨by rfl, ?q1⟩) HS.out ?_
    case q1 => intro w hSw; have s0 := (hSw.cell (p := ⟨wz.heap.size, 0, none⟩) HLT.out).trans HC0.out; have s1 := (hSw.cell (p := ⟨wz.heap.size, 1, none⟩) HLT.out).trans HC1.out; have s2 := (hSw.cell (p := ⟨wz.heap.size, 2, none⟩) HLT.out).trans HC2.out; have s3 := (hSw.cell (p := ⟨wz.heap.size, 3, none⟩) HLT.out).trans HC3.out; go_simp
    simp only [Act.put, List.getElem_toArray, List.getElem_cons_zero, List.getElem_cons_succ, List.setIfInBounds_toArray, List.set_cons_zero, List.set_cons_succ]
    refine wpAnyH_take (i := 4) (v := .pointer (some ⟨wz.heap.size, 1, none⟩)) rfl (by kernel_rfl) (by kernel_rfl) (by kernel_rfl) (fun _ _ _ h => h) (Or.inl ⟨by rfl, ?q4⟩) HS.out ?_
    case q4 => intro w hSw; have s0 := (hSw.cell (p := ⟨wz.heap.size, 0, none⟩) HLT.out).trans HC0.out; have s1 := (hSw.cell (p := ⟨wz.heap.size, 1, none⟩) HLT.out).trans HC1.out; have s2 := (hSw.cell (p := ⟨wz.heap.size, 2, none⟩) HLT.out).trans HC2.out; have s3 := (hSw.cell (p := ⟨wz.heap.size, 3, none⟩) HLT.out).trans HC3.out; go_simp
    simp only [Act.put, List.getElem_toArray, List.getElem_cons_zero, List.getElem_cons_succ, List.setIfInBounds_toArray, List.set_cons_zero, List.set_cons_succ]
    refine wpAnyH_take (i := 5) (v := .int .i64 n) rfl (by kernel_rfl) (by kernel_rfl) (by kernel_rfl) (fun _ _ _ h => h) (Or.inl ⟨by rfl, ?q5⟩) HS.out ?_
    case q5 => intro w hSw; have s0 := (hSw.cell (p := ⟨wz.heap.size, 0, none⟩) HLT.out).trans HC0.out; have s1 := (hSw.cell (p := ⟨wz.heap.size, 1, none⟩) HLT.out).trans HC1.out; have s2 := (hSw.cell (p := ⟨wz.heap.size, 2, none⟩) HLT.out).trans HC2.out; have s3 := (hSw.cell (p := ⟨wz.heap.size, 3, none⟩) HLT.out).trans HC3.out; go_simp
    simp only [Act.put, List.getElem_toArray, List.getElem_cons_zero, List.getElem_cons_succ, List.setIfInBounds_toArray, List.set_cons_zero, List.set_cons_succ]
    refine wpAnyH_take (i := 8) (v := .pointer (some ⟨wz.heap.size, 2, none⟩)) rfl (by kernel_rfl) (by kernel_rfl) (by kernel_rfl) (fun _ _ _ h => h) (Or.inl ⟨by rfl, ?q8⟩) HS.out ?_
    case q8 => intro w hSw; have s0 := (hSw.cell (p := ⟨wz.heap.size, 0, none⟩) HLT.out).trans HC0.out; have s1 := (hSw.cell (p := ⟨wz.heap.size, 1, none⟩) HLT.out).trans HC1.out; have s2 := (hSw.cell (p := ⟨wz.heap.size, 2, none⟩) HLT.out).trans HC2.out; have s3 := (hSw.cell (p := ⟨wz.heap.size, 3, none⟩) HLT.out).trans HC3.out; go_simp
    simp only [Act.put, List.getElem_toArray, List.getElem_cons_zero, List.getElem_cons_succ, List.setIfInBounds_toArray, List.set_cons_zero, List.set_cons_succ]
    refine wpAnyH_take (i := 9) (v := .int .i64 g) rfl (by kernel_rfl) (by kernel_rfl) (by kernel_rfl) (fun _ _ _ h => h) (Or.inl ⟨by rfl, ?q9⟩) HS.out ?_
    case q9 => intro w hSw; have s0 := (hSw.cell (p := ⟨wz.heap.size, 0, none⟩) HLT.out).trans HC0.out; have s1 := (hSw.cell (p := ⟨wz.heap.size, 1, none⟩) HLT.out).trans HC1.out; have s2 := (hSw.cell (p := ⟨wz.heap.size, 2, none⟩) HLT.out).trans HC2.out; have s3 := (hSw.cell (p := ⟨wz.heap.size, 3, none⟩) HLT.out).trans HC3.out; go_simp
    simp only [Act.put, List.getElem_toArray, List.getElem_cons_zero, List.getElem_cons_succ, List.setIfInBounds_toArray, List.set_cons_zero, List.set_cons_succ]
    refine wpAnyH_take (i := 18) (v := .pointer (some ⟨wz.heap.size, 3, none⟩)) rfl (by kernel_rfl) (by kernel_rfl) (by kernel_rfl) (fun _ _ _ h => h) (Or.inl ⟨by rfl, ?q18⟩) HS.out ?_
    case q18 => intro w hSw; have s0 := (hSw.cell (p := ⟨wz.heap.size, 0, none⟩) HLT.out).trans HC0.out; have s1 := (hSw.cell (p := ⟨wz.heap.size, 1, none⟩) HLT.out).trans HC1.out; have s2 := (hSw.cell (p := ⟨wz.heap.size, 2, none⟩) HLT.out).trans HC2.out; have s3 := (hSw.cell (p := ⟨wz.heap.size, 3, none⟩) HLT.out).trans HC3.out; go_simp
    simp only [Act.put, List.getElem_toArray, List.getElem_cons_zero, List.getElem_cons_succ, List.setIfInBounds_toArray, List.set_cons_zero, List.set_cons_succ]
    refine wpAnyH_take (i := 19) (v := .int .i64 z) rfl (by kernel_rfl) (by kernel_rfl) (by kernel_rfl) (fun _ _ _ h => h) (Or.inl ⟨by rfl, ?q19⟩) HS.out ?_
    case q19 => intro w hSw; have s0 := (hSw.cell (p := ⟨wz.heap.size, 0, none⟩) HLT.out).trans HC0.out; have s1 := (hSw.cell (p := ⟨wz.heap.size, 1, none⟩) HLT.out).trans HC1.out; have s2 := (hSw.cell (p := ⟨wz.heap.size, 2, none⟩) HLT.out).trans HC2.out; have s3 := (hSw.cell (p := ⟨wz.heap.size, 3, none⟩) HLT.out).trans HC3.out; go_simp
    simp only [Act.put, List.getElem_toArray, List.getElem_cons_zero, List.getElem_cons_succ, List.setIfInBounds_toArray, List.set_cons_zero, List.set_cons_succ]
    refine wpAnyH_take (i := 12) (v := .pointer (some ⟨wz.heap.size, 36, none⟩)) rfl (by kernel_rfl) (by kernel_rfl) (by kernel_rfl) (fun _ _ _ h => h) (Or.inl ⟨by rfl, ?q12⟩) HS.out ?_
    case q12 => intro w hSw; have s0 := (hSw.cell (p := ⟨wz.heap.size, 0, none⟩) HLT.out).trans HC0.out; have s1 := (hSw.cell (p := ⟨wz.heap.size, 1, none⟩) HLT.out).trans HC1.out; have s2 := (hSw.cell (p := ⟨wz.heap.size, 2, none⟩) HLT.out).trans HC2.out; have s3 := (hSw.cell (p := ⟨wz.heap.size, 3, none⟩) HLT.out).trans HC3.out; go_simp
    simp only [Act.put, List.getElem_toArray, List.getElem_cons_zero, List.getElem_cons_succ, List.setIfInBounds_toArray, List.set_cons_zero, List.set_cons_succ]
    refine wpAnyH_take (i := 13) (v := .slice (some ⟨wz.heap.size, 36, none⟩) 32 32) rfl (by kernel_rfl) (by kernel_rfl) (by kernel_rfl) (fun _ _ _ h => h) (Or.inl ⟨by rfl, ?q13⟩) HS.out ?_
    case q13 => intro w hSw; have s0 := (hSw.cell (p := ⟨wz.heap.size, 0, none⟩) HLT.out).trans HC0.out; have s1 := (hSw.cell (p := ⟨wz.heap.size, 1, none⟩) HLT.out).trans HC1.out; have s2 := (hSw.cell (p := ⟨wz.heap.size, 2, none⟩) HLT.out).trans HC2.out; have s3 := (hSw.cell (p := ⟨wz.heap.size, 3, none⟩) HLT.out).trans HC3.out; go_simp
    simp only [Act.put, List.getElem_toArray, List.getElem_cons_zero, List.getElem_cons_succ, List.setIfInBounds_toArray, List.set_cons_zero, List.set_cons_succ]
    refine wpAnyH_take (i := 14) (v := .agg #[.string nmSegs, .slice (some ⟨wz.heap.size, 36, none⟩) 32 32]) rfl (by kernel_rfl) (by kernel_rfl) (by kernel_rfl) (fun _ _ _ h => h) (Or.inl ⟨by rfl, ?q14⟩) HS.out ?_
    case q14 => intro w hSw; have s0 := (hSw.cell (p := ⟨wz.heap.size, 0, none⟩) HLT.out).trans HC0.out; have s1 := (hSw.cell (p := ⟨wz.heap.size, 1, none⟩) HLT.out).trans HC1.out; have s2 := (hSw.cell (p := ⟨wz.heap.size, 2, none⟩) HLT.out).trans HC2.out; have s3 := (hSw.cell (p := ⟨wz.heap.size, 3, none⟩) HLT.out).trans HC3.out; go_simp; rfl
    simp only [Act.put, List.getElem_toArray, List.getElem_cons_zero, List.getElem_cons_succ, List.setIfInBounds_toArray, List.set_cons_zero, List.set_cons_succ]
    refine wpAnyH_take (i := 15) (v := .pointer (some ⟨wz.heap.size, 4, none⟩)) rfl (by kernel_rfl) (by kernel_rfl) (by kernel_rfl) (fun _ _ _ h => h) (Or.inl ⟨by rfl, ?q15⟩) HS.out ?_
    case q15 => intro w hSw; have s0 := (hSw.cell (p := ⟨wz.heap.size, 0, none⟩) HLT.out).trans HC0.out; have s1 := (hSw.cell (p := ⟨wz.heap.size, 1, none⟩) HLT.out).trans HC1.out; have s2 := (hSw.cell (p := ⟨wz.heap.size, 2, none⟩) HLT.out).trans HC2.out; have s3 := (hSw.cell (p := ⟨wz.heap.size, 3, none⟩) HLT.out).trans HC3.out; go_simp
    simp only [Act.put, List.getElem_toArray, List.getElem_cons_zero, List.getElem_cons_succ, List.setIfInBounds_toArray, List.set_cons_zero, List.set_cons_succ]
    refine wpAnyH_take (i := 16) (v := .slice (some ⟨wz.heap.size, 4, none⟩) 32 32) rfl (by kernel_rfl) (by kernel_rfl) (by kernel_rfl) (fun _ _ _ h => h) (Or.inl ⟨by rfl, ?q16⟩) HS.out ?_
    case q16 => intro w hSw; have s0 := (hSw.cell (p := ⟨wz.heap.size, 0, none⟩) HLT.out).trans HC0.out; have s1 := (hSw.cell (p := ⟨wz.heap.size, 1, none⟩) HLT.out).trans HC1.out; have s2 := (hSw.cell (p := ⟨wz.heap.size, 2, none⟩) HLT.out).trans HC2.out; have s3 := (hSw.cell (p := ⟨wz.heap.size, 3, none⟩) HLT.out).trans HC3.out; go_simp
    simp only [Act.put, List.getElem_toArray, List.getElem_cons_zero, List.getElem_cons_succ, List.setIfInBounds_toArray, List.set_cons_zero, List.set_cons_succ]
    refine wpAnyH_take (i := 17) (v := .agg #[.string nmShares, .slice (some ⟨wz.heap.size, 4, none⟩) 32 32]) rfl (by kernel_rfl) (by kernel_rfl) (by kernel_rfl) (fun _ _ _ h => h) (Or.inl ⟨by rfl, ?q17⟩) HS.out ?_
    case q17 => intro w hSw; have s0 := (hSw.cell (p := ⟨wz.heap.size, 0, none⟩) HLT.out).trans HC0.out; have s1 := (hSw.cell (p := ⟨wz.heap.size, 1, none⟩) HLT.out).trans HC1.out; have s2 := (hSw.cell (p := ⟨wz.heap.size, 2, none⟩) HLT.out).trans HC2.out; have s3 := (hSw.cell (p := ⟨wz.heap.size, 3, none⟩) HLT.out).trans HC3.out; go_simp; rfl
    simp only [Act.put, List.getElem_toArray, List.getElem_cons_zero, List.getElem_cons_succ, List.setIfInBounds_toArray, List.set_cons_zero, List.set_cons_succ]
    refine wpAnyH_ready (rs := [2]) (by kernel_rfl) (by simp) ?_
    refine AllReadyH.cons rfl (fun K hK => ?_) AllReadyH.nil
    go_simp
    refine (udigits_any _ k k0 k1 (HKP.out.below (B1.out.trans (HS.out.mono B1.out.size)))).mono ?_
    rintro e v2 ⟨x2, rfl, hx2, hb2⟩
    obtain ⟨p2, c2, rfl, hlc2, hcm2⟩ := hx2.open
    have HX2 := hid hx2
    have HS := hid (HS.out.trans (hb2.mono HS.out.size))
    clear hx2 hb2
    refine hK.out _ _ HS.out (fun _ => ?_)
    clear hK K
    refine wpAnyH_take (i := 3) (v := .agg #[.string nmK, .slice p2 (dgL k.toNat).length c2]) rfl (by kernel_rfl) (by kernel_rfl) (by kernel_rfl) (fun _ _ _ h => h) (Or.inl ⟨by rfl, ?q3⟩) HS.out ?_
    case q3 => intro w hSw; have s0 := (hSw.cell (p := ⟨wz.heap.size, 0, none⟩) HLT.out).trans HC0.out; have s1 := (hSw.cell (p := ⟨wz.heap.size, 1, none⟩) HLT.out).trans HC1.out; have s2 := (hSw.cell (p := ⟨wz.heap.size, 2, none⟩) HLT.out).trans HC2.out; have s3 := (hSw.cell (p := ⟨wz.heap.size, 3, none⟩) HLT.out).trans HC3.out; go_simp; rfl
    simp only [Act.put, List.getElem_toArray, List.getElem_cons_zero, List.getElem_cons_succ, List.setIfInBounds_toArray, List.set_cons_zero, List.set_cons_succ]
    refine wpAnyH_ready (rs := [6]) (by kernel_rfl) (by simp) ?_
    refine AllReadyH.cons rfl (fun K hK => ?_) AllReadyH.nil
    go_simp
    refine (udigits_any _ n n0 n1 (HKP.out.below (B1.out.trans (HS.out.mono B1.out.size)))).mono ?_
    rintro e v3 ⟨x3, rfl, hx3, hb3⟩
    obtain ⟨p3, c3, rfl, hlc3, hcm3⟩ := hx3.open
    have HX3 := hid hx3
    have HX2 := hid (HX2.out.below hb3)
    have HS := hid (HS.out.trans (hb3.mono HS.out.size))
    clear hx3 hb3
    refine hK.out _ _ HS.out (fun _ => ?_)
    clear hK K
    refine wpAnyH_take (i := 7) (v := .agg #[.string nmN, .slice p3 (dgL n.toNat).length c3]) rfl (by kernel_rfl) (by kernel_rfl) (by kernel_rfl) (fun _ _ _ h => h) (Or.inl ⟨by rfl, ?q7⟩) HS.out ?_
    case q7 => intro w hSw; have s0 := (hSw.cell (p := ⟨wz.heap.size, 0, none⟩) HLT.out).trans HC0.out; have s1 := (hSw.cell (p := ⟨wz.heap.size, 1, none⟩) HLT.out).trans HC1.out; have s2 := (hSw.cell (p := ⟨wz.heap.size, 2, none⟩) HLT.out).trans HC2.out; have s3 := (hSw.cell (p := ⟨wz.heap.size, 3, none⟩) HLT.out).trans HC3.out; go_simp; rfl
    simp only [Act.put, List.getElem_toArray, List.getElem_cons_zero, List.getElem_cons_succ, List.setIfInBounds_toArray, List.set_cons_zero, List.set_cons_succ]
    refine wpAnyH_ready (rs := [10]) (by kernel_rfl) (by simp) ?_
    refine AllReadyH.cons rfl (fun K hK => ?_) AllReadyH.nil
    go_simp
    refine (udigits_any _ g g0 g1 (HKP.out.below (B1.out.trans (HS.out.mono B1.out.size)))).mono ?_
    rintro e v4 ⟨x4, rfl, hx4, hb4⟩
    obtain ⟨p4, c4, rfl, hlc4, hcm4⟩ := hx4.open
    have HX4 := hid hx4
    have HX2 := hid (HX2.out.below hb4)
    have HX3 := hid (HX3.out.below hb4)
    have HS := hid (HS.out.trans (hb4.mono HS.out.size))
    clear hx4 hb4
    refine hK.out _ _ HS.out (fun _ => ?_)
    clear hK K
    refine wpAnyH_take (i := 11) (v := .agg #[.string nmSeg, .slice p4 (dgL g.toNat).length c4]) rfl (by kernel_rfl) (by kernel_rfl) (by kernel_rfl) (fun _ _ _ h => h) (Or.inl ⟨by rfl, ?q11⟩) HS.out ?_
    case q11 => intro w hSw; have s0 := (hSw.cell (p := ⟨wz.heap.size, 0, none⟩) HLT.out).trans HC0.out; have s1 := (hSw.cell (p := ⟨wz.heap.size, 1, none⟩) HLT.out).trans HC1.out; have s2 := (hSw.cell (p := ⟨wz.heap.size, 2, none⟩) HLT.out).trans HC2.out; have s3 := (hSw.cell (p := ⟨wz.heap.size, 3, none⟩) HLT.out).trans HC3.out; go_simp; rfl
    simp only [Act.put, List.getElem_toArray, List.getElem_cons_zero, List.getElem_cons_succ, List.setIfInBounds_toArray, List.set_cons_zero, List.set_cons_succ]
    refine wpAnyH_ready (rs := [20]) (by kernel_rfl) (by simp) ?_
    refine AllReadyH.cons rfl (fun K hK => ?_) AllReadyH.nil
    go_simp
    refine (udigits_any _ z z0 z1 (HKP.out.below (B1.out.trans (HS.out.mono B1.out.size)))).mono ?_
    rintro e v5 ⟨x5, rfl, hx5, hb5⟩
    obtain ⟨p5, c5, rfl, hlc5, hcm5⟩ := hx5.open
    have HX5 := hid hx5
    have HX2 := hid (HX2.out.below hb5)
    have HX3 := hid (HX3.out.below hb5)
    have HX4 := hid (HX4.out.below hb5)
    have HS := hid (HS.out.trans (hb5.mono HS.out.size))
    clear hx5 hb5
    refine hK.out _ _ HS.out (fun _ => ?_)
    clear hK K
    refine wpAnyH_take (i := 21) (v := .agg #[.string nmSize, .slice p5 (dgL z.toNat).length c5]) rfl (by kernel_rfl) (by kernel_rfl) (by kernel_rfl) (fun _ _ _ h => h) (Or.inl ⟨by rfl, ?q21⟩) HS.out ?_
    case q21 => intro w hSw; have s0 := (hSw.cell (p := ⟨wz.heap.size, 0, none⟩) HLT.out).trans HC0.out; have s1 := (hSw.cell (p := ⟨wz.heap.size, 1, none⟩) HLT.out).trans HC1.out; have s2 := (hSw.cell (p := ⟨wz.heap.size, 2, none⟩) HLT.out).trans HC2.out; have s3 := (hSw.cell (p := ⟨wz.heap.size, 3, none⟩) HLT.out).trans HC3.out; go_simp; rfl
    simp only [Act.put, List.getElem_toArray, List.getElem_cons_zero, List.getElem_cons_succ, List.setIfInBounds_toArray, List.set_cons_zero, List.set_cons_succ]
    refine wpAnyH_ready (rs := [22]) (by kernel_rfl) (by simp) ?_
    refine AllReadyH.cons rfl (fun K hK => ?_) AllReadyH.nil
    go_simp
    obtain ⟨v6, HV6⟩ : ∃ x, Hid (v5.alloc (.cells #[.string nmK, .slice p2 (dgL k.toNat).length c2, .string nmN, .slice p3 (dgL n.toNat).length c3, .string nmSeg, .slice p4 (dgL g.toNat).length c4, .string nmSegs, .slice (some ⟨wz.heap.size, 36, none⟩) 32 32, .string nmShares, .slice (some ⟨wz.heap.size, 4, none⟩) 32 32, .string nmSize, .slice p5 (dgL z.toNat).length c5] 49) = x) := ⟨_, rfl⟩
    rw [HV6.out]
    have hb6 : Below v5.heap.size v5 v6 := by rw [← HV6.out]; exact (Below.refl _ v5).alloc (Nat.le_refl _) _
    have hk6 : v6.heap[v5.heap.size]? = some (.cells #[.string nmK, .slice p2 (dgL k.toNat).length c2, .string nmN, .slice p3 (dgL n.toNat).length c3, .string nmSeg, .slice p4 (dgL g.toNat).length c4, .string nmSegs, .slice (some ⟨wz.heap.size, 36, none⟩) 32 32, .string nmShares, .slice (some ⟨wz.heap.size, 4, none⟩) 32 32, .string nmSize, .slice p5 (dgL z.toNat).length c5] 49 (0, 0)) := by rw [← HV6.out]; exact heap_alloc_new v5 _
    have hR6 : HRw v6 (.slice (some ⟨v5.heap.size, 0, none⟩) 6 6) [(nmK, dgL k.toNat), (nmN, dgL n.toNat), (nmSeg, dgL g.toNat), (nmSegs, u.b), (nmShares, u.a), (nmSize, dgL z.toNat)] := by
      refine HRw.of_own (base := 0) (e := 49) (vs := [.slice p2 (dgL k.toNat).length c2, .slice p3 (dgL n.toNat).length c3, .slice p4 (dgL g.toNat).length c4, .slice (some ⟨wz.heap.size, 36, none⟩) 32 32, .slice (some ⟨wz.heap.size, 4, none⟩) 32 32, .slice p5 (dgL z.toNat).length c5]) ⟨rfl, .inr ⟨v5.heap.size, 6, _, rfl, Nat.zero_le _, hk6, Nat.le_refl _, by unfold maxLen; omega, rfl, rfl⟩⟩ rfl ?_
      have hw6 := HS.out.trans (hb6.mono HS.out.size)
      intro i hi
      match i, hi with
      | 0, _ => exact HX2.out.below hb6
      | 1, _ => exact HX3.out.below hb6
      | 2, _ => exact HX4.out.below hb6
      | 3, _ => exact HVb.out.below hw6
      | 4, _ => exact HVa.out.below hw6
      | 5, _ => exact HX5.out.below hb6
      | i + 6, h => simp at h; omega
    rw [← HUR.out] at hR6
    have HR6 := hid hR6
    have HS := hid (HS.out.trans (hb6.mono HS.out.size))
    clear hR6 hb6 hk6
    refine hK.out _ _ HS.out (fun _ => ?_)
    clear hK K
    refine wpAnyH_ready (rs := [23]) (by kernel_rfl) (by simp) ?_
    refine AllReadyH.cons rfl (fun K hK => ?_) AllReadyH.nil
    go_simp
    have CP := pack_any v6 _ (ubRows u) HR6.out (HKP.out.below (B1.out.trans (HS.out.mono B1.out.size)))
    have eE : pkE (ubRows u) = 0 := by unfold pkE; rw [if_pos HMAY.out]
    have eL : pkL (ubRows u) = packL (ubRows u) := by unfold pkL; rw [if_pos HMAY.out]
    rw [eE, eL] at CP
    refine CP.mono ?_
    rintro e v7 ⟨x7, rfl, hx7, hb7⟩
    have HO7 : Hid (v7.ownsRow wz.heap.size 5 1 x7 (packL (ubRows u)).length ((packL (ubRows u)).map (Value.int .u8))) := own_mono hx7 (by have h1 := HS.out.size; have h2 := HLT.out; omega)
    have HS := hid (HS.out.trans (hb7.mono HS.out.size))
    clear hx7 hb7 CP
    refine hK.out _ _ HS.out (fun _ => ?_)
    clear hK K
    refine wpAnyH_take (i := 24) (v := ?_) rfl (by kernel_rfl) (by kernel_rfl) (by kernel_rfl) (fun _ _ _ h => h) (Or.inl ⟨by rfl, ?q24⟩) HS.out ?_
    case q24 => intro w hSw; have s0 := (hSw.cell (p := ⟨wz.heap.size, 0, none⟩) HLT.out).trans HC0.out; have s1 := (hSw.cell (p := ⟨wz.heap.size, 1, none⟩) HLT.out).trans HC1.out; have s2 := (hSw.cell (p := ⟨wz.heap.size, 2, none⟩) HLT.out).trans HC2.out; have s3 := (hSw.cell (p := ⟨wz.heap.size, 3, none⟩) HLT.out).trans HC3.out; go_simp; rfl
    simp only [Act.put, List.getElem_toArray, List.getElem_cons_zero, List.getElem_cons_succ, List.setIfInBounds_toArray, List.set_cons_zero, List.set_cons_succ]
    refine wpAnyH_take (i := 25) (v := ?_) rfl (by kernel_rfl) (by kernel_rfl) (by kernel_rfl) (fun _ _ _ h => h) (Or.inl ⟨by rfl, ?q25⟩) HS.out ?_
    case q25 => intro w hSw; have s0 := (hSw.cell (p := ⟨wz.heap.size, 0, none⟩) HLT.out).trans HC0.out; have s1 := (hSw.cell (p := ⟨wz.heap.size, 1, none⟩) HLT.out).trans HC1.out; have s2 := (hSw.cell (p := ⟨wz.heap.size, 2, none⟩) HLT.out).trans HC2.out; have s3 := (hSw.cell (p := ⟨wz.heap.size, 3, none⟩) HLT.out).trans HC3.out; go_simp; rfl
    simp only [Act.put, List.getElem_toArray, List.getElem_cons_zero, List.getElem_cons_succ, List.setIfInBounds_toArray, List.set_cons_zero, List.set_cons_succ]
    refine wpAnyH_take (i := 26) (v := ?_) rfl (by kernel_rfl) (by kernel_rfl) (by kernel_rfl) (fun _ _ _ h => h) (Or.inl ⟨by rfl, ?q26⟩) HS.out ?_
    case q26 => intro w hSw; have s0 := (hSw.cell (p := ⟨wz.heap.size, 0, none⟩) HLT.out).trans HC0.out; have s1 := (hSw.cell (p := ⟨wz.heap.size, 1, none⟩) HLT.out).trans HC1.out; have s2 := (hSw.cell (p := ⟨wz.heap.size, 2, none⟩) HLT.out).trans HC2.out; have s3 := (hSw.cell (p := ⟨wz.heap.size, 3, none⟩) HLT.out).trans HC3.out; go_simp; rfl
    simp only [Act.put, List.getElem_toArray, List.getElem_cons_zero, List.getElem_cons_succ, List.setIfInBounds_toArray, List.set_cons_zero, List.set_cons_succ]
    refine wpAnyH_take (i := 27) (v := ?_) rfl (by kernel_rfl) (by kernel_rfl) (by kernel_rfl) (fun _ _ _ h => h) (Or.inl ⟨by rfl, ?q27⟩) HS.out ?_
    case q27 => intro w hSw; have s0 := (hSw.cell (p := ⟨wz.heap.size, 0, none⟩) HLT.out).trans HC0.out; have s1 := (hSw.cell (p := ⟨wz.heap.size, 1, none⟩) HLT.out).trans HC1.out; have s2 := (hSw.cell (p := ⟨wz.heap.size, 2, none⟩) HLT.out).trans HC2.out; have s3 := (hSw.cell (p := ⟨wz.heap.size, 3, none⟩) HLT.out).trans HC3.out; go_simp; rfl
    simp only [Act.put, List.getElem_toArray, List.getElem_cons_zero, List.getElem_cons_succ, List.setIfInBounds_toArray, List.set_cons_zero, List.set_cons_succ]
    refine wpAnyH_done (by kernel_rfl) ?_ _
    have BF := hid (B1.out.trans (HS.out.mono B1.out.size))
    go_wp2
    go_ret2
    exact ⟨_, rfl, HO7.out, BF.out⟩
  · have e1 : wrL u = [] := by unfold wrL; rw [if_neg hok]
    have e2 : chE u = 133 := (ch_or u).resolve_left hok
    rw [e2] at C
    rw [e1, e2]
    obtain ⟨m, HM⟩ : ∃ x, Hid (ubA u = x) := ⟨_, rfl⟩
    rw [HM.out] at HS C ⊢
    clear hok hu hkp q0 q1 q2 q3
    go_enter Tryd.func7, Tryd.ntmps7
    go_wp2_with (first | (refine wpList_load_row rfl 25 _ rfl wz.heap.size rfl 25 m (0, 0) _ (heap_alloc_new wz _) Tryd.underlying25 rfl HS.out ?_) | fail)
    refine (C.out _).mono ?_
    rintro e w1 ⟨rfl, hb1⟩
    have B1 := hid (((Below.refl wz.heap.size wz).alloc (Nat.le_refl _) (.cells m 25)).trans (hb1.mono (by simp)))
    clear hb1 C
    go_wp2
    go_ret2
    exact ⟨_, rfl, World.ownsRow_nil _ _ _ _, B1.out⟩
end Go.Proofs.YtklklldmhoofnaaDoor
namespace Go.Proofs.YtklklldmhoofnaaDoor
open Go Go.RowKit Go.MapKept
abbrev Km := ByteArray → Option Value
def kset (K : Km) (s : ByteArray) (v : Value) : Km := fun x => if x = s then some v else K x
structure Em (l : List MapEntry) (K : Km) : Prop where
  keys : ∀ e ∈ l, ∃ s, e.key = .string s ∧ K s = some e.val
  all : ∀ s v, K s = some v → ∃ e ∈ l, e.key = .string s
theorem Em.isKey {l : List MapEntry} {K : Km} (h : Em l K) : ∀ e ∈ l, IsKey .string e.key := fun e he => by
  obtain ⟨s, hk, _⟩ := h.keys e he
  rw [hk]
  exact trivial
def HMm (w : World) (b : Nat) (K : Km) (n : Nat) : Prop := ∃ es clock, w.heap[b]? = some (.map es clock) ∧ Em es.toList K ∧ es.size = n
theorem HMm.lt {w : World} {b n : Nat} {K : Km} (h : HMm w b K n) : b < w.heap.size := by
  obtain ⟨es, c, h1, _⟩ := h
  exact (Array.getElem?_eq_some_iff.1 h1).1
theorem HMm.of {w w' : World} {b n : Nat} {K : Km} (h : HMm w b K n) (hb : w'.heap[b]? = w.heap[b]?) : HMm w' b K n := by
  obtain ⟨es, c, h1, h2⟩ := h
  exact ⟨es, c, hb.trans h1, h2⟩
theorem HMm.below {w w' : World} {b n : Nat} {K : Km} (h : HMm w b K n) (hB : Below w.heap.size w w') : HMm w' b K n := h.of (hB.block b h.lt)
theorem Em.find {l : List MapEntry} {K : Km} (h : Em l K) (s : ByteArray) :
    (K s = none ∧ Instr.findNow .string (.string s) l 0 = some none) ∨ ∃ v j, K s = some v ∧ Instr.findNow .string (.string s) l 0 = some (some (j, v)) := by
  rcases findNow_spec (d := .string) (k := .string s) trivial l 0 h.isKey with ⟨h1, h2⟩ | ⟨j, e, h1, h2, h3⟩
  · left
    refine ⟨?_, h1⟩
    cases hk : K s with
    | none => rfl
    | some v =>
      obtain ⟨e, he, hke⟩ := h.all s v hk
      exact absurd hke (h2 e he)
  · right
    obtain ⟨t, q1, q2⟩ := h.keys e (List.mem_of_getElem? h2)
    rw [h3] at q1
    injection q1 with q1
    subst q1
    exact ⟨e.val, 0 + j, q2, h1⟩
theorem run_lookm {w : World} {b n : Nat} {K : Km} (h : HMm w b K n) (s : ByteArray) : (Instr.lookup 77 (.map (some b)) (.string s) true).run Tryd.prog w = .ok (.tuple #[(K s).getD .nilFunc, .bool (K s).isSome]) w := by
  obtain ⟨es, c, hb, hE, _⟩ := h
  have hc : (Instr.checkKey es.isEmpty 10000 9 (.string s)).run Tryd.prog w = .ok () w := MapKept.run_checkKey (k := .string s) Tryd.underlying9 trivial _ 9999
  have hz : (zeroValue 42).run Tryd.prog w = .ok .nilFunc w := by
    cases hi : Tryd.prog.info? 42 with
    | none => have : (Tryd.prog.info? 42).isSome = true := by kernel_rfl
              rw [hi] at this; cases this
    | some i0 =>
      have : (Tryd.prog.info? 42).map (·.zero) = some (some .nilFunc) := by kernel_rfl
      rw [hi] at this
      simp at this
      simp [zeroValue, typeInfo, hi, this]
  rcases hE.find s with ⟨h1, h3⟩ | ⟨v, j, h1, h3⟩
  · rw [h1]
    simp [Instr.lookup, run_underlying Tryd.underlying77, MapKept.run_getObj_map hb, hc, MapKept.run_findKey Tryd.underlying9 h3, Result.andThen, hz]
  · rw [h1]
    simp [Instr.lookup, run_underlying Tryd.underlying77, MapKept.run_getObj_map hb, hc, MapKept.run_findKey Tryd.underlying9 h3, Result.andThen]
theorem Em.push {l : List MapEntry} {K : Km} (h : Em l K) {s : ByteArray} {v : Value} (hn : K s = none) (c : Nat) : Em (l ++ [⟨.string s, v, c⟩]) (kset K s v) := by
  refine ⟨fun e he => ?_, fun x y hx => ?_⟩
  · rcases List.mem_append.1 he with he | he
    · obtain ⟨t, q1, q2⟩ := h.keys e he
      have hne : t ≠ s := fun q => by rw [q, hn] at q2; cases q2
      exact ⟨t, q1, by simp [kset, hne, q2]⟩
    · rw [List.mem_singleton] at he
      subst he
      exact ⟨s, rfl, by simp [kset]⟩
  · by_cases e : x = s
    · subst e
      exact ⟨_, List.mem_append.2 (Or.inr (List.mem_singleton.2 rfl)), rfl⟩
    · simp only [kset, if_neg e] at hx
      obtain ⟨z, hz, hzk⟩ := h.all x y hx
      exact ⟨z, List.mem_append.2 (Or.inl hz), hzk⟩
theorem run_insm {w : World} {b n : Nat} {K : Km} (h : HMm w b K n) {s : ByteArray} {v : Value} (hn : K s = none) : ∃ w', (Instr.mapUpdate 77 (.map (some b)) (.string s) v).run Tryd.prog w = .ok () w' ∧ HMm w' b (kset K s v) (n + 1) ∧ w.grownBy w' (some b) ∧ w'.heap.size = w.heap.size := by
  obtain ⟨es, c, hb, hE, hsz⟩ := h
  have hc : (Instr.checkKey false 10000 9 (.string s)).run Tryd.prog w = .ok () w := MapKept.run_checkKey (k := .string s) Tryd.underlying9 trivial _ 9999
  rcases hE.find s with ⟨h1, h3⟩ | ⟨v, j, h1, h3⟩
  · refine ⟨{ w with heap := w.heap.setIfInBounds b (.map (es.push ⟨.string s, v, c⟩) (c + 1)) }, ?_, ⟨_, _, (heap_set hb).1, ?_, ?_⟩, ⟨rfl, rfl, rfl, by simp, fun k hk hne => (heap_set (w := w) hb).2 k (fun e => hne (by rw [e]))⟩, by simp⟩
    · simp [Instr.mapUpdate, run_underlying Tryd.underlying77, MapKept.run_getObj_map hb, hc, MapKept.run_findKey Tryd.underlying9 h3, MapKept.run_setObj_map _ hb, Result.andThen]
    · rw [Array.toList_push]
      exact hE.push hn c
    · simp [hsz]
  · rw [hn] at h1
    cases h1
end Go.Proofs.YtklklldmhoofnaaDoor
namespace Go.Proofs.YtklklldmhoofnaaDoor
open Go Go.RowKit
def undone (L : Array Bool) : Nat := (L.toList.filter fun b => !b).length
theorem undone_set {L : Array Bool} {i : Nat} (h : L[i]? = some false) : undone L = undone (L.setIfInBounds i true) + 1 := by
  obtain ⟨l⟩ := L
  unfold undone
  simp only [List.getElem?_toArray, List.setIfInBounds_toArray] at h ⊢
  induction l generalizing i with
  | nil => simp at h
  | cons x l ih =>
    cases i with
    | zero =>
      simp at h
      subst h
      simp
    | succ i =>
      have := ih (by simpa using h)
      rw [List.set_cons_succ, List.filter_cons, List.filter_cons]
      split <;> simp [this]
theorem undone_ex {L : Array Bool} (h : undone L ≠ 0) : ∃ i : Nat, L[i]? = some false ∧ ∀ j : Nat, j < i → L[j]? = some true := by
  obtain ⟨l⟩ := L
  unfold undone at h
  simp only [List.getElem?_toArray] at h ⊢
  induction l with
  | nil => exact absurd rfl h
  | cons x l ih =>
    cases x with
    | false => exact ⟨0, rfl, fun j hj => absurd hj (Nat.not_lt_zero _)⟩
    | true =>
      obtain ⟨i, h1, h2⟩ := ih (by simpa using h)
      refine ⟨i + 1, by simpa using h1, fun j hj => ?_⟩
      cases j with
      | zero => rfl
      | succ j => simpa using h2 j (by omega)
theorem undone_none {L : Array Bool} (h : undone L = 0) (i : Nat) (hi : i < L.size) : L[i]? = some true := by
  obtain ⟨l⟩ := L
  unfold undone at h
  simp only [List.getElem?_toArray, List.size_toArray] at h hi ⊢
  have hn := List.filter_eq_nil_iff.1 (List.length_eq_zero_iff.1 h)
  have := hn l[i] (List.getElem_mem hi)
  rw [List.getElem?_eq_getElem hi]
  cases hx : l[i] with
  | true => rfl
  | false => rw [hx] at this; simp at this
theorem wpAny_inv {P : Program} {ops : Array Oper} {Q : Exit → Act → World → Prop} (hg : ∀ (i : Nat) (o : Oper), ops[i]? = some o → o.guard = none ∧ ∀ e ∈ o.after, e.on < i)
    (I : Array Bool → Act → World → Prop)
    (hstep : ∀ (L : Array Bool) (i : Nat) (o : Oper) (a : Act) (w : World) (K : Act → World → Prop), ops[i]? = some o → L.size = ops.size → L[i]? = some false → (∀ e ∈ o.after, Region.binds .any e = true → L[e.on]? = some true) → I L a w → (∀ a' w', I (L.setIfInBounds i true) a' w' → K a' w') → o.wp P a w K Q)
    (hend : ∀ (L : Array Bool) (a : Act) (w : World), L.size = ops.size → (∀ i, i < ops.size → L[i]? = some true) → I L a w → Q .normal a w) :
    ∀ (n : Nat) (L : Array Bool) (a : Act) (w : World), L.size = ops.size → undone L = n → I L a w → wpAny P .any ops Q n L a w := by
  intro n
  induction n with
  | zero =>
    intro L a w hs hu hI
    have hall : ∀ i, i < ops.size → L[i]? = some true := fun i hi => undone_none hu i (by omega)
    refine wpAny_done ?_ (hend L a w hs hall hI) 0
    refine List.eq_nil_iff_forall_not_mem.2 fun i hi => ?_
    obtain ⟨h1, o, h2, _⟩ := mem_ready.1 hi
    have hlt := (Array.getElem?_eq_some_iff.1 h2).1
    have := hall i hlt
    simp [Array.getD_eq_getD_getElem?, this] at h1
  | succ n ih =>
    intro L a w hs hu hI
    obtain ⟨i0, q1, q2⟩ := undone_ex (L := L) (by omega)
    have hne : i0 ∈ Region.ready .any ops L := by
      have hlt := (Array.getElem?_eq_some_iff.1 q1).1
      obtain ⟨o, ho⟩ : ∃ o, ops[i0]? = some o := ⟨_, Array.getElem?_eq_getElem (by omega)⟩
      refine mem_ready.2 ⟨by simp [Array.getD_eq_getD_getElem?, q1], o, ho, fun e he _ => ?_⟩
      have := q2 e.on ((hg i0 o ho).2 e he)
      simp [Array.getD_eq_getD_getElem?, this]
    refine ⟨fun h => by rw [h] at hne; exact absurd hne List.not_mem_nil, fun i hi => ?_⟩
    obtain ⟨h1, o, h2, h3⟩ := mem_ready.1 hi
    have hlt := (Array.getElem?_eq_some_iff.1 h2).1
    have hLi : L[i]? = some false := by
      rw [Array.getElem?_eq_getElem (by omega)]
      have : L.getD i true = L[i]'(by omega) := by simp [Array.getD, show i < L.size by omega]
      rw [this] at h1
      rw [h1]
    refine wpOp_step h2 fun K hK => ?_
    have hw : Region.wanted o (yielded ops a.tmps) = true := by unfold Region.wanted; rw [(hg i o h2).1]
    rw [if_pos hw]
    refine hstep L i o a w K h2 hs hLi (fun e he hb => ?_) hI fun a' w' hI' => hK _ _ (ih _ a' w' (by simpa using hs) (by have := undone_set hLi; omega) hI')
    have := h3 e he hb
    cases hx : L[e.on]? with
    | none => simp [Array.getD_eq_getD_getElem?, hx] at this
    | some x => simp [Array.getD_eq_getD_getElem?, hx] at this; rw [this]
def Lb (L : Array Bool) (i : Nat) : Bool := L.getD i false
theorem Lb_set {L : Array Bool} {i : Nat} (hi : i < L.size) (k : Nat) : Lb (L.setIfInBounds i true) k = if k = i then true else Lb L k := by
  unfold Lb
  rw [Array.getD_eq_getD_getElem?, Array.getD_eq_getD_getElem?, Array.getElem?_setIfInBounds]
  by_cases h : k = i
  · subst h; simp [hi]
  · rw [if_neg (fun e => h e.symm), if_neg h]
theorem Lb_of {L : Array Bool} {i : Nat} {x : Bool} (h : L[i]? = some x) : Lb L i = x := by unfold Lb; rw [Array.getD_eq_getD_getElem?, h]; rfl
def lowB (ops : Array Oper) : Bool := (List.range ops.size).all fun i => match ops[i]? with | some o => o.guard.isNone && o.after.all (fun e => decide (e.on < i)) | none => true
theorem low_of {ops : Array Oper} (h : lowB ops = true) : ∀ (i : Nat) (o : Oper), ops[i]? = some o → o.guard = none ∧ ∀ e ∈ o.after, e.on < i := by
  intro i o ho
  have hi := (Array.getElem?_eq_some_iff.1 ho).1
  have h1 := List.all_eq_true.1 h i (List.mem_range.2 hi)
  rw [ho] at h1
  simp only [Bool.and_eq_true, Option.isNone_iff_eq_none] at h1
  refine ⟨h1.1, fun e he => ?_⟩
  have := Array.all_eq_true'.1 h1.2 e he
  simpa using this
theorem held_true {P : Program} {md : Region.Mode} {ops : Array Oper} {Q : Exit → Act → World → Prop} : ∀ (fuel : Nat) (L : Array Bool) (a : Act) (w : World), wpAny P md ops Q fuel L a w → wpAnyH P md ops Q (fun _ => True) fuel L a w
  | 0, _, _, _, h => h
  | fuel + 1, _, _, _, h => ⟨h.1, fun i hi => wpOp_mono (fun a' w' h' => ⟨trivial, held_true fuel _ a' w' h'⟩) (h.2 i hi)⟩
theorem pure_set {L : Array Bool} {i : Nat} (hi : i < L.size) {l : List Nat} (h : ∀ k ∈ l, Lb L k = true) : ∀ k ∈ l, Lb (L.setIfInBounds i true) k = true := fun k hk => by
  rw [Lb_set hi]
  split
  · rfl
  · exact h k hk
end Go.Proofs.YtklklldmhoofnaaDoor
