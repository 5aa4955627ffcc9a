/- Of the road to shareOneCard_holds: UbWrite, UbAwake. -/
import Derived.Test.YtdgollnapbonjaaGreatDoorG01
import Derived.Test.YtdgollnapbonjaaGreatDoorG10
import Derived.Lib.SlBytesConst
set_option linter.unusedVariables false
set_option linter.unusedSimpArgs false
set_option maxRecDepth 100000
set_option maxHeartbeats 16000000
namespace Go.Proofs.YtdgollnapbonjaaGreatDoor
open Go Go.RowKit
def nmK : ByteArray := ⟨#[107]⟩
def nmN : ByteArray := ⟨#[110]⟩
def nmSeg : ByteArray := ⟨#[115, 101, 103]⟩
def nmSegs : ByteArray := ⟨#[115, 101, 103, 109, 101, 110, 116, 115]⟩
def nmShares : ByteArray := ⟨#[115, 104, 97, 114, 101, 115]⟩
def nmSize : ByteArray := ⟨#[115, 105, 122, 101]⟩
def ubRows (u : Ub) : List Rw := [(nmK, dgL u.k.toNat), (nmN, dgL u.n.toNat), (nmSeg, dgL u.g.toNat), (nmSegs, u.b), (nmShares, u.a), (nmSize, dgL u.z.toNat)]
def RB (u : Ub) : Prop := (0 <= u.k /\ u.k <= 2147483647) /\ (0 <= u.n /\ u.n <= 2147483647) /\ (0 <= u.g /\ u.g <= 2147483647) /\ 0 <= u.z /\ u.z <= 2147483647
theorem dg_len_int (x : Int) (h : x <= 2147483647) : (dgL x.toNat).length <= 65536 := by
 rw [dgL_length]
 have := dec_len_mono 2147483647 x.toNat (by omega)
 have h2 : (Lib.decDigits 2147483647).length = 10 := by decide +kernel
 omega
theorem OkS.le {k n g z : Int} (h : OkS k n g z) : (0 <= k /\ k <= 2147483647) /\ (0 <= n /\ n <= 2147483647) /\ (0 <= g /\ g <= 2147483647) /\ 0 <= z /\ z <= 2147483647 := by
 obtain ⟨h1, h2, h3, h4, h5, h6, h7, h8, h9⟩ := h
 have := most_lt h1 (by omega)
 omega
theorem nm_up : leS nmK noS = false /\ leS nmN nmK = false /\ leS nmSeg nmN = false /\ leS nmSegs nmSeg = false /\ leS nmShares nmSegs = false /\ leS nmSize nmShares = false := by decide +kernel
theorem ubRows_may {u : Ub} (hu : u.ok) (h : OkS u.k u.n u.g u.z) : mayT (ubRows u) := by
 obtain ⟨q1, q2, q3, q4⟩ := h.le
 obtain ⟨p1, p2, p3, p4, p5, p6⟩ := nm_up
 refine ⟨by simp [ubRows], ⟨p1, (by show nmK.size <= 64; decide +kernel), dg_len_int _ q1.2⟩, ⟨p2, (by show nmN.size <= 64; decide +kernel), dg_len_int _ q2.2⟩, ⟨p3, (by show nmSeg.size <= 64; decide +kernel), dg_len_int _ q3.2⟩, ⟨p4, (by show nmSegs.size <= 64; decide +kernel), ?_⟩, ⟨p5, (by show nmShares.size <= 64; decide +kernel), ?_⟩, ⟨p6, (by show nmSize.size <= 64; decide +kernel), dg_len_int _ q4.2⟩, trivial⟩
 ·show u.b.length <= 65536
  rw [hu.2.1]; omega
 ·show u.a.length <= 65536
  rw [hu.1.1]; omega
def wrL (u : Ub) : List Int := if chE u = 0 then packL (ubRows u) else []
theorem HB_part {w : World} {m : Array Value} {blk o : Nat} {T : TypeId} {l : List Int} (hb : w.heap[blk]? = some (.cells m T (0, 0))) (hl : l.length = 32) (hy : Byt8 l) (hm : ∀ j, j < 32 -> m[o + j]? = some (.int .u8 (l.getD j 0))) : HB w (.slice (some ⟨blk, o, none⟩) 32 32) l := by
 refine ⟨⟨_, 32, by rw [hl], by omega, by unfold maxLen; omega, (fun e => by cases e), fun _ => ⟨blk, o, rfl, fun j hj => ?_⟩⟩, hy⟩
 rw [hl] at hj
 rw [cell_of_row _ _ _ _ _ _ hb]
 exact hm j hj
theorem ubA_a {u : Ub} (hu : u.ok) (j : Nat) (hj : j < 32) : (ubA u)[4 + j]? = some (.int .u8 (u.a.getD j 0)) := by
 have h1 := hu.1.1
 unfold ubA ubL
 rw [List.getElem?_toArray, show 4 + j = j + 4 by omega]
 simp only [List.getElem?_cons_succ]
 rw [List.getElem?_append_left (by simp; omega), List.getElem?_map, List.getElem?_eq_getElem (by omega : j < u.a.length)]
 simp [List.getD, List.getElem?_eq_getElem (by omega : j < u.a.length)]
theorem ubA_b {u : Ub} (hu : u.ok) (j : Nat) (hj : j < 32) : (ubA u)[36 + j]? = some (.int .u8 (u.b.getD j 0)) := by
 have h1 := hu.1.1
 have h2 := hu.2.1
 unfold ubA ubL
 rw [List.getElem?_toArray, show 36 + j = (32 + j) + 4 by omega]
 simp only [List.getElem?_cons_succ]
 rw [List.getElem?_append_right (by simp; omega), List.length_map, h1, show 32 + j - 32 = j by omega, List.getElem?_map, List.getElem?_eq_getElem (by omega : j < u.b.length)]
 simp [List.getD, List.getElem?_eq_getElem (by omega : j < u.b.length)]
theorem uwrite_any (wz : World) (u : Ub) (hu : u.ok) (hkp : KP wz) : Calls Tryz.prog 33 #[.agg (ubA u)] wz fun e w' => ∃ v', e = .returned (.tuple #[v', .int .i64 (chE u)]) /\ w'.ownsRow wz.heap.size 5 1 v' (wrL u).length ((wrL u).map (Value.int .u8)) /\ Below wz.heap.size wz w' := by
 have C := hid fun w => ucheck_any w u hu
 have HS := hid (size_ub hu)
 have q0 : (ubA u)[0]? = some (.int .i64 u.k) := rfl
 have q1 : (ubA u)[1]? = some (.int .i64 u.n) := rfl
 have q2 : (ubA u)[2]? = some (.int .i64 u.g) := rfl
 have q3 : (ubA u)[3]? = some (.int .i64 u.z) := rfl
 have HA := hid (ubA_a hu)
 have HB := hid (ubA_b hu)
 have HKP := hid hkp
 by_cases hok : chE u = 0
 ·have hle := (ch_ok hok).le
  have hmay := ubRows_may hu (ch_ok hok)
  have e1 : wrL u = packL (ubRows u) := by unfold wrL; rw [if_pos hok]
  rw [hok] at C
  rw [hok, e1]
  have HMAY := hid hmay
  obtain ⟨m, HM⟩ : ∃ x, Hid (ubA u = x) := ⟨_, rfl⟩
  obtain ⟨k, Hk⟩ : ∃ x, Hid (u.k = x) := ⟨_, rfl⟩
  obtain ⟨n, Hn⟩ : ∃ x, Hid (u.n = x) := ⟨_, rfl⟩
  obtain ⟨g, Hg⟩ : ∃ x, Hid (u.g = x) := ⟨_, rfl⟩
  obtain ⟨z, Hz⟩ : ∃ x, Hid (u.z = x) := ⟨_, rfl⟩
  rw [Hk.out] at q0
  rw [Hn.out] at q1
  rw [Hg.out] at q2
  rw [Hz.out] at q3
  rw [Hk.out, Hn.out, Hg.out, Hz.out] at hle
  rw [HM.out] at HS q0 q1 q2 q3 C HA HB ⊢
  obtain ⟨⟨k0, k1⟩, ⟨n0, n1⟩, ⟨g0, g1⟩, z0, z1⟩ := hle
  have HUR : Hid (ubRows u = [(nmK, dgL k.toNat), (nmN, dgL n.toNat), (nmSeg, dgL g.toNat), (nmSegs, u.b), (nmShares, u.a), (nmSize, dgL z.toNat)]) := by unfold ubRows; rw [Hk.out, Hn.out, Hg.out, Hz.out]; exact rfl
  have HU := hid hu
  clear hmay e1 hok hu hkp
  go_enter Tryz.func33, Tryz.ntmps33
  go_wp2_with (first | (refine wpList_load_row rfl 25 _ rfl wz.heap.size rfl 25 m (0, 0) _ (heap_alloc_new wz _) Tryz.underlying25 rfl HS.out ?_) | fail)
  refine (C.out _).mono ?_
  rintro e w1 ⟨rfl, hb1⟩
  have hA := (Below.refl wz.heap.size wz).alloc (Nat.le_refl _) (.cells m 25)
  have B1 := hid (hA.trans (hb1.mono (by simp)))
  have HBL : Hid (w1.heap[wz.heap.size]? = some (.cells m 25 (0, 0))) := (hb1.block wz.heap.size (by simp)).trans (heap_alloc_new wz _)
  have hlt : wz.heap.size < w1.heap.size := by have := hb1.size; simp at this; omega
  have HC0 : Hid (w1.cell? ⟨wz.heap.size, 0, none⟩ = some (.int .i64 k)) := by refine hid ?_; rw [cell_of_row _ _ _ _ _ _ HBL.out]; exact q0
  have HC1 : Hid (w1.cell? ⟨wz.heap.size, 1, none⟩ = some (.int .i64 n)) := by refine hid ?_; rw [cell_of_row _ _ _ _ _ _ HBL.out]; exact q1
  have HC2 : Hid (w1.cell? ⟨wz.heap.size, 2, none⟩ = some (.int .i64 g)) := by refine hid ?_; rw [cell_of_row _ _ _ _ _ _ HBL.out]; exact q2
  have HC3 : Hid (w1.cell? ⟨wz.heap.size, 3, none⟩ = some (.int .i64 z)) := by refine hid ?_; rw [cell_of_row _ _ _ _ _ _ HBL.out]; exact q3
  have HLT := hid hlt
  have HVb := hid (HB_part (o := 36) HBL.out HU.out.2.1 HU.out.2.2 HB.out)
  have HVa := hid (HB_part (o := 4) HBL.out HU.out.1.1 HU.out.1.2 HA.out)
  clear hb1 hA C q0 q1 q2 q3
  go_wp2
  refine wp_region_held_drew (S := Below w1.heap.size w1) (by kernel_rfl) (Below.refl _ _).drew (fun hHeld => ?_)
  have HS := hid hHeld
  clear hHeld
  change wpAnyH _ _ _ _ _ _ _ _ (World.drew _)
  refine wpAnyH_take (i := 0) (v := .pointer (some ⟨wz.heap.size, 0, none⟩)) rfl (by kernel_rfl) (by kernel_rfl) (by kernel_rfl) (fun _ _ _ h => h) (Or.inl ⟨by rfl, ?q0⟩) HS.out ?_
  case q0 => intro w hSw; have s0 := (hSw.cell (p := ⟨wz.heap.size, 0, none⟩) HLT.out).trans HC0.out; have s1 := (hSw.cell (p := ⟨wz.heap.size, 1, none⟩) HLT.out).trans HC1.out; have s2 := (hSw.cell (p := ⟨wz.heap.size, 2, none⟩) HLT.out).trans HC2.out; have s3 := (hSw.cell (p := ⟨wz.heap.size, 3, none⟩) HLT.out).trans HC3.out; go_simp
  simp only [Act.put, lay6]
  refine wpAnyH_take (i := 1) (v := .int .i64 k) rfl (by kernel_rfl) (by kernel_rfl) (by kernel_rfl) (fun _ _ _ h => h) (Or.inl ⟨by rfl, ?q1⟩) HS.out ?_
  case q1 => intro w hSw; have s0 := (hSw.cell (p := ⟨wz.heap.size, 0, none⟩) HLT.out).trans HC0.out; have s1 := (hSw.cell (p := ⟨wz.heap.size, 1, none⟩) HLT.out).trans HC1.out; have s2 := (hSw.cell (p := ⟨wz.heap.size, 2, none⟩) HLT.out).trans HC2.out; have s3 := (hSw.cell (p := ⟨wz.heap.size, 3, none⟩) HLT.out).trans HC3.out; go_simp
  simp only [Act.put, lay6]
  refine wpAnyH_take (i := 4) (v := .pointer (some ⟨wz.heap.size, 1, none⟩)) rfl (by kernel_rfl) (by kernel_rfl) (by kernel_rfl) (fun _ _ _ h => h) (Or.inl ⟨by rfl, ?q4⟩) HS.out ?_
  case q4 => intro w hSw; have s0 := (hSw.cell (p := ⟨wz.heap.size, 0, none⟩) HLT.out).trans HC0.out; have s1 := (hSw.cell (p := ⟨wz.heap.size, 1, none⟩) HLT.out).trans HC1.out; have s2 := (hSw.cell (p := ⟨wz.heap.size, 2, none⟩) HLT.out).trans HC2.out; have s3 := (hSw.cell (p := ⟨wz.heap.size, 3, none⟩) HLT.out).trans HC3.out; go_simp
  simp only [Act.put, lay6]
  refine wpAnyH_take (i := 5) (v := .int .i64 n) rfl (by kernel_rfl) (by kernel_rfl) (by kernel_rfl) (fun _ _ _ h => h) (Or.inl ⟨by rfl, ?q5⟩) HS.out ?_
  case q5 => intro w hSw; have s0 := (hSw.cell (p := ⟨wz.heap.size, 0, none⟩) HLT.out).trans HC0.out; have s1 := (hSw.cell (p := ⟨wz.heap.size, 1, none⟩) HLT.out).trans HC1.out; have s2 := (hSw.cell (p := ⟨wz.heap.size, 2, none⟩) HLT.out).trans HC2.out; have s3 := (hSw.cell (p := ⟨wz.heap.size, 3, none⟩) HLT.out).trans HC3.out; go_simp
  simp only [Act.put, lay6]
  refine wpAnyH_take (i := 8) (v := .pointer (some ⟨wz.heap.size, 2, none⟩)) rfl (by kernel_rfl) (by kernel_rfl) (by kernel_rfl) (fun _ _ _ h => h) (Or.inl ⟨by rfl, ?q8⟩) HS.out ?_
  case q8 => intro w hSw; have s0 := (hSw.cell (p := ⟨wz.heap.size, 0, none⟩) HLT.out).trans HC0.out; have s1 := (hSw.cell (p := ⟨wz.heap.size, 1, none⟩) HLT.out).trans HC1.out; have s2 := (hSw.cell (p := ⟨wz.heap.size, 2, none⟩) HLT.out).trans HC2.out; have s3 := (hSw.cell (p := ⟨wz.heap.size, 3, none⟩) HLT.out).trans HC3.out; go_simp
  simp only [Act.put, lay6]
  refine wpAnyH_take (i := 9) (v := .int .i64 g) rfl (by kernel_rfl) (by kernel_rfl) (by kernel_rfl) (fun _ _ _ h => h) (Or.inl ⟨by rfl, ?q9⟩) HS.out ?_
  case q9 => intro w hSw; have s0 := (hSw.cell (p := ⟨wz.heap.size, 0, none⟩) HLT.out).trans HC0.out; have s1 := (hSw.cell (p := ⟨wz.heap.size, 1, none⟩) HLT.out).trans HC1.out; have s2 := (hSw.cell (p := ⟨wz.heap.size, 2, none⟩) HLT.out).trans HC2.out; have s3 := (hSw.cell (p := ⟨wz.heap.size, 3, none⟩) HLT.out).trans HC3.out; go_simp
  simp only [Act.put, lay6]
  refine wpAnyH_take (i := 18) (v := .pointer (some ⟨wz.heap.size, 3, none⟩)) rfl (by kernel_rfl) (by kernel_rfl) (by kernel_rfl) (fun _ _ _ h => h) (Or.inl ⟨by rfl, ?q18⟩) HS.out ?_
  case q18 => intro w hSw; have s0 := (hSw.cell (p := ⟨wz.heap.size, 0, none⟩) HLT.out).trans HC0.out; have s1 := (hSw.cell (p := ⟨wz.heap.size, 1, none⟩) HLT.out).trans HC1.out; have s2 := (hSw.cell (p := ⟨wz.heap.size, 2, none⟩) HLT.out).trans HC2.out; have s3 := (hSw.cell (p := ⟨wz.heap.size, 3, none⟩) HLT.out).trans HC3.out; go_simp
  simp only [Act.put, lay6]
  refine wpAnyH_take (i := 19) (v := .int .i64 z) rfl (by kernel_rfl) (by kernel_rfl) (by kernel_rfl) (fun _ _ _ h => h) (Or.inl ⟨by rfl, ?q19⟩) HS.out ?_
  case q19 => intro w hSw; have s0 := (hSw.cell (p := ⟨wz.heap.size, 0, none⟩) HLT.out).trans HC0.out; have s1 := (hSw.cell (p := ⟨wz.heap.size, 1, none⟩) HLT.out).trans HC1.out; have s2 := (hSw.cell (p := ⟨wz.heap.size, 2, none⟩) HLT.out).trans HC2.out; have s3 := (hSw.cell (p := ⟨wz.heap.size, 3, none⟩) HLT.out).trans HC3.out; go_simp
  simp only [Act.put, lay6]
  refine wpAnyH_take (i := 12) (v := .pointer (some ⟨wz.heap.size, 36, none⟩)) rfl (by kernel_rfl) (by kernel_rfl) (by kernel_rfl) (fun _ _ _ h => h) (Or.inl ⟨by rfl, ?q12⟩) HS.out ?_
  case q12 => intro w hSw; have s0 := (hSw.cell (p := ⟨wz.heap.size, 0, none⟩) HLT.out).trans HC0.out; have s1 := (hSw.cell (p := ⟨wz.heap.size, 1, none⟩) HLT.out).trans HC1.out; have s2 := (hSw.cell (p := ⟨wz.heap.size, 2, none⟩) HLT.out).trans HC2.out; have s3 := (hSw.cell (p := ⟨wz.heap.size, 3, none⟩) HLT.out).trans HC3.out; go_simp
  simp only [Act.put, lay6]
  refine wpAnyH_take (i := 13) (v := .slice (some ⟨wz.heap.size, 36, none⟩) 32 32) rfl (by kernel_rfl) (by kernel_rfl) (by kernel_rfl) (fun _ _ _ h => h) (Or.inl ⟨by rfl, ?q13⟩) HS.out ?_
  case q13 => intro w hSw; have s0 := (hSw.cell (p := ⟨wz.heap.size, 0, none⟩) HLT.out).trans HC0.out; have s1 := (hSw.cell (p := ⟨wz.heap.size, 1, none⟩) HLT.out).trans HC1.out; have s2 := (hSw.cell (p := ⟨wz.heap.size, 2, none⟩) HLT.out).trans HC2.out; have s3 := (hSw.cell (p := ⟨wz.heap.size, 3, none⟩) HLT.out).trans HC3.out; go_simp
  simp only [Act.put, lay6]
  refine wpAnyH_take (i := 14) (v := .agg #[.string nmSegs, .slice (some ⟨wz.heap.size, 36, none⟩) 32 32]) rfl (by kernel_rfl) (by kernel_rfl) (by kernel_rfl) (fun _ _ _ h => h) (Or.inl ⟨by rfl, ?q14⟩) HS.out ?_
  case q14 => intro w hSw; have s0 := (hSw.cell (p := ⟨wz.heap.size, 0, none⟩) HLT.out).trans HC0.out; have s1 := (hSw.cell (p := ⟨wz.heap.size, 1, none⟩) HLT.out).trans HC1.out; have s2 := (hSw.cell (p := ⟨wz.heap.size, 2, none⟩) HLT.out).trans HC2.out; have s3 := (hSw.cell (p := ⟨wz.heap.size, 3, none⟩) HLT.out).trans HC3.out; go_simp; rfl
  simp only [Act.put, lay6]
  refine wpAnyH_take (i := 15) (v := .pointer (some ⟨wz.heap.size, 4, none⟩)) rfl (by kernel_rfl) (by kernel_rfl) (by kernel_rfl) (fun _ _ _ h => h) (Or.inl ⟨by rfl, ?q15⟩) HS.out ?_
  case q15 => intro w hSw; have s0 := (hSw.cell (p := ⟨wz.heap.size, 0, none⟩) HLT.out).trans HC0.out; have s1 := (hSw.cell (p := ⟨wz.heap.size, 1, none⟩) HLT.out).trans HC1.out; have s2 := (hSw.cell (p := ⟨wz.heap.size, 2, none⟩) HLT.out).trans HC2.out; have s3 := (hSw.cell (p := ⟨wz.heap.size, 3, none⟩) HLT.out).trans HC3.out; go_simp
  simp only [Act.put, lay6]
  refine wpAnyH_take (i := 16) (v := .slice (some ⟨wz.heap.size, 4, none⟩) 32 32) rfl (by kernel_rfl) (by kernel_rfl) (by kernel_rfl) (fun _ _ _ h => h) (Or.inl ⟨by rfl, ?q16⟩) HS.out ?_
  case q16 => intro w hSw; have s0 := (hSw.cell (p := ⟨wz.heap.size, 0, none⟩) HLT.out).trans HC0.out; have s1 := (hSw.cell (p := ⟨wz.heap.size, 1, none⟩) HLT.out).trans HC1.out; have s2 := (hSw.cell (p := ⟨wz.heap.size, 2, none⟩) HLT.out).trans HC2.out; have s3 := (hSw.cell (p := ⟨wz.heap.size, 3, none⟩) HLT.out).trans HC3.out; go_simp
  simp only [Act.put, lay6]
  refine wpAnyH_take (i := 17) (v := .agg #[.string nmShares, .slice (some ⟨wz.heap.size, 4, none⟩) 32 32]) rfl (by kernel_rfl) (by kernel_rfl) (by kernel_rfl) (fun _ _ _ h => h) (Or.inl ⟨by rfl, ?q17⟩) HS.out ?_
  case q17 => intro w hSw; have s0 := (hSw.cell (p := ⟨wz.heap.size, 0, none⟩) HLT.out).trans HC0.out; have s1 := (hSw.cell (p := ⟨wz.heap.size, 1, none⟩) HLT.out).trans HC1.out; have s2 := (hSw.cell (p := ⟨wz.heap.size, 2, none⟩) HLT.out).trans HC2.out; have s3 := (hSw.cell (p := ⟨wz.heap.size, 3, none⟩) HLT.out).trans HC3.out; go_simp; rfl
  simp only [Act.put, lay6]
  refine wpAnyH_ready (rs := [2]) (by kernel_rfl) (by simp) ?_
  refine AllReadyH.cons rfl (fun K hK => ?_) AllReadyH.nil
  go_simp
  refine (udigits_any _ k k0 k1 (HKP.out.below (B1.out.trans (HS.out.mono B1.out.size)))).mono ?_
  rintro e v2 ⟨x2, rfl, hx2, hb2⟩
  obtain ⟨p2, c2, rfl, hlc2, hcm2⟩ := hx2.open
  have HX2 := hid hx2
  have HS := hid (HS.out.trans (hb2.mono HS.out.size))
  clear hx2 hb2
  refine hK.out _ _ HS.out (fun _ => ?_)
  clear hK K
  refine wpAnyH_take (i := 3) (v := .agg #[.string nmK, .slice p2 (dgL k.toNat).length c2]) rfl (by kernel_rfl) (by kernel_rfl) (by kernel_rfl) (fun _ _ _ h => h) (Or.inl ⟨by rfl, ?q3⟩) HS.out ?_
  case q3 => intro w hSw; have s0 := (hSw.cell (p := ⟨wz.heap.size, 0, none⟩) HLT.out).trans HC0.out; have s1 := (hSw.cell (p := ⟨wz.heap.size, 1, none⟩) HLT.out).trans HC1.out; have s2 := (hSw.cell (p := ⟨wz.heap.size, 2, none⟩) HLT.out).trans HC2.out; have s3 := (hSw.cell (p := ⟨wz.heap.size, 3, none⟩) HLT.out).trans HC3.out; go_simp; rfl
  simp only [Act.put, lay6]
  refine wpAnyH_ready (rs := [6]) (by kernel_rfl) (by simp) ?_
  refine AllReadyH.cons rfl (fun K hK => ?_) AllReadyH.nil
  go_simp
  refine (udigits_any _ n n0 n1 (HKP.out.below (B1.out.trans (HS.out.mono B1.out.size)))).mono ?_
  rintro e v3 ⟨x3, rfl, hx3, hb3⟩
  obtain ⟨p3, c3, rfl, hlc3, hcm3⟩ := hx3.open
  have HX3 := hid hx3
  have HX2 := hid (HX2.out.below hb3)
  have HS := hid (HS.out.trans (hb3.mono HS.out.size))
  clear hx3 hb3
  refine hK.out _ _ HS.out (fun _ => ?_)
  clear hK K
  refine wpAnyH_take (i := 7) (v := .agg #[.string nmN, .slice p3 (dgL n.toNat).length c3]) rfl (by kernel_rfl) (by kernel_rfl) (by kernel_rfl) (fun _ _ _ h => h) (Or.inl ⟨by rfl, ?q7⟩) HS.out ?_
  case q7 => intro w hSw; have s0 := (hSw.cell (p := ⟨wz.heap.size, 0, none⟩) HLT.out).trans HC0.out; have s1 := (hSw.cell (p := ⟨wz.heap.size, 1, none⟩) HLT.out).trans HC1.out; have s2 := (hSw.cell (p := ⟨wz.heap.size, 2, none⟩) HLT.out).trans HC2.out; have s3 := (hSw.cell (p := ⟨wz.heap.size, 3, none⟩) HLT.out).trans HC3.out; go_simp; rfl
  simp only [Act.put, lay6]
  refine wpAnyH_ready (rs := [10]) (by kernel_rfl) (by simp) ?_
  refine AllReadyH.cons rfl (fun K hK => ?_) AllReadyH.nil
  go_simp
  refine (udigits_any _ g g0 g1 (HKP.out.below (B1.out.trans (HS.out.mono B1.out.size)))).mono ?_
  rintro e v4 ⟨x4, rfl, hx4, hb4⟩
  obtain ⟨p4, c4, rfl, hlc4, hcm4⟩ := hx4.open
  have HX4 := hid hx4
  have HX2 := hid (HX2.out.below hb4)
  have HX3 := hid (HX3.out.below hb4)
  have HS := hid (HS.out.trans (hb4.mono HS.out.size))
  clear hx4 hb4
  refine hK.out _ _ HS.out (fun _ => ?_)
  clear hK K
  refine wpAnyH_take (i := 11) (v := .agg #[.string nmSeg, .slice p4 (dgL g.toNat).length c4]) rfl (by kernel_rfl) (by kernel_rfl) (by kernel_rfl) (fun _ _ _ h => h) (Or.inl ⟨by rfl, ?q11⟩) HS.out ?_
  case q11 => intro w hSw; have s0 := (hSw.cell (p := ⟨wz.heap.size, 0, none⟩) HLT.out).trans HC0.out; have s1 := (hSw.cell (p := ⟨wz.heap.size, 1, none⟩) HLT.out).trans HC1.out; have s2 := (hSw.cell (p := ⟨wz.heap.size, 2, none⟩) HLT.out).trans HC2.out; have s3 := (hSw.cell (p := ⟨wz.heap.size, 3, none⟩) HLT.out).trans HC3.out; go_simp; rfl
  simp only [Act.put, lay6]
  refine wpAnyH_ready (rs := [20]) (by kernel_rfl) (by simp) ?_
  refine AllReadyH.cons rfl (fun K hK => ?_) AllReadyH.nil
  go_simp
  refine (udigits_any _ z z0 z1 (HKP.out.below (B1.out.trans (HS.out.mono B1.out.size)))).mono ?_
  rintro e v5 ⟨x5, rfl, hx5, hb5⟩
  obtain ⟨p5, c5, rfl, hlc5, hcm5⟩ := hx5.open
  have HX5 := hid hx5
  have HX2 := hid (HX2.out.below hb5)
  have HX3 := hid (HX3.out.below hb5)
  have HX4 := hid (HX4.out.below hb5)
  have HS := hid (HS.out.trans (hb5.mono HS.out.size))
  clear hx5 hb5
  refine hK.out _ _ HS.out (fun _ => ?_)
  clear hK K
  refine wpAnyH_take (i := 21) (v := .agg #[.string nmSize, .slice p5 (dgL z.toNat).length c5]) rfl (by kernel_rfl) (by kernel_rfl) (by kernel_rfl) (fun _ _ _ h => h) (Or.inl ⟨by rfl, ?q21⟩) HS.out ?_
  case q21 => intro w hSw; have s0 := (hSw.cell (p := ⟨wz.heap.size, 0, none⟩) HLT.out).trans HC0.out; have s1 := (hSw.cell (p := ⟨wz.heap.size, 1, none⟩) HLT.out).trans HC1.out; have s2 := (hSw.cell (p := ⟨wz.heap.size, 2, none⟩) HLT.out).trans HC2.out; have s3 := (hSw.cell (p := ⟨wz.heap.size, 3, none⟩) HLT.out).trans HC3.out; go_simp; rfl
  simp only [Act.put, lay6]
  refine wpAnyH_ready (rs := [22]) (by kernel_rfl) (by simp) ?_
  refine AllReadyH.cons rfl (fun K hK => ?_) AllReadyH.nil
  go_simp
  obtain ⟨v6, HV6⟩ : ∃ x, Hid (v5.alloc (.cells #[.string nmK, .slice p2 (dgL k.toNat).length c2, .string nmN, .slice p3 (dgL n.toNat).length c3, .string nmSeg, .slice p4 (dgL g.toNat).length c4, .string nmSegs, .slice (some ⟨wz.heap.size, 36, none⟩) 32 32, .string nmShares, .slice (some ⟨wz.heap.size, 4, none⟩) 32 32, .string nmSize, .slice p5 (dgL z.toNat).length c5] 73) = x) := ⟨_, rfl⟩
  rw [HV6.out]
  have hb6 : Below v5.heap.size v5 v6 := by rw [<- HV6.out]; exact (Below.refl _ v5).alloc (Nat.le_refl _) _
  have hk6 : v6.heap[v5.heap.size]? = some (.cells #[.string nmK, .slice p2 (dgL k.toNat).length c2, .string nmN, .slice p3 (dgL n.toNat).length c3, .string nmSeg, .slice p4 (dgL g.toNat).length c4, .string nmSegs, .slice (some ⟨wz.heap.size, 36, none⟩) 32 32, .string nmShares, .slice (some ⟨wz.heap.size, 4, none⟩) 32 32, .string nmSize, .slice p5 (dgL z.toNat).length c5] 73 (0, 0)) := by rw [<- HV6.out]; exact heap_alloc_new v5 _
  have hR6 : HRw v6 (.slice (some ⟨v5.heap.size, 0, none⟩) 6 6) [(nmK, dgL k.toNat), (nmN, dgL n.toNat), (nmSeg, dgL g.toNat), (nmSegs, u.b), (nmShares, u.a), (nmSize, dgL z.toNat)] := by
   refine HRw.of_own (base := 0) (e := 73) (vs := [.slice p2 (dgL k.toNat).length c2, .slice p3 (dgL n.toNat).length c3, .slice p4 (dgL g.toNat).length c4, .slice (some ⟨wz.heap.size, 36, none⟩) 32 32, .slice (some ⟨wz.heap.size, 4, none⟩) 32 32, .slice p5 (dgL z.toNat).length c5]) ⟨rfl, .inr ⟨v5.heap.size, 6, _, rfl, Nat.zero_le _, hk6, Nat.le_refl _, by unfold maxLen; omega, rfl, rfl⟩⟩ rfl ?_
   have hw6 := HS.out.trans (hb6.mono HS.out.size)
   intro i hi
   match i, hi with
   | 0, _ => exact HX2.out.below hb6
   | 1, _ => exact HX3.out.below hb6
   | 2, _ => exact HX4.out.below hb6
   | 3, _ => exact HVb.out.below hw6
   | 4, _ => exact HVa.out.below hw6
   | 5, _ => exact HX5.out.below hb6
   | i + 6, h => simp at h; omega
  rw [<- HUR.out] at hR6
  have HR6 := hid hR6
  have HS := hid (HS.out.trans (hb6.mono HS.out.size))
  clear hR6 hb6 hk6
  refine hK.out _ _ HS.out (fun _ => ?_)
  clear hK K
  refine wpAnyH_ready (rs := [23]) (by kernel_rfl) (by simp) ?_
  refine AllReadyH.cons rfl (fun K hK => ?_) AllReadyH.nil
  go_simp
  have CP := pack_any v6 _ (ubRows u) HR6.out (HKP.out.below (B1.out.trans (HS.out.mono B1.out.size)))
  have eE : pkE (ubRows u) = 0 := by unfold pkE; rw [if_pos HMAY.out]
  have eL : pkL (ubRows u) = packL (ubRows u) := by unfold pkL; rw [if_pos HMAY.out]
  rw [eE, eL] at CP
  refine CP.mono ?_
  rintro e v7 ⟨x7, rfl, hx7, hb7⟩
  have HO7 : Hid (v7.ownsRow wz.heap.size 5 1 x7 (packL (ubRows u)).length ((packL (ubRows u)).map (Value.int .u8))) := own_mono hx7 (by have h1 := HS.out.size; have h2 := HLT.out; omega)
  have HS := hid (HS.out.trans (hb7.mono HS.out.size))
  clear hx7 hb7 CP
  refine hK.out _ _ HS.out (fun _ => ?_)
  clear hK K
  refine wpAnyH_take (i := 24) (v := ?_) rfl (by kernel_rfl) (by kernel_rfl) (by kernel_rfl) (fun _ _ _ h => h) (Or.inl ⟨by rfl, ?q24⟩) HS.out ?_
  case q24 => intro w hSw; have s0 := (hSw.cell (p := ⟨wz.heap.size, 0, none⟩) HLT.out).trans HC0.out; have s1 := (hSw.cell (p := ⟨wz.heap.size, 1, none⟩) HLT.out).trans HC1.out; have s2 := (hSw.cell (p := ⟨wz.heap.size, 2, none⟩) HLT.out).trans HC2.out; have s3 := (hSw.cell (p := ⟨wz.heap.size, 3, none⟩) HLT.out).trans HC3.out; go_simp; rfl
  simp only [Act.put, lay6]
  refine wpAnyH_take (i := 25) (v := ?_) rfl (by kernel_rfl) (by kernel_rfl) (by kernel_rfl) (fun _ _ _ h => h) (Or.inl ⟨by rfl, ?q25⟩) HS.out ?_
  case q25 => intro w hSw; have s0 := (hSw.cell (p := ⟨wz.heap.size, 0, none⟩) HLT.out).trans HC0.out; have s1 := (hSw.cell (p := ⟨wz.heap.size, 1, none⟩) HLT.out).trans HC1.out; have s2 := (hSw.cell (p := ⟨wz.heap.size, 2, none⟩) HLT.out).trans HC2.out; have s3 := (hSw.cell (p := ⟨wz.heap.size, 3, none⟩) HLT.out).trans HC3.out; go_simp; rfl
  simp only [Act.put, lay6]
  refine wpAnyH_take (i := 26) (v := ?_) rfl (by kernel_rfl) (by kernel_rfl) (by kernel_rfl) (fun _ _ _ h => h) (Or.inl ⟨by rfl, ?q26⟩) HS.out ?_
  case q26 => intro w hSw; have s0 := (hSw.cell (p := ⟨wz.heap.size, 0, none⟩) HLT.out).trans HC0.out; have s1 := (hSw.cell (p := ⟨wz.heap.size, 1, none⟩) HLT.out).trans HC1.out; have s2 := (hSw.cell (p := ⟨wz.heap.size, 2, none⟩) HLT.out).trans HC2.out; have s3 := (hSw.cell (p := ⟨wz.heap.size, 3, none⟩) HLT.out).trans HC3.out; go_simp; rfl
  simp only [Act.put, lay6]
  refine wpAnyH_take (i := 27) (v := ?_) rfl (by kernel_rfl) (by kernel_rfl) (by kernel_rfl) (fun _ _ _ h => h) (Or.inl ⟨by rfl, ?q27⟩) HS.out ?_
  case q27 => intro w hSw; have s0 := (hSw.cell (p := ⟨wz.heap.size, 0, none⟩) HLT.out).trans HC0.out; have s1 := (hSw.cell (p := ⟨wz.heap.size, 1, none⟩) HLT.out).trans HC1.out; have s2 := (hSw.cell (p := ⟨wz.heap.size, 2, none⟩) HLT.out).trans HC2.out; have s3 := (hSw.cell (p := ⟨wz.heap.size, 3, none⟩) HLT.out).trans HC3.out; go_simp; rfl
  simp only [Act.put, lay6]
  refine wpAnyH_done (by kernel_rfl) ?_ _
  have BF := hid (B1.out.trans (HS.out.mono B1.out.size))
  go_wp2
  go_ret2
  exact ⟨_, rfl, HO7.out, BF.out⟩
 ·have e1 : wrL u = [] := by unfold wrL; rw [if_neg hok]
  have e2 : chE u = 133 := (ch_or u).resolve_left hok
  rw [e2] at C
  rw [e1, e2]
  obtain ⟨m, HM⟩ : ∃ x, Hid (ubA u = x) := ⟨_, rfl⟩
  rw [HM.out] at HS C ⊢
  clear hok hu hkp q0 q1 q2 q3
  go_enter Tryz.func33, Tryz.ntmps33
  go_wp2_with (first | (refine wpList_load_row rfl 25 _ rfl wz.heap.size rfl 25 m (0, 0) _ (heap_alloc_new wz _) Tryz.underlying25 rfl HS.out ?_) | fail)
  refine (C.out _).mono ?_
  rintro e w1 ⟨rfl, hb1⟩
  have B1 := hid (((Below.refl wz.heap.size wz).alloc (Nat.le_refl _) (.cells m 25)).trans (hb1.mono (by simp)))
  clear hb1 C
  go_wp2
  go_ret2
  exact ⟨_, rfl, World.ownsRow_nil _ _ _ _, B1.out⟩
theorem length_any (w : World) (u : Ub) (hu : u.ok) (hkp : KP w) : Calls Tryz.prog 17 #[.agg (ubA u)] w fun e w' => e = .returned (.tuple #[.int .i64 ((wrL u).length : Nat), .int .i64 (chE u)]) /\ Below w.heap.size w w' := by
 have HS := hid (size_ub hu)
 have hbA := (Below.refl w.heap.size w).alloc (Nat.le_refl _) (.cells (ubA u) 25)
 have C := hid (uwrite_any (w.alloc (.cells (ubA u) 25)) u hu (hkp.below hbA))
 obtain ⟨m, HM⟩ : ∃ x, Hid (ubA u = x) := ⟨_, rfl⟩
 obtain ⟨ll, HL⟩ : ∃ x, Hid (wrL u = x) := ⟨_, rfl⟩
 obtain ⟨ee, HE⟩ : ∃ x, Hid (chE u = x) := ⟨_, rfl⟩
 rw [HM.out, HL.out, HE.out] at C
 rw [HM.out] at HS hbA
 rw [HM.out, HL.out, HE.out]
 have HBA := hid hbA
 clear hbA hkp hu
 go_enter Tryz.func17, Tryz.ntmps17
 go_wp2_with (first | (refine wpList_load_row rfl 25 _ rfl w.heap.size rfl 25 m (0, 0) _ (heap_alloc_new w _) Tryz.underlying25 rfl HS.out ?_) | fail)
 refine C.out.mono ?_
 rintro e w1 ⟨v', rfl, hown, hb1⟩
 have B1 := hid (HBA.out.trans (hb1.mono (by simp)))
 obtain ⟨p, c, rfl⟩ := own_slc hown
 clear hown hb1 C
 go_wp2
 go_ret2
 exact ⟨rfl, B1.out⟩
end Go.Proofs.YtdgollnapbonjaaGreatDoor
