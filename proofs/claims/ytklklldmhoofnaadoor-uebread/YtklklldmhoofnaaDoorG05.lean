/- Of the road to uebReadCard_holds: UbLay, UbClo, UbFromM, SameBytes. -/
import Derived.Test.YtklklldmhoofnaaDoorG04
import Derived.Deep.RegionHeld
import Derived.Test.YtklklldmhoofnaaDoorG00
import Derived.Test.YtklklldmhoofnaaDoorChecked
set_option linter.unusedVariables false
set_option linter.unusedSimpArgs false
namespace Go.Proofs.YtklklldmhoofnaaDoor
open Go Go.RowKit
def fnN : Value := .func (.func 56) #[] #[]
def fnD : Value := .func (.func 58) #[] #[]
def cloN (x : Nat) : Value := .func (.func 57) #[] #[.pointer (some ⟨x, 0, none⟩)]
def cloD (x : Nat) : Value := .func (.func 59) #[] #[.pointer (some ⟨x, 0, none⟩)]
set_option maxRecDepth 100000 in
set_option maxHeartbeats 4000000 in
theorem number_fn (w : World) (b o : Nat) : Calls Tryd.prog 56 #[.pointer (some ⟨b, o, none⟩)] w fun e w' => e = .returned (cloN w.heap.size) ∧ w' = w.alloc (.cells #[.pointer (some ⟨b, o, none⟩)] 91) := by
  go_enter Tryd.func56, Tryd.ntmps56
  go_wp2
  go_ret
  exact ⟨rfl, rfl⟩
set_option maxRecDepth 100000 in
set_option maxHeartbeats 4000000 in
theorem digest_fn (w : World) (b o : Nat) : Calls Tryd.prog 58 #[.pointer (some ⟨b, o, none⟩)] w fun e w' => e = .returned (cloD w.heap.size) ∧ w' = w.alloc (.cells #[.pointer (some ⟨b, o, none⟩)] 93) := by
  go_enter Tryd.func58, Tryd.ntmps58
  go_wp2
  go_ret
  exact ⟨rfl, rfl⟩
def actL (b : Nat) (L : Array Bool) (M : Nat) (bx : Nat → Nat) : Act := { tmps := #[.pointer (some ⟨b, 0, none⟩), undef, (if Lb L 38 then .map (some M) else .map none), fnN, fnD, (if Lb L 0 then .map (some M) else undef), fnN, .pointer (some ⟨b, 0, none⟩), .pointer (some ⟨b, 0, none⟩), .pointer (some ⟨b, 0, none⟩), (if Lb L 5 then cloN (bx 0) else undef), fnN, .pointer (some ⟨b, 0, none⟩), .pointer (some ⟨b, 0, none⟩), .pointer (some ⟨b, 1, none⟩), (if Lb L 11 then cloN (bx 1) else undef), fnN, .pointer (some ⟨b, 0, none⟩), .pointer (some ⟨b, 0, none⟩), .pointer (some ⟨b, 2, none⟩), (if Lb L 17 then cloN (bx 2) else undef), fnD, .pointer (some ⟨b, 0, none⟩), .pointer (some ⟨b, 0, none⟩), .pointer (some ⟨b, 36, none⟩), (if Lb L 23 then cloD (bx 3) else undef), fnD, .pointer (some ⟨b, 0, none⟩), .pointer (some ⟨b, 0, none⟩), .pointer (some ⟨b, 4, none⟩), (if Lb L 29 then cloD (bx 4) else undef), fnN, .pointer (some ⟨b, 0, none⟩), .pointer (some ⟨b, 0, none⟩), .pointer (some ⟨b, 3, none⟩), (if Lb L 35 then cloN (bx 5) else undef), (if Lb L 37 then .map (some M) else undef)], defers := [] }
def kmL (L : Array Bool) (bx : Nat → Nat) : Km := fun s => if s = nmK then (if Lb L 6 then some (cloN (bx 0)) else none) else if s = nmN then (if Lb L 12 then some (cloN (bx 1)) else none) else if s = nmSeg then (if Lb L 18 then some (cloN (bx 2)) else none) else if s = nmSegs then (if Lb L 24 then some (cloD (bx 3)) else none) else if s = nmShares then (if Lb L 30 then some (cloD (bx 4)) else none) else if s = nmSize then (if Lb L 36 then some (cloN (bx 5)) else none) else none
def cntL (L : Array Bool) : Nat := (if Lb L 6 then 1 else 0) + (if Lb L 12 then 1 else 0) + (if Lb L 18 then 1 else 0) + (if Lb L 24 then 1 else 0) + (if Lb L 30 then 1 else 0) + (if Lb L 36 then 1 else 0)
def offJ (j : Nat) : Nat := [0, 1, 2, 36, 4, 3].getD j 0
def tyJ (j : Nat) : TypeId := if j = 3 ∨ j = 4 then 93 else 91
structure LI (wz : World) (b : Nat) (L : Array Bool) (a : Act) (w : World) (M : Nat) (bx : Nat → Nat) : Prop where
  act : a = actL b L M bx
  pure : ∀ i ∈ [1, 2, 3, 4, 7, 8, 9, 10, 13, 14, 15, 16, 19, 20, 21, 22, 25, 26, 27, 28, 31, 32, 33, 34], Lb L i = true
  dep : ∀ j, j < 6 → Lb L (6 + 6 * j) = true → Lb L 0 = true ∧ Lb L (5 + 6 * j) = true
  dep2 : (Lb L 37 = true → Lb L 0 = true) ∧ (Lb L 38 = true → Lb L 37 = true)
  map : Lb L 0 = true → wz.heap.size ≤ M ∧ HMm w M (kmL L bx) (cntL L)
  box : ∀ j, j < 6 → Lb L (5 + 6 * j) = true → wz.heap.size ≤ bx j ∧ w.heap[bx j]? = some (.cells #[.pointer (some ⟨b, offJ j, none⟩)] (tyJ j) (0, 0))
  bel : Below wz.heap.size wz w
theorem todo_of (i : Nat) (h : i < 39) (hn : i ∉ [1, 2, 3, 4, 7, 8, 9, 10, 13, 14, 15, 16, 19, 20, 21, 22, 25, 26, 27, 28, 31, 32, 33, 34]) : i ∈ [0, 5, 6, 11, 12, 17, 18, 23, 24, 29, 30, 35, 36, 37, 38] := by
  have : ∀ i, i < 39 → i ∉ [1, 2, 3, 4, 7, 8, 9, 10, 13, 14, 15, 16, 19, 20, 21, 22, 25, 26, 27, 28, 31, 32, 33, 34] → i ∈ [0, 5, 6, 11, 12, 17, 18, 23, 24, 29, 30, 35, 36, 37, 38] := by decide
  exact this i h hn
theorem nm_ne : nmK ≠ nmN ∧ nmK ≠ nmSeg ∧ nmK ≠ nmSegs ∧ nmK ≠ nmShares ∧ nmK ≠ nmSize ∧ nmN ≠ nmSeg ∧ nmN ≠ nmSegs ∧ nmN ≠ nmShares ∧ nmN ≠ nmSize ∧ nmSeg ≠ nmSegs ∧ nmSeg ≠ nmShares ∧ nmSeg ≠ nmSize ∧ nmSegs ≠ nmShares ∧ nmSegs ≠ nmSize ∧ nmShares ≠ nmSize := by decide
theorem run_mkm (w : World) : (Instr.makeMap 77 none).run Tryd.prog w = .ok (.map (some w.heap.size)) (w.alloc (.map #[] 0)) := by
  simp [Instr.makeMap, newObj]
  rfl
set_option maxRecDepth 100000 in
set_option maxHeartbeats 16000000 in
theorem layers_any (wz : World) (b : Nat) : Calls Tryd.prog 44 #[.pointer (some ⟨b, 0, none⟩)] wz fun e w' => ∃ L a M bx, LI wz b L a w' M bx ∧ (∀ i, i < 39 → Lb L i = true) ∧ e = .returned (.map (some M)) := by
  have CN := hid fun w o => number_fn w b o
  have CD := hid fun w o => digest_fn w b o
  go_enter Tryd.func44, Tryd.ntmps44
  go_wp2
  refine wp_region_held_drew (S := fun _ => True) (by kernel_rfl) trivial (fun hHeld => ?_)
  have HS := hid hHeld
  clear hHeld
  change wpAnyH _ _ _ _ _ _ _ _ (World.drew _)
  refine wpAnyH_take (i := 1) (v := ?_) rfl (by kernel_rfl) (by kernel_rfl) (by kernel_rfl) (fun _ _ _ h => h) (Or.inl ⟨by rfl, ?q1⟩) HS.out ?_
  case q1 => intro w hSw; go_simp; rfl
  simp only [Act.put, List.getElem_toArray, List.getElem_cons_zero, List.getElem_cons_succ, List.setIfInBounds_toArray, List.set_cons_zero, List.set_cons_succ]
  refine wpAnyH_take (i := 2) (v := ?_) rfl (by kernel_rfl) (by kernel_rfl) (by kernel_rfl) (fun _ _ _ h => h) (Or.inl ⟨by rfl, ?q2⟩) HS.out ?_
  case q2 => intro w hSw; go_simp; rfl
  simp only [Act.put, List.getElem_toArray, List.getElem_cons_zero, List.getElem_cons_succ, List.setIfInBounds_toArray, List.set_cons_zero, List.set_cons_succ]
  refine wpAnyH_take (i := 3) (v := .pointer (some ⟨b, 0, none⟩)) rfl (by kernel_rfl) (by kernel_rfl) (by kernel_rfl) (fun _ _ _ h => h) (Or.inl ⟨by rfl, ?q3⟩) HS.out ?_
  case q3 => intro w hSw; go_simp
  simp only [Act.put, List.getElem_toArray, List.getElem_cons_zero, List.getElem_cons_succ, List.setIfInBounds_toArray, List.set_cons_zero, List.set_cons_succ]
  refine wpAnyH_take (i := 4) (v := .pointer (some ⟨b, 0, none⟩)) rfl (by kernel_rfl) (by kernel_rfl) (by kernel_rfl) (fun _ _ _ h => h) (Or.inl ⟨by rfl, ?q4⟩) HS.out ?_
  case q4 => intro w hSw; go_simp
  simp only [Act.put, List.getElem_toArray, List.getElem_cons_zero, List.getElem_cons_succ, List.setIfInBounds_toArray, List.set_cons_zero, List.set_cons_succ]
  refine wpAnyH_take (i := 7) (v := ?_) rfl (by kernel_rfl) (by kernel_rfl) (by kernel_rfl) (fun _ _ _ h => h) (Or.inl ⟨by rfl, ?q7⟩) HS.out ?_
  case q7 => intro w hSw; go_simp; rfl
  simp only [Act.put, List.getElem_toArray, List.getElem_cons_zero, List.getElem_cons_succ, List.setIfInBounds_toArray, List.set_cons_zero, List.set_cons_succ]
  refine wpAnyH_take (i := 8) (v := ?_) rfl (by kernel_rfl) (by kernel_rfl) (by kernel_rfl) (fun _ _ _ h => h) (Or.inl ⟨by rfl, ?q8⟩) HS.out ?_
  case q8 => intro w hSw; go_simp; rfl
  simp only [Act.put, List.getElem_toArray, List.getElem_cons_zero, List.getElem_cons_succ, List.setIfInBounds_toArray, List.set_cons_zero, List.set_cons_succ]
  refine wpAnyH_take (i := 9) (v := .pointer (some ⟨b, 0, none⟩)) rfl (by kernel_rfl) (by kernel_rfl) (by kernel_rfl) (fun _ _ _ h => h) (Or.inl ⟨by rfl, ?q9⟩) HS.out ?_
  case q9 => intro w hSw; go_simp
  simp only [Act.put, List.getElem_toArray, List.getElem_cons_zero, List.getElem_cons_succ, List.setIfInBounds_toArray, List.set_cons_zero, List.set_cons_succ]
  refine wpAnyH_take (i := 10) (v := .pointer (some ⟨b, 1, none⟩)) rfl (by kernel_rfl) (by kernel_rfl) (by kernel_rfl) (fun _ _ _ h => h) (Or.inl ⟨by rfl, ?q10⟩) HS.out ?_
  case q10 => intro w hSw; go_simp
  simp only [Act.put, List.getElem_toArray, List.getElem_cons_zero, List.getElem_cons_succ, List.setIfInBounds_toArray, List.set_cons_zero, List.set_cons_succ]
  refine wpAnyH_take (i := 13) (v := ?_) rfl (by kernel_rfl) (by kernel_rfl) (by kernel_rfl) (fun _ _ _ h => h) (Or.inl ⟨by rfl, ?q13⟩) HS.out ?_
  case q13 => intro w hSw; go_simp; rfl
  simp only [Act.put, List.getElem_toArray, List.getElem_cons_zero, List.getElem_cons_succ, List.setIfInBounds_toArray, List.set_cons_zero, List.set_cons_succ]
  refine wpAnyH_take (i := 14) (v := ?_) rfl (by kernel_rfl) (by kernel_rfl) (by kernel_rfl) (fun _ _ _ h => h) (Or.inl ⟨by rfl, ?q14⟩) HS.out ?_
  case q14 => intro w hSw; go_simp; rfl
  simp only [Act.put, List.getElem_toArray, List.getElem_cons_zero, List.getElem_cons_succ, List.setIfInBounds_toArray, List.set_cons_zero, List.set_cons_succ]
  refine wpAnyH_take (i := 15) (v := .pointer (some ⟨b, 0, none⟩)) rfl (by kernel_rfl) (by kernel_rfl) (by kernel_rfl) (fun _ _ _ h => h) (Or.inl ⟨by rfl, ?q15⟩) HS.out ?_
  case q15 => intro w hSw; go_simp
  simp only [Act.put, List.getElem_toArray, List.getElem_cons_zero, List.getElem_cons_succ, List.setIfInBounds_toArray, List.set_cons_zero, List.set_cons_succ]
  refine wpAnyH_take (i := 16) (v := .pointer (some ⟨b, 2, none⟩)) rfl (by kernel_rfl) (by kernel_rfl) (by kernel_rfl) (fun _ _ _ h => h) (Or.inl ⟨by rfl, ?q16⟩) HS.out ?_
  case q16 => intro w hSw; go_simp
  simp only [Act.put, List.getElem_toArray, List.getElem_cons_zero, List.getElem_cons_succ, List.setIfInBounds_toArray, List.set_cons_zero, List.set_cons_succ]
  refine wpAnyH_take (i := 19) (v := ?_) rfl (by kernel_rfl) (by kernel_rfl) (by kernel_rfl) (fun _ _ _ h => h) (Or.inl ⟨by rfl, ?q19⟩) HS.out ?_
  case q19 => intro w hSw; go_simp; rfl
  simp only [Act.put, List.getElem_toArray, List.getElem_cons_zero, List.getElem_cons_succ, List.setIfInBounds_toArray, List.set_cons_zero, List.set_cons_succ]
  refine wpAnyH_take (i := 20) (v := ?_) rfl (by kernel_rfl) (by kernel_rfl) (by kernel_rfl) (fun _ _ _ h => h) (Or.inl ⟨by rfl, ?q20⟩) HS.out ?_
  case q20 => intro w hSw; go_simp; rfl
  simp only [Act.put, List.getElem_toArray, List.getElem_cons_zero, List.getElem_cons_succ, List.setIfInBounds_toArray, List.set_cons_zero, List.set_cons_succ]
  refine wpAnyH_take (i := 21) (v := .pointer (some ⟨b, 0, none⟩)) rfl (by kernel_rfl) (by kernel_rfl) (by kernel_rfl) (fun _ _ _ h => h) (Or.inl ⟨by rfl, ?q21⟩) HS.out ?_
  case q21 => intro w hSw; go_simp
  simp only [Act.put, List.getElem_toArray, List.getElem_cons_zero, List.getElem_cons_succ, List.setIfInBounds_toArray, List.set_cons_zero, List.set_cons_succ]
  refine wpAnyH_take (i := 22) (v := .pointer (some ⟨b, 36, none⟩)) rfl (by kernel_rfl) (by kernel_rfl) (by kernel_rfl) (fun _ _ _ h => h) (Or.inl ⟨by rfl, ?q22⟩) HS.out ?_
  case q22 => intro w hSw; go_simp
  simp only [Act.put, List.getElem_toArray, List.getElem_cons_zero, List.getElem_cons_succ, List.setIfInBounds_toArray, List.set_cons_zero, List.set_cons_succ]
  refine wpAnyH_take (i := 25) (v := ?_) rfl (by kernel_rfl) (by kernel_rfl) (by kernel_rfl) (fun _ _ _ h => h) (Or.inl ⟨by rfl, ?q25⟩) HS.out ?_
  case q25 => intro w hSw; go_simp; rfl
  simp only [Act.put, List.getElem_toArray, List.getElem_cons_zero, List.getElem_cons_succ, List.setIfInBounds_toArray, List.set_cons_zero, List.set_cons_succ]
  refine wpAnyH_take (i := 26) (v := ?_) rfl (by kernel_rfl) (by kernel_rfl) (by kernel_rfl) (fun _ _ _ h => h) (Or.inl ⟨by rfl, ?q26⟩) HS.out ?_
  case q26 => intro w hSw; go_simp; rfl
  simp only [Act.put, List.getElem_toArray, List.getElem_cons_zero, List.getElem_cons_succ, List.setIfInBounds_toArray, List.set_cons_zero, List.set_cons_succ]
  refine wpAnyH_take (i := 27) (v := .pointer (some ⟨b, 0, none⟩)) rfl (by kernel_rfl) (by kernel_rfl) (by kernel_rfl) (fun _ _ _ h => h) (Or.inl ⟨by rfl, ?q27⟩) HS.out ?_
  case q27 => intro w hSw; go_simp
  simp only [Act.put, List.getElem_toArray, List.getElem_cons_zero, List.getElem_cons_succ, List.setIfInBounds_toArray, List.set_cons_zero, List.set_cons_succ]
  refine wpAnyH_take (i := 28) (v := .pointer (some ⟨b, 4, none⟩)) rfl (by kernel_rfl) (by kernel_rfl) (by kernel_rfl) (fun _ _ _ h => h) (Or.inl ⟨by rfl, ?q28⟩) HS.out ?_
  case q28 => intro w hSw; go_simp
  simp only [Act.put, List.getElem_toArray, List.getElem_cons_zero, List.getElem_cons_succ, List.setIfInBounds_toArray, List.set_cons_zero, List.set_cons_succ]
  refine wpAnyH_take (i := 31) (v := ?_) rfl (by kernel_rfl) (by kernel_rfl) (by kernel_rfl) (fun _ _ _ h => h) (Or.inl ⟨by rfl, ?q31⟩) HS.out ?_
  case q31 => intro w hSw; go_simp; rfl
  simp only [Act.put, List.getElem_toArray, List.getElem_cons_zero, List.getElem_cons_succ, List.setIfInBounds_toArray, List.set_cons_zero, List.set_cons_succ]
  refine wpAnyH_take (i := 32) (v := ?_) rfl (by kernel_rfl) (by kernel_rfl) (by kernel_rfl) (fun _ _ _ h => h) (Or.inl ⟨by rfl, ?q32⟩) HS.out ?_
  case q32 => intro w hSw; go_simp; rfl
  simp only [Act.put, List.getElem_toArray, List.getElem_cons_zero, List.getElem_cons_succ, List.setIfInBounds_toArray, List.set_cons_zero, List.set_cons_succ]
  refine wpAnyH_take (i := 33) (v := .pointer (some ⟨b, 0, none⟩)) rfl (by kernel_rfl) (by kernel_rfl) (by kernel_rfl) (fun _ _ _ h => h) (Or.inl ⟨by rfl, ?q33⟩) HS.out ?_
  case q33 => intro w hSw; go_simp
  simp only [Act.put, List.getElem_toArray, List.getElem_cons_zero, List.getElem_cons_succ, List.setIfInBounds_toArray, List.set_cons_zero, List.set_cons_succ]
  refine wpAnyH_take (i := 34) (v := .pointer (some ⟨b, 3, none⟩)) rfl (by kernel_rfl) (by kernel_rfl) (by kernel_rfl) (fun _ _ _ h => h) (Or.inl ⟨by rfl, ?q34⟩) HS.out ?_
  case q34 => intro w hSw; go_simp
  simp only [Act.put, List.getElem_toArray, List.getElem_cons_zero, List.getElem_cons_succ, List.setIfInBounds_toArray, List.set_cons_zero, List.set_cons_succ]
  refine held_true _ _ _ _ ?_
  refine wpAny_inv (low_of (by kernel_rfl)) (fun L a w => ∃ M bx, LI wz b L a w M bx) ?step ?fin 15 _ _ _ rfl (by kernel_rfl) ⟨0, fun _ => 0, ?start⟩
  case start =>
    refine ⟨rfl, by decide, by decide, by decide, fun h => absurd h (by decide), fun j hj h => ?_, ((Below.refl _ _).drew : Below wz.heap.size wz wz.drew)⟩
    exfalso
    match j, hj with
    | 0, _ => exact absurd h (by decide)
    | 1, _ => exact absurd h (by decide)
    | 2, _ => exact absurd h (by decide)
    | 3, _ => exact absurd h (by decide)
    | 4, _ => exact absurd h (by decide)
    | 5, _ => exact absurd h (by decide)
    | j + 6, hj => omega
  case fin =>
    intro L a w hs hall hI
    obtain ⟨M, bx, hI⟩ := hI
    have hA := hI.act
    have HI := hid hI
    have HALL : Hid (∀ i, i < 39 → Lb L i = true) := hid fun i hi => Lb_of (hall i hi)
    have b38 := HALL.out 38 (by omega)
    rw [hA]
    unfold actL
    clear hA hI hall hs
    have b0 := HALL.out 0 (by omega)
    have b5 := HALL.out 5 (by omega)
    have b11 := HALL.out 11 (by omega)
    have b17 := HALL.out 17 (by omega)
    have b23 := HALL.out 23 (by omega)
    have b29 := HALL.out 29 (by omega)
    have b35 := HALL.out 35 (by omega)
    have b37 := HALL.out 37 (by omega)
    simp only [b0, b5, b11, b17, b23, b29, b35, b37, b38, if_true]
    go_wp2
    go_ret
    exact ⟨L, _, M, bx, HI.out, HALL.out, rfl⟩
  case step =>
    intro L i o a w K ho hs hL hd hI hK
    obtain ⟨M, bx, hI⟩ := hI
    have hs39 : L.size = 39 := hs
    have hlt : i < 39 := by have := (Array.getElem?_eq_some_iff.1 hL).1; omega
    have hLi := Lb_of hL
    have hnp : i ∉ [1, 2, 3, 4, 7, 8, 9, 10, 13, 14, 15, 16, 19, 20, 21, 22, 25, 26, 27, 28, 31, 32, 33, 34] := fun h => by rw [hI.pure i h] at hLi; cases hLi
    have ht := todo_of i hlt hnp
    have HK := hid hK
    have HI := hid hI
    have HD := hid hd
    have hset : ∀ k, Lb (L.setIfInBounds i true) k = if k = i then true else Lb L k := Lb_set (by omega)
    have HSET := hid hset
    have hpu := pure_set (show i < L.size by omega) hI.pure
    have HPU := hid hpu
    clear hK hs hlt hnp hd hset hpu
    simp only [List.mem_cons, List.not_mem_nil, or_false] at ht
    have hA := hI.act
    clear hI
    rcases ht with rfl | rfl | rfl | rfl | rfl | rfl | rfl | rfl | rfl | rfl | rfl | rfl | rfl | rfl | rfl
    · obtain rfl := Option.some.inj ho
      subst hA
      have hm := run_mkm w
      have b37 : Lb L 37 = false := by cases h : Lb L 37 with | false => rfl | true => rw [HI.out.dep2.1 h] at hLi; cases hLi
      have b38 : Lb L 38 = false := by cases h : Lb L 38 with | false => rfl | true => rw [HI.out.dep2.2 h] at b37; cases b37
      have hdj : ∀ j, j < 6 → Lb L (6 + 6 * j) = false := fun j hj => by cases h : Lb L (6 + 6 * j) with | false => rfl | true => rw [(HI.out.dep j hj h).1] at hLi; cases hLi
      have HDJ := hid hdj
      clear hdj
      unfold actL
      go_simp
      refine HK.out _ _ ⟨w.heap.size, bx, ⟨?_, HPU.out, fun j hj h => ?_, ?_, fun _ => ⟨HI.out.bel.size, ?_⟩, fun j hj h => ?_, HI.out.bel.alloc HI.out.bel.size _⟩⟩
      · unfold actL; simp [HSET.out, b37, b38]
      · rw [HSET.out, if_neg (by omega), HDJ.out j hj] at h; cases h
      · simp [HSET.out, b37, b38]
      · have e0 := HDJ.out 0 (by omega); have e1 := HDJ.out 1 (by omega); have e2 := HDJ.out 2 (by omega); have e3 := HDJ.out 3 (by omega); have e4 := HDJ.out 4 (by omega); have e5 := HDJ.out 5 (by omega)
        simp only [Nat.mul_zero, Nat.add_zero, Nat.reduceMul, Nat.reduceAdd] at e0 e1 e2 e3 e4 e5
        refine ⟨#[], 0, heap_alloc_new w _, ⟨(fun e he => by simp at he), fun s v hv => ?_⟩, ?_⟩
        · unfold kmL at hv; simp [HSET.out, e0, e1, e2, e3, e4, e5] at hv
        · unfold cntL; simp [HSET.out, e0, e1, e2, e3, e4, e5]
      · rw [HSET.out, if_neg (by omega)] at h
        obtain ⟨q1, q2⟩ := HI.out.box j hj h
        exact ⟨q1, (heap_alloc_old w _ (Array.getElem?_eq_some_iff.1 q2).1).trans q2⟩
    · obtain rfl := Option.some.inj ho
      subst hA
      have hdj : Lb L 6 = false := by cases h : Lb L 6 with | false => rfl | true => (have := (HI.out.dep 0 (by omega) h).2; rw [show Lb L (5 + 6 * 0) = Lb L 5 from rfl, hLi] at this; cases this)
      unfold actL fnN fnD
      go_simp
      refine (CN.out w 0).mono ?_
      rintro e w1 ⟨rfl, rfl⟩
      simp only []
      refine HK.out _ _ ⟨M, fun x => if x = 0 then w.heap.size else bx x, ⟨?_, HPU.out, fun j hj h => ?_, ?_, fun h => ?_, fun j hj h => ?_, HI.out.bel.alloc HI.out.bel.size _⟩⟩
      · unfold actL fnN fnD; simp [HSET.out]
      · rw [HSET.out, if_neg (by omega)] at h
        have := HI.out.dep j hj h
        rw [HSET.out, HSET.out]
        simp [this.1, this.2]
      · have := HI.out.dep2
        simp only [HSET.out]
        simpa using this
      · rw [HSET.out, if_neg (by omega)] at h
        obtain ⟨q1, q2⟩ := HI.out.map h
        refine ⟨q1, ?_⟩
        have e1 : kmL (L.setIfInBounds 5 true) (fun x => if x = 0 then w.heap.size else bx x) = kmL L bx := by unfold kmL; simp [HSET.out, hdj]
        have e2 : cntL (L.setIfInBounds 5 true) = cntL L := by unfold cntL; simp [HSET.out]
        rw [e1, e2]
        exact q2.below ((Below.refl _ w).alloc (Nat.le_refl _) _)
      · by_cases hj2 : j = 0
        · subst hj2
          refine ⟨?_, ?_⟩
          · simp; exact HI.out.bel.size
          · simp only [if_true]; exact heap_alloc_new w _
        · rw [HSET.out, if_neg (by omega)] at h
          obtain ⟨q1, q2⟩ := HI.out.box j hj h
          simp only [if_neg hj2]
          exact ⟨q1, (heap_alloc_old w _ (Array.getElem?_eq_some_iff.1 q2).1).trans q2⟩
    · obtain rfl := Option.some.inj ho
      subst hA
      have h0 : Lb L 0 = true := Lb_of (HD.out ⟨0, .data⟩ (by simp) rfl)
      have h5 : Lb L 5 = true := Lb_of (HD.out ⟨5, .data⟩ (by simp) rfl)
      obtain ⟨q1, q2⟩ := HI.out.map h0
      obtain ⟨n1, n2, n3, n4, n5, n6, n7, n8, n9, n10, n11, n12, n13, n14, n15⟩ := nm_ne
      have hn : kmL L bx nmK = none := by unfold kmL; simp [hLi, n1, n2, n3, n4, n5, n6, n7, n8, n9, n10, n11, n12, n13, n14, n15, n1.symm, n2.symm, n3.symm, n4.symm, n5.symm, n6.symm, n7.symm, n8.symm, n9.symm, n10.symm, n11.symm, n12.symm, n13.symm, n14.symm, n15.symm]
      obtain ⟨w', hr, hm, hgr, hz⟩ := run_insm q2 (v := cloN (bx 0)) hn
      have hr2 : ∀ x, x = nmK → (Instr.mapUpdate 77 (.map (some M)) (.string x) (cloN (bx 0))).run Tryd.prog w = .ok () w' := fun x hx => by rw [hx]; exact hr
      have hr3 := hr2 _ (show (⟨#[107]⟩ : ByteArray) = nmK from rfl)
      have e5 : ∀ k, k < 6 → Lb L (5 + 6 * k) = true → bx k ≠ M := fun k hk hb e => by
        obtain ⟨_, r2⟩ := HI.out.box k hk hb
        obtain ⟨es, c, r3, _⟩ := q2
        rw [e, r3] at r2
        cases r2
      have HE5 := hid e5
      have HGR := hid hgr
      have HM := hid hm
      clear hr hr2 hm hgr e5 hn q2
      unfold actL
      go_simp
      refine HK.out _ _ ⟨M, bx, ⟨?_, HPU.out, fun j hj h => ?_, ?_, fun h => ⟨q1, ?_⟩, fun j hj h => ?_, ?_⟩⟩
      · unfold actL; simp [HSET.out, h0, h5]
      · by_cases hj2 : j = 0
        · subst hj2
          simp [HSET.out, h0, h5]
        · rw [HSET.out, if_neg (by omega)] at h
          have := HI.out.dep j hj h
          rw [HSET.out, HSET.out]
          simp [this.1, this.2]
      · have := HI.out.dep2
        simp only [HSET.out]
        simpa using this
      · have e1 : kmL (L.setIfInBounds 6 true) bx = kset (kmL L bx) nmK (cloN (bx 0)) := by
          funext s
          unfold kmL kset
          by_cases hs : s = nmK
          · subst hs
            simp [HSET.out, n1, n2, n3, n4, n5, n6, n7, n8, n9, n10, n11, n12, n13, n14, n15, n1.symm, n2.symm, n3.symm, n4.symm, n5.symm, n6.symm, n7.symm, n8.symm, n9.symm, n10.symm, n11.symm, n12.symm, n13.symm, n14.symm, n15.symm]
          · simp [HSET.out, hs]
        have e2 : cntL (L.setIfInBounds 6 true) = cntL L + 1 := by unfold cntL; simp [HSET.out, hLi] <;> omega
        rw [e1, e2]
        exact HM.out
      · rw [HSET.out, if_neg (by omega)] at h
        obtain ⟨r1, r2⟩ := HI.out.box j hj h
        exact ⟨r1, (HGR.out.block _ (Array.getElem?_eq_some_iff.1 r2).1 (fun e => HE5.out j hj h (Option.some.inj e))).trans r2⟩
      · exact HI.out.bel.grown HGR.out HI.out.bel.size (fun k e => by injection e with e; omega)
    · obtain rfl := Option.some.inj ho
      subst hA
      have hdj : Lb L 12 = false := by cases h : Lb L 12 with | false => rfl | true => (have := (HI.out.dep 1 (by omega) h).2; rw [show Lb L (5 + 6 * 1) = Lb L 11 from rfl, hLi] at this; cases this)
      unfold actL fnN fnD
      go_simp
      refine (CN.out w 1).mono ?_
      rintro e w1 ⟨rfl, rfl⟩
      simp only []
      refine HK.out _ _ ⟨M, fun x => if x = 1 then w.heap.size else bx x, ⟨?_, HPU.out, fun j hj h => ?_, ?_, fun h => ?_, fun j hj h => ?_, HI.out.bel.alloc HI.out.bel.size _⟩⟩
      · unfold actL fnN fnD; simp [HSET.out]
      · rw [HSET.out, if_neg (by omega)] at h
        have := HI.out.dep j hj h
        rw [HSET.out, HSET.out]
        simp [this.1, this.2]
      · have := HI.out.dep2
        simp only [HSET.out]
        simpa using this
      · rw [HSET.out, if_neg (by omega)] at h
        obtain ⟨q1, q2⟩ := HI.out.map h
        refine ⟨q1, ?_⟩
        have e1 : kmL (L.setIfInBounds 11 true) (fun x => if x = 1 then w.heap.size else bx x) = kmL L bx := by unfold kmL; simp [HSET.out, hdj]
        have e2 : cntL (L.setIfInBounds 11 true) = cntL L := by unfold cntL; simp [HSET.out]
        rw [e1, e2]
        exact q2.below ((Below.refl _ w).alloc (Nat.le_refl _) _)
      · by_cases hj2 : j = 1
        · subst hj2
          refine ⟨?_, ?_⟩
          · simp; exact HI.out.bel.size
          · simp only [if_true]; exact heap_alloc_new w _
        · rw [HSET.out, if_neg (by omega)] at h
          obtain ⟨q1, q2⟩ := HI.out.box j hj h
          simp only [if_neg hj2]
          exact ⟨q1, (heap_alloc_old w _ (Array.getElem?_eq_some_iff.1 q2).1).trans q2⟩
    · obtain rfl := Option.some.inj ho
      subst hA
      have h0 : Lb L 0 = true := Lb_of (HD.out ⟨0, .data⟩ (by simp) rfl)
      have h5 : Lb L 11 = true := Lb_of (HD.out ⟨11, .data⟩ (by simp) rfl)
      obtain ⟨q1, q2⟩ := HI.out.map h0
      obtain ⟨n1, n2, n3, n4, n5, n6, n7, n8, n9, n10, n11, n12, n13, n14, n15⟩ := nm_ne
      have hn : kmL L bx nmN = none := by unfold kmL; simp [hLi, n1, n2, n3, n4, n5, n6, n7, n8, n9, n10, n11, n12, n13, n14, n15, n1.symm, n2.symm, n3.symm, n4.symm, n5.symm, n6.symm, n7.symm, n8.symm, n9.symm, n10.symm, n11.symm, n12.symm, n13.symm, n14.symm, n15.symm]
      obtain ⟨w', hr, hm, hgr, hz⟩ := run_insm q2 (v := cloN (bx 1)) hn
      have hr2 : ∀ x, x = nmN → (Instr.mapUpdate 77 (.map (some M)) (.string x) (cloN (bx 1))).run Tryd.prog w = .ok () w' := fun x hx => by rw [hx]; exact hr
      have hr3 := hr2 _ (show (⟨#[110]⟩ : ByteArray) = nmN from rfl)
      have e5 : ∀ k, k < 6 → Lb L (5 + 6 * k) = true → bx k ≠ M := fun k hk hb e => by
        obtain ⟨_, r2⟩ := HI.out.box k hk hb
        obtain ⟨es, c, r3, _⟩ := q2
        rw [e, r3] at r2
        cases r2
      have HE5 := hid e5
      have HGR := hid hgr
      have HM := hid hm
      clear hr hr2 hm hgr e5 hn q2
      unfold actL
      go_simp
      refine HK.out _ _ ⟨M, bx, ⟨?_, HPU.out, fun j hj h => ?_, ?_, fun h => ⟨q1, ?_⟩, fun j hj h => ?_, ?_⟩⟩
      · unfold actL; simp [HSET.out, h0, h5]
      · by_cases hj2 : j = 1
        · subst hj2
          simp [HSET.out, h0, h5]
        · rw [HSET.out, if_neg (by omega)] at h
          have := HI.out.dep j hj h
          rw [HSET.out, HSET.out]
          simp [this.1, this.2]
      · have := HI.out.dep2
        simp only [HSET.out]
        simpa using this
      · have e1 : kmL (L.setIfInBounds 12 true) bx = kset (kmL L bx) nmN (cloN (bx 1)) := by
          funext s
          unfold kmL kset
          by_cases hs : s = nmN
          · subst hs
            simp [HSET.out, n1, n2, n3, n4, n5, n6, n7, n8, n9, n10, n11, n12, n13, n14, n15, n1.symm, n2.symm, n3.symm, n4.symm, n5.symm, n6.symm, n7.symm, n8.symm, n9.symm, n10.symm, n11.symm, n12.symm, n13.symm, n14.symm, n15.symm]
          · simp [HSET.out, hs]
        have e2 : cntL (L.setIfInBounds 12 true) = cntL L + 1 := by unfold cntL; simp [HSET.out, hLi] <;> omega
        rw [e1, e2]
        exact HM.out
      · rw [HSET.out, if_neg (by omega)] at h
        obtain ⟨r1, r2⟩ := HI.out.box j hj h
        exact ⟨r1, (HGR.out.block _ (Array.getElem?_eq_some_iff.1 r2).1 (fun e => HE5.out j hj h (Option.some.inj e))).trans r2⟩
      · exact HI.out.bel.grown HGR.out HI.out.bel.size (fun k e => by injection e with e; omega)
    · obtain rfl := Option.some.inj ho
      subst hA
      have hdj : Lb L 18 = false := by cases h : Lb L 18 with | false => rfl | true => (have := (HI.out.dep 2 (by omega) h).2; rw [show Lb L (5 + 6 * 2) = Lb L 17 from rfl, hLi] at this; cases this)
      unfold actL fnN fnD
      go_simp
      refine (CN.out w 2).mono ?_
      rintro e w1 ⟨rfl, rfl⟩
      simp only []
      refine HK.out _ _ ⟨M, fun x => if x = 2 then w.heap.size else bx x, ⟨?_, HPU.out, fun j hj h => ?_, ?_, fun h => ?_, fun j hj h => ?_, HI.out.bel.alloc HI.out.bel.size _⟩⟩
      · unfold actL fnN fnD; simp [HSET.out]
      · rw [HSET.out, if_neg (by omega)] at h
        have := HI.out.dep j hj h
        rw [HSET.out, HSET.out]
        simp [this.1, this.2]
      · have := HI.out.dep2
        simp only [HSET.out]
        simpa using this
      · rw [HSET.out, if_neg (by omega)] at h
        obtain ⟨q1, q2⟩ := HI.out.map h
        refine ⟨q1, ?_⟩
        have e1 : kmL (L.setIfInBounds 17 true) (fun x => if x = 2 then w.heap.size else bx x) = kmL L bx := by unfold kmL; simp [HSET.out, hdj]
        have e2 : cntL (L.setIfInBounds 17 true) = cntL L := by unfold cntL; simp [HSET.out]
        rw [e1, e2]
        exact q2.below ((Below.refl _ w).alloc (Nat.le_refl _) _)
      · by_cases hj2 : j = 2
        · subst hj2
          refine ⟨?_, ?_⟩
          · simp; exact HI.out.bel.size
          · simp only [if_true]; exact heap_alloc_new w _
        · rw [HSET.out, if_neg (by omega)] at h
          obtain ⟨q1, q2⟩ := HI.out.box j hj h
          simp only [if_neg hj2]
          exact ⟨q1, (heap_alloc_old w _ (Array.getElem?_eq_some_iff.1 q2).1).trans q2⟩
    · obtain rfl := Option.some.inj ho
      subst hA
      have h0 : Lb L 0 = true := Lb_of (HD.out ⟨0, .data⟩ (by simp) rfl)
      have h5 : Lb L 17 = true := Lb_of (HD.out ⟨17, .data⟩ (by simp) rfl)
      obtain ⟨q1, q2⟩ := HI.out.map h0
      obtain ⟨n1, n2, n3, n4, n5, n6, n7, n8, n9, n10, n11, n12, n13, n14, n15⟩ := nm_ne
      have hn : kmL L bx nmSeg = none := by unfold kmL; simp [hLi, n1, n2, n3, n4, n5, n6, n7, n8, n9, n10, n11, n12, n13, n14, n15, n1.symm, n2.symm, n3.symm, n4.symm, n5.symm, n6.symm, n7.symm, n8.symm, n9.symm, n10.symm, n11.symm, n12.symm, n13.symm, n14.symm, n15.symm]
      obtain ⟨w', hr, hm, hgr, hz⟩ := run_insm q2 (v := cloN (bx 2)) hn
      have hr2 : ∀ x, x = nmSeg → (Instr.mapUpdate 77 (.map (some M)) (.string x) (cloN (bx 2))).run Tryd.prog w = .ok () w' := fun x hx => by rw [hx]; exact hr
      have hr3 := hr2 _ (show (⟨#[115, 101, 103]⟩ : ByteArray) = nmSeg from rfl)
      have e5 : ∀ k, k < 6 → Lb L (5 + 6 * k) = true → bx k ≠ M := fun k hk hb e => by
        obtain ⟨_, r2⟩ := HI.out.box k hk hb
        obtain ⟨es, c, r3, _⟩ := q2
        rw [e, r3] at r2
        cases r2
      have HE5 := hid e5
      have HGR := hid hgr
      have HM := hid hm
      clear hr hr2 hm hgr e5 hn q2
      unfold actL
      go_simp
      refine HK.out _ _ ⟨M, bx, ⟨?_, HPU.out, fun j hj h => ?_, ?_, fun h => ⟨q1, ?_⟩, fun j hj h => ?_, ?_⟩⟩
      · unfold actL; simp [HSET.out, h0, h5]
      · by_cases hj2 : j = 2
        · subst hj2
          simp [HSET.out, h0, h5]
        · rw [HSET.out, if_neg (by omega)] at h
          have := HI.out.dep j hj h
          rw [HSET.out, HSET.out]
          simp [this.1, this.2]
      · have := HI.out.dep2
        simp only [HSET.out]
        simpa using this
      · have e1 : kmL (L.setIfInBounds 18 true) bx = kset (kmL L bx) nmSeg (cloN (bx 2)) := by
          funext s
          unfold kmL kset
          by_cases hs : s = nmSeg
          · subst hs
            simp [HSET.out, n1, n2, n3, n4, n5, n6, n7, n8, n9, n10, n11, n12, n13, n14, n15, n1.symm, n2.symm, n3.symm, n4.symm, n5.symm, n6.symm, n7.symm, n8.symm, n9.symm, n10.symm, n11.symm, n12.symm, n13.symm, n14.symm, n15.symm]
          · simp [HSET.out, hs]
        have e2 : cntL (L.setIfInBounds 18 true) = cntL L + 1 := by unfold cntL; simp [HSET.out, hLi] <;> omega
        rw [e1, e2]
        exact HM.out
      · rw [HSET.out, if_neg (by omega)] at h
        obtain ⟨r1, r2⟩ := HI.out.box j hj h
        exact ⟨r1, (HGR.out.block _ (Array.getElem?_eq_some_iff.1 r2).1 (fun e => HE5.out j hj h (Option.some.inj e))).trans r2⟩
      · exact HI.out.bel.grown HGR.out HI.out.bel.size (fun k e => by injection e with e; omega)
    · obtain rfl := Option.some.inj ho
      subst hA
      have hdj : Lb L 24 = false := by cases h : Lb L 24 with | false => rfl | true => (have := (HI.out.dep 3 (by omega) h).2; rw [show Lb L (5 + 6 * 3) = Lb L 23 from rfl, hLi] at this; cases this)
      unfold actL fnN fnD
      go_simp
      refine (CD.out w 36).mono ?_
      rintro e w1 ⟨rfl, rfl⟩
      simp only []
      refine HK.out _ _ ⟨M, fun x => if x = 3 then w.heap.size else bx x, ⟨?_, HPU.out, fun j hj h => ?_, ?_, fun h => ?_, fun j hj h => ?_, HI.out.bel.alloc HI.out.bel.size _⟩⟩
      · unfold actL fnN fnD; simp [HSET.out]
      · rw [HSET.out, if_neg (by omega)] at h
        have := HI.out.dep j hj h
        rw [HSET.out, HSET.out]
        simp [this.1, this.2]
      · have := HI.out.dep2
        simp only [HSET.out]
        simpa using this
      · rw [HSET.out, if_neg (by omega)] at h
        obtain ⟨q1, q2⟩ := HI.out.map h
        refine ⟨q1, ?_⟩
        have e1 : kmL (L.setIfInBounds 23 true) (fun x => if x = 3 then w.heap.size else bx x) = kmL L bx := by unfold kmL; simp [HSET.out, hdj]
        have e2 : cntL (L.setIfInBounds 23 true) = cntL L := by unfold cntL; simp [HSET.out]
        rw [e1, e2]
        exact q2.below ((Below.refl _ w).alloc (Nat.le_refl _) _)
      · by_cases hj2 : j = 3
        · subst hj2
          refine ⟨?_, ?_⟩
          · simp; exact HI.out.bel.size
          · simp only [if_true]; exact heap_alloc_new w _
        · rw [HSET.out, if_neg (by omega)] at h
          obtain ⟨q1, q2⟩ := HI.out.box j hj h
          simp only [if_neg hj2]
          exact ⟨q1, (heap_alloc_old w _ (Array.getElem?_eq_some_iff.1 q2).1).trans q2⟩
    · obtain rfl := Option.some.inj ho
      subst hA
      have h0 : Lb L 0 = true := Lb_of (HD.out ⟨0, .data⟩ (by simp) rfl)
      have h5 : Lb L 23 = true := Lb_of (HD.out ⟨23, .data⟩ (by simp) rfl)
      obtain ⟨q1, q2⟩ := HI.out.map h0
      obtain ⟨n1, n2, n3, n4, n5, n6, n7, n8, n9, n10, n11, n12, n13, n14, n15⟩ := nm_ne
      have hn : kmL L bx nmSegs = none := by unfold kmL; simp [hLi, n1, n2, n3, n4, n5, n6, n7, n8, n9, n10, n11, n12, n13, n14, n15, n1.symm, n2.symm, n3.symm, n4.symm, n5.symm, n6.symm, n7.symm, n8.symm, n9.symm, n10.symm, n11.symm, n12.symm, n13.symm, n14.symm, n15.symm]
      obtain ⟨w', hr, hm, hgr, hz⟩ := run_insm q2 (v := cloD (bx 3)) hn
      have hr2 : ∀ x, x = nmSegs → (Instr.mapUpdate 77 (.map (some M)) (.string x) (cloD (bx 3))).run Tryd.prog w = .ok () w' := fun x hx => by rw [hx]; exact hr
      have hr3 := hr2 _ (show (⟨#[115, 101, 103, 109, 101, 110, 116, 115]⟩ : ByteArray) = nmSegs from rfl)
      have e5 : ∀ k, k < 6 → Lb L (5 + 6 * k) = true → bx k ≠ M := fun k hk hb e => by
        obtain ⟨_, r2⟩ := HI.out.box k hk hb
        obtain ⟨es, c, r3, _⟩ := q2
        rw [e, r3] at r2
        cases r2
      have HE5 := hid e5
      have HGR := hid hgr
      have HM := hid hm
      clear hr hr2 hm hgr e5 hn q2
      unfold actL
      go_simp
      refine HK.out _ _ ⟨M, bx, ⟨?_, HPU.out, fun j hj h => ?_, ?_, fun h => ⟨q1, ?_⟩, fun j hj h => ?_, ?_⟩⟩
      · unfold actL; simp [HSET.out, h0, h5]
      · by_cases hj2 : j = 3
        · subst hj2
          simp [HSET.out, h0, h5]
        · rw [HSET.out, if_neg (by omega)] at h
          have := HI.out.dep j hj h
          rw [HSET.out, HSET.out]
          simp [this.1, this.2]
      · have := HI.out.dep2
        simp only [HSET.out]
        simpa using this
      · have e1 : kmL (L.setIfInBounds 24 true) bx = kset (kmL L bx) nmSegs (cloD (bx 3)) := by
          funext s
          unfold kmL kset
          by_cases hs : s = nmSegs
          · subst hs
            simp [HSET.out, n1, n2, n3, n4, n5, n6, n7, n8, n9, n10, n11, n12, n13, n14, n15, n1.symm, n2.symm, n3.symm, n4.symm, n5.symm, n6.symm, n7.symm, n8.symm, n9.symm, n10.symm, n11.symm, n12.symm, n13.symm, n14.symm, n15.symm]
          · simp [HSET.out, hs]
        have e2 : cntL (L.setIfInBounds 24 true) = cntL L + 1 := by unfold cntL; simp [HSET.out, hLi] <;> omega
        rw [e1, e2]
        exact HM.out
      · rw [HSET.out, if_neg (by omega)] at h
        obtain ⟨r1, r2⟩ := HI.out.box j hj h
        exact ⟨r1, (HGR.out.block _ (Array.getElem?_eq_some_iff.1 r2).1 (fun e => HE5.out j hj h (Option.some.inj e))).trans r2⟩
      · exact HI.out.bel.grown HGR.out HI.out.bel.size (fun k e => by injection e with e; omega)
    · obtain rfl := Option.some.inj ho
      subst hA
      have hdj : Lb L 30 = false := by cases h : Lb L 30 with | false => rfl | true => (have := (HI.out.dep 4 (by omega) h).2; rw [show Lb L (5 + 6 * 4) = Lb L 29 from rfl, hLi] at this; cases this)
      unfold actL fnN fnD
      go_simp
      refine (CD.out w 4).mono ?_
      rintro e w1 ⟨rfl, rfl⟩
      simp only []
      refine HK.out _ _ ⟨M, fun x => if x = 4 then w.heap.size else bx x, ⟨?_, HPU.out, fun j hj h => ?_, ?_, fun h => ?_, fun j hj h => ?_, HI.out.bel.alloc HI.out.bel.size _⟩⟩
      · unfold actL fnN fnD; simp [HSET.out]
      · rw [HSET.out, if_neg (by omega)] at h
        have := HI.out.dep j hj h
        rw [HSET.out, HSET.out]
        simp [this.1, this.2]
      · have := HI.out.dep2
        simp only [HSET.out]
        simpa using this
      · rw [HSET.out, if_neg (by omega)] at h
        obtain ⟨q1, q2⟩ := HI.out.map h
        refine ⟨q1, ?_⟩
        have e1 : kmL (L.setIfInBounds 29 true) (fun x => if x = 4 then w.heap.size else bx x) = kmL L bx := by unfold kmL; simp [HSET.out, hdj]
        have e2 : cntL (L.setIfInBounds 29 true) = cntL L := by unfold cntL; simp [HSET.out]
        rw [e1, e2]
        exact q2.below ((Below.refl _ w).alloc (Nat.le_refl _) _)
      · by_cases hj2 : j = 4
        · subst hj2
          refine ⟨?_, ?_⟩
          · simp; exact HI.out.bel.size
          · simp only [if_true]; exact heap_alloc_new w _
        · rw [HSET.out, if_neg (by omega)] at h
          obtain ⟨q1, q2⟩ := HI.out.box j hj h
          simp only [if_neg hj2]
          exact ⟨q1, (heap_alloc_old w _ (Array.getElem?_eq_some_iff.1 q2).1).trans q2⟩
    · obtain rfl := Option.some.inj ho
      subst hA
      have h0 : Lb L 0 = true := Lb_of (HD.out ⟨0, .data⟩ (by simp) rfl)
      have h5 : Lb L 29 = true := Lb_of (HD.out ⟨29, .data⟩ (by simp) rfl)
      obtain ⟨q1, q2⟩ := HI.out.map h0
      obtain ⟨n1, n2, n3, n4, n5, n6, n7, n8, n9, n10, n11, n12, n13, n14, n15⟩ := nm_ne
      have hn : kmL L bx nmShares = none := by unfold kmL; simp [hLi, n1, n2, n3, n4, n5, n6, n7, n8, n9, n10, n11, n12, n13, n14, n15, n1.symm, n2.symm, n3.symm, n4.symm, n5.symm, n6.symm, n7.symm, n8.symm, n9.symm, n10.symm, n11.symm, n12.symm, n13.symm, n14.symm, n15.symm]
      obtain ⟨w', hr, hm, hgr, hz⟩ := run_insm q2 (v := cloD (bx 4)) hn
      have hr2 : ∀ x, x = nmShares → (Instr.mapUpdate 77 (.map (some M)) (.string x) (cloD (bx 4))).run Tryd.prog w = .ok () w' := fun x hx => by rw [hx]; exact hr
      have hr3 := hr2 _ (show (⟨#[115, 104, 97, 114, 101, 115]⟩ : ByteArray) = nmShares from rfl)
      have e5 : ∀ k, k < 6 → Lb L (5 + 6 * k) = true → bx k ≠ M := fun k hk hb e => by
        obtain ⟨_, r2⟩ := HI.out.box k hk hb
        obtain ⟨es, c, r3, _⟩ := q2
        rw [e, r3] at r2
        cases r2
      have HE5 := hid e5
      have HGR := hid hgr
      have HM := hid hm
      clear hr hr2 hm hgr e5 hn q2
      unfold actL
      go_simp
      refine HK.out _ _ ⟨M, bx, ⟨?_, HPU.out, fun j hj h => ?_, ?_, fun h => ⟨q1, ?_⟩, fun j hj h => ?_, ?_⟩⟩
      · unfold actL; simp [HSET.out, h0, h5]
      · by_cases hj2 : j = 4
        · subst hj2
          simp [HSET.out, h0, h5]
        · rw [HSET.out, if_neg (by omega)] at h
          have := HI.out.dep j hj h
          rw [HSET.out, HSET.out]
          simp [this.1, this.2]
      · have := HI.out.dep2
        simp only [HSET.out]
        simpa using this
      · have e1 : kmL (L.setIfInBounds 30 true) bx = kset (kmL L bx) nmShares (cloD (bx 4)) := by
          funext s
          unfold kmL kset
          by_cases hs : s = nmShares
          · subst hs
            simp [HSET.out, n1, n2, n3, n4, n5, n6, n7, n8, n9, n10, n11, n12, n13, n14, n15, n1.symm, n2.symm, n3.symm, n4.symm, n5.symm, n6.symm, n7.symm, n8.symm, n9.symm, n10.symm, n11.symm, n12.symm, n13.symm, n14.symm, n15.symm]
          · simp [HSET.out, hs]
        have e2 : cntL (L.setIfInBounds 30 true) = cntL L + 1 := by unfold cntL; simp [HSET.out, hLi] <;> omega
        rw [e1, e2]
        exact HM.out
      · rw [HSET.out, if_neg (by omega)] at h
        obtain ⟨r1, r2⟩ := HI.out.box j hj h
        exact ⟨r1, (HGR.out.block _ (Array.getElem?_eq_some_iff.1 r2).1 (fun e => HE5.out j hj h (Option.some.inj e))).trans r2⟩
      · exact HI.out.bel.grown HGR.out HI.out.bel.size (fun k e => by injection e with e; omega)
    · obtain rfl := Option.some.inj ho
      subst hA
      have hdj : Lb L 36 = false := by cases h : Lb L 36 with | false => rfl | true => (have := (HI.out.dep 5 (by omega) h).2; rw [show Lb L (5 + 6 * 5) = Lb L 35 from rfl, hLi] at this; cases this)
      unfold actL fnN fnD
      go_simp
      refine (CN.out w 3).mono ?_
      rintro e w1 ⟨rfl, rfl⟩
      simp only []
      refine HK.out _ _ ⟨M, fun x => if x = 5 then w.heap.size else bx x, ⟨?_, HPU.out, fun j hj h => ?_, ?_, fun h => ?_, fun j hj h => ?_, HI.out.bel.alloc HI.out.bel.size _⟩⟩
      · unfold actL fnN fnD; simp [HSET.out]
      · rw [HSET.out, if_neg (by omega)] at h
        have := HI.out.dep j hj h
        rw [HSET.out, HSET.out]
        simp [this.1, this.2]
      · have := HI.out.dep2
        simp only [HSET.out]
        simpa using this
      · rw [HSET.out, if_neg (by omega)] at h
        obtain ⟨q1, q2⟩ := HI.out.map h
        refine ⟨q1, ?_⟩
        have e1 : kmL (L.setIfInBounds 35 true) (fun x => if x = 5 then w.heap.size else bx x) = kmL L bx := by unfold kmL; simp [HSET.out, hdj]
        have e2 : cntL (L.setIfInBounds 35 true) = cntL L := by unfold cntL; simp [HSET.out]
        rw [e1, e2]
        exact q2.below ((Below.refl _ w).alloc (Nat.le_refl _) _)
      · by_cases hj2 : j = 5
        · subst hj2
          refine ⟨?_, ?_⟩
          · simp; exact HI.out.bel.size
          · simp only [if_true]; exact heap_alloc_new w _
        · rw [HSET.out, if_neg (by omega)] at h
          obtain ⟨q1, q2⟩ := HI.out.box j hj h
          simp only [if_neg hj2]
          exact ⟨q1, (heap_alloc_old w _ (Array.getElem?_eq_some_iff.1 q2).1).trans q2⟩
    · obtain rfl := Option.some.inj ho
      subst hA
      have h0 : Lb L 0 = true := Lb_of (HD.out ⟨0, .data⟩ (by simp) rfl)
      have h5 : Lb L 35 = true := Lb_of (HD.out ⟨35, .data⟩ (by simp) rfl)
      obtain ⟨q1, q2⟩ := HI.out.map h0
      obtain ⟨n1, n2, n3, n4, n5, n6, n7, n8, n9, n10, n11, n12, n13, n14, n15⟩ := nm_ne
      have hn : kmL L bx nmSize = none := by unfold kmL; simp [hLi, n1, n2, n3, n4, n5, n6, n7, n8, n9, n10, n11, n12, n13, n14, n15, n1.symm, n2.symm, n3.symm, n4.symm, n5.symm, n6.symm, n7.symm, n8.symm, n9.symm, n10.symm, n11.symm, n12.symm, n13.symm, n14.symm, n15.symm]
      obtain ⟨w', hr, hm, hgr, hz⟩ := run_insm q2 (v := cloN (bx 5)) hn
      have hr2 : ∀ x, x = nmSize → (Instr.mapUpdate 77 (.map (some M)) (.string x) (cloN (bx 5))).run Tryd.prog w = .ok () w' := fun x hx => by rw [hx]; exact hr
      have hr3 := hr2 _ (show (⟨#[115, 105, 122, 101]⟩ : ByteArray) = nmSize from rfl)
      have e5 : ∀ k, k < 6 → Lb L (5 + 6 * k) = true → bx k ≠ M := fun k hk hb e => by
        obtain ⟨_, r2⟩ := HI.out.box k hk hb
        obtain ⟨es, c, r3, _⟩ := q2
        rw [e, r3] at r2
        cases r2
      have HE5 := hid e5
      have HGR := hid hgr
      have HM := hid hm
      clear hr hr2 hm hgr e5 hn q2
      unfold actL
      go_simp
      refine HK.out _ _ ⟨M, bx, ⟨?_, HPU.out, fun j hj h => ?_, ?_, fun h => ⟨q1, ?_⟩, fun j hj h => ?_, ?_⟩⟩
      · unfold actL; simp [HSET.out, h0, h5]
      · by_cases hj2 : j = 5
        · subst hj2
          simp [HSET.out, h0, h5]
        · rw [HSET.out, if_neg (by omega)] at h
          have := HI.out.dep j hj h
          rw [HSET.out, HSET.out]
          simp [this.1, this.2]
      · have := HI.out.dep2
        simp only [HSET.out]
        simpa using this
      · have e1 : kmL (L.setIfInBounds 36 true) bx = kset (kmL L bx) nmSize (cloN (bx 5)) := by
          funext s
          unfold kmL kset
          by_cases hs : s = nmSize
          · subst hs
            simp [HSET.out, n1, n2, n3, n4, n5, n6, n7, n8, n9, n10, n11, n12, n13, n14, n15, n1.symm, n2.symm, n3.symm, n4.symm, n5.symm, n6.symm, n7.symm, n8.symm, n9.symm, n10.symm, n11.symm, n12.symm, n13.symm, n14.symm, n15.symm]
          · simp [HSET.out, hs]
        have e2 : cntL (L.setIfInBounds 36 true) = cntL L + 1 := by unfold cntL; simp [HSET.out, hLi] <;> omega
        rw [e1, e2]
        exact HM.out
      · rw [HSET.out, if_neg (by omega)] at h
        obtain ⟨r1, r2⟩ := HI.out.box j hj h
        exact ⟨r1, (HGR.out.block _ (Array.getElem?_eq_some_iff.1 r2).1 (fun e => HE5.out j hj h (Option.some.inj e))).trans r2⟩
      · exact HI.out.bel.grown HGR.out HI.out.bel.size (fun k e => by injection e with e; omega)
    · obtain rfl := Option.some.inj ho
      subst hA
      have h0 : Lb L 0 = true := Lb_of (HD.out ⟨0, .data⟩ (by simp) rfl)
      unfold actL
      go_simp
      refine HK.out _ _ ⟨M, bx, ⟨?_, HPU.out, fun j hj h => ?_, ?_, fun h => ?_, fun j hj h => ?_, HI.out.bel⟩⟩
      · unfold actL; simp [HSET.out, h0]
      · rw [HSET.out, if_neg (by omega)] at h
        have := HI.out.dep j hj h
        rw [HSET.out, HSET.out]
        simp [this.1, this.2]
      · simp [HSET.out, h0]
      · rw [HSET.out, if_neg (by omega)] at h
        obtain ⟨q1, q2⟩ := HI.out.map h
        refine ⟨q1, ?_⟩
        have e1 : kmL (L.setIfInBounds 37 true) bx = kmL L bx := by unfold kmL; simp [HSET.out]
        have e2 : cntL (L.setIfInBounds 37 true) = cntL L := by unfold cntL; simp [HSET.out]
        rw [e1, e2]
        exact q2
      · rw [HSET.out, if_neg (by omega)] at h
        exact HI.out.box j hj h
    · obtain rfl := Option.some.inj ho
      subst hA
      have h0 : Lb L 37 = true := Lb_of (HD.out ⟨37, .data⟩ (by simp) rfl)
      unfold actL
      go_simp
      refine HK.out _ _ ⟨M, bx, ⟨?_, HPU.out, fun j hj h => ?_, ?_, fun h => ?_, fun j hj h => ?_, HI.out.bel⟩⟩
      · unfold actL; simp [HSET.out, h0]
      · rw [HSET.out, if_neg (by omega)] at h
        have := HI.out.dep j hj h
        rw [HSET.out, HSET.out]
        simp [this.1, this.2]
      · have h00 := HI.out.dep2.1 h0; simp [HSET.out, h0, h00]
      · rw [HSET.out, if_neg (by omega)] at h
        obtain ⟨q1, q2⟩ := HI.out.map h
        refine ⟨q1, ?_⟩
        have e1 : kmL (L.setIfInBounds 38 true) bx = kmL L bx := by unfold kmL; simp [HSET.out]
        have e2 : cntL (L.setIfInBounds 38 true) = cntL L := by unfold cntL; simp [HSET.out]
        rw [e1, e2]
        exact q2
      · rw [HSET.out, if_neg (by omega)] at h
        exact HI.out.box j hj h
def UB (w : World) (b : Nat) (u : Ub) : Prop := Bk w b (ubA u) 25
def setA (cs : Array Value) : Nat → List Value → Array Value
  | _, [] => cs
  | o, v :: vs => setA (cs.setIfInBounds o v) (o + 1) vs
theorem Bk.setCells {x : Nat} {T : TypeId} : ∀ (vs : List Value) (w : World) (cs : Array Value) (o : Nat), Bk w x cs T → Bk (w.setCells x o vs) x (setA cs o vs) T
  | [], w, cs, o, h => h
  | v :: vs, w, cs, o, h => Bk.setCells vs _ _ (o + 1) (h.set o v)
theorem below_setCellsU {B x : Nat} (hx : B ≤ x) {w : World} : ∀ (vs : List Value) (W : World) (o : Nat), Below B w W → Below B w (W.setCells x o vs)
  | [], W, o, h => h
  | v :: vs, W, o, h => below_setCellsU hx vs _ (o + 1) (h.setCell hx v)
theorem setA_list : ∀ (vs : List Value) (p q m : List Value), q.length = vs.length → setA (p ++ q ++ m).toArray p.length vs = (p ++ vs ++ m).toArray
  | [], p, q, m, h => by
    have : q = [] := List.length_eq_zero_iff.1 (by simpa using h)
    subst this
    rfl
  | v :: vs, p, [], m, h => by cases h
  | v :: vs, p, c :: q, m, h => by
    unfold setA
    have e : ((p ++ c :: q ++ m).toArray.setIfInBounds p.length v) = ((p ++ [v]) ++ q ++ m).toArray := by
      rw [List.setIfInBounds_toArray]
      simp
    rw [e, show p.length + 1 = (p ++ [v]).length by simp, setA_list vs (p ++ [v]) q m (by simpa using h)]
    simp
theorem setA_a {u : Ub} (hu : u.ok) {l : List Int} (hl : l.length = 32) : setA (ubA u) 4 (l.map (Value.int .u8)) = ubA { u with a := l } := by
  have := setA_list (l.map (Value.int .u8)) [.int .i64 u.k, .int .i64 u.n, .int .i64 u.g, .int .i64 u.z] (u.a.map (Value.int .u8)) (u.b.map (Value.int .u8)) (by simp [hl, hu.1.1])
  simpa [ubA, ubL] using this
theorem setA_b {u : Ub} (hu : u.ok) {l : List Int} (hl : l.length = 32) : setA (ubA u) 36 (l.map (Value.int .u8)) = ubA { u with b := l } := by
  have := setA_list (l.map (Value.int .u8)) ([.int .i64 u.k, .int .i64 u.n, .int .i64 u.g, .int .i64 u.z] ++ u.a.map (Value.int .u8)) (u.b.map (Value.int .u8)) [] (by simp [hl, hu.2.1])
  simpa [ubA, ubL, hu.1.1] using this
theorem set_i (u : Ub) (x : Int) : (ubA u).setIfInBounds 0 (.int .i64 x) = ubA { u with k := x } ∧ (ubA u).setIfInBounds 1 (.int .i64 x) = ubA { u with n := x } ∧ (ubA u).setIfInBounds 2 (.int .i64 x) = ubA { u with g := x } ∧ (ubA u).setIfInBounds 3 (.int .i64 x) = ubA { u with z := x } := by
  refine ⟨?_, ?_, ?_, ?_⟩ <;> simp [ubA, ubL]
set_option maxRecDepth 100000 in
set_option maxHeartbeats 4000000 in
theorem clN_any (w : World) (x b o : Nat) (u : Ub) (v : Value) (l : List Int) (c0 : Value) (hx : w.heap[x]? = some (.cells #[.pointer (some ⟨b, o, none⟩)] 91 (0, 0))) (hub : UB w b u) (ho : (ubA u)[o]? = some c0) (hv : HB w v l) (hl : l.length ≤ 281474976710656) (hk : KD w) :
    Calls Tryd.prog 57 #[v, .pointer (some ⟨x, 0, none⟩)] w fun e w' => e = .returned (.bool (decide (rdOk (Lib.bytesOf l) 2147483647))) ∧ ∃ w1, Below w.heap.size w w1 ∧ w' = w1.setCell ⟨b, o, none⟩ (.int .i64 (rdV (Lib.bytesOf l) 2147483647)) := by
  have qc := conv_str hv
  have C := read_any w (bS l) 2147483647 (by rw [bS_size]; exact hl) (by omega) (by omega) hk
  rw [bS_bytes] at C
  have hx0 := cell_of_row w x 0 _ _ _ hx
  have hx1 : w.cell? ⟨x, 0, none⟩ = some (.pointer (some ⟨b, o, none⟩)) := hx0
  have HX := hid hx1
  have HUB := hid hub
  have HO := hid ho
  obtain ⟨S, HS⟩ : ∃ S, Hid (bS l = S) := ⟨_, rfl⟩
  rw [HS.out] at qc C
  have hE : rdE (Lib.bytesOf l) 2147483647 = if rdOk (Lib.bytesOf l) 2147483647 then 0 else 102 := rfl
  obtain ⟨V, HV⟩ : ∃ S, Hid (rdV (Lib.bytesOf l) 2147483647 = S) := ⟨_, rfl⟩
  rw [HV.out] at C
  rw [HV.out]
  obtain ⟨p, c, rfl, _, _⟩ := hv.open
  clear hx hx0 hx1 hub ho hv
  by_cases hr : rdOk (Lib.bytesOf l) 2147483647
  · rw [if_pos hr] at hE
    rw [hE] at C
    rw [decide_eq_true hr]
    have C := hid C
    clear hE hr
    go_enter Tryd.func57, Tryd.ntmps57
    go_wp2_with fail
    refine C.out.mono ?_
    rintro e w1 ⟨rfl, hb1⟩
    have B1 := hid hb1
    have hc1 := (hb1.cell (World.block_lt_of_cell? w _ HX.out)).trans HX.out
    have hbk := HUB.out.below hb1
    have hc2 := hbk.cell o c0 HO.out
    have hf2 := hbk.free o
    clear hb1 C hbk
    go_wp2
    go_ret
    exact ⟨rfl, w1, B1.out, rfl⟩
  · rw [if_neg hr] at hE
    rw [hE] at C
    rw [decide_eq_false hr]
    have C := hid C
    clear hE hr
    go_enter Tryd.func57, Tryd.ntmps57
    go_wp2_with fail
    refine C.out.mono ?_
    rintro e w1 ⟨rfl, hb1⟩
    have B1 := hid hb1
    have hc1 := (hb1.cell (World.block_lt_of_cell? w _ HX.out)).trans HX.out
    have hbk := HUB.out.below hb1
    have hc2 := hbk.cell o c0 HO.out
    have hf2 := hbk.free o
    clear hb1 C hbk
    go_wp2
    go_ret
    exact ⟨rfl, w1, B1.out, rfl⟩
theorem run_arr (w : World) (bb off c : Nat) : (Instr.arrayAt 23 (.slice (some ⟨bb, off, none⟩) 32 c)).run Tryd.prog w = .ok (.pointer (some ⟨bb, off, none⟩)) w := by
  simp [Instr.arrayAt, run_underlying Tryd.underlying23]
theorem cell_setCells_ne {w : World} {b o : Nat} {vs : List Value} {a : Addr} (h : a.block ≠ b) : (w.setCells b o vs).cell? a = w.cell? a := World.cell?_setCells_out b vs o w a (fun hb _ => absurd hb h)
set_option maxRecDepth 100000 in
set_option maxHeartbeats 4000000 in
theorem clD_any (wz : World) (x b o : Nat) (u : Ub) (v : Value) (l : List Int) (hx : wz.heap[x]? = some (.cells #[.pointer (some ⟨b, o, none⟩)] 93 (0, 0))) (hub : UB wz b u) (hok : u.ok) (ho : o + 32 ≤ 68) (hv : HB wz v l) (hne : ∀ bb off n c, v = .slice (some ⟨bb, off, none⟩) n c → 0 < l.length → bb ≠ b) :
    Calls Tryd.prog 59 #[v, .pointer (some ⟨x, 0, none⟩)] wz fun e w' => e = .returned (.bool (decide (l.length = 32))) ∧ (l.length = 32 → ∃ w1, Below wz.heap.size wz w1 ∧ w' = w1.setCells b o (l.map (Value.int .u8))) ∧ (l.length ≠ 32 → Below wz.heap.size wz w') := by
  by_cases hl : l.length = 32
  · rw [decide_eq_true hl]
    obtain ⟨bb, off, c, rfl, hlc, hcm, hc⟩ := hv.ne (by omega)
    have HNB := hid (hne _ _ _ _ rfl (by omega))
    have HC := hid hc
    have hx1 : wz.cell? ⟨x, 0, none⟩ = some (.pointer (some ⟨b, o, none⟩)) := cell_of_row wz x 0 _ _ _ hx
    have HX := hid hx1
    have HXL := hid (World.block_lt_of_cell? wz _ hx1)
    have HXB : Hid (x ≠ b) := by
      refine hid fun e => ?_
      subst e
      have h1 : wz.heap[x]? = some (.cells (ubA u) 25 (0, 0)) := hub
      rw [hx] at h1
      have h2 := ubA_size hok
      simp only [Option.some.injEq, Obj.cells.injEq] at h1
      rw [← h1.1] at h2
      simp at h2
    have har := fun W => run_arr W bb off c
    have HAR := hid har
    clear har
    have HR : Hid (wz.rangeAt bb off (l.map (Value.int .u8))) := by
      refine hid fun j q hj => ?_
      have hjn : j < l.length := by
        have := (List.getElem?_eq_some_iff.1 hj).1
        simpa using this
      rw [hc j hjn, ← hj]
      simp [List.getD, List.getElem?_eq_getElem hjn]
    have HRL : Hid (bb < wz.heap.size) := World.block_lt_of_cell? wz _ (hc 0 (by omega))
    have HSZ : Hid ((Tryd.prog.info? 23).map (·.size) = some (l.map (Value.int .u8)).length) := by refine hid ?_; rw [List.length_map, hl]; kernel_rfl
    have HUB := hid hub
    have hsz : (ubA u).size = 68 := ubA_size hok
    have HLN := hid hl
    rw [hl]
    rw [hl] at hlc
    obtain ⟨m, HM⟩ : ∃ m, Hid ((l.map (Value.int .u8)).toArray = m) := ⟨_, rfl⟩
    clear hc hx hx1 hub hv hl hne
    go_enter Tryd.func59, Tryd.ntmps59
    go_wp2
    refine wp_region_held_drew (S := fun W => W.cell? ⟨x, 0, none⟩ = some (.pointer (some ⟨b, o, none⟩)) ∧ W.rangeAt bb off (l.map (Value.int .u8))) (by kernel_rfl) ⟨HX.out, HR.out⟩ (fun hHeld => ?_)
    have HS := hid hHeld
    clear hHeld
    change wpAnyH _ _ _ _ _ _ _ _ (World.drew _)
    refine wpAnyH_take (i := 0) (v := .pointer (some ⟨b, o, none⟩)) rfl (by kernel_rfl) (by kernel_rfl) (by kernel_rfl) (fun _ _ _ h => h) (Or.inl ⟨by rfl, ?q0⟩) HS.out ?_
    case q0 => intro w hSw; have s1 := hSw.1; have s2 := HAR.out; go_simp
    simp only [Act.put, List.getElem_toArray, List.getElem_cons_zero, List.getElem_cons_succ, List.setIfInBounds_toArray, List.set_cons_zero, List.set_cons_succ]
    refine wpAnyH_take (i := 1) (v := ?_) rfl (by kernel_rfl) (by kernel_rfl) (by kernel_rfl) (fun _ _ _ h => h) (Or.inl ⟨by rfl, ?q1⟩) HS.out ?_
    case q1 => intro w hSw; have s1 := hSw.1; have s2 := HAR.out; go_simp; rfl
    simp only [Act.put, List.getElem_toArray, List.getElem_cons_zero, List.getElem_cons_succ, List.setIfInBounds_toArray, List.set_cons_zero, List.set_cons_succ]
    refine wpAnyH_take (i := 2) (v := .pointer (some ⟨bb, off, none⟩)) rfl (by kernel_rfl) (by kernel_rfl) (by kernel_rfl) (fun _ _ _ h => h) (Or.inl ⟨by rfl, ?q2⟩) HS.out ?_
    case q2 => intro w hSw; have s1 := hSw.1; have s2 := HAR.out; go_simp
    simp only [Act.put, List.getElem_toArray, List.getElem_cons_zero, List.getElem_cons_succ, List.setIfInBounds_toArray, List.set_cons_zero, List.set_cons_succ]
    refine wpAnyH_take (i := 3) rfl (by kernel_rfl) (by kernel_rfl) (by kernel_rfl) (fun _ _ _ h => h) (yieldsIf_load_mid (by rfl) 23 _ rfl bb off rfl (l.map (Value.int .u8)) _ (fun W hW => hW.2) Tryd.underlying23 rfl HSZ.out) HS.out ?_
    simp only [Act.put, List.getElem_toArray, List.getElem_cons_zero, List.getElem_cons_succ, List.setIfInBounds_toArray, List.set_cons_zero, List.set_cons_succ]
    rw [HM.out]
    refine wpAnyH_take (i := 4) (v := .pointer (some ⟨b, o, none⟩)) rfl (by kernel_rfl) (by kernel_rfl) (by kernel_rfl) (fun _ _ _ h => h) (Or.inl ⟨by rfl, ?q4⟩) HS.out ?_
    case q4 => intro w hSw; have s1 := hSw.1; have s2 := HAR.out; go_simp
    simp only [Act.put, List.getElem_toArray, List.getElem_cons_zero, List.getElem_cons_succ, List.setIfInBounds_toArray, List.set_cons_zero, List.set_cons_succ]
    refine wpAnyH_ready (rs := [5]) (by kernel_rfl) (by simp) ?_
    refine AllReadyH.cons rfl (fun K hK => ?_) AllReadyH.nil
    have hbk : Bk (World.drew wz) b (ubA u) 25 := HUB.out
    refine wp_store_mid 23 _ _ rfl b o m rfl rfl ?_ (by rw [← HM.out, List.size_toArray]; exact HSZ.out) (by rw [← HM.out]; exact all_oneCell_toArray (fun v hv => by obtain ⟨x, _, rfl⟩ := List.mem_map.1 hv; rfl)) ?_
    · intro j hj
      rw [← HM.out, List.size_toArray, List.length_map, HLN.out] at hj
      have hj2 : o + j < (ubA u).size := by omega
      exact ⟨by rw [hbk.cell (o + j) _ (Array.getElem?_eq_getElem hj2)]; rfl, hbk.free _⟩
    have HS6 : Hid (Below wz.heap.size wz (World.drew wz)) := (Below.refl _ _).drew
    refine hK.out _ _ ?_ (fun _ => ?_)
    · exact ⟨(cell_setCells_ne HXB.out).trans HX.out, fun j q hj => (cell_setCells_ne HNB.out).trans (HR.out j q hj)⟩
    clear hK K
    simp only [Act.put]
    refine wpAnyH_done (by kernel_rfl) ?_ _
    go_wp2
    go_ret
    exact ⟨rfl, fun _ => ⟨_, HS6.out, by rw [← HM.out]⟩, fun h => absurd rfl h⟩
  · rw [decide_eq_false hl]
    obtain ⟨p, c, rfl, _, _⟩ := hv.open
    clear hne
    have hne : ((l.length : Int) != 32) = true := by rw [bne_iff_ne]; omega
    have HL := hid hl
    clear hl
    go_enter Tryd.func59, Tryd.ntmps59
    go_wp2
    go_ret
    exact ⟨rfl, fun h => absurd h HL.out, fun _ => Below.refl _ _⟩
def nmJ (j : Nat) : ByteArray := [nmK, nmN, nmSeg, nmSegs, nmShares, nmSize].getD j noS
def fldJ (u : Ub) (j : Nat) : List Int := ((ubRows u).getD j rw0).2
def vld (j : Nat) (l : List Int) : Prop := if j = 3 ∨ j = 4 then l.length = 32 else rdOk (Lib.bytesOf l) 2147483647
instance (j : Nat) (l : List Int) : Decidable (vld j l) := by unfold vld; infer_instance
def updJ (u : Ub) (j : Nat) (l : List Int) : Ub :=
  match j with
  | 0 => { u with k := (valD (Lib.bytesOf l) : Nat) }
  | 1 => { u with n := (valD (Lib.bytesOf l) : Nat) }
  | 2 => { u with g := (valD (Lib.bytesOf l) : Nat) }
  | 3 => { u with b := l }
  | 4 => { u with a := l }
  | 5 => { u with z := (valD (Lib.bytesOf l) : Nat) }
  | _ => u
theorem six {P : Nat → Prop} (h0 : P 0) (h1 : P 1) (h2 : P 2) (h3 : P 3) (h4 : P 4) (h5 : P 5) : ∀ j, j < 6 → P j := by
  intro j hj
  match j, hj with
  | 0, _ => exact h0
  | 1, _ => exact h1
  | 2, _ => exact h2
  | 3, _ => exact h3
  | 4, _ => exact h4
  | 5, _ => exact h5
  | j + 6, h => omega
theorem upd_ok {u : Ub} (hu : u.ok) (hr : RB u) {l : List Int} (hl : Byt8 l) : ∀ j, j < 6 → vld j l → (updJ u j l).ok ∧ RB (updJ u j l) := by
  obtain ⟨⟨a1, a2⟩, b1, b2⟩ := hu
  obtain ⟨r1, r2, r3, r4⟩ := hr
  have hn : ∀ {j}, j ≠ 3 → j ≠ 4 → vld j l → (valD (Lib.bytesOf l) : Int) ≤ 2147483647 := by
    intro j h3 h4 hv
    unfold vld at hv
    rw [if_neg (by omega)] at hv
    exact hv.2
  refine six (fun hv => ?_) (fun hv => ?_) (fun hv => ?_) (fun hv => ?_) (fun hv => ?_) (fun hv => ?_)
  · exact ⟨⟨⟨a1, a2⟩, b1, b2⟩, ⟨⟨by show (0 : Int) ≤ ((_ : Nat) : Int); omega, hn (by omega) (by omega) hv⟩, r2, r3, r4⟩⟩
  · exact ⟨⟨⟨a1, a2⟩, b1, b2⟩, ⟨r1, ⟨by show (0 : Int) ≤ ((_ : Nat) : Int); omega, hn (by omega) (by omega) hv⟩, r3, r4⟩⟩
  · exact ⟨⟨⟨a1, a2⟩, b1, b2⟩, ⟨r1, r2, ⟨by show (0 : Int) ≤ ((_ : Nat) : Int); omega, hn (by omega) (by omega) hv⟩, r4⟩⟩
  · exact ⟨⟨⟨a1, a2⟩, hv, hl⟩, ⟨r1, r2, r3, r4⟩⟩
  · exact ⟨⟨⟨hv, hl⟩, b1, b2⟩, ⟨r1, r2, r3, r4⟩⟩
  · exact ⟨⟨⟨a1, a2⟩, b1, b2⟩, ⟨r1, r2, r3, ⟨by show (0 : Int) ≤ ((_ : Nat) : Int); omega, hn (by omega) (by omega) hv⟩⟩⟩
theorem upd_same (u : Ub) {l : List Int} (hl : Byt8 l) : ∀ j, j < 6 → vld j l → fldJ (updJ u j l) j = l := by
  have hn : ∀ {j}, j ≠ 3 → j ≠ 4 → vld j l → dgL (valD (Lib.bytesOf l)) = l := by
    intro j h3 h4 hv
    unfold vld at hv
    rw [if_neg (by omega)] at hv
    exact (pre_dgL hl hv).symm
  refine six (fun hv => ?_) (fun hv => ?_) (fun hv => ?_) (fun hv => ?_) (fun hv => ?_) (fun hv => ?_)
  · exact hn (by omega) (by omega) hv
  · exact hn (by omega) (by omega) hv
  · exact hn (by omega) (by omega) hv
  · rfl
  · rfl
  · exact hn (by omega) (by omega) hv
theorem upd_other (u : Ub) (l : List Int) : ∀ i, i < 6 → ∀ j, j < 6 → i ≠ j → fldJ (updJ u j l) i = fldJ u i := by
  refine six ?_ ?_ ?_ ?_ ?_ ?_ <;> refine six ?_ ?_ ?_ ?_ ?_ ?_ <;> intro h <;> first | rfl | exact absurd rfl h
theorem nm_lt : ∀ a, a < 6 → ∀ b, b < 6 → leS (nmJ a) (nmJ b) = false → b < a := by decide +kernel
theorem nm_inj : ∀ a, a < 6 → ∀ b, b < 6 → nmJ a = nmJ b → a = b := by decide +kernel
theorem rows_at (u : Ub) : ∀ j, j < 6 → (ubRows u).getD j rw0 = (nmJ j, fldJ u j) := six rfl rfl rfl rfl rfl rfl
theorem fld_vld {u : Ub} (hu : u.ok) (hr : RB u) : ∀ j, j < 6 → vld j (fldJ u j) := by
  have hn : ∀ x : Int, 0 ≤ x → x ≤ 2147483647 → rdOk (Lib.bytesOf (dgL x.toNat)) 2147483647 := by
    intro x h0 h1
    rw [bytesOf_dgL]
    obtain ⟨q1, q2, _⟩ := dec_canon x.toNat
    exact ⟨q1, by rw [q2]; omega⟩
  obtain ⟨r1, r2, r3, r4⟩ := hr
  exact six (hn _ r1.1 r1.2) (hn _ r2.1 r2.2) (hn _ r3.1 r3.2) hu.2.1 hu.1.1 (hn _ r4.1 r4.2)
def TabQ (rs : List Rw) (u : Ub) (is : Bool) : Prop := (is = true ∧ u.ok ∧ RB u ∧ rs = ubRows u) ∨ (is = false ∧ u = ub0 ∧ ∀ u' : Ub, u'.ok → RB u' → rs ≠ ubRows u')
theorem tab_short {rs : List Rw} (h : rs.length ≠ 6) : TabQ rs ub0 false := Or.inr ⟨rfl, rfl, fun u' _ _ e => h (by rw [e]; rfl)⟩
theorem tab_miss {rs : List Rw} {k : Nat} (hk : k < 6) (h : ∀ j, j < 6 → (rs.getD k rw0).1 ≠ nmJ j) : TabQ rs ub0 false :=
  Or.inr ⟨rfl, rfl, fun u' _ _ e => h k hk (by rw [e, rows_at u' k hk])⟩
theorem tab_bad {rs : List Rw} {k i : Nat} (hk : k < 6) (hi : i < 6) (hn : (rs.getD k rw0).1 = nmJ i) (hv : ¬ vld i (rs.getD k rw0).2) : TabQ rs ub0 false := by
  refine Or.inr ⟨rfl, rfl, fun u' h1 h2 e => hv ?_⟩
  rw [e, rows_at u' k hk] at hn
  have := nm_inj k hk i hi hn
  subst this
  rw [e, rows_at u' k hk]
  exact fld_vld h1 h2 k hk
def FrI (rs : List Rw) (k : Nat) (u : Ub) : Prop := u.ok ∧ RB u ∧ (∀ j, j < k → ∃ i, i < 6 ∧ j ≤ i ∧ (rs.getD j rw0).1 = nmJ i) ∧ ((∀ j, j < k → (rs.getD j rw0).1 = nmJ j) → ∀ j, j < k → fldJ u j = (rs.getD j rw0).2)
theorem FrI.zero (rs : List Rw) : FrI rs 0 ub0 := ⟨ub0_ok, by simp [RB, ub0], fun j hj => absurd hj (Nat.not_lt_zero _), fun _ j hj => absurd hj (Nat.not_lt_zero _)⟩
theorem up_at {rs : List Rw} (hm : okRows noS rs) {k : Nat} (hk : k + 1 < rs.length) : leS (rs.getD (k + 1) rw0).1 (rs.getD k rw0).1 = false := by
  have := okRows_take hm (k + 1 + 1)
  rw [take_snoc hk, okRows_snoc, take_snoc (by omega), lastN_snoc] at this
  exact this.2.1
theorem FrI.step {rs : List Rw} {k i : Nat} {u : Ub} (h : FrI rs k u) (hm : okRows noS rs) (hk : k < 6) (hkl : k < rs.length) (hi : i < 6) (hn : (rs.getD k rw0).1 = nmJ i) (hv : vld i (rs.getD k rw0).2) (hb : Byt8 (rs.getD k rw0).2) : FrI rs (k + 1) (updJ u i (rs.getD k rw0).2) := by
  obtain ⟨h1, h2, h3, h4⟩ := h
  obtain ⟨q1, q2⟩ := upd_ok h1 h2 hb i hi hv
  have hki : k ≤ i := by
    cases k with
    | zero => omega
    | succ k =>
      obtain ⟨i', p1, p2, p3⟩ := h3 k (by omega)
      have := up_at hm hkl
      rw [hn, p3] at this
      have := nm_lt i hi i' p1 this
      omega
  refine ⟨q1, q2, fun j hj => ?_, fun hall j hj => ?_⟩
  · by_cases e : j = k
    · subst e; exact ⟨i, hi, hki, hn⟩
    · exact h3 j (by omega)
  · have hik : i = k := nm_inj i hi k hk (by rw [← hn]; exact hall k (by omega))
    subst hik
    by_cases e : j = i
    · subst e; exact upd_same u hb j hi hv
    · rw [upd_other u _ j (by omega) i hi e]
      exact h4 (fun j hj => hall j (by omega)) j (by omega)
theorem FrI.done {rs : List Rw} {u : Ub} (h : FrI rs 6 u) (hm : okRows noS rs) (hl : rs.length = 6) : TabQ rs u true := by
  obtain ⟨h1, h2, h3, h4⟩ := h
  have e5 : (rs.getD 5 rw0).1 = nmJ 5 := by
    obtain ⟨i, p1, p2, p3⟩ := h3 5 (by omega)
    rw [p3, show i = 5 by omega]
  have down : ∀ j, j + 1 < 6 → (rs.getD (j + 1) rw0).1 = nmJ (j + 1) → (rs.getD j rw0).1 = nmJ j := by
    intro j hj hj1
    obtain ⟨i, p1, p2, p3⟩ := h3 j (by omega)
    have := up_at hm (k := j) (by omega)
    rw [hj1, p3] at this
    have := nm_lt (j + 1) (by omega) i p1 this
    rw [p3, show i = j by omega]
  have e4 := down 4 (by omega) e5
  have e3 := down 3 (by omega) e4
  have e2 := down 2 (by omega) e3
  have e1 := down 1 (by omega) e2
  have e0 := down 0 (by omega) e1
  have hall : ∀ j, j < 6 → (rs.getD j rw0).1 = nmJ j := six e0 e1 e2 e3 e4 e5
  have hf := h4 hall
  refine Or.inl ⟨rfl, h1, h2, ?_⟩
  refine List.ext_getElem (by rw [hl]; rfl) fun j q1 q2 => ?_
  rw [← getD_get q1, ← getD_get q2, rows_at u j (by omega)]
  exact Prod.ext (hall j (by omega)) (hf j (by omega)).symm
def cloJ (j x : Nat) : Value := if j = 3 ∨ j = 4 then cloD x else cloN x
theorem kmL_at {L : Array Bool} {bx : Nat → Nat} (h : ∀ i, i < 39 → Lb L i = true) : ∀ j, j < 6 → kmL L bx (nmJ j) = some (cloJ j (bx j)) := by
  have q := fun i hi => h i hi
  obtain ⟨n1, n2, n3, n4, n5, n6, n7, n8, n9, n10, n11, n12, n13, n14, n15⟩ := nm_ne
  have e6 := h 6 (by omega); have e12 := h 12 (by omega); have e18 := h 18 (by omega); have e24 := h 24 (by omega); have e30 := h 30 (by omega); have e36 := h 36 (by omega)
  refine six ?_ ?_ ?_ ?_ ?_ ?_ <;> simp [kmL, nmJ, cloJ, e6, e12, e18, e24, e30, e36, n1.symm, n2.symm, n3.symm, n4.symm, n5.symm, n6.symm, n7.symm, n8.symm, n9.symm, n10.symm, n11.symm, n12.symm, n13.symm, n14.symm, n15.symm]
theorem kmL_no {L : Array Bool} {bx : Nat → Nat} {s : ByteArray} (h : ∀ j, j < 6 → s ≠ nmJ j) : kmL L bx s = none := by
  have h0 : s ≠ nmK := h 0 (by omega)
  have h1 : s ≠ nmN := h 1 (by omega)
  have h2 : s ≠ nmSeg := h 2 (by omega)
  have h3 : s ≠ nmSegs := h 3 (by omega)
  have h4 : s ≠ nmShares := h 4 (by omega)
  have h5 : s ≠ nmSize := h 5 (by omega)
  simp [kmL, h0, h1, h2, h3, h4, h5]
end Go.Proofs.YtklklldmhoofnaaDoor
namespace Go.Proofs.YtklklldmhoofnaaDoor
open Go.RowKit
theorem take_eq_step (la lb : List Int) (k : Nat) (ha : k < la.length) (hb : k < lb.length) (h : la.take k = lb.take k) (e : la.getD k 0 = lb.getD k 0) : la.take (k + 1) = lb.take (k + 1) := by
  rw [List.take_succ_eq_append_getElem ha, List.take_succ_eq_append_getElem hb, h]
  have e1 : la.getD k 0 = la[k] := by simp [List.getD, List.getElem?_eq_getElem ha]
  have e2 : lb.getD k 0 = lb[k] := by simp [List.getD, List.getElem?_eq_getElem hb]
  rw [e1, e2] at e
  rw [e]
theorem take_ne (la lb : List Int) (k : Nat) (e : la.getD k 0 ≠ lb.getD k 0) : la ≠ lb := fun h => e (by rw [h])
set_option maxHeartbeats 400000 in
theorem sameBytes_any (w : World) (va vb : Value) (la lb : List Int) (ha : HB w va la) (hb : HB w vb lb) :
    Calls Tryd.prog 11 #[va, vb] w fun e w' => e = .returned (.bool (decide (la = lb))) ∧ Dr w w' := by
  by_cases hlen : la.length = lb.length
  · by_cases h0 : 0 < la.length
    · obtain ⟨b1, o1, c1, rfl, hc1, hm1, hk1⟩ := ha.ne h0
      obtain ⟨b2, o2, c2, rfl, hc2, hm2, hk2⟩ := hb.ne (by omega)
      unfold maxLen at hm1 hm2
      have hm : la.length ≤ 9223372036854775807 := by omega
      have HL : Hid (la.length = lb.length) := hlen
      rw [← hlen]
      have hcd : ∀ j, j < la.length → w.cell? ⟨b2, o2 + j, none⟩ = some (.int .u8 (lb.getD j 0)) := fun j hj => hk2 j (by omega)
      clear hlen hk2
      go_enter Tryd.func11, Tryd.ntmps11
      go_wp2
      go_loopw [5] (fun i wr => ∃ k : Nat, k ≤ la.length ∧ i = .int .i64 k ∧ la.take k = lb.take k ∧ Dr w wr) (fun i _ => la.length - (intOf i).toNat)
      case atStart => exact ⟨0, Nat.zero_le _, rfl, rfl, Dr.refl _⟩
      case round =>
        obtain ⟨k, hk, rfl, ht, q, rfl⟩ := hrel
        by_cases hlt : k < la.length
        · have g1 := hk1 k hlt
          have g2 := hcd k hlt
          obtain ⟨x, hx⟩ : ∃ x, la.getD k 0 = x := ⟨_, rfl⟩
          obtain ⟨y, hy⟩ : ∃ y, lb.getD k 0 = y := ⟨_, rfl⟩
          rw [hx] at g1
          rw [hy] at g2
          have HX := hid hx
          have HY := hid hy
          clear hx hy hk1 hcd
          by_cases he : x = y
          · have hne : (x != y) = false := by simpa using he
            have HE := hid he
            clear he
            go_wp2
            go_quiet (fail)
            go_wp2
            exact ⟨⟨k + 1, by omega, by go_num, take_eq_step la lb k hlt (by have := HL.out; omega) ht (by rw [HX.out, HY.out, HE.out]), Dr.one _ _⟩, by simp [intOf]; omega⟩
          · have hne : (x != y) = true := by simpa using he
            go_wp2
            go_quiet (fail)
            go_wp2
            go_ret
            exact ⟨by simp [take_ne la lb k (by rw [HX.out, HY.out]; exact he)], (Dr.one _ _).drewN _⟩
        · go_wp2
          go_ret
          have e : la = lb := by
            have h1 := List.take_of_length_le (show la.length ≤ k by omega)
            have h2 := List.take_of_length_le (show lb.length ≤ k by have := HL.out; omega)
            rw [← h1, ← h2, ht]
          exact ⟨by simp [e], Dr.one _ _⟩
    · obtain ⟨p1, c1, rfl, _, _⟩ := ha.open
      obtain ⟨p2, c2, rfl, _, _⟩ := hb.open
      have e1 : la = [] := List.length_eq_zero_iff.1 (by omega)
      have e2 : lb = [] := List.length_eq_zero_iff.1 (by omega)
      subst e1 e2
      go_enter Tryd.func11, Tryd.ntmps11
      go_wp2
      go_loop [5] (fun i => i = .int .i64 0) (fun _ => 0)
      case atStart => rfl
      case round =>
        subst hrel
        go_wp2
        go_ret
        exact ⟨rfl, Dr.refl _⟩
  · obtain ⟨p1, c1, rfl, _, _⟩ := ha.open
    obtain ⟨p2, c2, rfl, _, _⟩ := hb.open
    have hne : ((la.length : Int) != (lb.length : Int)) = true := by rw [bne_iff_ne]; omega
    go_enter Tryd.func11, Tryd.ntmps11
    go_wp2
    go_ret
    exact ⟨by simp [show la ≠ lb from fun e => hlen (by rw [e])], Dr.refl _⟩
end Go.Proofs.YtklklldmhoofnaaDoor
