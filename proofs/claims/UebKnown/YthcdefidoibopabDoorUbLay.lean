/- layers of ueb, walked: a map of closures, each over the place that it lays its row's value into. -/
import Derived.Test.YthcdefidoibopabDoorUbWrite
import Derived.Test.YthcdefidoibopabDoorUbMap
import Derived.Test.YthcdefidoibopabDoorRegInv
import Derived.Deep.RegionHeld
set_option linter.unusedSimpArgs false
set_option linter.unusedVariables false
namespace Go.Proofs.YthcdefidoibopabDoor
open Go Go.RowKit

def fnN : Value := .func (.func 34) #[] #[]
def fnD : Value := .func (.func 36) #[] #[]
def cloN (x : Nat) : Value := .func (.func 35) #[] #[.pointer (some ⟨x, 0, none⟩)]
def cloD (x : Nat) : Value := .func (.func 37) #[] #[.pointer (some ⟨x, 0, none⟩)]
set_option maxRecDepth 100000 in
set_option maxHeartbeats 4000000 in
theorem number_fn (w : World) (b o : Nat) : Calls Tryd.prog 34 #[.pointer (some ⟨b, o, none⟩)] w fun e w' => e = .returned (cloN w.heap.size) ∧ w' = w.alloc (.cells #[.pointer (some ⟨b, o, none⟩)] 81) := by
  go_enter Tryd.func34, Tryd.ntmps34
  go_wp2
  go_ret
  exact ⟨rfl, rfl⟩
set_option maxRecDepth 100000 in
set_option maxHeartbeats 4000000 in
theorem digest_fn (w : World) (b o : Nat) : Calls Tryd.prog 36 #[.pointer (some ⟨b, o, none⟩)] w fun e w' => e = .returned (cloD w.heap.size) ∧ w' = w.alloc (.cells #[.pointer (some ⟨b, o, none⟩)] 83) := by
  go_enter Tryd.func36, Tryd.ntmps36
  go_wp2
  go_ret
  exact ⟨rfl, rfl⟩
def Lb (L : Array Bool) (i : Nat) : Bool := L.getD i false
theorem Lb_set {L : Array Bool} {i : Nat} (hi : i < L.size) (k : Nat) : Lb (L.setIfInBounds i true) k = if k = i then true else Lb L k := by
  unfold Lb
  rw [Array.getD_eq_getD_getElem?, Array.getD_eq_getD_getElem?, Array.getElem?_setIfInBounds]
  by_cases h : k = i
  · subst h; simp [hi]
  · rw [if_neg (fun e => h e.symm), if_neg h]
theorem Lb_of {L : Array Bool} {i : Nat} {x : Bool} (h : L[i]? = some x) : Lb L i = x := by unfold Lb; rw [Array.getD_eq_getD_getElem?, h]; rfl
def actL (b : Nat) (L : Array Bool) (M : Nat) (bx : Nat → Nat) : Act := { tmps := #[.pointer (some ⟨b, 0, none⟩), undef, (if Lb L 38 then .map (some M) else .map none), fnN, fnD, (if Lb L 0 then .map (some M) else undef), fnN, .pointer (some ⟨b, 0, none⟩), .pointer (some ⟨b, 0, none⟩), .pointer (some ⟨b, 0, none⟩), (if Lb L 5 then cloN (bx 0) else undef), fnN, .pointer (some ⟨b, 0, none⟩), .pointer (some ⟨b, 0, none⟩), .pointer (some ⟨b, 1, none⟩), (if Lb L 11 then cloN (bx 1) else undef), fnN, .pointer (some ⟨b, 0, none⟩), .pointer (some ⟨b, 0, none⟩), .pointer (some ⟨b, 2, none⟩), (if Lb L 17 then cloN (bx 2) else undef), fnD, .pointer (some ⟨b, 0, none⟩), .pointer (some ⟨b, 0, none⟩), .pointer (some ⟨b, 36, none⟩), (if Lb L 23 then cloD (bx 3) else undef), fnD, .pointer (some ⟨b, 0, none⟩), .pointer (some ⟨b, 0, none⟩), .pointer (some ⟨b, 4, none⟩), (if Lb L 29 then cloD (bx 4) else undef), fnN, .pointer (some ⟨b, 0, none⟩), .pointer (some ⟨b, 0, none⟩), .pointer (some ⟨b, 3, none⟩), (if Lb L 35 then cloN (bx 5) else undef), (if Lb L 37 then .map (some M) else undef)], defers := [] }
def kmL (L : Array Bool) (bx : Nat → Nat) : Km := fun s => if s = nmK then (if Lb L 6 then some (cloN (bx 0)) else none) else if s = nmN then (if Lb L 12 then some (cloN (bx 1)) else none) else if s = nmSeg then (if Lb L 18 then some (cloN (bx 2)) else none) else if s = nmSegs then (if Lb L 24 then some (cloD (bx 3)) else none) else if s = nmShares then (if Lb L 30 then some (cloD (bx 4)) else none) else if s = nmSize then (if Lb L 36 then some (cloN (bx 5)) else none) else none
def cntL (L : Array Bool) : Nat := (if Lb L 6 then 1 else 0) + (if Lb L 12 then 1 else 0) + (if Lb L 18 then 1 else 0) + (if Lb L 24 then 1 else 0) + (if Lb L 30 then 1 else 0) + (if Lb L 36 then 1 else 0)
def offJ (j : Nat) : Nat := [0, 1, 2, 36, 4, 3].getD j 0
def tyJ (j : Nat) : TypeId := if j = 3 ∨ j = 4 then 83 else 81
/-- Where the making of the map stands. -/
structure LI (wz : World) (b : Nat) (L : Array Bool) (a : Act) (w : World) (M : Nat) (bx : Nat → Nat) : Prop where
  act : a = actL b L M bx
  pure : ∀ i ∈ [1, 2, 3, 4, 7, 8, 9, 10, 13, 14, 15, 16, 19, 20, 21, 22, 25, 26, 27, 28, 31, 32, 33, 34], Lb L i = true
  dep : ∀ j, j < 6 → Lb L (6 + 6 * j) = true → Lb L 0 = true ∧ Lb L (5 + 6 * j) = true
  dep2 : (Lb L 37 = true → Lb L 0 = true) ∧ (Lb L 38 = true → Lb L 37 = true)
  map : Lb L 0 = true → wz.heap.size ≤ M ∧ HMm w M (kmL L bx) (cntL L)
  box : ∀ j, j < 6 → Lb L (5 + 6 * j) = true → wz.heap.size ≤ bx j ∧ w.heap[bx j]? = some (.cells #[.pointer (some ⟨b, offJ j, none⟩)] (tyJ j) (0, 0))
  bel : Below wz.heap.size wz w
def lowB (ops : Array Oper) : Bool := (List.range ops.size).all fun i => match ops[i]? with | some o => o.guard.isNone && o.after.all (fun e => decide (e.on < i)) | none => true
theorem low_of {ops : Array Oper} (h : lowB ops = true) : ∀ (i : Nat) (o : Oper), ops[i]? = some o → o.guard = none ∧ ∀ e ∈ o.after, e.on < i := by
  intro i o ho
  have hi := (Array.getElem?_eq_some_iff.1 ho).1
  have h1 := List.all_eq_true.1 h i (List.mem_range.2 hi)
  rw [ho] at h1
  simp only [Bool.and_eq_true, Option.isNone_iff_eq_none] at h1
  refine ⟨h1.1, fun e he => ?_⟩
  have := Array.all_eq_true'.1 h1.2 e he
  simpa using this
theorem held_true {P : Program} {md : Region.Mode} {ops : Array Oper} {Q : Exit → Act → World → Prop} : ∀ (fuel : Nat) (L : Array Bool) (a : Act) (w : World), wpAny P md ops Q fuel L a w → wpAnyH P md ops Q (fun _ => True) fuel L a w
  | 0, _, _, _, h => h
  | fuel + 1, _, _, _, h => ⟨h.1, fun i hi => wpOp_mono (fun a' w' h' => ⟨trivial, held_true fuel _ a' w' h'⟩) (h.2 i hi)⟩
theorem todo_of (i : Nat) (h : i < 39) (hn : i ∉ [1, 2, 3, 4, 7, 8, 9, 10, 13, 14, 15, 16, 19, 20, 21, 22, 25, 26, 27, 28, 31, 32, 33, 34]) : i ∈ [0, 5, 6, 11, 12, 17, 18, 23, 24, 29, 30, 35, 36, 37, 38] := by
  have : ∀ i, i < 39 → i ∉ [1, 2, 3, 4, 7, 8, 9, 10, 13, 14, 15, 16, 19, 20, 21, 22, 25, 26, 27, 28, 31, 32, 33, 34] → i ∈ [0, 5, 6, 11, 12, 17, 18, 23, 24, 29, 30, 35, 36, 37, 38] := by decide
  exact this i h hn
theorem nm_ne : nmK ≠ nmN ∧ nmK ≠ nmSeg ∧ nmK ≠ nmSegs ∧ nmK ≠ nmShares ∧ nmK ≠ nmSize ∧ nmN ≠ nmSeg ∧ nmN ≠ nmSegs ∧ nmN ≠ nmShares ∧ nmN ≠ nmSize ∧ nmSeg ≠ nmSegs ∧ nmSeg ≠ nmShares ∧ nmSeg ≠ nmSize ∧ nmSegs ≠ nmShares ∧ nmSegs ≠ nmSize ∧ nmShares ≠ nmSize := by decide
theorem run_mkm (w : World) : (Instr.makeMap 67 none).run Tryd.prog w = .ok (.map (some w.heap.size)) (w.alloc (.map #[] 0)) := by
  simp [Instr.makeMap, newObj]
  rfl
theorem pure_set {L : Array Bool} {i : Nat} (hi : i < L.size) {l : List Nat} (h : ∀ k ∈ l, Lb L k = true) : ∀ k ∈ l, Lb (L.setIfInBounds i true) k = true := fun k hk => by
  rw [Lb_set hi]
  split
  · rfl
  · exact h k hk
set_option maxRecDepth 100000 in
set_option maxHeartbeats 16000000 in
theorem layers_any (wz : World) (b : Nat) : Calls Tryd.prog 26 #[.pointer (some ⟨b, 0, none⟩)] wz fun e w' => ∃ L a M bx, LI wz b L a w' M bx ∧ (∀ i, i < 39 → Lb L i = true) ∧ e = .returned (.map (some M)) := by
  have CN := hid fun w o => number_fn w b o
  have CD := hid fun w o => digest_fn w b o
  go_enter Tryd.func26, Tryd.ntmps26
  go_wp2
  refine wp_region_held_drew (S := fun _ => True) (by kernel_rfl) trivial (fun hHeld => ?_)
  have HS := hid hHeld
  clear hHeld
  change wpAnyH _ _ _ _ _ _ _ _ (World.drew _)
  refine wpAnyH_take (i := 1) (v := ?_) rfl (by kernel_rfl) (by kernel_rfl) (by kernel_rfl) (fun _ _ _ h => h) (Or.inl ⟨by rfl, ?q1⟩) HS.out ?_
  case q1 => intro w hSw; go_simp; rfl
  simp only [Act.put, List.getElem_toArray, List.getElem_cons_zero, List.getElem_cons_succ, List.setIfInBounds_toArray, List.set_cons_zero, List.set_cons_succ]
  refine wpAnyH_take (i := 2) (v := ?_) rfl (by kernel_rfl) (by kernel_rfl) (by kernel_rfl) (fun _ _ _ h => h) (Or.inl ⟨by rfl, ?q2⟩) HS.out ?_
  case q2 => intro w hSw; go_simp; rfl
  simp only [Act.put, List.getElem_toArray, List.getElem_cons_zero, List.getElem_cons_succ, List.setIfInBounds_toArray, List.set_cons_zero, List.set_cons_succ]
  refine wpAnyH_take (i := 3) (v := .pointer (some ⟨b, 0, none⟩)) rfl (by kernel_rfl) (by kernel_rfl) (by kernel_rfl) (fun _ _ _ h => h) (Or.inl ⟨by rfl, ?q3⟩) HS.out ?_
  case q3 => intro w hSw; go_simp
  simp only [Act.put, List.getElem_toArray, List.getElem_cons_zero, List.getElem_cons_succ, List.setIfInBounds_toArray, List.set_cons_zero, List.set_cons_succ]
  refine wpAnyH_take (i := 4) (v := .pointer (some ⟨b, 0, none⟩)) rfl (by kernel_rfl) (by kernel_rfl) (by kernel_rfl) (fun _ _ _ h => h) (Or.inl ⟨by rfl, ?q4⟩) HS.out ?_
  case q4 => intro w hSw; go_simp
  simp only [Act.put, List.getElem_toArray, List.getElem_cons_zero, List.getElem_cons_succ, List.setIfInBounds_toArray, List.set_cons_zero, List.set_cons_succ]
  refine wpAnyH_take (i := 7) (v := ?_) rfl (by kernel_rfl) (by kernel_rfl) (by kernel_rfl) (fun _ _ _ h => h) (Or.inl ⟨by rfl, ?q7⟩) HS.out ?_
  case q7 => intro w hSw; go_simp; rfl
  simp only [Act.put, List.getElem_toArray, List.getElem_cons_zero, List.getElem_cons_succ, List.setIfInBounds_toArray, List.set_cons_zero, List.set_cons_succ]
  refine wpAnyH_take (i := 8) (v := ?_) rfl (by kernel_rfl) (by kernel_rfl) (by kernel_rfl) (fun _ _ _ h => h) (Or.inl ⟨by rfl, ?q8⟩) HS.out ?_
  case q8 => intro w hSw; go_simp; rfl
  simp only [Act.put, List.getElem_toArray, List.getElem_cons_zero, List.getElem_cons_succ, List.setIfInBounds_toArray, List.set_cons_zero, List.set_cons_succ]
  refine wpAnyH_take (i := 9) (v := .pointer (some ⟨b, 0, none⟩)) rfl (by kernel_rfl) (by kernel_rfl) (by kernel_rfl) (fun _ _ _ h => h) (Or.inl ⟨by rfl, ?q9⟩) HS.out ?_
  case q9 => intro w hSw; go_simp
  simp only [Act.put, List.getElem_toArray, List.getElem_cons_zero, List.getElem_cons_succ, List.setIfInBounds_toArray, List.set_cons_zero, List.set_cons_succ]
  refine wpAnyH_take (i := 10) (v := .pointer (some ⟨b, 1, none⟩)) rfl (by kernel_rfl) (by kernel_rfl) (by kernel_rfl) (fun _ _ _ h => h) (Or.inl ⟨by rfl, ?q10⟩) HS.out ?_
  case q10 => intro w hSw; go_simp
  simp only [Act.put, List.getElem_toArray, List.getElem_cons_zero, List.getElem_cons_succ, List.setIfInBounds_toArray, List.set_cons_zero, List.set_cons_succ]
  refine wpAnyH_take (i := 13) (v := ?_) rfl (by kernel_rfl) (by kernel_rfl) (by kernel_rfl) (fun _ _ _ h => h) (Or.inl ⟨by rfl, ?q13⟩) HS.out ?_
  case q13 => intro w hSw; go_simp; rfl
  simp only [Act.put, List.getElem_toArray, List.getElem_cons_zero, List.getElem_cons_succ, List.setIfInBounds_toArray, List.set_cons_zero, List.set_cons_succ]
  refine wpAnyH_take (i := 14) (v := ?_) rfl (by kernel_rfl) (by kernel_rfl) (by kernel_rfl) (fun _ _ _ h => h) (Or.inl ⟨by rfl, ?q14⟩) HS.out ?_
  case q14 => intro w hSw; go_simp; rfl
  simp only [Act.put, List.getElem_toArray, List.getElem_cons_zero, List.getElem_cons_succ, List.setIfInBounds_toArray, List.set_cons_zero, List.set_cons_succ]
  refine wpAnyH_take (i := 15) (v := .pointer (some ⟨b, 0, none⟩)) rfl (by kernel_rfl) (by kernel_rfl) (by kernel_rfl) (fun _ _ _ h => h) (Or.inl ⟨by rfl, ?q15⟩) HS.out ?_
  case q15 => intro w hSw; go_simp
  simp only [Act.put, List.getElem_toArray, List.getElem_cons_zero, List.getElem_cons_succ, List.setIfInBounds_toArray, List.set_cons_zero, List.set_cons_succ]
  refine wpAnyH_take (i := 16) (v := .pointer (some ⟨b, 2, none⟩)) rfl (by kernel_rfl) (by kernel_rfl) (by kernel_rfl) (fun _ _ _ h => h) (Or.inl ⟨by rfl, ?q16⟩) HS.out ?_
  case q16 => intro w hSw; go_simp
  simp only [Act.put, List.getElem_toArray, List.getElem_cons_zero, List.getElem_cons_succ, List.setIfInBounds_toArray, List.set_cons_zero, List.set_cons_succ]
  refine wpAnyH_take (i := 19) (v := ?_) rfl (by kernel_rfl) (by kernel_rfl) (by kernel_rfl) (fun _ _ _ h => h) (Or.inl ⟨by rfl, ?q19⟩) HS.out ?_
  case q19 => intro w hSw; go_simp; rfl
  simp only [Act.put, List.getElem_toArray, List.getElem_cons_zero, List.getElem_cons_succ, List.setIfInBounds_toArray, List.set_cons_zero, List.set_cons_succ]
  refine wpAnyH_take (i := 20) (v := ?_) rfl (by kernel_rfl) (by kernel_rfl) (by kernel_rfl) (fun _ _ _ h => h) (Or.inl ⟨by rfl, ?q20⟩) HS.out ?_
  case q20 => intro w hSw; go_simp; rfl
  simp only [Act.put, List.getElem_toArray, List.getElem_cons_zero, List.getElem_cons_succ, List.setIfInBounds_toArray, List.set_cons_zero, List.set_cons_succ]
  refine wpAnyH_take (i := 21) (v := .pointer (some ⟨b, 0, none⟩)) rfl (by kernel_rfl) (by kernel_rfl) (by kernel_rfl) (fun _ _ _ h => h) (Or.inl ⟨by rfl, ?q21⟩) HS.out ?_
  case q21 => intro w hSw; go_simp
  simp only [Act.put, List.getElem_toArray, List.getElem_cons_zero, List.getElem_cons_succ, List.setIfInBounds_toArray, List.set_cons_zero, List.set_cons_succ]
  refine wpAnyH_take (i := 22) (v := .pointer (some ⟨b, 36, none⟩)) rfl (by kernel_rfl) (by kernel_rfl) (by kernel_rfl) (fun _ _ _ h => h) (Or.inl ⟨by rfl, ?q22⟩) HS.out ?_
  case q22 => intro w hSw; go_simp
  simp only [Act.put, List.getElem_toArray, List.getElem_cons_zero, List.getElem_cons_succ, List.setIfInBounds_toArray, List.set_cons_zero, List.set_cons_succ]
  refine wpAnyH_take (i := 25) (v := ?_) rfl (by kernel_rfl) (by kernel_rfl) (by kernel_rfl) (fun _ _ _ h => h) (Or.inl ⟨by rfl, ?q25⟩) HS.out ?_
  case q25 => intro w hSw; go_simp; rfl
  simp only [Act.put, List.getElem_toArray, List.getElem_cons_zero, List.getElem_cons_succ, List.setIfInBounds_toArray, List.set_cons_zero, List.set_cons_succ]
  refine wpAnyH_take (i := 26) (v := ?_) rfl (by kernel_rfl) (by kernel_rfl) (by kernel_rfl) (fun _ _ _ h => h) (Or.inl ⟨by rfl, ?q26⟩) HS.out ?_
  case q26 => intro w hSw; go_simp; rfl
  simp only [Act.put, List.getElem_toArray, List.getElem_cons_zero, List.getElem_cons_succ, List.setIfInBounds_toArray, List.set_cons_zero, List.set_cons_succ]
  refine wpAnyH_take (i := 27) (v := .pointer (some ⟨b, 0, none⟩)) rfl (by kernel_rfl) (by kernel_rfl) (by kernel_rfl) (fun _ _ _ h => h) (Or.inl ⟨by rfl, ?q27⟩) HS.out ?_
  case q27 => intro w hSw; go_simp
  simp only [Act.put, List.getElem_toArray, List.getElem_cons_zero, List.getElem_cons_succ, List.setIfInBounds_toArray, List.set_cons_zero, List.set_cons_succ]
  refine wpAnyH_take (i := 28) (v := .pointer (some ⟨b, 4, none⟩)) rfl (by kernel_rfl) (by kernel_rfl) (by kernel_rfl) (fun _ _ _ h => h) (Or.inl ⟨by rfl, ?q28⟩) HS.out ?_
  case q28 => intro w hSw; go_simp
  simp only [Act.put, List.getElem_toArray, List.getElem_cons_zero, List.getElem_cons_succ, List.setIfInBounds_toArray, List.set_cons_zero, List.set_cons_succ]
  refine wpAnyH_take (i := 31) (v := ?_) rfl (by kernel_rfl) (by kernel_rfl) (by kernel_rfl) (fun _ _ _ h => h) (Or.inl ⟨by rfl, ?q31⟩) HS.out ?_
  case q31 => intro w hSw; go_simp; rfl
  simp only [Act.put, List.getElem_toArray, List.getElem_cons_zero, List.getElem_cons_succ, List.setIfInBounds_toArray, List.set_cons_zero, List.set_cons_succ]
  refine wpAnyH_take (i := 32) (v := ?_) rfl (by kernel_rfl) (by kernel_rfl) (by kernel_rfl) (fun _ _ _ h => h) (Or.inl ⟨by rfl, ?q32⟩) HS.out ?_
  case q32 => intro w hSw; go_simp; rfl
  simp only [Act.put, List.getElem_toArray, List.getElem_cons_zero, List.getElem_cons_succ, List.setIfInBounds_toArray, List.set_cons_zero, List.set_cons_succ]
  refine wpAnyH_take (i := 33) (v := .pointer (some ⟨b, 0, none⟩)) rfl (by kernel_rfl) (by kernel_rfl) (by kernel_rfl) (fun _ _ _ h => h) (Or.inl ⟨by rfl, ?q33⟩) HS.out ?_
  case q33 => intro w hSw; go_simp
  simp only [Act.put, List.getElem_toArray, List.getElem_cons_zero, List.getElem_cons_succ, List.setIfInBounds_toArray, List.set_cons_zero, List.set_cons_succ]
  refine wpAnyH_take (i := 34) (v := .pointer (some ⟨b, 3, none⟩)) rfl (by kernel_rfl) (by kernel_rfl) (by kernel_rfl) (fun _ _ _ h => h) (Or.inl ⟨by rfl, ?q34⟩) HS.out ?_
  case q34 => intro w hSw; go_simp
  simp only [Act.put, List.getElem_toArray, List.getElem_cons_zero, List.getElem_cons_succ, List.setIfInBounds_toArray, List.set_cons_zero, List.set_cons_succ]
  refine held_true _ _ _ _ ?_
  refine wpAny_inv (low_of (by kernel_rfl)) (fun L a w => ∃ M bx, LI wz b L a w M bx) ?step ?fin 15 _ _ _ rfl (by kernel_rfl) ⟨0, fun _ => 0, ?start⟩
  case start =>
    refine ⟨rfl, by decide, by decide, by decide, fun h => absurd h (by decide), fun j hj h => ?_, ((Below.refl _ _).drew : Below wz.heap.size wz wz.drew)⟩
    exfalso
    match j, hj with
    | 0, _ => exact absurd h (by decide)
    | 1, _ => exact absurd h (by decide)
    | 2, _ => exact absurd h (by decide)
    | 3, _ => exact absurd h (by decide)
    | 4, _ => exact absurd h (by decide)
    | 5, _ => exact absurd h (by decide)
    | j + 6, hj => omega
  case fin =>
    intro L a w hs hall hI
    obtain ⟨M, bx, hI⟩ := hI
    have hA := hI.act
    have HI := hid hI
    have HALL : Hid (∀ i, i < 39 → Lb L i = true) := hid fun i hi => Lb_of (hall i hi)
    have b38 := HALL.out 38 (by omega)
    rw [hA]
    unfold actL
    clear hA hI hall hs
    have b0 := HALL.out 0 (by omega)
    have b5 := HALL.out 5 (by omega)
    have b11 := HALL.out 11 (by omega)
    have b17 := HALL.out 17 (by omega)
    have b23 := HALL.out 23 (by omega)
    have b29 := HALL.out 29 (by omega)
    have b35 := HALL.out 35 (by omega)
    have b37 := HALL.out 37 (by omega)
    simp only [b0, b5, b11, b17, b23, b29, b35, b37, b38, if_true]
    go_wp2
    go_ret
    exact ⟨L, _, M, bx, HI.out, HALL.out, rfl⟩
  case step =>
    intro L i o a w K ho hs hL hd hI hK
    obtain ⟨M, bx, hI⟩ := hI
    have hs39 : L.size = 39 := hs
    have hlt : i < 39 := by have := (Array.getElem?_eq_some_iff.1 hL).1; omega
    have hLi := Lb_of hL
    have hnp : i ∉ [1, 2, 3, 4, 7, 8, 9, 10, 13, 14, 15, 16, 19, 20, 21, 22, 25, 26, 27, 28, 31, 32, 33, 34] := fun h => by rw [hI.pure i h] at hLi; cases hLi
    have ht := todo_of i hlt hnp
    have HK := hid hK
    have HI := hid hI
    have HD := hid hd
    have hset : ∀ k, Lb (L.setIfInBounds i true) k = if k = i then true else Lb L k := Lb_set (by omega)
    have HSET := hid hset
    have hpu := pure_set (show i < L.size by omega) hI.pure
    have HPU := hid hpu
    clear hK hs hlt hnp hd hset hpu
    simp only [List.mem_cons, List.not_mem_nil, or_false] at ht
    have hA := hI.act
    clear hI
    rcases ht with rfl | rfl | rfl | rfl | rfl | rfl | rfl | rfl | rfl | rfl | rfl | rfl | rfl | rfl | rfl
    · obtain rfl := Option.some.inj ho
      subst hA
      have hm := run_mkm w
      have b37 : Lb L 37 = false := by cases h : Lb L 37 with | false => rfl | true => rw [HI.out.dep2.1 h] at hLi; cases hLi
      have b38 : Lb L 38 = false := by cases h : Lb L 38 with | false => rfl | true => rw [HI.out.dep2.2 h] at b37; cases b37
      have hdj : ∀ j, j < 6 → Lb L (6 + 6 * j) = false := fun j hj => by cases h : Lb L (6 + 6 * j) with | false => rfl | true => rw [(HI.out.dep j hj h).1] at hLi; cases hLi
      have HDJ := hid hdj
      clear hdj
      unfold actL
      go_simp
      refine HK.out _ _ ⟨w.heap.size, bx, ⟨?_, HPU.out, fun j hj h => ?_, ?_, fun _ => ⟨HI.out.bel.size, ?_⟩, fun j hj h => ?_, HI.out.bel.alloc HI.out.bel.size _⟩⟩
      · unfold actL; simp [HSET.out, b37, b38]
      · rw [HSET.out, if_neg (by omega), HDJ.out j hj] at h; cases h
      · simp [HSET.out, b37, b38]
      · have e0 := HDJ.out 0 (by omega); have e1 := HDJ.out 1 (by omega); have e2 := HDJ.out 2 (by omega); have e3 := HDJ.out 3 (by omega); have e4 := HDJ.out 4 (by omega); have e5 := HDJ.out 5 (by omega)
        simp only [Nat.mul_zero, Nat.add_zero, Nat.reduceMul, Nat.reduceAdd] at e0 e1 e2 e3 e4 e5
        refine ⟨#[], 0, heap_alloc_new w _, ⟨(fun e he => by simp at he), fun s v hv => ?_⟩, ?_⟩
        · unfold kmL at hv; simp [HSET.out, e0, e1, e2, e3, e4, e5] at hv
        · unfold cntL; simp [HSET.out, e0, e1, e2, e3, e4, e5]
      · rw [HSET.out, if_neg (by omega)] at h
        obtain ⟨q1, q2⟩ := HI.out.box j hj h
        exact ⟨q1, (heap_alloc_old w _ (Array.getElem?_eq_some_iff.1 q2).1).trans q2⟩
    · obtain rfl := Option.some.inj ho
      subst hA
      have hdj : Lb L 6 = false := by cases h : Lb L 6 with | false => rfl | true => (have := (HI.out.dep 0 (by omega) h).2; rw [show Lb L (5 + 6 * 0) = Lb L 5 from rfl, hLi] at this; cases this)
      unfold actL fnN fnD
      go_simp
      refine (CN.out w 0).mono ?_
      rintro e w1 ⟨rfl, rfl⟩
      simp only []
      refine HK.out _ _ ⟨M, fun x => if x = 0 then w.heap.size else bx x, ⟨?_, HPU.out, fun j hj h => ?_, ?_, fun h => ?_, fun j hj h => ?_, HI.out.bel.alloc HI.out.bel.size _⟩⟩
      · unfold actL fnN fnD; simp [HSET.out]
      · rw [HSET.out, if_neg (by omega)] at h
        have := HI.out.dep j hj h
        rw [HSET.out, HSET.out]
        simp [this.1, this.2]
      · have := HI.out.dep2
        simp only [HSET.out]
        simpa using this
      · rw [HSET.out, if_neg (by omega)] at h
        obtain ⟨q1, q2⟩ := HI.out.map h
        refine ⟨q1, ?_⟩
        have e1 : kmL (L.setIfInBounds 5 true) (fun x => if x = 0 then w.heap.size else bx x) = kmL L bx := by unfold kmL; simp [HSET.out, hdj]
        have e2 : cntL (L.setIfInBounds 5 true) = cntL L := by unfold cntL; simp [HSET.out]
        rw [e1, e2]
        exact q2.below ((Below.refl _ w).alloc (Nat.le_refl _) _)
      · by_cases hj2 : j = 0
        · subst hj2
          refine ⟨?_, ?_⟩
          · simp; exact HI.out.bel.size
          · simp only [if_true]; exact heap_alloc_new w _
        · rw [HSET.out, if_neg (by omega)] at h
          obtain ⟨q1, q2⟩ := HI.out.box j hj h
          simp only [if_neg hj2]
          exact ⟨q1, (heap_alloc_old w _ (Array.getElem?_eq_some_iff.1 q2).1).trans q2⟩
    · obtain rfl := Option.some.inj ho
      subst hA
      have h0 : Lb L 0 = true := Lb_of (HD.out ⟨0, .data⟩ (by simp) rfl)
      have h5 : Lb L 5 = true := Lb_of (HD.out ⟨5, .data⟩ (by simp) rfl)
      obtain ⟨q1, q2⟩ := HI.out.map h0
      obtain ⟨n1, n2, n3, n4, n5, n6, n7, n8, n9, n10, n11, n12, n13, n14, n15⟩ := nm_ne
      have hn : kmL L bx nmK = none := by unfold kmL; simp [hLi, n1, n2, n3, n4, n5, n6, n7, n8, n9, n10, n11, n12, n13, n14, n15, n1.symm, n2.symm, n3.symm, n4.symm, n5.symm, n6.symm, n7.symm, n8.symm, n9.symm, n10.symm, n11.symm, n12.symm, n13.symm, n14.symm, n15.symm]
      obtain ⟨w', hr, hm, hgr, hz⟩ := run_insm q2 (v := cloN (bx 0)) hn
      have hr2 : ∀ x, x = nmK → (Instr.mapUpdate 67 (.map (some M)) (.string x) (cloN (bx 0))).run Tryd.prog w = .ok () w' := fun x hx => by rw [hx]; exact hr
      have hr3 := hr2 _ (show (⟨#[107]⟩ : ByteArray) = nmK from rfl)
      have e5 : ∀ k, k < 6 → Lb L (5 + 6 * k) = true → bx k ≠ M := fun k hk hb e => by
        obtain ⟨_, r2⟩ := HI.out.box k hk hb
        obtain ⟨es, c, r3, _⟩ := q2
        rw [e, r3] at r2
        cases r2
      have HE5 := hid e5
      have HGR := hid hgr
      have HM := hid hm
      clear hr hr2 hm hgr e5 hn q2
      unfold actL
      go_simp
      refine HK.out _ _ ⟨M, bx, ⟨?_, HPU.out, fun j hj h => ?_, ?_, fun h => ⟨q1, ?_⟩, fun j hj h => ?_, ?_⟩⟩
      · unfold actL; simp [HSET.out, h0, h5]
      · by_cases hj2 : j = 0
        · subst hj2
          simp [HSET.out, h0, h5]
        · rw [HSET.out, if_neg (by omega)] at h
          have := HI.out.dep j hj h
          rw [HSET.out, HSET.out]
          simp [this.1, this.2]
      · have := HI.out.dep2
        simp only [HSET.out]
        simpa using this
      · have e1 : kmL (L.setIfInBounds 6 true) bx = kset (kmL L bx) nmK (cloN (bx 0)) := by
          funext s
          unfold kmL kset
          by_cases hs : s = nmK
          · subst hs
            simp [HSET.out, n1, n2, n3, n4, n5, n6, n7, n8, n9, n10, n11, n12, n13, n14, n15, n1.symm, n2.symm, n3.symm, n4.symm, n5.symm, n6.symm, n7.symm, n8.symm, n9.symm, n10.symm, n11.symm, n12.symm, n13.symm, n14.symm, n15.symm]
          · simp [HSET.out, hs]
        have e2 : cntL (L.setIfInBounds 6 true) = cntL L + 1 := by unfold cntL; simp [HSET.out, hLi] <;> omega
        rw [e1, e2]
        exact HM.out
      · rw [HSET.out, if_neg (by omega)] at h
        obtain ⟨r1, r2⟩ := HI.out.box j hj h
        exact ⟨r1, (HGR.out.block _ (Array.getElem?_eq_some_iff.1 r2).1 (fun e => HE5.out j hj h (Option.some.inj e))).trans r2⟩
      · exact HI.out.bel.grown HGR.out HI.out.bel.size (fun k e => by injection e with e; omega)
    · obtain rfl := Option.some.inj ho
      subst hA
      have hdj : Lb L 12 = false := by cases h : Lb L 12 with | false => rfl | true => (have := (HI.out.dep 1 (by omega) h).2; rw [show Lb L (5 + 6 * 1) = Lb L 11 from rfl, hLi] at this; cases this)
      unfold actL fnN fnD
      go_simp
      refine (CN.out w 1).mono ?_
      rintro e w1 ⟨rfl, rfl⟩
      simp only []
      refine HK.out _ _ ⟨M, fun x => if x = 1 then w.heap.size else bx x, ⟨?_, HPU.out, fun j hj h => ?_, ?_, fun h => ?_, fun j hj h => ?_, HI.out.bel.alloc HI.out.bel.size _⟩⟩
      · unfold actL fnN fnD; simp [HSET.out]
      · rw [HSET.out, if_neg (by omega)] at h
        have := HI.out.dep j hj h
        rw [HSET.out, HSET.out]
        simp [this.1, this.2]
      · have := HI.out.dep2
        simp only [HSET.out]
        simpa using this
      · rw [HSET.out, if_neg (by omega)] at h
        obtain ⟨q1, q2⟩ := HI.out.map h
        refine ⟨q1, ?_⟩
        have e1 : kmL (L.setIfInBounds 11 true) (fun x => if x = 1 then w.heap.size else bx x) = kmL L bx := by unfold kmL; simp [HSET.out, hdj]
        have e2 : cntL (L.setIfInBounds 11 true) = cntL L := by unfold cntL; simp [HSET.out]
        rw [e1, e2]
        exact q2.below ((Below.refl _ w).alloc (Nat.le_refl _) _)
      · by_cases hj2 : j = 1
        · subst hj2
          refine ⟨?_, ?_⟩
          · simp; exact HI.out.bel.size
          · simp only [if_true]; exact heap_alloc_new w _
        · rw [HSET.out, if_neg (by omega)] at h
          obtain ⟨q1, q2⟩ := HI.out.box j hj h
          simp only [if_neg hj2]
          exact ⟨q1, (heap_alloc_old w _ (Array.getElem?_eq_some_iff.1 q2).1).trans q2⟩
    · obtain rfl := Option.some.inj ho
      subst hA
      have h0 : Lb L 0 = true := Lb_of (HD.out ⟨0, .data⟩ (by simp) rfl)
      have h5 : Lb L 11 = true := Lb_of (HD.out ⟨11, .data⟩ (by simp) rfl)
      obtain ⟨q1, q2⟩ := HI.out.map h0
      obtain ⟨n1, n2, n3, n4, n5, n6, n7, n8, n9, n10, n11, n12, n13, n14, n15⟩ := nm_ne
      have hn : kmL L bx nmN = none := by unfold kmL; simp [hLi, n1, n2, n3, n4, n5, n6, n7, n8, n9, n10, n11, n12, n13, n14, n15, n1.symm, n2.symm, n3.symm, n4.symm, n5.symm, n6.symm, n7.symm, n8.symm, n9.symm, n10.symm, n11.symm, n12.symm, n13.symm, n14.symm, n15.symm]
      obtain ⟨w', hr, hm, hgr, hz⟩ := run_insm q2 (v := cloN (bx 1)) hn
      have hr2 : ∀ x, x = nmN → (Instr.mapUpdate 67 (.map (some M)) (.string x) (cloN (bx 1))).run Tryd.prog w = .ok () w' := fun x hx => by rw [hx]; exact hr
      have hr3 := hr2 _ (show (⟨#[110]⟩ : ByteArray) = nmN from rfl)
      have e5 : ∀ k, k < 6 → Lb L (5 + 6 * k) = true → bx k ≠ M := fun k hk hb e => by
        obtain ⟨_, r2⟩ := HI.out.box k hk hb
        obtain ⟨es, c, r3, _⟩ := q2
        rw [e, r3] at r2
        cases r2
      have HE5 := hid e5
      have HGR := hid hgr
      have HM := hid hm
      clear hr hr2 hm hgr e5 hn q2
      unfold actL
      go_simp
      refine HK.out _ _ ⟨M, bx, ⟨?_, HPU.out, fun j hj h => ?_, ?_, fun h => ⟨q1, ?_⟩, fun j hj h => ?_, ?_⟩⟩
      · unfold actL; simp [HSET.out, h0, h5]
      · by_cases hj2 : j = 1
        · subst hj2
          simp [HSET.out, h0, h5]
        · rw [HSET.out, if_neg (by omega)] at h
          have := HI.out.dep j hj h
          rw [HSET.out, HSET.out]
          simp [this.1, this.2]
      · have := HI.out.dep2
        simp only [HSET.out]
        simpa using this
      · have e1 : kmL (L.setIfInBounds 12 true) bx = kset (kmL L bx) nmN (cloN (bx 1)) := by
          funext s
          unfold kmL kset
          by_cases hs : s = nmN
          · subst hs
            simp [HSET.out, n1, n2, n3, n4, n5, n6, n7, n8, n9, n10, n11, n12, n13, n14, n15, n1.symm, n2.symm, n3.symm, n4.symm, n5.symm, n6.symm, n7.symm, n8.symm, n9.symm, n10.symm, n11.symm, n12.symm, n13.symm, n14.symm, n15.symm]
          · simp [HSET.out, hs]
        have e2 : cntL (L.setIfInBounds 12 true) = cntL L + 1 := by unfold cntL; simp [HSET.out, hLi] <;> omega
        rw [e1, e2]
        exact HM.out
      · rw [HSET.out, if_neg (by omega)] at h
        obtain ⟨r1, r2⟩ := HI.out.box j hj h
        exact ⟨r1, (HGR.out.block _ (Array.getElem?_eq_some_iff.1 r2).1 (fun e => HE5.out j hj h (Option.some.inj e))).trans r2⟩
      · exact HI.out.bel.grown HGR.out HI.out.bel.size (fun k e => by injection e with e; omega)
    · obtain rfl := Option.some.inj ho
      subst hA
      have hdj : Lb L 18 = false := by cases h : Lb L 18 with | false => rfl | true => (have := (HI.out.dep 2 (by omega) h).2; rw [show Lb L (5 + 6 * 2) = Lb L 17 from rfl, hLi] at this; cases this)
      unfold actL fnN fnD
      go_simp
      refine (CN.out w 2).mono ?_
      rintro e w1 ⟨rfl, rfl⟩
      simp only []
      refine HK.out _ _ ⟨M, fun x => if x = 2 then w.heap.size else bx x, ⟨?_, HPU.out, fun j hj h => ?_, ?_, fun h => ?_, fun j hj h => ?_, HI.out.bel.alloc HI.out.bel.size _⟩⟩
      · unfold actL fnN fnD; simp [HSET.out]
      · rw [HSET.out, if_neg (by omega)] at h
        have := HI.out.dep j hj h
        rw [HSET.out, HSET.out]
        simp [this.1, this.2]
      · have := HI.out.dep2
        simp only [HSET.out]
        simpa using this
      · rw [HSET.out, if_neg (by omega)] at h
        obtain ⟨q1, q2⟩ := HI.out.map h
        refine ⟨q1, ?_⟩
        have e1 : kmL (L.setIfInBounds 17 true) (fun x => if x = 2 then w.heap.size else bx x) = kmL L bx := by unfold kmL; simp [HSET.out, hdj]
        have e2 : cntL (L.setIfInBounds 17 true) = cntL L := by unfold cntL; simp [HSET.out]
        rw [e1, e2]
        exact q2.below ((Below.refl _ w).alloc (Nat.le_refl _) _)
      · by_cases hj2 : j = 2
        · subst hj2
          refine ⟨?_, ?_⟩
          · simp; exact HI.out.bel.size
          · simp only [if_true]; exact heap_alloc_new w _
        · rw [HSET.out, if_neg (by omega)] at h
          obtain ⟨q1, q2⟩ := HI.out.box j hj h
          simp only [if_neg hj2]
          exact ⟨q1, (heap_alloc_old w _ (Array.getElem?_eq_some_iff.1 q2).1).trans q2⟩
    · obtain rfl := Option.some.inj ho
      subst hA
      have h0 : Lb L 0 = true := Lb_of (HD.out ⟨0, .data⟩ (by simp) rfl)
      have h5 : Lb L 17 = true := Lb_of (HD.out ⟨17, .data⟩ (by simp) rfl)
      obtain ⟨q1, q2⟩ := HI.out.map h0
      obtain ⟨n1, n2, n3, n4, n5, n6, n7, n8, n9, n10, n11, n12, n13, n14, n15⟩ := nm_ne
      have hn : kmL L bx nmSeg = none := by unfold kmL; simp [hLi, n1, n2, n3, n4, n5, n6, n7, n8, n9, n10, n11, n12, n13, n14, n15, n1.symm, n2.symm, n3.symm, n4.symm, n5.symm, n6.symm, n7.symm, n8.symm, n9.symm, n10.symm, n11.symm, n12.symm, n13.symm, n14.symm, n15.symm]
      obtain ⟨w', hr, hm, hgr, hz⟩ := run_insm q2 (v := cloN (bx 2)) hn
      have hr2 : ∀ x, x = nmSeg → (Instr.mapUpdate 67 (.map (some M)) (.string x) (cloN (bx 2))).run Tryd.prog w = .ok () w' := fun x hx => by rw [hx]; exact hr
      have hr3 := hr2 _ (show (⟨#[115, 101, 103]⟩ : ByteArray) = nmSeg from rfl)
      have e5 : ∀ k, k < 6 → Lb L (5 + 6 * k) = true → bx k ≠ M := fun k hk hb e => by
        obtain ⟨_, r2⟩ := HI.out.box k hk hb
        obtain ⟨es, c, r3, _⟩ := q2
        rw [e, r3] at r2
        cases r2
      have HE5 := hid e5
      have HGR := hid hgr
      have HM := hid hm
      clear hr hr2 hm hgr e5 hn q2
      unfold actL
      go_simp
      refine HK.out _ _ ⟨M, bx, ⟨?_, HPU.out, fun j hj h => ?_, ?_, fun h => ⟨q1, ?_⟩, fun j hj h => ?_, ?_⟩⟩
      · unfold actL; simp [HSET.out, h0, h5]
      · by_cases hj2 : j = 2
        · subst hj2
          simp [HSET.out, h0, h5]
        · rw [HSET.out, if_neg (by omega)] at h
          have := HI.out.dep j hj h
          rw [HSET.out, HSET.out]
          simp [this.1, this.2]
      · have := HI.out.dep2
        simp only [HSET.out]
        simpa using this
      · have e1 : kmL (L.setIfInBounds 18 true) bx = kset (kmL L bx) nmSeg (cloN (bx 2)) := by
          funext s
          unfold kmL kset
          by_cases hs : s = nmSeg
          · subst hs
            simp [HSET.out, n1, n2, n3, n4, n5, n6, n7, n8, n9, n10, n11, n12, n13, n14, n15, n1.symm, n2.symm, n3.symm, n4.symm, n5.symm, n6.symm, n7.symm, n8.symm, n9.symm, n10.symm, n11.symm, n12.symm, n13.symm, n14.symm, n15.symm]
          · simp [HSET.out, hs]
        have e2 : cntL (L.setIfInBounds 18 true) = cntL L + 1 := by unfold cntL; simp [HSET.out, hLi] <;> omega
        rw [e1, e2]
        exact HM.out
      · rw [HSET.out, if_neg (by omega)] at h
        obtain ⟨r1, r2⟩ := HI.out.box j hj h
        exact ⟨r1, (HGR.out.block _ (Array.getElem?_eq_some_iff.1 r2).1 (fun e => HE5.out j hj h (Option.some.inj e))).trans r2⟩
      · exact HI.out.bel.grown HGR.out HI.out.bel.size (fun k e => by injection e with e; omega)
    · obtain rfl := Option.some.inj ho
      subst hA
      have hdj : Lb L 24 = false := by cases h : Lb L 24 with | false => rfl | true => (have := (HI.out.dep 3 (by omega) h).2; rw [show Lb L (5 + 6 * 3) = Lb L 23 from rfl, hLi] at this; cases this)
      unfold actL fnN fnD
      go_simp
      refine (CD.out w 36).mono ?_
      rintro e w1 ⟨rfl, rfl⟩
      simp only []
      refine HK.out _ _ ⟨M, fun x => if x = 3 then w.heap.size else bx x, ⟨?_, HPU.out, fun j hj h => ?_, ?_, fun h => ?_, fun j hj h => ?_, HI.out.bel.alloc HI.out.bel.size _⟩⟩
      · unfold actL fnN fnD; simp [HSET.out]
      · rw [HSET.out, if_neg (by omega)] at h
        have := HI.out.dep j hj h
        rw [HSET.out, HSET.out]
        simp [this.1, this.2]
      · have := HI.out.dep2
        simp only [HSET.out]
        simpa using this
      · rw [HSET.out, if_neg (by omega)] at h
        obtain ⟨q1, q2⟩ := HI.out.map h
        refine ⟨q1, ?_⟩
        have e1 : kmL (L.setIfInBounds 23 true) (fun x => if x = 3 then w.heap.size else bx x) = kmL L bx := by unfold kmL; simp [HSET.out, hdj]
        have e2 : cntL (L.setIfInBounds 23 true) = cntL L := by unfold cntL; simp [HSET.out]
        rw [e1, e2]
        exact q2.below ((Below.refl _ w).alloc (Nat.le_refl _) _)
      · by_cases hj2 : j = 3
        · subst hj2
          refine ⟨?_, ?_⟩
          · simp; exact HI.out.bel.size
          · simp only [if_true]; exact heap_alloc_new w _
        · rw [HSET.out, if_neg (by omega)] at h
          obtain ⟨q1, q2⟩ := HI.out.box j hj h
          simp only [if_neg hj2]
          exact ⟨q1, (heap_alloc_old w _ (Array.getElem?_eq_some_iff.1 q2).1).trans q2⟩
    · obtain rfl := Option.some.inj ho
      subst hA
      have h0 : Lb L 0 = true := Lb_of (HD.out ⟨0, .data⟩ (by simp) rfl)
      have h5 : Lb L 23 = true := Lb_of (HD.out ⟨23, .data⟩ (by simp) rfl)
      obtain ⟨q1, q2⟩ := HI.out.map h0
      obtain ⟨n1, n2, n3, n4, n5, n6, n7, n8, n9, n10, n11, n12, n13, n14, n15⟩ := nm_ne
      have hn : kmL L bx nmSegs = none := by unfold kmL; simp [hLi, n1, n2, n3, n4, n5, n6, n7, n8, n9, n10, n11, n12, n13, n14, n15, n1.symm, n2.symm, n3.symm, n4.symm, n5.symm, n6.symm, n7.symm, n8.symm, n9.symm, n10.symm, n11.symm, n12.symm, n13.symm, n14.symm, n15.symm]
      obtain ⟨w', hr, hm, hgr, hz⟩ := run_insm q2 (v := cloD (bx 3)) hn
      have hr2 : ∀ x, x = nmSegs → (Instr.mapUpdate 67 (.map (some M)) (.string x) (cloD (bx 3))).run Tryd.prog w = .ok () w' := fun x hx => by rw [hx]; exact hr
      have hr3 := hr2 _ (show (⟨#[115, 101, 103, 109, 101, 110, 116, 115]⟩ : ByteArray) = nmSegs from rfl)
      have e5 : ∀ k, k < 6 → Lb L (5 + 6 * k) = true → bx k ≠ M := fun k hk hb e => by
        obtain ⟨_, r2⟩ := HI.out.box k hk hb
        obtain ⟨es, c, r3, _⟩ := q2
        rw [e, r3] at r2
        cases r2
      have HE5 := hid e5
      have HGR := hid hgr
      have HM := hid hm
      clear hr hr2 hm hgr e5 hn q2
      unfold actL
      go_simp
      refine HK.out _ _ ⟨M, bx, ⟨?_, HPU.out, fun j hj h => ?_, ?_, fun h => ⟨q1, ?_⟩, fun j hj h => ?_, ?_⟩⟩
      · unfold actL; simp [HSET.out, h0, h5]
      · by_cases hj2 : j = 3
        · subst hj2
          simp [HSET.out, h0, h5]
        · rw [HSET.out, if_neg (by omega)] at h
          have := HI.out.dep j hj h
          rw [HSET.out, HSET.out]
          simp [this.1, this.2]
      · have := HI.out.dep2
        simp only [HSET.out]
        simpa using this
      · have e1 : kmL (L.setIfInBounds 24 true) bx = kset (kmL L bx) nmSegs (cloD (bx 3)) := by
          funext s
          unfold kmL kset
          by_cases hs : s = nmSegs
          · subst hs
            simp [HSET.out, n1, n2, n3, n4, n5, n6, n7, n8, n9, n10, n11, n12, n13, n14, n15, n1.symm, n2.symm, n3.symm, n4.symm, n5.symm, n6.symm, n7.symm, n8.symm, n9.symm, n10.symm, n11.symm, n12.symm, n13.symm, n14.symm, n15.symm]
          · simp [HSET.out, hs]
        have e2 : cntL (L.setIfInBounds 24 true) = cntL L + 1 := by unfold cntL; simp [HSET.out, hLi] <;> omega
        rw [e1, e2]
        exact HM.out
      · rw [HSET.out, if_neg (by omega)] at h
        obtain ⟨r1, r2⟩ := HI.out.box j hj h
        exact ⟨r1, (HGR.out.block _ (Array.getElem?_eq_some_iff.1 r2).1 (fun e => HE5.out j hj h (Option.some.inj e))).trans r2⟩
      · exact HI.out.bel.grown HGR.out HI.out.bel.size (fun k e => by injection e with e; omega)
    · obtain rfl := Option.some.inj ho
      subst hA
      have hdj : Lb L 30 = false := by cases h : Lb L 30 with | false => rfl | true => (have := (HI.out.dep 4 (by omega) h).2; rw [show Lb L (5 + 6 * 4) = Lb L 29 from rfl, hLi] at this; cases this)
      unfold actL fnN fnD
      go_simp
      refine (CD.out w 4).mono ?_
      rintro e w1 ⟨rfl, rfl⟩
      simp only []
      refine HK.out _ _ ⟨M, fun x => if x = 4 then w.heap.size else bx x, ⟨?_, HPU.out, fun j hj h => ?_, ?_, fun h => ?_, fun j hj h => ?_, HI.out.bel.alloc HI.out.bel.size _⟩⟩
      · unfold actL fnN fnD; simp [HSET.out]
      · rw [HSET.out, if_neg (by omega)] at h
        have := HI.out.dep j hj h
        rw [HSET.out, HSET.out]
        simp [this.1, this.2]
      · have := HI.out.dep2
        simp only [HSET.out]
        simpa using this
      · rw [HSET.out, if_neg (by omega)] at h
        obtain ⟨q1, q2⟩ := HI.out.map h
        refine ⟨q1, ?_⟩
        have e1 : kmL (L.setIfInBounds 29 true) (fun x => if x = 4 then w.heap.size else bx x) = kmL L bx := by unfold kmL; simp [HSET.out, hdj]
        have e2 : cntL (L.setIfInBounds 29 true) = cntL L := by unfold cntL; simp [HSET.out]
        rw [e1, e2]
        exact q2.below ((Below.refl _ w).alloc (Nat.le_refl _) _)
      · by_cases hj2 : j = 4
        · subst hj2
          refine ⟨?_, ?_⟩
          · simp; exact HI.out.bel.size
          · simp only [if_true]; exact heap_alloc_new w _
        · rw [HSET.out, if_neg (by omega)] at h
          obtain ⟨q1, q2⟩ := HI.out.box j hj h
          simp only [if_neg hj2]
          exact ⟨q1, (heap_alloc_old w _ (Array.getElem?_eq_some_iff.1 q2).1).trans q2⟩
    · obtain rfl := Option.some.inj ho
      subst hA
      have h0 : Lb L 0 = true := Lb_of (HD.out ⟨0, .data⟩ (by simp) rfl)
      have h5 : Lb L 29 = true := Lb_of (HD.out ⟨29, .data⟩ (by simp) rfl)
      obtain ⟨q1, q2⟩ := HI.out.map h0
      obtain ⟨n1, n2, n3, n4, n5, n6, n7, n8, n9, n10, n11, n12, n13, n14, n15⟩ := nm_ne
      have hn : kmL L bx nmShares = none := by unfold kmL; simp [hLi, n1, n2, n3, n4, n5, n6, n7, n8, n9, n10, n11, n12, n13, n14, n15, n1.symm, n2.symm, n3.symm, n4.symm, n5.symm, n6.symm, n7.symm, n8.symm, n9.symm, n10.symm, n11.symm, n12.symm, n13.symm, n14.symm, n15.symm]
      obtain ⟨w', hr, hm, hgr, hz⟩ := run_insm q2 (v := cloD (bx 4)) hn
      have hr2 : ∀ x, x = nmShares → (Instr.mapUpdate 67 (.map (some M)) (.string x) (cloD (bx 4))).run Tryd.prog w = .ok () w' := fun x hx => by rw [hx]; exact hr
      have hr3 := hr2 _ (show (⟨#[115, 104, 97, 114, 101, 115]⟩ : ByteArray) = nmShares from rfl)
      have e5 : ∀ k, k < 6 → Lb L (5 + 6 * k) = true → bx k ≠ M := fun k hk hb e => by
        obtain ⟨_, r2⟩ := HI.out.box k hk hb
        obtain ⟨es, c, r3, _⟩ := q2
        rw [e, r3] at r2
        cases r2
      have HE5 := hid e5
      have HGR := hid hgr
      have HM := hid hm
      clear hr hr2 hm hgr e5 hn q2
      unfold actL
      go_simp
      refine HK.out _ _ ⟨M, bx, ⟨?_, HPU.out, fun j hj h => ?_, ?_, fun h => ⟨q1, ?_⟩, fun j hj h => ?_, ?_⟩⟩
      · unfold actL; simp [HSET.out, h0, h5]
      · by_cases hj2 : j = 4
        · subst hj2
          simp [HSET.out, h0, h5]
        · rw [HSET.out, if_neg (by omega)] at h
          have := HI.out.dep j hj h
          rw [HSET.out, HSET.out]
          simp [this.1, this.2]
      · have := HI.out.dep2
        simp only [HSET.out]
        simpa using this
      · have e1 : kmL (L.setIfInBounds 30 true) bx = kset (kmL L bx) nmShares (cloD (bx 4)) := by
          funext s
          unfold kmL kset
          by_cases hs : s = nmShares
          · subst hs
            simp [HSET.out, n1, n2, n3, n4, n5, n6, n7, n8, n9, n10, n11, n12, n13, n14, n15, n1.symm, n2.symm, n3.symm, n4.symm, n5.symm, n6.symm, n7.symm, n8.symm, n9.symm, n10.symm, n11.symm, n12.symm, n13.symm, n14.symm, n15.symm]
          · simp [HSET.out, hs]
        have e2 : cntL (L.setIfInBounds 30 true) = cntL L + 1 := by unfold cntL; simp [HSET.out, hLi] <;> omega
        rw [e1, e2]
        exact HM.out
      · rw [HSET.out, if_neg (by omega)] at h
        obtain ⟨r1, r2⟩ := HI.out.box j hj h
        exact ⟨r1, (HGR.out.block _ (Array.getElem?_eq_some_iff.1 r2).1 (fun e => HE5.out j hj h (Option.some.inj e))).trans r2⟩
      · exact HI.out.bel.grown HGR.out HI.out.bel.size (fun k e => by injection e with e; omega)
    · obtain rfl := Option.some.inj ho
      subst hA
      have hdj : Lb L 36 = false := by cases h : Lb L 36 with | false => rfl | true => (have := (HI.out.dep 5 (by omega) h).2; rw [show Lb L (5 + 6 * 5) = Lb L 35 from rfl, hLi] at this; cases this)
      unfold actL fnN fnD
      go_simp
      refine (CN.out w 3).mono ?_
      rintro e w1 ⟨rfl, rfl⟩
      simp only []
      refine HK.out _ _ ⟨M, fun x => if x = 5 then w.heap.size else bx x, ⟨?_, HPU.out, fun j hj h => ?_, ?_, fun h => ?_, fun j hj h => ?_, HI.out.bel.alloc HI.out.bel.size _⟩⟩
      · unfold actL fnN fnD; simp [HSET.out]
      · rw [HSET.out, if_neg (by omega)] at h
        have := HI.out.dep j hj h
        rw [HSET.out, HSET.out]
        simp [this.1, this.2]
      · have := HI.out.dep2
        simp only [HSET.out]
        simpa using this
      · rw [HSET.out, if_neg (by omega)] at h
        obtain ⟨q1, q2⟩ := HI.out.map h
        refine ⟨q1, ?_⟩
        have e1 : kmL (L.setIfInBounds 35 true) (fun x => if x = 5 then w.heap.size else bx x) = kmL L bx := by unfold kmL; simp [HSET.out, hdj]
        have e2 : cntL (L.setIfInBounds 35 true) = cntL L := by unfold cntL; simp [HSET.out]
        rw [e1, e2]
        exact q2.below ((Below.refl _ w).alloc (Nat.le_refl _) _)
      · by_cases hj2 : j = 5
        · subst hj2
          refine ⟨?_, ?_⟩
          · simp; exact HI.out.bel.size
          · simp only [if_true]; exact heap_alloc_new w _
        · rw [HSET.out, if_neg (by omega)] at h
          obtain ⟨q1, q2⟩ := HI.out.box j hj h
          simp only [if_neg hj2]
          exact ⟨q1, (heap_alloc_old w _ (Array.getElem?_eq_some_iff.1 q2).1).trans q2⟩
    · obtain rfl := Option.some.inj ho
      subst hA
      have h0 : Lb L 0 = true := Lb_of (HD.out ⟨0, .data⟩ (by simp) rfl)
      have h5 : Lb L 35 = true := Lb_of (HD.out ⟨35, .data⟩ (by simp) rfl)
      obtain ⟨q1, q2⟩ := HI.out.map h0
      obtain ⟨n1, n2, n3, n4, n5, n6, n7, n8, n9, n10, n11, n12, n13, n14, n15⟩ := nm_ne
      have hn : kmL L bx nmSize = none := by unfold kmL; simp [hLi, n1, n2, n3, n4, n5, n6, n7, n8, n9, n10, n11, n12, n13, n14, n15, n1.symm, n2.symm, n3.symm, n4.symm, n5.symm, n6.symm, n7.symm, n8.symm, n9.symm, n10.symm, n11.symm, n12.symm, n13.symm, n14.symm, n15.symm]
      obtain ⟨w', hr, hm, hgr, hz⟩ := run_insm q2 (v := cloN (bx 5)) hn
      have hr2 : ∀ x, x = nmSize → (Instr.mapUpdate 67 (.map (some M)) (.string x) (cloN (bx 5))).run Tryd.prog w = .ok () w' := fun x hx => by rw [hx]; exact hr
      have hr3 := hr2 _ (show (⟨#[115, 105, 122, 101]⟩ : ByteArray) = nmSize from rfl)
      have e5 : ∀ k, k < 6 → Lb L (5 + 6 * k) = true → bx k ≠ M := fun k hk hb e => by
        obtain ⟨_, r2⟩ := HI.out.box k hk hb
        obtain ⟨es, c, r3, _⟩ := q2
        rw [e, r3] at r2
        cases r2
      have HE5 := hid e5
      have HGR := hid hgr
      have HM := hid hm
      clear hr hr2 hm hgr e5 hn q2
      unfold actL
      go_simp
      refine HK.out _ _ ⟨M, bx, ⟨?_, HPU.out, fun j hj h => ?_, ?_, fun h => ⟨q1, ?_⟩, fun j hj h => ?_, ?_⟩⟩
      · unfold actL; simp [HSET.out, h0, h5]
      · by_cases hj2 : j = 5
        · subst hj2
          simp [HSET.out, h0, h5]
        · rw [HSET.out, if_neg (by omega)] at h
          have := HI.out.dep j hj h
          rw [HSET.out, HSET.out]
          simp [this.1, this.2]
      · have := HI.out.dep2
        simp only [HSET.out]
        simpa using this
      · have e1 : kmL (L.setIfInBounds 36 true) bx = kset (kmL L bx) nmSize (cloN (bx 5)) := by
          funext s
          unfold kmL kset
          by_cases hs : s = nmSize
          · subst hs
            simp [HSET.out, n1, n2, n3, n4, n5, n6, n7, n8, n9, n10, n11, n12, n13, n14, n15, n1.symm, n2.symm, n3.symm, n4.symm, n5.symm, n6.symm, n7.symm, n8.symm, n9.symm, n10.symm, n11.symm, n12.symm, n13.symm, n14.symm, n15.symm]
          · simp [HSET.out, hs]
        have e2 : cntL (L.setIfInBounds 36 true) = cntL L + 1 := by unfold cntL; simp [HSET.out, hLi] <;> omega
        rw [e1, e2]
        exact HM.out
      · rw [HSET.out, if_neg (by omega)] at h
        obtain ⟨r1, r2⟩ := HI.out.box j hj h
        exact ⟨r1, (HGR.out.block _ (Array.getElem?_eq_some_iff.1 r2).1 (fun e => HE5.out j hj h (Option.some.inj e))).trans r2⟩
      · exact HI.out.bel.grown HGR.out HI.out.bel.size (fun k e => by injection e with e; omega)
    · obtain rfl := Option.some.inj ho
      subst hA
      have h0 : Lb L 0 = true := Lb_of (HD.out ⟨0, .data⟩ (by simp) rfl)
      unfold actL
      go_simp
      refine HK.out _ _ ⟨M, bx, ⟨?_, HPU.out, fun j hj h => ?_, ?_, fun h => ?_, fun j hj h => ?_, HI.out.bel⟩⟩
      · unfold actL; simp [HSET.out, h0]
      · rw [HSET.out, if_neg (by omega)] at h
        have := HI.out.dep j hj h
        rw [HSET.out, HSET.out]
        simp [this.1, this.2]
      · simp [HSET.out, h0]
      · rw [HSET.out, if_neg (by omega)] at h
        obtain ⟨q1, q2⟩ := HI.out.map h
        refine ⟨q1, ?_⟩
        have e1 : kmL (L.setIfInBounds 37 true) bx = kmL L bx := by unfold kmL; simp [HSET.out]
        have e2 : cntL (L.setIfInBounds 37 true) = cntL L := by unfold cntL; simp [HSET.out]
        rw [e1, e2]
        exact q2
      · rw [HSET.out, if_neg (by omega)] at h
        exact HI.out.box j hj h
    · obtain rfl := Option.some.inj ho
      subst hA
      have h0 : Lb L 37 = true := Lb_of (HD.out ⟨37, .data⟩ (by simp) rfl)
      unfold actL
      go_simp
      refine HK.out _ _ ⟨M, bx, ⟨?_, HPU.out, fun j hj h => ?_, ?_, fun h => ?_, fun j hj h => ?_, HI.out.bel⟩⟩
      · unfold actL; simp [HSET.out, h0]
      · rw [HSET.out, if_neg (by omega)] at h
        have := HI.out.dep j hj h
        rw [HSET.out, HSET.out]
        simp [this.1, this.2]
      · have h00 := HI.out.dep2.1 h0; simp [HSET.out, h0, h00]
      · rw [HSET.out, if_neg (by omega)] at h
        obtain ⟨q1, q2⟩ := HI.out.map h
        refine ⟨q1, ?_⟩
        have e1 : kmL (L.setIfInBounds 38 true) bx = kmL L bx := by unfold kmL; simp [HSET.out]
        have e2 : cntL (L.setIfInBounds 38 true) = cntL L := by unfold cntL; simp [HSET.out]
        rw [e1, e2]
        exact q2
      · rw [HSET.out, if_neg (by omega)] at h
        exact HI.out.box j hj h
end Go.Proofs.YthcdefidoibopabDoor
