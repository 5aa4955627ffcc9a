/- Of the road to tagBackUptoCard_holds: TgFit, ShaTurn, ShaWords. -/
import Derived.Test.YtokamemkfgpfpaaDoorG00
import Derived.Laws.BitsAllLaws
import Derived.BigRegion
set_option linter.unusedVariables false
set_option linter.unusedSimpArgs false
namespace Go.Proofs.YtokamemkfgpfpaaDoor
open Go Go.RowKit
inductive Bd where
  | just (n : Nat)
  | most (n : Nat)
  | any
def Bd.ok : Bd → Nat → Bool
  | .just n, x => decide (x = n)
  | .most n, x => decide (x ≤ n)
  | .any, _ => true
def bdsOf (t : Nat) : List Bd :=
  match t with
  | 1 => [.most 64, .just 6, .most 16777216]
  | 2 => [.just 16]
  | 3 => [.any]
  | 4 => [.any]
  | 5 => [.just 32]
  | 6 => [.just 32, .just 32]
  | 7 => [.just 4]
  | 8 => [.any]
  | 9 => [.just 16, .just 4]
  | _ => []
def wS (t : Nat) : ByteArray :=
  match t with
  | 1 => ⟨#[115, 116, 114, 111, 110, 103, 114, 111, 111, 109, 32, 107, 101, 121]⟩
  | 2 => ⟨#[115, 116, 114, 111, 110, 103, 114, 111, 111, 109, 32, 105, 110, 100, 101, 120]⟩
  | 3 => ⟨#[115, 116, 114, 111, 110, 103, 114, 111, 111, 109, 32, 98, 108, 111, 99, 107]⟩
  | 4 => ⟨#[115, 116, 114, 111, 110, 103, 114, 111, 111, 109, 32, 115, 101, 103, 109, 101, 110, 116]⟩
  | 5 => ⟨#[115, 116, 114, 111, 110, 103, 114, 111, 111, 109, 32, 114, 111, 111, 116]⟩
  | 6 => ⟨#[115, 116, 114, 111, 110, 103, 114, 111, 111, 109, 32, 110, 111, 100, 101]⟩
  | 7 => ⟨#[115, 116, 114, 111, 110, 103, 114, 111, 111, 109, 32, 112, 97, 100]⟩
  | 8 => ⟨#[115, 116, 114, 111, 110, 103, 114, 111, 111, 109, 32, 117, 101, 98]⟩
  | 9 => ⟨#[115, 116, 114, 111, 110, 103, 114, 111, 111, 109, 32, 114, 105, 110, 103]⟩
  | _ => ⟨#[]⟩
def cJ (x : Nat) : Value := .func (.func 83) #[] #[.pointer (some ⟨x, 0, none⟩)]
def cM (x : Nat) : Value := .func (.func 82) #[] #[.pointer (some ⟨x, 0, none⟩)]
def cA : Value := .func (.func 84) #[] #[]
def HBd (w : World) (v : Value) : Bd → Prop
  | .just n => ∃ x, v = cJ x ∧ w.cell? ⟨x, 0, none⟩ = some (.int .i64 (n : Int))
  | .most n => ∃ x, v = cM x ∧ w.cell? ⟨x, 0, none⟩ = some (.int .i64 (n : Int))
  | .any => v = cA
theorem HBd.below {w w' : World} {v : Value} : ∀ {b : Bd}, HBd w v b → Below w.heap.size w w' → HBd w' v b
  | .just _, ⟨x, e, h⟩, hb => ⟨x, e, (hb.cell (World.block_lt_of_cell? w _ h)).trans h⟩
  | .most _, ⟨x, e, h⟩, hb => ⟨x, e, (hb.cell (World.block_lt_of_cell? w _ h)).trans h⟩
  | .any, h, _ => h
def HBs (w : World) (v : Value) (bs : List Bd) : Prop :=
  (bs = [] ∧ v = .slice none 0 0) ∨ (bs ≠ [] ∧ ∃ (g : Nat) (vs : List Value), v = .slice (some ⟨g, 0, none⟩) bs.length bs.length ∧ vs.length = bs.length ∧ w.heap[g]? = some (.cells vs.toArray 94 (0, 0)) ∧ ∀ j, j < bs.length → HBd w (vs.getD j undef) (bs.getD j .any))
set_option maxRecDepth 20000 in
theorem just_mk (w : World) (n : Int) : Calls Tryd.prog 75 #[.int .i64 n] w fun e w' => e = .returned (cJ w.heap.size) ∧ w' = w.alloc (.cells #[.int .i64 n] 3) := by
  go_enter Tryd.func75, Tryd.ntmps75
  go_wp2
  go_ret
  exact ⟨rfl, rfl⟩
set_option maxRecDepth 20000 in
theorem just_cl (w : World) (x : Nat) (n m : Nat) (h : w.cell? ⟨x, 0, none⟩ = some (.int .i64 (n : Int))) : Calls Tryd.prog 83 #[.int .i64 (m : Int), .pointer (some ⟨x, 0, none⟩)] w fun e w' => e = .returned (.bool ((Bd.just n).ok m)) ∧ w' = w := by
  go_enter Tryd.func83, Tryd.ntmps83
  go_wp2
  go_ret
  refine ⟨?_, rfl⟩
  simp only [Bd.ok]
  by_cases e : m = n
  · subst e; simp
  · first | (simp [e]; done) | (simp [e]; omega) | simp
set_option maxRecDepth 20000 in
theorem most_mk (w : World) (n : Int) : Calls Tryd.prog 74 #[.int .i64 n] w fun e w' => e = .returned (cM w.heap.size) ∧ w' = w.alloc (.cells #[.int .i64 n] 3) := by
  go_enter Tryd.func74, Tryd.ntmps74
  go_wp2
  go_ret
  exact ⟨rfl, rfl⟩
set_option maxRecDepth 20000 in
theorem most_cl (w : World) (x : Nat) (n m : Nat) (h : w.cell? ⟨x, 0, none⟩ = some (.int .i64 (n : Int))) : Calls Tryd.prog 82 #[.int .i64 (m : Int), .pointer (some ⟨x, 0, none⟩)] w fun e w' => e = .returned (.bool ((Bd.most n).ok m)) ∧ w' = w := by
  go_enter Tryd.func82, Tryd.ntmps82
  go_wp2
  go_ret
  refine ⟨?_, rfl⟩
  simp only [Bd.ok]
  by_cases e : m = n
  · subst e; simp
  · first | (simp [e]; done) | (simp [e]; omega) | simp
set_option maxRecDepth 20000 in
theorem what_mk (w : World) : Calls Tryd.prog 76 #[] w fun e w' => e = .returned cA ∧ w' = w := by
  go_enter Tryd.func76, Tryd.ntmps76
  go_wp2
  go_ret
  exact ⟨rfl, rfl⟩
set_option maxRecDepth 20000 in
theorem what_cl (w : World) (m : Nat) : Calls Tryd.prog 84 #[.int .i64 (m : Int)] w fun e w' => e = .returned (.bool true) ∧ w' = w := by
  go_enter Tryd.func84, Tryd.ntmps84
  go_wp2
  go_ret
  exact ⟨rfl, rfl⟩
set_option maxRecDepth 20000 in
theorem word_t1 (w : World) : Calls Tryd.prog 17 #[.int .u8 1] w fun e w' => e = .returned (.string (wS 1)) ∧ w' = w := by
  go_enter Tryd.func17, Tryd.ntmps17
  go_wp2
  go_ret
  exact ⟨rfl, rfl⟩
set_option maxRecDepth 20000 in
theorem word_t2 (w : World) : Calls Tryd.prog 17 #[.int .u8 2] w fun e w' => e = .returned (.string (wS 2)) ∧ w' = w := by
  go_enter Tryd.func17, Tryd.ntmps17
  go_wp2
  go_ret
  exact ⟨rfl, rfl⟩
set_option maxRecDepth 20000 in
theorem word_t3 (w : World) : Calls Tryd.prog 17 #[.int .u8 3] w fun e w' => e = .returned (.string (wS 3)) ∧ w' = w := by
  go_enter Tryd.func17, Tryd.ntmps17
  go_wp2
  go_ret
  exact ⟨rfl, rfl⟩
set_option maxRecDepth 20000 in
theorem word_t4 (w : World) : Calls Tryd.prog 17 #[.int .u8 4] w fun e w' => e = .returned (.string (wS 4)) ∧ w' = w := by
  go_enter Tryd.func17, Tryd.ntmps17
  go_wp2
  go_ret
  exact ⟨rfl, rfl⟩
set_option maxRecDepth 20000 in
theorem word_t5 (w : World) : Calls Tryd.prog 17 #[.int .u8 5] w fun e w' => e = .returned (.string (wS 5)) ∧ w' = w := by
  go_enter Tryd.func17, Tryd.ntmps17
  go_wp2
  go_ret
  exact ⟨rfl, rfl⟩
set_option maxRecDepth 20000 in
theorem word_t6 (w : World) : Calls Tryd.prog 17 #[.int .u8 6] w fun e w' => e = .returned (.string (wS 6)) ∧ w' = w := by
  go_enter Tryd.func17, Tryd.ntmps17
  go_wp2
  go_ret
  exact ⟨rfl, rfl⟩
set_option maxRecDepth 20000 in
theorem word_t7 (w : World) : Calls Tryd.prog 17 #[.int .u8 7] w fun e w' => e = .returned (.string (wS 7)) ∧ w' = w := by
  go_enter Tryd.func17, Tryd.ntmps17
  go_wp2
  go_ret
  exact ⟨rfl, rfl⟩
set_option maxRecDepth 20000 in
theorem word_t8 (w : World) : Calls Tryd.prog 17 #[.int .u8 8] w fun e w' => e = .returned (.string (wS 8)) ∧ w' = w := by
  go_enter Tryd.func17, Tryd.ntmps17
  go_wp2
  go_ret
  exact ⟨rfl, rfl⟩
set_option maxRecDepth 20000 in
theorem word_t9 (w : World) : Calls Tryd.prog 17 #[.int .u8 9] w fun e w' => e = .returned (.string (wS 9)) ∧ w' = w := by
  go_enter Tryd.func17, Tryd.ntmps17
  go_wp2
  go_ret
  exact ⟨rfl, rfl⟩
theorem tag_cases (t : Nat) : t = 1 ∨ t = 2 ∨ t = 3 ∨ t = 4 ∨ t = 5 ∨ t = 6 ∨ t = 7 ∨ t = 8 ∨ t = 9 ∨ (t = 0 ∨ 10 ≤ t) := by omega
theorem none_of {t : Nat} (h : t = 0 ∨ 10 ≤ t) : bdsOf t = [] ∧ wS t = ⟨#[]⟩ := by
  rcases h with rfl | h
  · exact ⟨rfl, rfl⟩
  · obtain ⟨k, rfl⟩ := Nat.exists_eq_add_of_le h
    rw [Nat.add_comm]
    exact ⟨rfl, rfl⟩
set_option maxRecDepth 20000 in
theorem word_none (w : World) (t : Nat) (ht : t = 0 ∨ 10 ≤ t) : Calls Tryd.prog 17 #[.int .u8 (t : Int)] w fun e w' => e = .returned (.string (wS t)) ∧ w' = w := by
  rw [(none_of ht).2]
  have h1 : ((t : Int) == 1) = false := by simp; omega
  have h2 : ((t : Int) == 2) = false := by simp; omega
  have h3 : ((t : Int) == 3) = false := by simp; omega
  have h4 : ((t : Int) == 4) = false := by simp; omega
  have h5 : ((t : Int) == 5) = false := by simp; omega
  have h6 : ((t : Int) == 6) = false := by simp; omega
  have h7 : ((t : Int) == 7) = false := by simp; omega
  have h8 : ((t : Int) == 8) = false := by simp; omega
  have h9 : ((t : Int) == 9) = false := by simp; omega
  go_enter Tryd.func17, Tryd.ntmps17
  go_wp2
  go_ret
  exact ⟨rfl, rfl⟩
theorem word_tag (w : World) (t : Nat) : Calls Tryd.prog 17 #[.int .u8 (t : Int)] w fun e w' => e = .returned (.string (wS t)) ∧ w' = w := by
  rcases tag_cases t with rfl | rfl | rfl | rfl | rfl | rfl | rfl | rfl | rfl | h
  · exact word_t1 w
  · exact word_t2 w
  · exact word_t3 w
  · exact word_t4 w
  · exact word_t5 w
  · exact word_t6 w
  · exact word_t7 w
  · exact word_t8 w
  · exact word_t9 w
  · exact word_none w t h
set_option maxRecDepth 20000 in
theorem bounds_t1 (w : World) : Calls Tryd.prog 61 #[.int .u8 1] w fun e w' => ∃ v, e = .returned v ∧ HBs w' v (bdsOf 1) ∧ Below w.heap.size w w' := by
  have CJ := hid just_mk
  have CM := hid most_mk
  have CA := hid what_mk
  go_enter Tryd.func61, Tryd.ntmps61
  go_wp2_with fail
  refine (CM.out w 64).mono ?_
  rintro e w1 ⟨rfl, e1⟩
  have E1 := hid e1
  clear e1
  try simp only [cJ, cM, cA]
  go_wp2_with fail
  refine (CJ.out w1 6).mono ?_
  rintro e w2 ⟨rfl, e2⟩
  have E2 := hid e2
  clear e2
  try simp only [cJ, cM, cA]
  go_wp2_with fail
  refine (CM.out w2 16777216).mono ?_
  rintro e w3 ⟨rfl, e3⟩
  have E3 := hid e3
  clear e3
  try simp only [cJ, cM, cA]
  go_wp2
  go_ret
  have b1 : Below w.heap.size w w1 := by rw [E1.out]; exact bel_al5 _ _
  have b2 : Below w1.heap.size w1 w2 := by rw [E2.out]; exact bel_al5 _ _
  have b3 : Below w2.heap.size w2 w3 := by rw [E3.out]; exact bel_al5 _ _
  refine ⟨_, rfl, .inr ⟨by simp [bdsOf], w3.heap.size, [cM w.heap.size, cJ w1.heap.size, cM w2.heap.size], rfl, rfl, heap_alloc_new _ _, fun j hj => ?_⟩, ?_⟩
  · match j, hj with
    | 0, _ => exact HBd.below (b := .most 64) (w := w1) ⟨w.heap.size, rfl, by rw [E1.out]; exact (cell_of_row _ _ 0 _ _ _ (heap_alloc_new _ _)).trans rfl⟩ ((b2.trans (b3.mono b2.size)).trans ((bel_al5 w3 _).mono (b2.trans (b3.mono b2.size)).size))
    | 1, _ => exact HBd.below (b := .just 6) (w := w2) ⟨w1.heap.size, rfl, by rw [E2.out]; exact (cell_of_row _ _ 0 _ _ _ (heap_alloc_new _ _)).trans rfl⟩ (b3.trans ((bel_al5 w3 _).mono b3.size))
    | 2, _ => exact HBd.below (b := .most 16777216) (w := w3) ⟨w2.heap.size, rfl, by rw [E3.out]; exact (cell_of_row _ _ 0 _ _ _ (heap_alloc_new _ _)).trans rfl⟩ (bel_al5 w3 _)
    | j + 3, h => exfalso; simp [bdsOf] at h; try omega
  · exact (((b1.trans (b2.mono b1.size)).trans (b3.mono (b1.trans (b2.mono b1.size)).size)).trans ((bel_al5 w3 _).mono ((b1.trans (b2.mono b1.size)).trans (b3.mono (b1.trans (b2.mono b1.size)).size)).size))
set_option maxRecDepth 20000 in
theorem bounds_t2 (w : World) : Calls Tryd.prog 61 #[.int .u8 2] w fun e w' => ∃ v, e = .returned v ∧ HBs w' v (bdsOf 2) ∧ Below w.heap.size w w' := by
  have CJ := hid just_mk
  have CM := hid most_mk
  have CA := hid what_mk
  go_enter Tryd.func61, Tryd.ntmps61
  go_wp2_with fail
  refine (CJ.out w 16).mono ?_
  rintro e w1 ⟨rfl, e1⟩
  have E1 := hid e1
  clear e1
  try simp only [cJ, cM, cA]
  go_wp2
  go_ret
  have b1 : Below w.heap.size w w1 := by rw [E1.out]; exact bel_al5 _ _
  refine ⟨_, rfl, .inr ⟨by simp [bdsOf], w1.heap.size, [cJ w.heap.size], rfl, rfl, heap_alloc_new _ _, fun j hj => ?_⟩, ?_⟩
  · match j, hj with
    | 0, _ => exact HBd.below (b := .just 16) (w := w1) ⟨w.heap.size, rfl, by rw [E1.out]; exact (cell_of_row _ _ 0 _ _ _ (heap_alloc_new _ _)).trans rfl⟩ (bel_al5 w1 _)
    | j + 1, h => exfalso; simp [bdsOf] at h; try omega
  · exact (b1.trans ((bel_al5 w1 _).mono b1.size))
set_option maxRecDepth 20000 in
theorem bounds_t3 (w : World) : Calls Tryd.prog 61 #[.int .u8 3] w fun e w' => ∃ v, e = .returned v ∧ HBs w' v (bdsOf 3) ∧ Below w.heap.size w w' := by
  have CJ := hid just_mk
  have CM := hid most_mk
  have CA := hid what_mk
  go_enter Tryd.func61, Tryd.ntmps61
  go_wp2_with fail
  refine (CA.out w).mono ?_
  rintro e w1 ⟨rfl, e1⟩
  have E1 := hid e1
  clear e1
  try simp only [cJ, cM, cA]
  go_wp2
  go_ret
  have b1 : Below w.heap.size w w1 := by rw [E1.out]; exact Below.refl _ _
  refine ⟨_, rfl, .inr ⟨by simp [bdsOf], w1.heap.size, [cA], rfl, rfl, heap_alloc_new _ _, fun j hj => ?_⟩, ?_⟩
  · match j, hj with
    | 0, _ => exact rfl
    | j + 1, h => exfalso; simp [bdsOf] at h; try omega
  · exact (b1.trans ((bel_al5 w1 _).mono b1.size))
set_option maxRecDepth 20000 in
theorem bounds_t4 (w : World) : Calls Tryd.prog 61 #[.int .u8 4] w fun e w' => ∃ v, e = .returned v ∧ HBs w' v (bdsOf 4) ∧ Below w.heap.size w w' := by
  have CJ := hid just_mk
  have CM := hid most_mk
  have CA := hid what_mk
  go_enter Tryd.func61, Tryd.ntmps61
  go_wp2_with fail
  refine (CA.out w).mono ?_
  rintro e w1 ⟨rfl, e1⟩
  have E1 := hid e1
  clear e1
  try simp only [cJ, cM, cA]
  go_wp2
  go_ret
  have b1 : Below w.heap.size w w1 := by rw [E1.out]; exact Below.refl _ _
  refine ⟨_, rfl, .inr ⟨by simp [bdsOf], w1.heap.size, [cA], rfl, rfl, heap_alloc_new _ _, fun j hj => ?_⟩, ?_⟩
  · match j, hj with
    | 0, _ => exact rfl
    | j + 1, h => exfalso; simp [bdsOf] at h; try omega
  · exact (b1.trans ((bel_al5 w1 _).mono b1.size))
set_option maxRecDepth 20000 in
theorem bounds_t5 (w : World) : Calls Tryd.prog 61 #[.int .u8 5] w fun e w' => ∃ v, e = .returned v ∧ HBs w' v (bdsOf 5) ∧ Below w.heap.size w w' := by
  have CJ := hid just_mk
  have CM := hid most_mk
  have CA := hid what_mk
  go_enter Tryd.func61, Tryd.ntmps61
  go_wp2_with fail
  refine (CJ.out w 32).mono ?_
  rintro e w1 ⟨rfl, e1⟩
  have E1 := hid e1
  clear e1
  try simp only [cJ, cM, cA]
  go_wp2
  go_ret
  have b1 : Below w.heap.size w w1 := by rw [E1.out]; exact bel_al5 _ _
  refine ⟨_, rfl, .inr ⟨by simp [bdsOf], w1.heap.size, [cJ w.heap.size], rfl, rfl, heap_alloc_new _ _, fun j hj => ?_⟩, ?_⟩
  · match j, hj with
    | 0, _ => exact HBd.below (b := .just 32) (w := w1) ⟨w.heap.size, rfl, by rw [E1.out]; exact (cell_of_row _ _ 0 _ _ _ (heap_alloc_new _ _)).trans rfl⟩ (bel_al5 w1 _)
    | j + 1, h => exfalso; simp [bdsOf] at h; try omega
  · exact (b1.trans ((bel_al5 w1 _).mono b1.size))
set_option maxRecDepth 20000 in
theorem bounds_t6 (w : World) : Calls Tryd.prog 61 #[.int .u8 6] w fun e w' => ∃ v, e = .returned v ∧ HBs w' v (bdsOf 6) ∧ Below w.heap.size w w' := by
  have CJ := hid just_mk
  have CM := hid most_mk
  have CA := hid what_mk
  go_enter Tryd.func61, Tryd.ntmps61
  go_wp2_with fail
  refine (CJ.out w 32).mono ?_
  rintro e w1 ⟨rfl, e1⟩
  have E1 := hid e1
  clear e1
  try simp only [cJ, cM, cA]
  go_wp2_with fail
  refine (CJ.out w1 32).mono ?_
  rintro e w2 ⟨rfl, e2⟩
  have E2 := hid e2
  clear e2
  try simp only [cJ, cM, cA]
  go_wp2
  go_ret
  have b1 : Below w.heap.size w w1 := by rw [E1.out]; exact bel_al5 _ _
  have b2 : Below w1.heap.size w1 w2 := by rw [E2.out]; exact bel_al5 _ _
  refine ⟨_, rfl, .inr ⟨by simp [bdsOf], w2.heap.size, [cJ w.heap.size, cJ w1.heap.size], rfl, rfl, heap_alloc_new _ _, fun j hj => ?_⟩, ?_⟩
  · match j, hj with
    | 0, _ => exact HBd.below (b := .just 32) (w := w1) ⟨w.heap.size, rfl, by rw [E1.out]; exact (cell_of_row _ _ 0 _ _ _ (heap_alloc_new _ _)).trans rfl⟩ (b2.trans ((bel_al5 w2 _).mono b2.size))
    | 1, _ => exact HBd.below (b := .just 32) (w := w2) ⟨w1.heap.size, rfl, by rw [E2.out]; exact (cell_of_row _ _ 0 _ _ _ (heap_alloc_new _ _)).trans rfl⟩ (bel_al5 w2 _)
    | j + 2, h => exfalso; simp [bdsOf] at h; try omega
  · exact ((b1.trans (b2.mono b1.size)).trans ((bel_al5 w2 _).mono (b1.trans (b2.mono b1.size)).size))
set_option maxRecDepth 20000 in
theorem bounds_t7 (w : World) : Calls Tryd.prog 61 #[.int .u8 7] w fun e w' => ∃ v, e = .returned v ∧ HBs w' v (bdsOf 7) ∧ Below w.heap.size w w' := by
  have CJ := hid just_mk
  have CM := hid most_mk
  have CA := hid what_mk
  go_enter Tryd.func61, Tryd.ntmps61
  go_wp2_with fail
  refine (CJ.out w 4).mono ?_
  rintro e w1 ⟨rfl, e1⟩
  have E1 := hid e1
  clear e1
  try simp only [cJ, cM, cA]
  go_wp2
  go_ret
  have b1 : Below w.heap.size w w1 := by rw [E1.out]; exact bel_al5 _ _
  refine ⟨_, rfl, .inr ⟨by simp [bdsOf], w1.heap.size, [cJ w.heap.size], rfl, rfl, heap_alloc_new _ _, fun j hj => ?_⟩, ?_⟩
  · match j, hj with
    | 0, _ => exact HBd.below (b := .just 4) (w := w1) ⟨w.heap.size, rfl, by rw [E1.out]; exact (cell_of_row _ _ 0 _ _ _ (heap_alloc_new _ _)).trans rfl⟩ (bel_al5 w1 _)
    | j + 1, h => exfalso; simp [bdsOf] at h; try omega
  · exact (b1.trans ((bel_al5 w1 _).mono b1.size))
set_option maxRecDepth 20000 in
theorem bounds_t8 (w : World) : Calls Tryd.prog 61 #[.int .u8 8] w fun e w' => ∃ v, e = .returned v ∧ HBs w' v (bdsOf 8) ∧ Below w.heap.size w w' := by
  have CJ := hid just_mk
  have CM := hid most_mk
  have CA := hid what_mk
  go_enter Tryd.func61, Tryd.ntmps61
  go_wp2_with fail
  refine (CA.out w).mono ?_
  rintro e w1 ⟨rfl, e1⟩
  have E1 := hid e1
  clear e1
  try simp only [cJ, cM, cA]
  go_wp2
  go_ret
  have b1 : Below w.heap.size w w1 := by rw [E1.out]; exact Below.refl _ _
  refine ⟨_, rfl, .inr ⟨by simp [bdsOf], w1.heap.size, [cA], rfl, rfl, heap_alloc_new _ _, fun j hj => ?_⟩, ?_⟩
  · match j, hj with
    | 0, _ => exact rfl
    | j + 1, h => exfalso; simp [bdsOf] at h; try omega
  · exact (b1.trans ((bel_al5 w1 _).mono b1.size))
set_option maxRecDepth 20000 in
theorem bounds_t9 (w : World) : Calls Tryd.prog 61 #[.int .u8 9] w fun e w' => ∃ v, e = .returned v ∧ HBs w' v (bdsOf 9) ∧ Below w.heap.size w w' := by
  have CJ := hid just_mk
  have CM := hid most_mk
  have CA := hid what_mk
  go_enter Tryd.func61, Tryd.ntmps61
  go_wp2_with fail
  refine (CJ.out w 16).mono ?_
  rintro e w1 ⟨rfl, e1⟩
  have E1 := hid e1
  clear e1
  try simp only [cJ, cM, cA]
  go_wp2_with fail
  refine (CJ.out w1 4).mono ?_
  rintro e w2 ⟨rfl, e2⟩
  have E2 := hid e2
  clear e2
  try simp only [cJ, cM, cA]
  go_wp2
  go_ret
  have b1 : Below w.heap.size w w1 := by rw [E1.out]; exact bel_al5 _ _
  have b2 : Below w1.heap.size w1 w2 := by rw [E2.out]; exact bel_al5 _ _
  refine ⟨_, rfl, .inr ⟨by simp [bdsOf], w2.heap.size, [cJ w.heap.size, cJ w1.heap.size], rfl, rfl, heap_alloc_new _ _, fun j hj => ?_⟩, ?_⟩
  · match j, hj with
    | 0, _ => exact HBd.below (b := .just 16) (w := w1) ⟨w.heap.size, rfl, by rw [E1.out]; exact (cell_of_row _ _ 0 _ _ _ (heap_alloc_new _ _)).trans rfl⟩ (b2.trans ((bel_al5 w2 _).mono b2.size))
    | 1, _ => exact HBd.below (b := .just 4) (w := w2) ⟨w1.heap.size, rfl, by rw [E2.out]; exact (cell_of_row _ _ 0 _ _ _ (heap_alloc_new _ _)).trans rfl⟩ (bel_al5 w2 _)
    | j + 2, h => exfalso; simp [bdsOf] at h; try omega
  · exact ((b1.trans (b2.mono b1.size)).trans ((bel_al5 w2 _).mono (b1.trans (b2.mono b1.size)).size))
set_option maxRecDepth 20000 in
theorem bounds_none (w : World) (t : Nat) (ht : t = 0 ∨ 10 ≤ t) : Calls Tryd.prog 61 #[.int .u8 (t : Int)] w fun e w' => ∃ v, e = .returned v ∧ HBs w' v (bdsOf t) ∧ Below w.heap.size w w' := by
  rw [(none_of ht).1]
  have h1 : ((t : Int) == 1) = false := by simp; omega
  have h2 : ((t : Int) == 2) = false := by simp; omega
  have h3 : ((t : Int) == 3) = false := by simp; omega
  have h4 : ((t : Int) == 4) = false := by simp; omega
  have h5 : ((t : Int) == 5) = false := by simp; omega
  have h6 : ((t : Int) == 6) = false := by simp; omega
  have h7 : ((t : Int) == 7) = false := by simp; omega
  have h8 : ((t : Int) == 8) = false := by simp; omega
  have h9 : ((t : Int) == 9) = false := by simp; omega
  go_enter Tryd.func61, Tryd.ntmps61
  go_wp2
  go_ret
  exact ⟨_, rfl, .inl ⟨rfl, rfl⟩, Below.refl _ _⟩
theorem bounds_any (w : World) (t : Nat) : Calls Tryd.prog 61 #[.int .u8 (t : Int)] w fun e w' => ∃ v, e = .returned v ∧ HBs w' v (bdsOf t) ∧ Below w.heap.size w w' := by
  rcases tag_cases t with rfl | rfl | rfl | rfl | rfl | rfl | rfl | rfl | rfl | h
  · exact bounds_t1 w
  · exact bounds_t2 w
  · exact bounds_t3 w
  · exact bounds_t4 w
  · exact bounds_t5 w
  · exact bounds_t6 w
  · exact bounds_t7 w
  · exact bounds_t8 w
  · exact bounds_t9 w
  · exact bounds_none w t h
def FitQ (t : Nat) (ls : List (List Int)) : Prop := ls.length = (bdsOf t).length ∧ ∀ j, j < ls.length → ((bdsOf t).getD j .any).ok (ls.getD j []).length = true
instance (t : Nat) (ls : List (List Int)) : Decidable (FitQ t ls) := by unfold FitQ; infer_instance
theorem bds_len (t : Nat) : (bdsOf t).length ≤ 3 := by
  rcases tag_cases t with rfl | rfl | rfl | rfl | rfl | rfl | rfl | rfl | rfl | h
  all_goals first | (rw [(none_of h).1]; simp) | simp [bdsOf]
set_option maxRecDepth 100000 in
set_option maxHeartbeats 4000000 in
theorem fit_any (w : World) (t : Nat) (v : Value) (ls : List (List Int)) (h : HL w v ls) : Calls Tryd.prog 30 #[.int .u8 (t : Int), v] w fun e w' => e = .returned (.bool (decide (FitQ t ls))) ∧ Below w.heap.size w w' := by
  have CB := hid (bounds_any w t)
  have CJ := hid just_cl
  have CM := hid most_cl
  have CA := hid what_cl
  have HH := hid h
  have BL := hid (bds_len t)
  have FQ : Hid (FitQ t ls ↔ (ls.length = (bdsOf t).length ∧ ∀ j, j < ls.length → ((bdsOf t).getD j .any).ok (ls.getD j []).length = true)) := hid Iff.rfl
  obtain ⟨d, HD⟩ : ∃ d, Hid (decide (FitQ t ls) = d) := ⟨_, rfl⟩
  rw [HD.out]
  obtain ⟨bs, HBS⟩ : ∃ bs, Hid (bdsOf t = bs) := ⟨_, rfl⟩
  rw [HBS.out] at CB FQ BL
  obtain ⟨p, c, rfl, hlc, hcm⟩ := h.open
  clear h hlc hcm
  have hbl := BL.out
  go_enter Tryd.func30, Tryd.ntmps30
  go_wp2_with fail
  refine CB.out.mono ?_
  rintro e w1 ⟨vb, rfl, hvb, hb1⟩
  have B1 := hid hb1
  have VB := hid hvb
  clear hvb hb1 CB
  have hvl : ∃ q, vb = .slice q bs.length bs.length := by
    rcases VB.out with ⟨rfl, rfl⟩ | ⟨_, g, vs, rfl, _⟩
    · exact ⟨none, rfl⟩
    · exact ⟨_, rfl⟩
  obtain ⟨q, rfl⟩ := hvl
  by_cases hlen : ls.length = bs.length
  case neg =>
    have hd : d = false := by rw [← HD.out]; exact decide_eq_false fun hf => hlen (FQ.out.1 hf).1
    subst hd
    have hl1 : ((ls.length : Int) == (bs.length : Int)) = false := by simp; omega
    go_wp2
    go_ret
    exact ⟨rfl, B1.out⟩
  case pos =>
    go_wp2
    go_loopw [17] (fun ii wr => ∃ I : Nat, I ≤ ls.length ∧ ii = .int .i64 (I : Int) ∧ Hid (∀ j, j < I → (bs.getD j .any).ok (ls.getD j []).length = true) ∧ wr = w1) (fun ii _ => ls.length - (intOf ii).toNat)
    case atStart => exact ⟨0, by omega, rfl, hid (fun j hj => by omega), rfl⟩
    case round =>
      obtain ⟨I, hI, rfl, HN, rfl⟩ := hrel
      by_cases hlt : I < ls.length
      case neg =>
        have hd : d = true := by rw [← HD.out]; exact decide_eq_true (FQ.out.2 ⟨hlen, fun j hj => HN.out j (by omega)⟩)
        subst hd
        go_wp2
        go_ret
        exact ⟨rfl, B1.out⟩
      case pos =>
        obtain ⟨b, off, ep, hp⟩ := HH.out.at5 (by omega)
        subst ep
        obtain ⟨u, hu, hbu⟩ := hp I hlt
        obtain ⟨p2, c2, eu, _, _⟩ := hbu.open
        subst eu
        have hc := ((B1.out.cell (World.block_lt_of_cell? w _ hu)).trans hu)
        obtain ⟨hne, g, vs, eg, hvl, hg, hj⟩ : bs ≠ [] ∧ ∃ (g : Nat) (vs : List Value), (Value.slice q bs.length bs.length) = .slice (some ⟨g, 0, none⟩) bs.length bs.length ∧ vs.length = bs.length ∧ wr.heap[g]? = some (.cells vs.toArray 94 (0, 0)) ∧ ∀ j, j < bs.length → HBd wr (vs.getD j undef) (bs.getD j .any) := by
          rcases VB.out with ⟨e, _⟩ | h
          · rw [e, List.length_nil] at hlen; omega
          · exact h
        simp only [Value.slice.injEq, and_true] at eg
        subst eg
        have hq := hj I (by omega)
        have hcv : wr.cell? ⟨g, 0 + I, none⟩ = some (vs.getD I undef) := by
          rw [cell_of_row _ g (0 + I) _ _ _ hg]
          simp [List.getD, show I < vs.length by omega]
        rw [Nat.zero_add] at hcv
        obtain ⟨m, Hm⟩ : ∃ x, Hid ((ls.getD I []).length = x) := ⟨_, rfl⟩
        rw [Hm.out] at hc
        have HNX : Hid ((bs.getD I .any).ok m = true → ∀ j, j < I + 1 → (bs.getD j .any).ok (ls.getD j []).length = true) := hid fun h j hj => by
          by_cases e : j = I
          · rw [e, Hm.out]; exact h
          · exact HN.out j (by omega)
        have HNO : Hid ((bs.getD I .any).ok m = false → d = false) := hid fun h => by
          rw [← HD.out]
          refine decide_eq_false fun hf => ?_
          have := (FQ.out.1 hf).2 I hlt
          rw [Hm.out, h] at this
          cases this
        obtain ⟨bd, Hbd⟩ : ∃ x, Hid (bs.getD I .any = x) := ⟨_, rfl⟩
        rw [Hbd.out] at hq HNX HNO
        obtain ⟨vv, Hvv⟩ : ∃ x, Hid (vs.getD I undef = x) := ⟨_, rfl⟩
        rw [Hvv.out] at hq hcv
        have hib : (I : Int) < (bs.length : Int) := by omega
        have hI9 : I < 4 := by omega
        clear hu hbu hp hj hg hvl hne Hvv Hbd Hm
        cases bd with
        | just n =>
          obtain ⟨x, ev, hx⟩ := hq
          subst ev
          simp only [cJ, cM] at hcv
          have C := hid (CJ.out wr x n m hx)
          go_wp2_with fail
          refine C.out.mono ?_
          rintro e w2 ⟨rfl, rfl⟩
          clear C
          cases hok : (Bd.just n).ok m with
          | true =>
            have HT := hid (HNX.out hok)
            clear hok
            go_wp2
            exact ⟨⟨I + 1, by omega, by go_num, HT, by first | rfl | trivial⟩, by simp [intOf]; omega⟩
          | false =>
            have hd := HNO.out hok
            subst hd
            clear hok
            go_wp2
            go_ret
            exact ⟨rfl, B1.out⟩
        | most n =>
          obtain ⟨x, ev, hx⟩ := hq
          subst ev
          simp only [cJ, cM] at hcv
          have C := hid (CM.out wr x n m hx)
          go_wp2_with fail
          refine C.out.mono ?_
          rintro e w2 ⟨rfl, rfl⟩
          clear C
          cases hok : (Bd.most n).ok m with
          | true =>
            have HT := hid (HNX.out hok)
            clear hok
            go_wp2
            exact ⟨⟨I + 1, by omega, by go_num, HT, by first | rfl | trivial⟩, by simp [intOf]; omega⟩
          | false =>
            have hd := HNO.out hok
            subst hd
            clear hok
            go_wp2
            go_ret
            exact ⟨rfl, B1.out⟩
        | any =>
          have ev : vv = cA := hq
          subst ev
          simp only [cA] at hcv
          have C := hid (CA.out wr m)
          go_wp2_with fail
          refine C.out.mono ?_
          rintro e w2 ⟨rfl, rfl⟩
          clear C
          have HT := hid (HNX.out rfl)
          go_wp2
          exact ⟨⟨I + 1, by omega, by go_num, HT, by first | rfl | trivial⟩, by simp [intOf]; omega⟩
end Go.Proofs.YtokamemkfgpfpaaDoor
namespace Go.Proofs.YtokamemkfgpfpaaDoor
open Go.RowKit
def rot (x n : Nat) : Nat := x * 2 ^ (32 - n) % 4294967296 ||| x / 2 ^ n
theorem rot_lt {x n : Nat} (hx : x < 4294967296) : rot x n < 4294967296 := by
  unfold rot
  have h1 : x * 2 ^ (32 - n) % 4294967296 < 2 ^ 32 := Nat.mod_lt _ (by decide)
  have h2 : x / 2 ^ n < 2 ^ 32 := Nat.lt_of_le_of_lt (Nat.div_le_self _ _) hx
  exact Nat.or_lt_two_pow h1 h2
theorem rot_bits (x n : Nat) (hx : x < 4294967296) : bits .or .u32 (IntKind.u32.wrap ((x : Int) * 2 ^ (32 - n))) ((x : Int) / 2 ^ n) = ((rot x n : Nat) : Int) := by
  have e1 : IntKind.u32.wrap ((x : Int) * 2 ^ (32 - n)) = ((x * 2 ^ (32 - n) % 4294967296 : Nat) : Int) := by
    rw [IntKind.wrap_u32, Int.natCast_emod, Int.natCast_mul, Int.natCast_pow]
    rfl
  have e2 : (x : Int) / 2 ^ n = ((x / 2 ^ n : Nat) : Int) := by rw [Int.natCast_ediv, Int.natCast_pow]; rfl
  rw [e1, e2, u32_or_nat _ _ (Nat.mod_lt _ (by decide)) (Nat.lt_of_le_of_lt (Nat.div_le_self _ _) hx)]
  rfl
set_option maxRecDepth 100000 in
set_option maxHeartbeats 1000000 in
theorem turn_6 (w : World) (x : Nat) (hx : x < 4294967296) : Calls Tryd.prog 86 #[.int .u32 (x : Int), .int .i64 6] w fun e w' => e = .returned (.int .u32 ((rot x 6 : Nat) : Int)) ∧ w' = w := by
  have h1 : bits .and .u64 (IntKind.u64.wrap (-6)) 31 = 26 := by decide
  have HR := hid (rot_bits x 6 hx)
  go_enter Tryd.func86, Tryd.ntmps86
  go_wp2
  go_ret
  refine ⟨?_, rfl⟩
  rw [← HR.out]
  rfl
set_option maxRecDepth 100000 in
set_option maxHeartbeats 1000000 in
theorem turn_11 (w : World) (x : Nat) (hx : x < 4294967296) : Calls Tryd.prog 86 #[.int .u32 (x : Int), .int .i64 11] w fun e w' => e = .returned (.int .u32 ((rot x 11 : Nat) : Int)) ∧ w' = w := by
  have h1 : bits .and .u64 (IntKind.u64.wrap (-11)) 31 = 21 := by decide
  have HR := hid (rot_bits x 11 hx)
  go_enter Tryd.func86, Tryd.ntmps86
  go_wp2
  go_ret
  refine ⟨?_, rfl⟩
  rw [← HR.out]
  rfl
set_option maxRecDepth 100000 in
set_option maxHeartbeats 1000000 in
theorem turn_25 (w : World) (x : Nat) (hx : x < 4294967296) : Calls Tryd.prog 86 #[.int .u32 (x : Int), .int .i64 25] w fun e w' => e = .returned (.int .u32 ((rot x 25 : Nat) : Int)) ∧ w' = w := by
  have h1 : bits .and .u64 (IntKind.u64.wrap (-25)) 31 = 7 := by decide
  have HR := hid (rot_bits x 25 hx)
  go_enter Tryd.func86, Tryd.ntmps86
  go_wp2
  go_ret
  refine ⟨?_, rfl⟩
  rw [← HR.out]
  rfl
set_option maxRecDepth 100000 in
set_option maxHeartbeats 1000000 in
theorem turn_2 (w : World) (x : Nat) (hx : x < 4294967296) : Calls Tryd.prog 86 #[.int .u32 (x : Int), .int .i64 2] w fun e w' => e = .returned (.int .u32 ((rot x 2 : Nat) : Int)) ∧ w' = w := by
  have h1 : bits .and .u64 (IntKind.u64.wrap (-2)) 31 = 30 := by decide
  have HR := hid (rot_bits x 2 hx)
  go_enter Tryd.func86, Tryd.ntmps86
  go_wp2
  go_ret
  refine ⟨?_, rfl⟩
  rw [← HR.out]
  rfl
set_option maxRecDepth 100000 in
set_option maxHeartbeats 1000000 in
theorem turn_13 (w : World) (x : Nat) (hx : x < 4294967296) : Calls Tryd.prog 86 #[.int .u32 (x : Int), .int .i64 13] w fun e w' => e = .returned (.int .u32 ((rot x 13 : Nat) : Int)) ∧ w' = w := by
  have h1 : bits .and .u64 (IntKind.u64.wrap (-13)) 31 = 19 := by decide
  have HR := hid (rot_bits x 13 hx)
  go_enter Tryd.func86, Tryd.ntmps86
  go_wp2
  go_ret
  refine ⟨?_, rfl⟩
  rw [← HR.out]
  rfl
set_option maxRecDepth 100000 in
set_option maxHeartbeats 1000000 in
theorem turn_22 (w : World) (x : Nat) (hx : x < 4294967296) : Calls Tryd.prog 86 #[.int .u32 (x : Int), .int .i64 22] w fun e w' => e = .returned (.int .u32 ((rot x 22 : Nat) : Int)) ∧ w' = w := by
  have h1 : bits .and .u64 (IntKind.u64.wrap (-22)) 31 = 10 := by decide
  have HR := hid (rot_bits x 22 hx)
  go_enter Tryd.func86, Tryd.ntmps86
  go_wp2
  go_ret
  refine ⟨?_, rfl⟩
  rw [← HR.out]
  rfl
set_option maxRecDepth 100000 in
set_option maxHeartbeats 1000000 in
theorem turn_7 (w : World) (x : Nat) (hx : x < 4294967296) : Calls Tryd.prog 86 #[.int .u32 (x : Int), .int .i64 7] w fun e w' => e = .returned (.int .u32 ((rot x 7 : Nat) : Int)) ∧ w' = w := by
  have h1 : bits .and .u64 (IntKind.u64.wrap (-7)) 31 = 25 := by decide
  have HR := hid (rot_bits x 7 hx)
  go_enter Tryd.func86, Tryd.ntmps86
  go_wp2
  go_ret
  refine ⟨?_, rfl⟩
  rw [← HR.out]
  rfl
set_option maxRecDepth 100000 in
set_option maxHeartbeats 1000000 in
theorem turn_18 (w : World) (x : Nat) (hx : x < 4294967296) : Calls Tryd.prog 86 #[.int .u32 (x : Int), .int .i64 18] w fun e w' => e = .returned (.int .u32 ((rot x 18 : Nat) : Int)) ∧ w' = w := by
  have h1 : bits .and .u64 (IntKind.u64.wrap (-18)) 31 = 14 := by decide
  have HR := hid (rot_bits x 18 hx)
  go_enter Tryd.func86, Tryd.ntmps86
  go_wp2
  go_ret
  refine ⟨?_, rfl⟩
  rw [← HR.out]
  rfl
set_option maxRecDepth 100000 in
set_option maxHeartbeats 1000000 in
theorem turn_17 (w : World) (x : Nat) (hx : x < 4294967296) : Calls Tryd.prog 86 #[.int .u32 (x : Int), .int .i64 17] w fun e w' => e = .returned (.int .u32 ((rot x 17 : Nat) : Int)) ∧ w' = w := by
  have h1 : bits .and .u64 (IntKind.u64.wrap (-17)) 31 = 15 := by decide
  have HR := hid (rot_bits x 17 hx)
  go_enter Tryd.func86, Tryd.ntmps86
  go_wp2
  go_ret
  refine ⟨?_, rfl⟩
  rw [← HR.out]
  rfl
set_option maxRecDepth 100000 in
set_option maxHeartbeats 1000000 in
theorem turn_19 (w : World) (x : Nat) (hx : x < 4294967296) : Calls Tryd.prog 86 #[.int .u32 (x : Int), .int .i64 19] w fun e w' => e = .returned (.int .u32 ((rot x 19 : Nat) : Int)) ∧ w' = w := by
  have h1 : bits .and .u64 (IntKind.u64.wrap (-19)) 31 = 13 := by decide
  have HR := hid (rot_bits x 19 hx)
  go_enter Tryd.func86, Tryd.ntmps86
  go_wp2
  go_ret
  refine ⟨?_, rfl⟩
  rw [← HR.out]
  rfl
def cellsW (l : List Nat) : Array Value := (l.map (fun x : Nat => Value.int .u32 (x : Int))).toArray
theorem cellsW_size (l : List Nat) : (cellsW l).size = l.length := by simp [cellsW]
theorem cellsW_one (l : List Nat) : (cellsW l).all (·.oneCell') = true := all_oneCell_toArray (fun v hv => by obtain ⟨x, _, rfl⟩ := List.mem_map.1 hv; rfl)
theorem cellsW_get {l : List Nat} {i : Nat} (h : i < l.length) : (cellsW l)[i]? = some (.int .u32 ((l.getD i 0 : Nat) : Int)) := by
  simp [cellsW, List.getD, List.getElem?_eq_getElem h]
theorem cellsW_set (l : List Nat) (i x : Nat) : (cellsW l).setIfInBounds i (.int .u32 (x : Int)) = cellsW (l.set i x) := by
  unfold cellsW
  rw [List.map_set]
  simp
def zerosW (n : Nat) : List Nat := List.replicate n 0
theorem zerosW_length (n : Nat) : (zerosW n).length = n := by simp [zerosW]
theorem wpList_alloc_agg {T : TypeId} {cs : Array Value} (hz : (Tryd.prog.info? T).map (·.zero) = some (some (.agg cs))) {ops : Array Oper} {rest : List Oper} {o : Oper} {a : Act} {w : World} {Q : Exit → Act → World → Prop} (hgd : o.guard = none) (ho : o.op = .alloc T)
    (h : wpList Tryd.prog ops Q rest (a.put o.dst (.pointer (some ⟨w.heap.size, 0, none⟩))) (w.alloc (.cells cs T))) : wpList Tryd.prog ops Q (o :: rest) a w :=
  wpList_plain hgd fun _ hK => by
    have hr : (Instr.alloc T true (.tuple #[])).run Tryd.prog w = .ok (.pointer (some ⟨w.heap.size, 0, none⟩)) (w.alloc (.cells cs T)) := by
      cases hi : Tryd.prog.info? T with
      | none => simp [hi] at hz
      | some i0 =>
        simp [hi] at hz
        simp [Instr.alloc, zeroValue, typeInfo, hi, hz, newVar, newRow, Value.cells]
    unfold Oper.wp
    simp only [execOp, ho, Sem.run_bind, hr, Result.andThen_ok]
    exact hK _ _ h
theorem zero_w64 : (Tryd.prog.info? 101).map (·.zero) = some (some (.agg (cellsW (zerosW 64)))) := by kernel_rfl
theorem zero_w8 : (Tryd.prog.info? 74).map (·.zero) = some (some (.agg (cellsW (zerosW 8)))) := by kernel_rfl
theorem size_w64 : (Tryd.prog.info? 101).map (·.size) = some 64 := by kernel_rfl
theorem size_w8 : (Tryd.prog.info? 74).map (·.size) = some 8 := by kernel_rfl
theorem size_b64 : (Tryd.prog.info? 76).map (·.size) = some 64 := by kernel_rfl
def beW (l : List Int) (t : Nat) : Nat := (l.getD (4 * t) 0).toNat * 16777216 + (l.getD (4 * t + 1) 0).toNat * 65536 + (l.getD (4 * t + 2) 0).toNat * 256 + (l.getD (4 * t + 3) 0).toNat
def add32 (x y : Nat) : Nat := (x + y) % 4294967296
def sig0 (x : Nat) : Nat := rot x 7 ^^^ rot x 18 ^^^ x / 8
def sig1 (x : Nat) : Nat := rot x 17 ^^^ rot x 19 ^^^ x / 1024
def nextW (l : List Int) (ws : List Nat) (t : Nat) : Nat :=
  if t < 16 then beW l t else add32 (add32 (add32 (sig1 (ws.getD (t - 2) 0)) (ws.getD (t - 7) 0)) (sig0 (ws.getD (t - 15) 0))) (ws.getD (t - 16) 0)
def wordsTo (l : List Int) : Nat → List Nat
  | 0 => []
  | t + 1 => wordsTo l t ++ [nextW l (wordsTo l t) t]
theorem wordsTo_length (l : List Int) : ∀ t, (wordsTo l t).length = t
  | 0 => rfl
  | t + 1 => by simp [wordsTo, wordsTo_length l t]
def curWs (l : List Int) (t : Nat) : List Nat := wordsTo l t ++ List.replicate (64 - t) 0
theorem curWs_length (l : List Int) (t : Nat) (h : t ≤ 64) : (curWs l t).length = 64 := by simp [curWs, wordsTo_length]; omega
theorem curWs_step (l : List Int) (t : Nat) (h : t < 64) : (curWs l t).set t (nextW l (wordsTo l t) t) = curWs l (t + 1) := by
  unfold curWs
  rw [List.set_append_right _ _ (by rw [wordsTo_length]; exact Nat.le_refl _), wordsTo_length, Nat.sub_self, show 64 - t = (64 - (t + 1)) + 1 by omega, List.replicate_succ, List.set_cons_zero]
  simp [wordsTo]
theorem curWs_get (l : List Int) (t i : Nat) (h : i < t) : (curWs l t).getD i 0 = (wordsTo l t).getD i 0 := by
  unfold curWs
  simp [List.getD, List.getElem?_append, wordsTo_length, h]
theorem byte_nat {l : List Int} (h : ∀ x ∈ l, 0 ≤ x ∧ x < 256) (i : Nat) : (l.getD i 0).toNat < 256 := by
  by_cases hj : i < l.length
  · rw [getD_of_lt hj]
    have := h _ (List.getElem_mem hj)
    omega
  · have e : l.getD i 0 = 0 := by simp [List.getD, List.getElem?_eq_none (by omega : l.length ≤ i)]
    rw [e]; decide
theorem beW_lt {l : List Int} (h : ∀ x ∈ l, 0 ≤ x ∧ x < 256) (t : Nat) : beW l t < 4294967296 := by
  unfold beW
  have h0 := byte_nat h (4 * t)
  have h1 := byte_nat h (4 * t + 1)
  have h2 := byte_nat h (4 * t + 2)
  have h3 := byte_nat h (4 * t + 3)
  omega
theorem nextW_lt {l : List Int} (h : ∀ x ∈ l, 0 ≤ x ∧ x < 256) (ws : List Nat) (t : Nat) : nextW l ws t < 4294967296 := by
  unfold nextW
  split
  · exact beW_lt h t
  · exact Nat.mod_lt _ (by decide)
theorem wordsTo_lt {l : List Int} (h : ∀ x ∈ l, 0 ≤ x ∧ x < 256) : ∀ t, ∀ x ∈ wordsTo l t, x < 4294967296
  | 0 => by simp [wordsTo]
  | t + 1 => by
    intro x hx
    rcases List.mem_append.1 hx with h1 | h1
    · exact wordsTo_lt h t x h1
    · have : x = nextW l (wordsTo l t) t := by simpa using h1
      rw [this]
      exact nextW_lt h _ _
theorem getW_lt {ws : List Nat} (h : ∀ x ∈ ws, x < 4294967296) (i : Nat) : ws.getD i 0 < 4294967296 := by
  by_cases hj : i < ws.length
  · rw [show ws.getD i 0 = ws[i] by simp [List.getD, List.getElem?_eq_getElem hj]]
    exact h _ (List.getElem_mem hj)
  · rw [show ws.getD i 0 = 0 by simp [List.getD, List.getElem?_eq_none (by omega : ws.length ≤ i)]]
    decide
theorem or_four (a b c d : Nat) (ha : a < 256) (hb : b < 256) (hc : c < 256) (hd : d < 256) :
    bits .or .u32 (bits .or .u32 (bits .or .u32 ((a : Int) * 16777216) ((b : Int) * 65536)) ((c : Int) * 256)) (d : Int) = ((a * 16777216 + b * 65536 + c * 256 + d : Nat) : Int) := by
  have e1 : bits .or .u32 ((a : Int) * 16777216) ((b : Int) * 65536) = ((a * 16777216 + b * 65536 : Nat) : Int) := by
    have := u32_or_nat (a * 16777216) (b * 65536) (by omega) (by omega)
    rw [Int.natCast_mul, Int.natCast_mul] at this
    rw [show ((a : Int) * 16777216) = (a : Int) * ((16777216 : Nat) : Int) from rfl, show ((b : Int) * 65536) = (b : Int) * ((65536 : Nat) : Int) from rfl, this]
    congr 1
    have := Nat.two_pow_add_eq_or_of_lt (i := 24) (b := b * 65536) (by omega) a
    rw [show 2 ^ 24 * a = a * 16777216 by omega] at this
    omega
  have e2 : bits .or .u32 ((a * 16777216 + b * 65536 : Nat) : Int) ((c : Int) * 256) = ((a * 16777216 + b * 65536 + c * 256 : Nat) : Int) := by
    have := u32_or_nat (a * 16777216 + b * 65536) (c * 256) (by omega) (by omega)
    rw [show ((c : Int) * 256) = ((c * 256 : Nat) : Int) by rw [Int.natCast_mul]; rfl, this]
    congr 1
    have := Nat.two_pow_add_eq_or_of_lt (i := 16) (b := c * 256) (by omega) (a * 256 + b)
    rw [show 2 ^ 16 * (a * 256 + b) = a * 16777216 + b * 65536 by omega] at this
    omega
  rw [e1, e2, u32_or_nat _ _ (by omega) (by omega)]
  congr 1
  have := Nat.two_pow_add_eq_or_of_lt (i := 8) (b := d) (by omega) (a * 65536 + b * 256 + c)
  rw [show 2 ^ 8 * (a * 65536 + b * 256 + c) = a * 16777216 + b * 65536 + c * 256 by omega] at this
  omega
theorem grown_setd (w : World) (g o : Nat) (u : Value) : w.grownBy (w.setCell ⟨g, o, none⟩ u).drew (some g) :=
  ⟨rfl, rfl, rfl, by show w.heap.size ≤ (w.setCell ⟨g, o, none⟩ u).heap.size; simp, fun k _ hk => heap_setCell_other w ⟨g, o, none⟩ k u (fun e => hk (by simp [e]))⟩
theorem grown_sets (w : World) (g o : Nat) (u : Value) : w.grownBy (w.setCell ⟨g, o, none⟩ u) (some g) :=
  ⟨rfl, rfl, rfl, by simp, fun k _ hk => heap_setCell_other w ⟨g, o, none⟩ k u (fun e => hk (by simp [e]))⟩
theorem grown_tr {a b c : World} {r : Option Nat} (h : a.grownBy b r) (k : b.grownBy c r) : a.grownBy c r :=
  ⟨k.os.trans h.os, k.tape.trans h.tape, k.output.trans h.output, Nat.le_trans h.size k.size, fun i hi hr => (k.block i (Nat.lt_of_lt_of_le hi h.size) hr).trans (h.block i hi hr)⟩
theorem sig0_bits (x : Nat) (hx : x < 4294967296) : bits .xor .u32 (bits .xor .u32 ((rot x 7 : Nat) : Int) ((rot x 18 : Nat) : Int)) ((x : Int) / 8) = ((sig0 x : Nat) : Int) := by
  have h1 : rot x 7 ^^^ rot x 18 < 2 ^ 32 := Nat.xor_lt_two_pow (rot_lt hx) (rot_lt hx)
  rw [u32_xor_nat _ _ (rot_lt hx) (rot_lt hx), show (x : Int) / 8 = ((x / 8 : Nat) : Int) by omega, u32_xor_nat _ _ h1 (by omega)]
  rfl
theorem sig1_bits (x : Nat) (hx : x < 4294967296) : bits .xor .u32 (bits .xor .u32 ((rot x 17 : Nat) : Int) ((rot x 19 : Nat) : Int)) ((x : Int) / 1024) = ((sig1 x : Nat) : Int) := by
  have h1 : rot x 17 ^^^ rot x 19 < 2 ^ 32 := Nat.xor_lt_two_pow (rot_lt hx) (rot_lt hx)
  rw [u32_xor_nat _ _ (rot_lt hx) (rot_lt hx), show (x : Int) / 1024 = ((x / 1024 : Nat) : Int) by omega, u32_xor_nat _ _ h1 (by omega)]
  rfl
theorem wrap_add32 (x y : Nat) : IntKind.u32.wrap ((x : Int) + (y : Int)) = ((add32 x y : Nat) : Int) := by
  rw [IntKind.wrap_u32]
  unfold add32
  omega
theorem add32_lt (x y : Nat) : add32 x y < 4294967296 := Nat.mod_lt _ (by decide)
theorem sig0_lt {x : Nat} (hx : x < 4294967296) : sig0 x < 4294967296 := by
  unfold sig0
  exact Nat.xor_lt_two_pow (n := 32) (Nat.xor_lt_two_pow (rot_lt hx) (rot_lt hx)) (by omega)
theorem sig1_lt {x : Nat} (hx : x < 4294967296) : sig1 x < 4294967296 := by
  unfold sig1
  exact Nat.xor_lt_two_pow (n := 32) (Nat.xor_lt_two_pow (rot_lt hx) (rot_lt hx)) (by omega)
end Go.Proofs.YtokamemkfgpfpaaDoor
