/- The order by the rest of a division, as an order of a heap. -/
import Derived.Test.YtcgkcappfjhikaaHpPop
import Derived.Shelf.Abstract
set_option linter.unusedVariables false
set_option linter.unusedSimpArgs false
namespace Go.Proofs.Ytcgkcappfjhikaa
open Go Go.RowKit

/-- What things are put in order by. -/
def keyB (d a : Int) : Int := if d ≤ 0 then a else a.tmod d
def In64 (x : Int) : Prop := -9223372036854775808 ≤ x ∧ x < 9223372036854775808
set_option maxRecDepth 100000 in
set_option maxHeartbeats 4000000 in
theorem ahead17_any (w : World) (d a b : Int) (hd : In64 d) (ha : In64 a) (hb : In64 b) :
    Calls Try.prog 35 #[.int .i64 d, .int .i64 a, .int .i64 b] w fun e w' => e = .returned (.bool (decide (keyB d a < keyB d b))) ∧ Dr w w' := by
  by_cases h : d ≤ 0
  · have e1 : keyB d a = a := if_pos h
    have e2 : keyB d b = b := if_pos h
    rw [e1, e2]
    clear e1 e2
    go_enter Try.func35, Try.ntmps35
    go_wp2
    go_ret
    exact ⟨rfl, Dr.refl _⟩
  · have e1 : keyB d a = a.tmod d := if_neg h
    have e2 : keyB d b = b.tmod d := if_neg h
    have h0 : 0 < d := by omega
    have hne : (d == 0) = false := by simp; omega
    have hne' : ¬ d = 0 := by omega
    have b1 : -9223372036854775808 ≤ a.tmod d ∧ a.tmod d < 9223372036854775808 := by
      have := Int.tmod_lt_of_pos a h0
      have := Int.lt_tmod_of_pos a h0
      unfold In64 at hd
      omega
    have b2 : -9223372036854775808 ≤ b.tmod d ∧ b.tmod d < 9223372036854775808 := by
      have := Int.tmod_lt_of_pos b h0
      have := Int.lt_tmod_of_pos b h0
      unfold In64 at hd
      omega
    rw [e1, e2]
    clear e1 e2
    go_enter Try.func35, Try.ntmps35
    go_wp2_with fail
    go_quiet (fail)
    go_wp2
    go_ret
    exact ⟨rfl, Dr.one _ _⟩
abbrev orF (b : Nat) : Value := .func (.func 34) #[] #[.pointer (some ⟨b, 0, none⟩)]
set_option maxRecDepth 100000 in
theorem order_any (w : World) (d : Int) : Calls Try.prog 11 #[.int .i64 d] w fun e w' => e = .returned (orF w.heap.size) ∧ w' = w.alloc (.cells #[.int .i64 d] 3) := by
  have hmf : ∀ (fn : Fn) (first cap : Array Value) (w : World), (Instr.makeFunc fn first cap).run Try.prog w = .ok (.func fn first cap) w := fun _ _ _ _ => rfl
  go_enter Try.func11, Try.ntmps11
  go_wp2
  go_ret
  exact ⟨rfl, rfl⟩
def OrJ (b : Nat) (d : Int) (w : World) : Prop := w.heap[b]? = some (.cells #[.int .i64 d] 3 (0, 0))
set_option maxRecDepth 100000 in
set_option maxHeartbeats 4000000 in
theorem order1_any (w : World) (b : Nat) (d x y : Int) (hd : In64 d) (hx : In64 x) (hy : In64 y) (hJ : OrJ b d w) :
    Calls Try.prog 34 #[.int .i64 x, .int .i64 y, .pointer (some ⟨b, 0, none⟩)] w fun e w' => e = .returned (.bool (decide (keyB d x < keyB d y))) ∧ Dr w w' := by
  have C := hid (ahead17_any w d x y hd hx hy)
  have c0 : w.cell? ⟨b, 0, none⟩ = some (.int .i64 d) := by rw [cell_of_row _ _ _ _ _ _ hJ]; rfl
  clear hJ hd hx hy
  go_enter Try.func34, Try.ntmps34
  go_wp2_with fail
  refine C.out.mono ?_
  rintro e w1 ⟨rfl, hdr⟩
  have HD := hid hdr
  clear hdr C
  go_wp2_with fail
  go_ret
  exact ⟨rfl, HD.out⟩
theorem order_orc (b : Nat) (d : Int) (hd : In64 d) : Orc 34 #[.pointer (some ⟨b, 0, none⟩)] (OrJ b d) (fun k => k = b) In64 (fun x y r => r = decide (keyB d x < keyB d y)) where
  ask := fun w x y hJ hx hy => by
    refine (order1_any w b d x y hd hx hy hJ).mono ?_
    rintro e w' ⟨rfl, hdr⟩
    obtain ⟨q, rfl⟩ := hdr
    exact ⟨_, rfl, rfl, hJ, (Ex.refl _ _).drewN q⟩
  stay := fun w w' h hk => (hk b rfl).trans h
  lt := fun w h k hk => by
    subst hk
    exact (Array.getElem?_eq_some_iff.1 h).1
  ent := fun args w => enters_of Try.func34 (by kernel_rfl) rfl args w
theorem order_ord (d : Int) : Ord True (keyB d) (fun x y r => r = decide (keyB d x < keyB d y)) := fun _ a b r h => by rw [h]; simp
end Go.Proofs.Ytcgkcappfjhikaa
