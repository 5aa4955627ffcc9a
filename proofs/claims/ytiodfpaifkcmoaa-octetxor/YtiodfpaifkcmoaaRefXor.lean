/- The document's Xor and Less, walked. -/
import Derived.Test.YtiodfpaifkcmoaaXor
import Derived.Test.YtiodfpaifkcmoaaMarks
import Derived.Test.YtiodfpaifkcmoaaLess
import Derived.Deep.AppendLies
import Derived.Deep.RegionLaw
import Derived.Deep.DrawnRows
namespace Go.Proofs.Ytiodfpaifkcmoaa
open Go.RowKit
attribute [local go_sem ↓] Go.wp_at_zero Go.wp_at_succ

theorem own_slc {w : World} {B n : Nat} {e : TypeId} {v : Value} {xs : List Value} (h : w.ownsRow B e 1 v n xs) : ∃ p c, v = .slice p n c := by
  rcases h.2 with ⟨rfl, rfl⟩ | ⟨g, cap, cur, rfl, _⟩
  · exact ⟨_, _, rfl⟩
  · exact ⟨_, _, rfl⟩

set_option maxRecDepth 100000 in
set_option maxHeartbeats 1000000 in
theorem rless_any (w : World) (va vb : Value) (la lb : List Int) (ha : HB w va la) (hb : HB w vb lb) :
    Calls Try.prog 34 #[va, vb] w fun e w' => e = .returned (.bool (ltL la lb)) ∧ Dr w w' := by
  have HA := hid ha
  have HBb := hid hb
  obtain ⟨pa, ca, rfl, hca, hcam⟩ := ha.open
  obtain ⟨pb, cb, rfl, hcb, hcbm⟩ := hb.open
  unfold maxLen at hcam hcbm
  clear ha hb
  go_enter Try.func34, Try.ntmps34
  go_wp2
  go_loopw [5] (fun i wr => ∃ k : Nat, k ≤ la.length ∧ k ≤ lb.length ∧ i = .int .i64 k ∧ Hid (ltL la lb = ltL (la.drop k) (lb.drop k)) ∧ Hid (Dr w wr)) (fun i _ => la.length - (intOf i).toNat)
  case atStart => exact ⟨0, Nat.zero_le _, Nat.zero_le _, rfl, rfl, Dr.refl _⟩
  case round =>
    obtain ⟨k, hka, hkb, rfl, HE, HD⟩ := hrel
    by_cases hlt : k < la.length ∧ k < lb.length
    · obtain ⟨h1, h2⟩ := hlt
      obtain ⟨ba, oa, ca', ea, _, _, hha⟩ := HA.out.ne (by omega)
      obtain ⟨bb, ob, cb', eb, _, _, hhb⟩ := HBb.out.ne (by omega)
      simp only [Value.slice.injEq, true_and] at ea eb
      obtain ⟨rfl, rfl⟩ := ea
      obtain ⟨rfl, rfl⟩ := eb
      obtain ⟨x, HX⟩ : ∃ x, Hid (la.getD k 0 = x) := ⟨_, rfl⟩
      obtain ⟨y, HY⟩ : ∃ y, Hid (lb.getD k 0 = y) := ⟨_, rfl⟩
      have cx := (HD.out.cell _).trans (hha k h1)
      have cy := (HD.out.cell _).trans (hhb k h2)
      rw [HX.out] at cx
      rw [HY.out] at cy
      have HS : Hid (ltL (la.drop k) (lb.drop k) = if x < y then true else if y < x then false else ltL (la.drop (k + 1)) (lb.drop (k + 1))) := by
        show _ = _
        rw [List.drop_eq_getElem_cons h1, List.drop_eq_getElem_cons h2, ← HX.out, ← HY.out, getD_of_lt h1, getD_of_lt h2]
        rfl
      clear hha hhb
      by_cases hxy : x = y
      · have HS2 : Hid (ltL (la.drop k) (lb.drop k) = ltL (la.drop (k + 1)) (lb.drop (k + 1))) := by
          show _ = _
          rw [HS.out, if_neg (by omega), if_neg (by omega)]
        subst hxy
        go_wp2
        go_region
        all_goals go_wp2
        all_goals exact ⟨⟨k + 1, by omega, by omega, by go_num, HE.out.trans HS2.out, HD.out.drewN 1⟩, by simp [intOf]; omega⟩
      · have HS2 : Hid (ltL (la.drop k) (lb.drop k) = decide (x < y)) := by
          show _ = _
          rw [HS.out]
          by_cases h : x < y
          · rw [if_pos h]; simp [h]
          · rw [if_neg h, if_pos (by omega)]; simp [h]
        have HF : Hid (ltL la lb = decide (x < y)) := HE.out.trans HS2.out
        go_wp2
        go_region
        all_goals go_wp2
        all_goals go_region
        all_goals go_wp2
        all_goals go_ret
        all_goals exact ⟨by rw [HF.out]; rfl, (HD.out.drewN 1).drewN 1⟩
    · have HF : Hid (ltL la lb = decide (la.length < lb.length)) := by
        show _ = _
        rw [HE.out]
        rcases Nat.lt_or_ge k la.length with h1 | h1
        · have h2 : lb.length ≤ k := by omega
          rw [List.drop_eq_nil_of_le h2, List.drop_eq_getElem_cons h1]
          symm
          simp [ltL]
          omega
        · rw [List.drop_eq_nil_of_le h1]
          rcases Nat.lt_or_ge k lb.length with h2 | h2
          · rw [List.drop_eq_getElem_cons h2]
            symm
            simp [ltL]
            omega
          · rw [List.drop_eq_nil_of_le h2]
            symm
            simp [ltL]
            omega
      by_cases h1 : k < la.length
      · have h2 : k = lb.length := by omega
        subst h2
        clear hlt
        go_wp2
        go_ret
        exact ⟨by rw [HF.out]; rfl, HD.out⟩
      · have h2 : k = la.length := by omega
        subst h2
        clear hlt h1
        go_wp2
        go_ret
        exact ⟨by rw [HF.out]; rfl, HD.out⟩

set_option maxRecDepth 100000 in
set_option maxHeartbeats 1000000 in
theorem rxor_any (w : World) (va vb : Value) (la lb : List Int) (ha : HB w va la) (hb : HB w vb lb) (hbig : la.length ≤ 140737488351232) :
    Calls Try.prog 33 #[va, vb] w fun e w' => ∃ v', e = .returned (.tuple #[v', .int .i64 (xorE la lb)]) ∧ w'.ownsRow w.heap.size 5 1 v' (xorA la lb).length ((xorA la lb).map (Value.int .u8)) ∧ Below w.heap.size w w' := by
  obtain ⟨i0, hi, hz0, hz1, hz2⟩ := info_parts info_u8
  have HA := hid ha
  have HBb := hid hb
  obtain ⟨pa, ca, rfl, hca, hcam⟩ := ha.open
  obtain ⟨pb, cb, rfl, hcb, hcbm⟩ := hb.open
  unfold maxLen at hcam hcbm
  clear ha hb
  by_cases hlen : la.length = lb.length
  · have HXA : Hid (xorA la lb = xorL la lb) := if_pos hlen
    have HXE : Hid (xorE la lb = 0) := if_pos hlen
    rw [HXA.out, HXE.out, xorL_length hlen]
    have HLN := hid hlen
    have hli : (la.length : Int) = (lb.length : Int) := by omega
    go_enter Try.func33, Try.ntmps33
    go_wp2
    clear hli hlen
    go_loopw [6, 7] (fun o i wr => ∃ k : Nat, k ≤ la.length ∧ i = .int .i64 k ∧ Hid (wr.ownsRow w.heap.size 5 1 o k (((xorL la lb).take k).map (Value.int .u8))) ∧ Hid (Below w.heap.size w wr)) (fun _ i _ => la.length - (intOf i).toNat)
    case atStart => exact ⟨0, Nat.zero_le _, rfl, World.ownsRow_nil _ _ _ _, Below.refl _ _⟩
    case round =>
      obtain ⟨k, hk, rfl, HO, HBl⟩ := hrel
      obtain ⟨pO, cO, eO⟩ := own_slc HO.out
      subst eO
      by_cases hlt : k < la.length
      · obtain ⟨ba, oa, ca', ea, _, _, hha⟩ := (HA.out.below HBl.out).ne (by omega)
        obtain ⟨bb, ob, cb', eb, _, _, hhb⟩ := (HBb.out.below HBl.out).ne (by have := HLN.out; omega)
        simp only [Value.slice.injEq, true_and] at ea eb
        obtain ⟨rfl, rfl⟩ := ea
        obtain ⟨rfl, rfl⟩ := eb
        obtain ⟨x, HX⟩ : ∃ x, Hid (la.getD k 0 = x) := ⟨_, rfl⟩
        obtain ⟨y, HY⟩ : ∃ y, Hid (lb.getD k 0 = y) := ⟨_, rfl⟩
        have cx := hha k hlt
        have cy := hhb k (by have := HLN.out; omega)
        rw [HX.out] at cx
        rw [HY.out] at cy
        have cx2 : wr.drew.cell? ⟨ba, oa + k, none⟩ = some (.int .u8 x) := cx
        have cy2 : wr.drew.cell? ⟨bb, ob + k, none⟩ = some (.int .u8 y) := cy
        have hk2 : k < lb.length := by have := HLN.out; omega
        have HS : Hid ((xorL la lb).take (k + 1) = (xorL la lb).take k ++ [bits .xor .u8 x y]) := by
          show _ = _
          rw [List.take_succ_eq_append_getElem (by rw [xorL_length HLN.out]; exact hlt), ← getD_of_lt (by rw [xorL_length HLN.out]; exact hlt), xorL_getD HLN.out hlt, HX.out, HY.out]
          rfl
        have hsz := HBl.out.size
        have FIN : Hid (∀ gO cO3 w3, w3.ownsRow w.heap.size 5 1 (.slice (some ⟨gO, 0, none⟩) (k + 1) cO3) (k + 1) ((((xorL la lb).take k).map (Value.int .u8)) ++ [.int .u8 (bits .xor .u8 x y)]) → ((wr.alloc (.cells #[.int .u8 (bits .xor .u8 x y)] 5)).drew).grownBy w3 (Value.ownBlock (.slice pO k cO)) →
            w3.ownsRow w.heap.size 5 1 (.slice (some ⟨gO, 0, none⟩) (k + 1) cO3) (k + 1) (((xorL la lb).take (k + 1)).map (Value.int .u8)) ∧ Below w.heap.size w w3) := fun gO cO3 w3 h1 h2 => by
          refine ⟨by rw [HS.out, List.map_append]; exact h1, ?_⟩
          have hb0 := HBl.out.alloc hsz (.cells #[.int .u8 (bits .xor .u8 x y)] 5)
          have hb1 : Below w.heap.size w ((wr.alloc (.cells #[.int .u8 (bits .xor .u8 x y)] 5)).drew) := ⟨hb0.os, hb0.tape, hb0.output, hb0.size, hb0.block⟩
          exact hb1.grown h2 hb1.size (fun j e => (HO.out.lt j e).1)
        clear hha hhb cx cy
        go_wp2
        go_region_law
          ((refine step_append_lies _ (by rfl) _ _ _ (by rfl) w.heap.size 5 i0 _ 1 1 Try.underlying23 hi hz0 hz1 hz2 rfl (by omega) (.slice pO k cO) k _ (by rfl) ((HO.out.alloc _).drew)
                ⟨wr.heap.size, 0, none⟩ 1 1 [.int .u8 (bits .xor .u8 x y)] (by rfl) (by rfl) (World.news_of_block (cs := #[.int .u8 (bits .xor .u8 x y)]) (t := 5) (fr := (0, 0)) (heap_alloc_new wr _)) (by simp [Value.oneCell'])
                (by omega) (by unfold maxLen; omega) (by omega) (by simp; omega) (wr.heap.size + 1) (by simp) ?_; intro gO cO3 w3 hown3 hgrow hat hlt3))
        all_goals go_wp2
        all_goals exact ⟨⟨k + 1, by omega, by go_num, (FIN.out gO cO3 w3 hown3 hgrow).1, (FIN.out gO cO3 w3 hown3 hgrow).2⟩, by simp [intOf]; omega⟩
      · have hke : k = la.length := by omega
        subst hke
        rw [List.take_of_length_le (by rw [xorL_length HLN.out]; exact Nat.le_refl _)] at HO
        clear hlt
        go_wp2
        go_ret2
        exact ⟨_, rfl, HO.out, HBl.out⟩
  · have HXA : Hid (xorA la lb = []) := if_neg hlen
    have HXE : Hid (xorE la lb = 12) := if_neg hlen
    rw [HXA.out, HXE.out]
    have hne : ¬ ((la.length : Int) = (lb.length : Int)) := by omega
    go_enter Try.func33, Try.ntmps33
    go_wp2
    go_ret2
    exact ⟨_, rfl, World.ownsRow_nil _ _ _ _, Below.refl _ _⟩
end Go.Proofs.Ytiodfpaifkcmoaa
