/- BaseFields, walked. -/
import Derived.Test.YtcgecflebplgaaaBsRFields
import Derived.Test.YtcgecflebplgaaaBsApartW
import Derived.Test.YtcgecflebplgaaaBsTexts
import Derived.Test.YtcgecflebplgaaaOwns
set_option linter.unusedSimpArgs false
set_option linter.unusedVariables false
namespace Go.Proofs.Ytcgecflebplgaaa
open Go Go.RowKit

theorem HTx.of_ownS {w : World} {B : Nat} {v : Value} {l : List ByteArray} (h : w.ownsRow B 9 1 v l.length (l.map Value.string)) : HTx w v l := by
  by_cases h0 : 0 < l.length
  · obtain ⟨g, cap, rfl, _, hn, hm, hcl⟩ := ownsRow_cells h h0
    unfold maxLen at hm
    refine Or.inr ⟨g, 0, cap, rfl, by omega, fun j hj => hcl j _ ?_⟩
    simp [List.getD, List.getElem?_eq_getElem hj]
  · have e0 : l = [] := List.length_eq_zero_iff.1 (by omega)
    subst e0
    obtain ⟨p, c, rfl⟩ := own_slc h
    exact Or.inl ⟨rfl, p, c, rfl⟩
theorem HTx.dr {w w' : World} {v : Value} {l : List ByteArray} (h : HTx w v l) (d : Dr w w') : HTx w' v l := by
  rcases h with h | ⟨b, o, c, e, hl, hc⟩
  · exact Or.inl h
  · exact Or.inr ⟨b, o, c, e, hl, fun j hj => (d.cell _).trans (hc j hj)⟩
def fT (s : ByteArray) : List ByteArray := (fieldsL (sB s)).map bS
theorem fT_map (s : ByteArray) : (fT s).map Value.string = (fieldsL (sB s)).map strV := by
  unfold fT
  rw [List.map_map]
  rfl
theorem fT_len (s : ByteArray) : (fT s).length ≤ s.size + 1 := by
  unfold fT
  rw [List.length_map]
  have := fieldsL_len (sB s)
  rwa [sB_length] at this
theorem fields_own (w : World) (s : ByteArray) (hs : s.size ≤ 8796093022000) :
    Calls Try.prog 23 #[.string s] w fun e w' => ∃ v', e = .returned v' ∧ w'.ownsRow w.heap.size 9 1 v' (fT s).length ((fT s).map Value.string) ∧ Below w.heap.size w w' := by
  rw [fT_map, show (fT s).length = (fieldsL (sB s)).length by unfold fT; rw [List.length_map]]
  exact fields_any w s hs
theorem rfields_own (w : World) (s : ByteArray) (hs : s.size ≤ 8796093022000) :
    Calls Try.prog 24 #[.string s] w fun e w' => ∃ v', e = .returned v' ∧ w'.ownsRow w.heap.size 9 1 v' (fT s).length ((fT s).map Value.string) ∧ Below w.heap.size w w' := by
  rw [fT_map, show (fT s).length = (fieldsL (sB s)).length by unfold fT; rw [List.length_map]]
  exact rfields_any w s hs

theorem Tx.HV.three (w : World) (a b c : Value) : Tx.HV (w.alloc (.cells #[a, b, c] 36)) (.slice (some ⟨w.heap.size, 0, none⟩) 3 3) [a, b, c] := by
  refine ⟨_, _, rfl, by simp, by decide, fun _ => ⟨w.heap.size, 0, rfl, ⟨_, _, heap_alloc_new w _⟩, fun k hk => ?_⟩⟩
  match k, hk with
  | 0, _ => simp
  | 1, _ => simp
  | 2, _ => simp
theorem apartTexts3 (w : World) (B : Nat) (va vb vc : Value) (la lb lc : List ByteArray) (ha : w.ownsRow B 9 1 va la.length (la.map Value.string)) (hb : w.ownsRow B 9 1 vb lb.length (lb.map Value.string)) (hc : w.ownsRow B 9 1 vc lc.length (lc.map Value.string))
    (hab : (va.ownBlock = none ∨ va.ownBlock ≠ vb.ownBlock) ∧ (vb.ownBlock = none ∨ vb.ownBlock ≠ va.ownBlock)) (hac : (va.ownBlock = none ∨ va.ownBlock ≠ vc.ownBlock) ∧ (vc.ownBlock = none ∨ vc.ownBlock ≠ va.ownBlock)) (hbc : (vb.ownBlock = none ∨ vb.ownBlock ≠ vc.ownBlock) ∧ (vc.ownBlock = none ∨ vc.ownBlock ≠ vb.ownBlock))
    (hB : B ≤ w.heap.size) (na : la.length ≤ 8000000000000) (nb : lb.length ≤ 8000000000000) (nc : lc.length ≤ 8000000000000) :
    Calls Try.prog 26 #[.slice (some ⟨w.heap.size, 0, none⟩) 3 3] (w.alloc (.cells #[va, vb, vc] 36)) fun e w' => e = .returned (.bool true) ∧ Below B w w' := by
  have hal := World.grownBy_alloc w (.cells #[va, vb, vc] 36) none
  have hAp : Tx.Apt B (w.alloc (.cells #[va, vb, vc] 36)) [va, vb, vc] [la, lb, lc] := by
    refine ⟨rfl, fun k hk => ?_, fun i j hi hj hij => ?_⟩
    · match k, hk with
      | 0, _ => exact ha.kept hal (none_or _)
      | 1, _ => exact hb.kept hal (none_or _)
      | 2, _ => exact hc.kept hal (none_or _)
    · have hi2 : i = 0 ∨ i = 1 ∨ i = 2 := by simp at hi; omega
      have hj2 : j = 0 ∨ j = 1 ∨ j = 2 := by simp at hj; omega
      rcases hi2 with rfl | rfl | rfl <;> rcases hj2 with rfl | rfl | rfl <;> first | exact absurd rfl hij | exact hab.1 | exact hab.2 | exact hac.1 | exact hac.2 | exact hbc.1 | exact hbc.2
  refine (Tx.apartTexts_any B _ _ _ _ (Tx.HV.three w _ _ _) hAp (by simp; omega) (by simp) (fun k => ?_)).mono ?_
  · match k with
    | 0 => exact na
    | 1 => exact nb
    | 2 => exact nc
    | k + 3 => simp
  rintro e1 w1 ⟨rfl, hB1⟩
  exact ⟨rfl, ((Below.refl B w).alloc hB _).trans hB1⟩

set_option maxRecDepth 100000 in
set_option maxHeartbeats 8000000 in
theorem fields_walk (w : World) (s o : ByteArray) (hs : s.size ≤ 7000000000000) (ho : o.size ≤ 7000000000000) :
    Calls Try.prog 6 #[.string s, .string o] w fun r w' => r = .returned (.bool true) ∧ Below w.heap.size w w' := by
  have hsl := fT_len s
  have hol := fT_len o
  have CS := hid (fun W : World => fields_own W s (by omega))
  have CO := hid (fun W : World => fields_own W o (by omega))
  have RS := hid (fun W : World => rfields_own W s (by omega))
  have RO := hid (fun W : World => rfields_own W o (by omega))
  obtain ⟨L1, HL1⟩ : ∃ x, Hid (fT s = x) := ⟨_, rfl⟩
  obtain ⟨L2, HL2⟩ : ∃ x, Hid (fT o = x) := ⟨_, rfl⟩
  rw [HL1.out] at hsl CS RS
  rw [HL2.out] at hol CO RO
  have HLN : Hid (L1.length ≤ 8000000000000 ∧ L2.length ≤ 8000000000000) := hid ⟨by omega, by omega⟩
  clear hsl hol hs ho HL1 HL2
  go_enter Try.func6, Try.ntmps6
  go_wp2_with fail
  refine (CS.out w).mono ?_
  rintro e1 w1 ⟨va, rfl, ha, hB⟩
  obtain ⟨pa, ca, rfl⟩ := own_slc ha
  have OA1 := hid ha
  have B1 := hid hB
  clear ha hB
  go_wp2_with fail
  refine (CO.out w1).mono ?_
  rintro e2 w2 ⟨vb, rfl, hb, hB⟩
  obtain ⟨pb, cb, rfl⟩ := own_slc hb
  have NAB := hid (own_ne OA1.out hb (Nat.le_refl _))
  have OA2 := hid (own_below OA1.out hB)
  have OB2 := hid hb
  have B2 := hid (B1.out.trans (hB.mono B1.out.size))
  clear hb hB OA1
  go_wp2_with fail
  refine (CS.out w2).mono ?_
  rintro e3 w3 ⟨vc, rfl, hc, hB⟩
  obtain ⟨pc, cc, rfl⟩ := own_slc hc
  have NAC := hid (own_ne OA2.out hc (Nat.le_refl _))
  have NBC := hid (own_ne OB2.out hc (Nat.le_refl _))
  have OA3 := hid (own_below OA2.out hB)
  have OB3 := hid (own_below OB2.out hB)
  have OC3 := hid hc
  have B3 := hid (B2.out.trans (hB.mono B2.out.size))
  clear hc hB OA2 OB2
  go_wp2_with fail
  refine (RS.out w3).mono ?_
  rintro e4 w4 ⟨vw, rfl, hw, hB⟩
  obtain ⟨pw, cw, rfl⟩ := own_slc hw
  have OA4 := hid (own_below OA3.out hB)
  have OB4 := hid (own_below OB3.out hB)
  have OC4 := hid (own_below OC3.out hB)
  have OW4 := hid hw
  have B4 := hid (B3.out.trans (hB.mono B3.out.size))
  clear hw hB OA3 OB3 OC3
  go_wp2_with fail
  refine (sameTexts_any w4 _ _ L1 L1 (HTx.of_ownS OA4.out) (HTx.of_ownS OW4.out)).mono ?_
  rintro e5 w5 ⟨rfl, hD⟩
  rw [decide_eq_true rfl]
  have D5 := hid (hD.below w4.heap.size)
  have OA5 := hid (own_below OA4.out D5.out)
  have OB5 := hid (own_below OB4.out D5.out)
  have OC5 := hid (own_below OC4.out D5.out)
  have OW5 := hid (own_below OW4.out D5.out)
  have B5 := hid (B4.out.trans (D5.out.mono B4.out.size))
  clear hD D5 OA4 OB4 OC4 OW4
  go_wp2_with fail
  refine (RO.out w5).mono ?_
  rintro e6 w6 ⟨vx, rfl, hx, hB⟩
  obtain ⟨px, cx, rfl⟩ := own_slc hx
  have OA6 := hid (own_below OA5.out hB)
  have OB6 := hid (own_below OB5.out hB)
  have OC6 := hid (own_below OC5.out hB)
  have OW6 := hid (own_below OW5.out hB)
  have OX6 := hid hx
  have B6 := hid (B5.out.trans (hB.mono B5.out.size))
  clear hx hB OA5 OB5 OC5 OW5
  go_wp2_with fail
  refine (sameTexts_any w6 _ _ L2 L2 (HTx.of_ownS OB6.out) (HTx.of_ownS OX6.out)).mono ?_
  rintro e7 w7 ⟨rfl, hD7⟩
  rw [decide_eq_true rfl]
  have D7 := hid hD7
  clear hD7
  go_wp2_with fail
  refine (sameTexts_any w7 _ _ L1 L1 ((HTx.of_ownS OC6.out).dr D7.out) ((HTx.of_ownS OW6.out).dr D7.out)).mono ?_
  rintro e8 w8 ⟨rfl, hD8⟩
  rw [decide_eq_true rfl]
  have BD := hid ((D7.out.trans hD8).below w6.heap.size)
  clear hD8 D7
  have OA8 := hid (own_mono (own_below OA6.out BD.out) (Nat.le_refl w.heap.size))
  have OB8 := hid (own_mono (own_below OB6.out BD.out) B1.out.size)
  have OC8 := hid (own_mono (own_below OC6.out BD.out) B2.out.size)
  have B8 := hid (B6.out.trans (BD.out.mono B6.out.size))
  clear OA6 OB6 OC6 OW6 OX6 BD B6 B5 B4 B3 B2 B1
  go_wp2_with fail
  refine (apartTexts3 w8 w.heap.size _ _ _ L1 L2 L1 OA8.out OB8.out OC8.out NAB.out NAC.out NBC.out B8.out.size HLN.out.1 HLN.out.2 HLN.out.1).mono ?_
  rintro e9 w9 ⟨rfl, hB9⟩
  go_wp2
  go_ret
  exact ⟨rfl, B8.out.trans hB9⟩
end Go.Proofs.Ytcgecflebplgaaa
