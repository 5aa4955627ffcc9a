/- The law CutJoin, walked. -/
import Derived.Test.YtdmdcnikhnoclabCutJnRef
import Derived.Test.YtdmdcnikhnoclabOverLists3
import Derived.Test.YtdmdcnikhnoclabApartT
import Derived.Test.YtdmdcnikhnoclabSameBytes
set_option linter.unusedVariables false
set_option linter.unusedSimpArgs false
namespace Go.Proofs.Ytdmdcnikhnoclab
open Go Go.RowKit

theorem rowT_below {w w' : World} {B n : Nat} {v : Value} {xs : List Value} (h : w.ownsRowT B v n xs) (hb : Below w.heap.size w w') : w'.ownsRowT B v n xs := h.kept (grown_below (r := none) hb) (none_or _)
theorem rowT_mono {w : World} {B B' n : Nat} {v : Value} {xs : List Value} (h : w.ownsRowT B v n xs) (hb : B' ≤ B) : w.ownsRowT B' v n xs := by
  obtain ⟨h1, h2⟩ := h
  refine ⟨h1, ?_⟩
  rcases h2 with h2 | ⟨g, cap, cur, e, hb', r⟩
  · exact .inl h2
  · exact .inr ⟨g, cap, cur, e, by omega, r⟩
theorem rowT_slc {w : World} {B n : Nat} {v : Value} {xs : List Value} (h : w.ownsRowT B v n xs) : ∃ p c, v = .slice p n c := by
  rcases h.2 with ⟨rfl, rfl⟩ | ⟨g, cap, cur, rfl, _⟩
  · exact ⟨_, _, rfl⟩
  · exact ⟨_, _, rfl⟩
theorem rowT_ne {w w' : World} {B B' n n' : Nat} {v v' : Value} {xs xs' : List Value} (h : w.ownsRowT B v n xs) (h' : w'.ownsRowT B' v' n' xs') (hb : w.heap.size ≤ B') :
    (v.ownBlock = none ∨ v.ownBlock ≠ v'.ownBlock) ∧ (v'.ownBlock = none ∨ v'.ownBlock ≠ v.ownBlock) := by
  have key : ∀ k, v.ownBlock = some k → v'.ownBlock ≠ some k := fun k e1 e2 => by
    have := (h.lt k e1).2
    have := (h'.lt k e2).1
    omega
  constructor
  · cases e : v.ownBlock with
    | none => exact .inl rfl
    | some k => exact .inr fun q => key k e q.symm
  · cases e : v'.ownBlock with
    | none => exact .inl rfl
    | some k => exact .inr fun q => key k q.symm e
theorem rowT_fr {w w' : World} {S : Nat → Prop} {B n : Nat} {v : Value} {xs : List Value} (h : w.ownsRowT B v n xs) (fr : Fr S w w') (hs : ∀ k, v.ownBlock = some k → ¬ S k) : w'.ownsRowT B v n xs := by
  obtain ⟨h1, h2⟩ := h
  refine ⟨h1, ?_⟩
  rcases h2 with h2 | ⟨g, cap, cur, rfl, hb, hh, r⟩
  · exact .inl h2
  · exact .inr ⟨g, cap, cur, rfl, hb, (fr.block g (Array.getElem?_eq_some_iff.1 hh).1 (hs g rfl)).trans hh, r⟩
theorem jnL_len (ls : List (List Int)) (size : Int) : (jnL ls size).length ≤ 65790 := by
  by_cases h : JnOk ls size
  · rw [(jn_yes h).2]
    have := most_lt (k := (ls.length : Int)) (by have := h.1; omega) (by have := h.2.1; omega)
    have := h.2.2.2.1
    rw [List.length_take]
    omega
  · rw [(jn_no h).2]; simp
theorem mem_flat {ls : List (List Int)} (h : ∀ j, ∀ x ∈ ls.getD j [], 0 ≤ x ∧ x < 256) : ∀ x ∈ ls.flatten, 0 ≤ x ∧ x < 256 := by
  intro x hx
  obtain ⟨l, hl, hxl⟩ := List.mem_flatten.1 hx
  obtain ⟨j, hj, e⟩ := List.getElem_of_mem hl
  exact h j x (by simp [List.getD, List.getElem?_eq_getElem hj, e, hxl])
theorem jnL_byt {ls : List (List Int)} {size : Int} (h : ∀ j, ∀ x ∈ ls.getD j [], 0 ≤ x ∧ x < 256) : ∀ x ∈ jnL ls size, 0 ≤ x ∧ x < 256 := by
  by_cases hj : JnOk ls size
  · rw [(jn_yes hj).2]
    exact fun x hx => mem_flat h x (List.mem_of_mem_take hx)
  · rw [(jn_no hj).2]; simp
theorem flat_ge {ls : List (List Int)} (j : Nat) : (ls.getD j []).length ≤ ls.flatten.length := by
  by_cases hj : j < ls.length
  · have h1 := flat_take_le ls (j + 1)
    rw [flat_snoc ls j hj, List.length_append] at h1
    omega
  · simp [List.getD, List.getElem?_eq_none (by omega : ls.length ≤ j)]
theorem HL.bytes {w : World} {v : Value} {ls : List (List Int)} (h : HL w v ls) : ∀ j, ∀ x ∈ ls.getD j [], 0 ≤ x ∧ x < 256 := by
  intro j x hx
  by_cases hj : j < ls.length
  · obtain ⟨b, off, c, _, _, _, hh⟩ := h.ne (by omega)
    obtain ⟨u, _, hb⟩ := hh j hj
    exact hb.2 x hx
  · rw [show ls.getD j [] = [] by simp [List.getD, List.getElem?_eq_none (by omega : ls.length ≤ j)]] at hx
    simp at hx
set_option maxRecDepth 100000 in
set_option maxHeartbeats 16000000 in
theorem join_walk (w : World) (v : Value) (ls : List (List Int)) (size : Int) (h : HL w v ls) (h1 : ls.flatten.length + ls.length ≤ 1048576) :
    Calls Try.prog 3 #[v, .int .i64 size] w fun e w' => e = .returned (.bool true) ∧ Below w.heap.size w w' := by
  have HVV := hid h
  have hlb : ∀ j, (ls.getD j []).length ≤ 1048576 := fun j => Nat.le_trans (flat_ge j) (by omega)
  have HLB := hid hlb
  have HBY := hid h.bytes
  obtain ⟨p, c, e, hlc, hm⟩ := h.open
  subst e
  clear h hlb
  obtain ⟨E, HE⟩ : ∃ E, Hid (jnE ls size = E) := ⟨_, rfl⟩
  obtain ⟨L, HL'⟩ : ∃ L, Hid (jnL ls size = L) := ⟨_, rfl⟩
  have HLL : Hid (L.length ≤ 65790) := by rw [← HL'.out]; exact jnL_len ls size
  have HLY : Hid (∀ x ∈ L, 0 ≤ x ∧ x < 256) := by rw [← HL'.out]; exact jnL_byt HBY.out
  have hn : ls.length ≤ 1048576 := by omega
  go_enter Try.func3, Try.ntmps3
  go_wp2_with fail
  refine (lentLists_any w _ ls HVV.out hn HLB.out).mono ?_
  rintro e1 w1 ⟨vL, vF, vE, fU, eU, rfl, hxl, hB1⟩
  have XL1 := hid hxl
  have B1 := hid hB1
  obtain ⟨pF, cF, eF, eL⟩ := hxl.2.2.2.2.2.2
  obtain ⟨pE, cE, eE⟩ := own_slice hxl.2.1
  subst eF eL eE
  have HFn : Hid (∀ k, (Value.slice pF (ls.length + 70) cF).ownBlock = some k → k < w1.heap.size) := fun k e => (hxl.1.lt k e).2
  have HEn : Hid (∀ j, j < ls.length → ∀ k, (eU.getD j undef).ownBlock = some k → k < w1.heap.size) := fun j hj k e => ((hxl.2.2.2.1.2.1 j (by have := hxl.2.2.2.1.1; simp at this; omega)).lt k e).2
  clear hxl hB1
  obtain ⟨W2, HW2⟩ : ∃ W2, Hid (w1.alloc (.cells #[.slice pF ls.length cF, .slice pF (ls.length + 70) cF, .slice pE ls.length cE] 24) = W2) := ⟨_, rfl⟩
  have K2 : Hid (W2.heap[w1.heap.size]? = some (.cells #[.slice pF ls.length cF, .slice pF (ls.length + 70) cF, .slice pE ls.length cE] 24 (0, 0))) := by rw [← HW2.out]; exact heap_alloc_new w1 _
  have HS2 : Hid (W2.heap.size = w1.heap.size + 1) := by rw [← HW2.out]; simp [Hid]
  have B2 : Hid (Below w.heap.size w W2) := by rw [← HW2.out]; exact B1.out.alloc B1.out.size _
  have XL2 : Hid (XL w.heap.size W2 (.slice pF ls.length cF) (.slice pF (ls.length + 70) cF) (.slice pE ls.length cE) fU eU ls) := by rw [← HW2.out]; exact XL1.out.away (World.grownBy_alloc w1 _ none) (fun k e => by cases e)
  have HL2 := hid (XL2.out.hl HBY.out)
  have C3 := cjoin_any W2 _ ls size HL2.out
  rw [HE.out, HL'.out] at C3
  have HC3 := hid C3
  clear C3
  have c2 : (w1.alloc (.cells #[.slice pF ls.length cF, .slice pF (ls.length + 70) cF, .slice pE ls.length cE] 24)).cell? ⟨w1.heap.size, 0, none⟩ = some (.slice pF ls.length cF) := by rw [HW2.out, cell_of_row _ _ _ _ _ _ K2.out]; rfl
  go_wp2_with fail
  clear c2
  rw [HW2.out]
  refine HC3.out.mono ?_
  rintro e1 w3 ⟨vx, rfl, hox, hB3⟩
  obtain ⟨px, cx, ex⟩ := rowT_slc hox
  subst ex
  have OX3 := hid hox
  have B3 := hid (B2.out.trans (hB3.mono B2.out.size))
  have HS3 := hid hB3.size
  have K3 : Hid (w3.heap[w1.heap.size]? = some (.cells #[.slice pF ls.length cF, .slice pF (ls.length + 70) cF, .slice pE ls.length cE] 24 (0, 0))) := (hB3.block _ (by have := HS2.out; omega)).trans K2.out
  have XL3 := hid (XL2.out.away (grown_below (r := none) hB3) (fun k e => by cases e))
  have C4 := cjoin_any w3 _ ls size (XL3.out.hl HBY.out)
  rw [HE.out, HL'.out] at C4
  have HC4 := hid C4
  clear hox hB3 C4 HC3
  have c3 : w3.cell? ⟨w1.heap.size, 0, none⟩ = some (.slice pF ls.length cF) := by rw [cell_of_row _ _ _ _ _ _ K3.out]; rfl
  go_wp2_with fail
  clear c3
  refine HC4.out.mono ?_
  rintro e1 w4 ⟨vy, rfl, hoy, hB4⟩
  obtain ⟨py, cy, ey⟩ := rowT_slc hoy
  subst ey
  have OY4 := hid hoy
  have NXY := hid (rowT_ne OX3.out OY4.out (Nat.le_refl _))
  have OX4 := hid (rowT_below OX3.out hB4)
  have B4 := hid (B3.out.trans (hB4.mono B3.out.size))
  have HS4 := hid hB4.size
  have K4 : Hid (w4.heap[w1.heap.size]? = some (.cells #[.slice pF ls.length cF, .slice pF (ls.length + 70) cF, .slice pE ls.length cE] 24 (0, 0))) := (hB4.block _ (by have := HS2.out; have := HS3.out; omega)).trans K3.out
  have XL4 := hid (XL3.out.away (grown_below (r := none) hB4) (fun k e => by cases e))
  clear hoy hB4 HC4
  obtain ⟨k0, k1, k2, _, _, _⟩ := three_cells K4.out
  go_wp2_with fail
  clear k0 k1 k2
  refine (keptLists_any w.heap.size w4 _ _ _ _ fU eU ls XL4.out (HVV.out.below B4.out) hn (fun j => ⟨HLB.out j, HBY.out j⟩)).mono ?_
  rintro e1 w5 ⟨rfl, hB5⟩
  have OX5 := hid (rowT_below OX4.out hB5)
  have OY5 := hid (rowT_below OY4.out hB5)
  have B5 := hid (B4.out.trans (hB5.mono B4.out.size))
  have HS5 := hid hB5.size
  have K5 : Hid (w5.heap[w1.heap.size]? = some (.cells #[.slice pF ls.length cF, .slice pF (ls.length + 70) cF, .slice pE ls.length cE] 24 (0, 0))) := (hB5.block _ (by have := HS2.out; have := HS3.out; have := HS4.out; omega)).trans K4.out
  have XL5 := hid (XL4.out.away (grown_below (r := none) hB5) (fun k e => by cases e))
  clear hB5 OX3 OX4 OY4 XL1 XL2 XL3 XL4 K2 K3 K4 HL2
  obtain ⟨k0, k1, k2, _, _, _⟩ := three_cells K5.out
  go_wp2_with fail
  clear k0 k1 k2
  refine (overLists_any3 w.heap.size w1.heap.size w5 _ _ _ fU eU ls XL5.out (by have := HS2.out; have := HS3.out; have := HS4.out; have := HS5.out; omega) HFn.out HEn.out hn HLB.out).mono ?_
  rintro e1 w6 ⟨rfl, hfr, hl6⟩
  have FR := hid hfr
  have B6 : Hid (Below w.heap.size w w6) := by
    obtain ⟨q1, q2, q3, q4, q5⟩ := B5.out
    exact ⟨hfr.os.trans q1, hfr.tape.trans q2, hfr.output.trans q3, Nat.le_trans q4 hfr.size, fun i hi => (hfr.block i (by omega) (fun s => by omega)).trans (q5 i hi)⟩
  have HL6 := hid hl6
  have K6 : Hid (w6.heap[w1.heap.size]? = some (.cells #[.slice pF ls.length cF, .slice pF (ls.length + 70) cF, .slice pE ls.length cE] 24 (0, 0))) := (hfr.block _ (by have := HS2.out; have := HS3.out; have := HS4.out; have := HS5.out; omega) (fun s => by omega)).trans K5.out
  have OX6 := hid (rowT_fr OX5.out hfr (fun k e s => by have := (OX5.out.lt k e).1; have := HS2.out; omega))
  have OY6 := hid (rowT_fr OY5.out hfr (fun k e s => by have := (OY5.out.lt k e).1; have := HS2.out; have := HS3.out; omega))
  have HS6 := hid hfr.size
  have C7 := rjoin_any9 w6 _ ls size (HVV.out.below B6.out)
  rw [HE.out, HL'.out] at C7
  have HC7 := hid C7
  clear hfr hl6 C7 OX5 OY5 K5 XL5 FR
  go_wp2_with fail
  refine HC7.out.mono ?_
  rintro e1 w7 ⟨vn, rfl, hon, hB7⟩
  obtain ⟨pn, cn, en⟩ := rowT_slc hon
  subst en
  have ON7 := hid hon
  have OX7 := hid (rowT_below OX6.out hB7)
  have OY7 := hid (rowT_below OY6.out hB7)
  have HL7 := hid (HL6.out.below hB7)
  have B7 := hid (B6.out.trans (hB7.mono B6.out.size))
  have HS7 := hid hB7.size
  have K7 : Hid (w7.heap[w1.heap.size]? = some (.cells #[.slice pF ls.length cF, .slice pF (ls.length + 70) cF, .slice pE ls.length cE] 24 (0, 0))) := (hB7.block _ (Array.getElem?_eq_some_iff.1 K6.out).1).trans K6.out
  clear hon hB7 HC7 OX6 OY6 HL6 B6 K6
  go_wp2_with fail
  refine (sameBytes_any w7 _ _ L L (HB.of_rowT OX7.out HLY.out) (HB.of_rowT ON7.out HLY.out)).mono ?_
  rintro e1 w8 ⟨rfl, hD8⟩
  rw [decide_eq_true rfl]
  have D8 := hid hD8
  clear hD8
  go_wp2_with fail
  refine (sameBytes_any w8 _ _ L L ((HB.of_rowT OY7.out HLY.out).dr D8.out) ((HB.of_rowT ON7.out HLY.out).dr D8.out)).mono ?_
  rintro e1 w9 ⟨rfl, hD9⟩
  rw [decide_eq_true rfl]
  have B79 := hid ((D8.out.trans hD9).below w7.heap.size)
  have ON9 := hid (rowT_below ON7.out B79.out)
  have OX9 := hid (rowT_below OX7.out B79.out)
  have OY9 := hid (rowT_below OY7.out B79.out)
  have HL9 := hid (HL7.out.below B79.out)
  have B9 := hid (B7.out.trans (B79.out.mono B7.out.size))
  have HS9 := hid B79.out.size
  have K9 : Hid (w9.heap[w1.heap.size]? = some (.cells #[.slice pF ls.length cF, .slice pF (ls.length + 70) cF, .slice pE ls.length cE] 24 (0, 0))) := (B79.out.block _ (Array.getElem?_eq_some_iff.1 K7.out).1).trans K7.out
  clear hD9 D8 B79 ON7 OX7 OY7 HL7 B7 K7
  obtain ⟨lo, HLO⟩ : ∃ lo, Hid (List.replicate ls.length [(1 : Int), 2, 3] = lo) := ⟨_, rfl⟩
  have hlo : lo.length = ls.length := by rw [← HLO.out]; simp
  rw [HLO.out] at HL9
  obtain ⟨E2, HE2⟩ : ∃ E2, Hid (jnE lo size = E2) := ⟨_, rfl⟩
  obtain ⟨M, HM⟩ : ∃ M, Hid (jnL lo size = M) := ⟨_, rfl⟩
  have HMY : Hid (∀ x ∈ M, 0 ≤ x ∧ x < 256) := by rw [← HM.out]; exact jnL_byt HL9.out.bytes
  have HML : Hid (M.length ≤ 65790) := by rw [← HM.out]; exact jnL_len lo size
  have C10 := rjoin_any9 w9 _ lo size HL9.out
  rw [HE2.out, HM.out] at C10
  have HC10 := hid C10
  have HLOL := hid hlo
  clear C10 hlo
  have c9 : w9.cell? ⟨w1.heap.size, 0, none⟩ = some (.slice pF ls.length cF) := by rw [cell_of_row _ _ _ _ _ _ K9.out]; rfl
  go_wp2_with fail
  clear c9
  refine HC10.out.mono ?_
  rintro e1 w10 ⟨vo, rfl, hoo, hB10⟩
  obtain ⟨po, co, eo⟩ := rowT_slc hoo
  subst eo
  have OO10 := hid hoo
  have ON10 := hid (rowT_below ON9.out hB10)
  have OX10 := hid (rowT_below OX9.out hB10)
  have OY10 := hid (rowT_below OY9.out hB10)
  have B10 := hid (B9.out.trans (hB10.mono B9.out.size))
  have HS10 := hid hB10.size
  have K10 : Hid (w10.heap[w1.heap.size]? = some (.cells #[.slice pF ls.length cF, .slice pF (ls.length + 70) cF, .slice pE ls.length cE] 24 (0, 0))) := (hB10.block _ (Array.getElem?_eq_some_iff.1 K9.out).1).trans K9.out
  have C11 := cjoin_any w10 _ lo size (HL9.out.below hB10)
  rw [HE2.out, HM.out] at C11
  have HC11 := hid C11
  clear hoo hB10 C11 HC10 ON9 OX9 OY9 B9 K9
  have c10 : w10.cell? ⟨w1.heap.size, 0, none⟩ = some (.slice pF ls.length cF) := by rw [cell_of_row _ _ _ _ _ _ K10.out]; rfl
  go_wp2_with fail
  clear c10
  refine HC11.out.mono ?_
  rintro e1 w11 ⟨vz, rfl, hoz, hB11⟩
  obtain ⟨pz, cz, ez⟩ := rowT_slc hoz
  subst ez
  have OZ11 := hid hoz
  have NXZ := hid (rowT_ne OX10.out OZ11.out (Nat.le_refl _))
  have NYZ := hid (rowT_ne OY10.out OZ11.out (Nat.le_refl _))
  have OO11 := hid (rowT_below OO10.out hB11)
  have ON11 := hid (rowT_below ON10.out hB11)
  have OX11 := hid (rowT_below OX10.out hB11)
  have OY11 := hid (rowT_below OY10.out hB11)
  have B11 := hid (B10.out.trans (hB11.mono B10.out.size))
  clear hoz hB11 HC11 OO10 ON10 OX10 OY10 B10 K10
  go_wp2_with fail
  refine (sameBytes_any w11 _ _ M M (HB.of_rowT OZ11.out HMY.out) (HB.of_rowT OO11.out HMY.out)).mono ?_
  rintro e1 w12 ⟨rfl, hD12⟩
  rw [decide_eq_true rfl]
  have D12 := hid hD12
  clear hD12
  go_wp2_with fail
  refine (sameBytes_any w12 _ _ L L ((HB.of_rowT OX11.out HLY.out).dr D12.out) ((HB.of_rowT ON11.out HLY.out).dr D12.out)).mono ?_
  rintro e1 w13 ⟨rfl, hD13⟩
  rw [decide_eq_true rfl]
  have B1113 := hid ((D12.out.trans hD13).below w11.heap.size)
  have OX13 := hid (rowT_below OX11.out B1113.out)
  have OY13 := hid (rowT_below OY11.out B1113.out)
  have OZ13 := hid (rowT_below OZ11.out B1113.out)
  have B13 := hid (B11.out.trans (B1113.out.mono B11.out.size))
  clear hD13 D12 B1113 OX11 OY11 OZ11 OO11 ON11 B11
  have hb2 := B2.out.size
  have hb3 := B3.out.size
  have hq2 := HS2.out
  have hq3 := HS3.out
  have hq4 := HS4.out
  have hq5 := HS5.out
  have hq6 := HS6.out
  have hq7 := HS7.out
  have hq9 := HS9.out
  have hq10 := HS10.out
  have HQ := hid (And.intro hb2 (And.intro hb3 (And.intro hq3 (And.intro hq4 (And.intro hq5 (And.intro hq6 (And.intro hq7 (And.intro hq9 hq10))))))))
  clear hb2 hb3 hq2 hq3 hq4 hq5 hq6 hq7 hq9 hq10
  go_wp2_with fail
  have hal := World.grownBy_alloc w13 (.cells #[.slice px L.length cx, .slice py L.length cy, .slice pz M.length cz] 26) none
  have hAp : AptT w.heap.size (w13.alloc (.cells #[.slice px L.length cx, .slice py L.length cy, .slice pz M.length cz] 26)) [.slice px L.length cx, .slice py L.length cy, .slice pz M.length cz] [L, L, M] := by
    obtain ⟨hb2, hb3, hq3, hq4, hq5, hq6, hq7, hq9, hq10⟩ := HQ.out
    refine ⟨rfl, fun k hk => ?_, fun i j hi hj hij => ?_⟩
    · match k, hk with
      | 0, _ => exact rowT_mono (OX13.out.kept hal (none_or _)) (by omega)
      | 1, _ => exact rowT_mono (OY13.out.kept hal (none_or _)) (by omega)
      | 2, _ => exact rowT_mono (OZ13.out.kept hal (none_or _)) (by omega)
    · have hi2 : i = 0 ∨ i = 1 ∨ i = 2 := by simp at hi; omega
      have hj2 : j = 0 ∨ j = 1 ∨ j = 2 := by simp at hj; omega
      rcases hi2 with rfl | rfl | rfl <;> rcases hj2 with rfl | rfl | rfl <;> first | exact absurd rfl hij | exact NXY.out.1 | exact NXY.out.2 | exact NXZ.out.1 | exact NXZ.out.2 | exact NYZ.out.1 | exact NYZ.out.2
  refine (apart_anyT w.heap.size _ _ _ _ (HV.three w13 _ _ _) hAp (by have := B13.out.size; simp; omega) (by simp) (fun k => ?_)).mono ?_
  · have h1 := HLL.out
    have h2 := HML.out
    match k with
    | 0 => show L.length ≤ _; omega
    | 1 => show L.length ≤ _; omega
    | 2 => show M.length ≤ _; omega
    | k + 3 => simp
  rintro e1 w14 ⟨rfl, hB14⟩
  have B14 := hid ((B13.out.alloc B13.out.size _).trans hB14)
  clear hB14 hAp hal
  go_wp2_with fail
  refine (awake_any w14).mono ?_
  rintro e1 w15 ⟨rfl, hB15⟩
  have B15 := hid (B14.out.trans (hB15.mono B14.out.size))
  clear hB15 B14
  go_wp2
  go_ret
  exact ⟨rfl, B15.out⟩
end Go.Proofs.Ytdmdcnikhnoclab
