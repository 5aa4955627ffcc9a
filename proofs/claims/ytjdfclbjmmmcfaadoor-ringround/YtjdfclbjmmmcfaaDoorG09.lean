/- Of the road to ringRoundCard_holds: RLess, LoadOn, RgROrd, RgWhA, RgWhB, RgRRank, IntsApart, RgRRd, RgRdA. -/
import Derived.Test.YtjdfclbjmmmcfaaDoorG07
import Derived.Deep.RegionLaw
import Derived.Deep.DrawnRows
import Derived.Test.YtjdfclbjmmmcfaaDoorG00
import Derived.Test.YtjdfclbjmmmcfaaDoorG06
import Derived.Test.YtjdfclbjmmmcfaaDoorG08
import Derived.Deep.RegionHeld
import Derived.Deep.RegionHeld3
set_option linter.unusedVariables false
set_option linter.unusedSimpArgs false
namespace Go.Proofs.YtjdfclbjmmmcfaaDoor
open Go.RowKit
attribute [local go_sem ↓] Go.wp_at_zero Go.wp_at_succ
set_option maxRecDepth 100000 in
set_option maxHeartbeats 1000000 in
theorem rless_any (w : World) (va vb : Value) (la lb : List Int) (ha : HB w va la) (hb : HB w vb lb) :
    Calls Tryd.prog 33 #[va, vb] w fun e w' => e = .returned (.bool (ltL la lb)) ∧ Dr w w' := by
  have HA := hid ha
  have HBb := hid hb
  obtain ⟨pa, ca, rfl, hca, hcam⟩ := ha.open
  obtain ⟨pb, cb, rfl, hcb, hcbm⟩ := hb.open
  unfold maxLen at hcam hcbm
  clear ha hb
  go_enter Tryd.func33, Tryd.ntmps33
  go_wp2
  go_loopw [5] (fun i wr => ∃ k : Nat, k ≤ la.length ∧ k ≤ lb.length ∧ i = .int .i64 k ∧ Hid (ltL la lb = ltL (la.drop k) (lb.drop k)) ∧ Hid (Dr w wr)) (fun i _ => la.length - (intOf i).toNat)
  case atStart => exact ⟨0, Nat.zero_le _, Nat.zero_le _, rfl, rfl, Dr.refl _⟩
  case round =>
    obtain ⟨k, hka, hkb, rfl, HE, HD⟩ := hrel
    by_cases hlt : k < la.length ∧ k < lb.length
    · obtain ⟨h1, h2⟩ := hlt
      obtain ⟨ba, oa, ca', ea, _, _, hha⟩ := HA.out.ne (by omega)
      obtain ⟨bb, ob, cb', eb, _, _, hhb⟩ := HBb.out.ne (by omega)
      simp only [Value.slice.injEq, true_and] at ea eb
      obtain ⟨rfl, rfl⟩ := ea
      obtain ⟨rfl, rfl⟩ := eb
      obtain ⟨x, HX⟩ : ∃ x, Hid (la.getD k 0 = x) := ⟨_, rfl⟩
      obtain ⟨y, HY⟩ : ∃ y, Hid (lb.getD k 0 = y) := ⟨_, rfl⟩
      have cx := (HD.out.cell _).trans (hha k h1)
      have cy := (HD.out.cell _).trans (hhb k h2)
      rw [HX.out] at cx
      rw [HY.out] at cy
      have HS : Hid (ltL (la.drop k) (lb.drop k) = if x < y then true else if y < x then false else ltL (la.drop (k + 1)) (lb.drop (k + 1))) := by
        show _ = _
        rw [List.drop_eq_getElem_cons h1, List.drop_eq_getElem_cons h2, ← HX.out, ← HY.out, getD_of_lt h1, getD_of_lt h2]
        rfl
      clear hha hhb
      by_cases hxy : x = y
      · have HS2 : Hid (ltL (la.drop k) (lb.drop k) = ltL (la.drop (k + 1)) (lb.drop (k + 1))) := by
          show _ = _
          rw [HS.out, if_neg (by omega), if_neg (by omega)]
        subst hxy
        go_wp2
        go_region
        all_goals go_wp2
        all_goals exact ⟨⟨k + 1, by omega, by omega, by go_num, HE.out.trans HS2.out, HD.out.drewN 1⟩, by simp [intOf]; omega⟩
      · have HS2 : Hid (ltL (la.drop k) (lb.drop k) = decide (x < y)) := by
          show _ = _
          rw [HS.out]
          by_cases h : x < y
          · rw [if_pos h]; simp [h]
          · rw [if_neg h, if_pos (by omega)]; simp [h]
        have HF : Hid (ltL la lb = decide (x < y)) := HE.out.trans HS2.out
        go_wp2
        go_region
        all_goals go_wp2
        all_goals go_region
        all_goals go_wp2
        all_goals go_ret
        all_goals exact ⟨by rw [HF.out]; rfl, (HD.out.drewN 1).drewN 1⟩
    · have HF : Hid (ltL la lb = decide (la.length < lb.length)) := by
        show _ = _
        rw [HE.out]
        rcases Nat.lt_or_ge k la.length with h1 | h1
        · have h2 : lb.length ≤ k := by omega
          rw [List.drop_eq_nil_of_le h2, List.drop_eq_getElem_cons h1]
          symm
          simp [ltL]
          omega
        · rw [List.drop_eq_nil_of_le h1]
          rcases Nat.lt_or_ge k lb.length with h2 | h2
          · rw [List.drop_eq_getElem_cons h2]
            symm
            simp [ltL]
            omega
          · rw [List.drop_eq_nil_of_le h2]
            symm
            simp [ltL]
            omega
      by_cases h1 : k < la.length
      · have h2 : k = lb.length := by omega
        subst h2
        clear hlt
        go_wp2
        go_ret
        exact ⟨by rw [HF.out]; rfl, HD.out⟩
      · have h2 : k = la.length := by omega
        subst h2
        clear hlt h1
        go_wp2
        go_ret
        exact ⟨by rw [HF.out]; rfl, HD.out⟩
theorem wpList_load_row_on {P : Program} {ops : Array Oper} {rest : List Oper} {o : Oper} {a : Act} {w : World} {Q : Exit → Act → World → Prop} (hw : Region.wanted o (yielded ops a.tmps) = true) (ty : TypeId) (x : Operand) (ho : o.op = .load ty x)
    (g : Nat) (hx : a.eval x = .pointer (some ⟨g, 0, none⟩)) (t : TypeId) (cs : Array Value) (fr : Nat × Nat) (d : TypeDesc) (hg : w.heap[g]? = some (.cells cs t fr))
    (hu : P.underlying ty = some d) (hd : (match d with | .struct _ | .array _ _ => true | _ => false) = true) (hi : (P.info? ty).map (·.size) = some cs.size)
    (h : wpList P ops Q rest (a.put o.dst (.agg cs)) w) : wpList P ops Q (o :: rest) a w := by
  refine wpList_step fun K hK => ?_
  simp only [hw, if_true]
  exact wp_load_row ty x ho g hx t cs fr d hg hu hd hi (hK _ _ h)
theorem setRow_alloc_newT (w : World) (c c' : Array Value) (t : TypeId) : (w.alloc (.cells c t)).setRow w.heap.size c' = w.alloc (.cells c' t) := by
  simp only [World.setRow, World.alloc]
  congr 1
  apply Array.ext_getElem?
  intro i
  rw [Array.getElem?_modify, Array.getElem?_push, Array.getElem?_push]
  by_cases e : w.heap.size = i
  · subst e; simp
  · rw [if_neg e, if_neg (Ne.symm e), if_neg (Ne.symm e)]
end Go.Proofs.YtjdfclbjmmmcfaaDoor
namespace Go.Proofs.YtjdfclbjmmmcfaaDoor
open Go Go.RowKit
theorem ltL_cmpB : ∀ (a b : List Int), ltL a b = decide (cmpB a b < 0)
  | [], [] => rfl
  | [], _ :: _ => rfl
  | _ :: _, [] => rfl
  | a :: l, b :: r => by
    unfold ltL cmpB
    by_cases h1 : a < b
    · rw [if_pos h1, if_pos h1]; rfl
    · rw [if_neg h1, if_neg h1]
      by_cases h2 : b < a
      · rw [if_pos h2, if_pos h2]; rfl
      · rw [if_neg h2, if_neg h2]
        exact ltL_cmpB l r
theorem HB.dig {w : World} {g : Nat} {l : List Int} (hl : D32 l) {T : TypeId} (h : w.heap[g]? = some (.cells (cellsB l) T (0, 0))) : HB w (.slice (some ⟨g, 0, none⟩) 32 32) l := by
  refine ⟨⟨some ⟨g, 0, none⟩, 32, by rw [hl.1], by rw [hl.1]; omega, by unfold maxLen; omega, (fun e => by cases e), fun _ => ⟨g, 0, rfl, fun j hj => ?_⟩⟩, hl.2⟩
  rw [cell_of_row w g (0 + j) _ _ _ h]
  simp [cellsB, List.getD, List.getElem?_eq_getElem hj]
set_option maxRecDepth 100000 in
set_option maxHeartbeats 4000000 in
theorem ahead_any (w : World) (x : List Int) (a b : Nat) (hx : X16 x) (ha : a < 4294967296) (hb : b < 4294967296) :
    Calls Tryd.prog 21 #[.agg (cellsB x), .int .i64 (a : Int), .int .i64 (b : Int)] w fun e w' => e = .returned (.bool (decide (ltR (rgL x) a b))) ∧ Below w.heap.size w w' := by
  have HIx := hid (size_ix hx)
  obtain ⟨cl, HCL⟩ : ∃ c, Hid (cellsB x = c) := ⟨_, rfl⟩
  rw [HCL.out] at HIx
  rw [HCL.out]
  obtain ⟨zd, HZD⟩ : ∃ zd, Hid (cellsB zeros32 = zd) := ⟨_, rfl⟩
  have HX := hid hx
  obtain ⟨W1, HW1⟩ : ∃ W1, Hid (w.alloc (.cells cl 23) = W1) := ⟨_, rfl⟩
  have HB1 : Hid (Below w.heap.size w W1) := by rw [← HW1.out]; exact (Below.refl _ w).alloc (Nat.le_refl _) _
  have HC1 : Hid (W1.heap[w.heap.size]? = some (.cells cl 23 (0, 0))) := by rw [← HW1.out]; exact heap_alloc_new w _
  have hs1 : w.heap.size < W1.heap.size := (Array.getElem?_eq_some_iff.1 HC1.out).1
  have C1 := hid (rring_any W1 x a hx ha)
  rw [HCL.out] at C1
  obtain ⟨da, HDA⟩ : ∃ d, Hid (rgL x a = d) := ⟨_, rfl⟩
  obtain ⟨db', HDB⟩ : ∃ d, Hid (rgL x b = d) := ⟨_, rfl⟩
  have DA : Hid (D32 da) := by rw [← HDA.out]; exact rgL_D x a
  have DB : Hid (D32 db') := by rw [← HDB.out]; exact rgL_D x b
  obtain ⟨M, HM⟩ : ∃ M, Hid (decide (ltR (rgL x) a b) = M) := ⟨_, rfl⟩
  have HM2 : Hid (M = if da = db' then decide (a < b) else ltL da db') := by
    rw [← HM.out, ← HDA.out, ← HDB.out]
    refine hid ?_
    by_cases q : rgL x a = rgL x b
    · rw [if_pos q]
      exact decide_eq_decide.2 ((ltR_iff _ a b).trans ⟨fun h => h.elim (·.2) (fun h => absurd q h.1), fun h => .inl ⟨q, h⟩⟩)
    · rw [if_neg q, ltL_cmpB]
      exact decide_eq_decide.2 ((ltR_iff _ a b).trans ⟨fun h => h.elim (fun h => absurd h.1 q) (·.2), fun h => .inr ⟨q, h⟩⟩)
  rw [HM.out]
  rw [HDA.out] at C1
  obtain ⟨ca, HCA⟩ : ∃ c, Hid (cellsB da = c) := ⟨_, rfl⟩
  obtain ⟨cb, HCB⟩ : ∃ c, Hid (cellsB db' = c) := ⟨_, rfl⟩
  rw [HCA.out] at C1
  have hza : Hid (zd.size = ca.size) := by rw [← HZD.out, ← HCA.out, cellsB_size, cellsB_size, DA.out.1]; exact rfl
  have hzb : Hid (zd.size = cb.size) := by rw [← HZD.out, ← HCB.out, cellsB_size, cellsB_size, DB.out.1]; exact rfl
  have SA : Hid ((Tryd.prog.info? 43).map (·.size) = some ca.size) := by rw [← HCA.out, cellsB_size, DA.out.1]; exact size_digest
  have SB : Hid ((Tryd.prog.info? 43).map (·.size) = some cb.size) := by rw [← HCB.out, cellsB_size, DB.out.1]; exact size_digest
  have O1 : Hid (ca.all (·.oneCell') = true) := by rw [← HCA.out]; exact cellsB_one _
  have O2 : Hid (cb.all (·.oneCell') = true) := by rw [← HCB.out]; exact cellsB_one _
  have HEQ : ∀ W : World, (binOp .eql 43 (.agg ca) (.agg cb)).run Tryd.prog W = .ok (.bool (decide (da = db'))) W := fun W => by rw [← HCA.out, ← HCB.out]; exact run_eql_bytes W 32 43 Tryd.underlying43 da db' DA.out.1 DB.out.1
  have hai : (a : Int) < 4294967296 := by omega
  have hbi : (b : Int) < 4294967296 := by omega
  clear hx
  go_enter Tryd.func21, Tryd.ntmps21
  go_wp2_with (refine wpList_load_row rfl 23 _ rfl w.heap.size rfl 23 cl (0, 0) _ (by rw [HW1.out]; exact HC1.out) Tryd.underlying23 rfl HIx.out ?_; rw [HW1.out])
  refine C1.out.mono ?_
  rintro e W2 ⟨rfl, hB2⟩
  have HB2 : Hid (Below w.heap.size w W2) := HB1.out.trans (hB2.mono HB1.out.size)
  have HC2 : Hid (W2.heap[w.heap.size]? = some (.cells cl 23 (0, 0))) := (hB2.block _ hs1).trans HC1.out
  have hs2 : w.heap.size < W2.heap.size := (Array.getElem?_eq_some_iff.1 HC2.out).1
  clear hB2 C1 HC1
  have HR2 : Hid ((W2.alloc (.cells zd 43)).heap[W2.heap.size]? = some (.cells zd 43 (0, 0))) := heap_alloc_new W2 _
  obtain ⟨W3, HW3⟩ : ∃ W3, Hid ((W2.alloc (.cells zd 43)).setRow W2.heap.size ca = W3) := ⟨_, rfl⟩
  have HA3 : Hid (W3.heap[W2.heap.size]? = some (.cells ca 43 (0, 0))) := by rw [← HW3.out]; exact setRow_heap _ _ _ _ _ _ HR2.out
  have HB3 : Hid (Below W2.heap.size W2 W3) := by rw [← HW3.out]; exact below_setRow ((Below.refl _ W2).alloc (Nat.le_refl _) _) (Nat.le_refl _) _
  have HC3 : Hid (W3.heap[w.heap.size]? = some (.cells cl 23 (0, 0))) := (HB3.out.block _ hs2).trans HC2.out
  have hs3 : W2.heap.size < W3.heap.size := (Array.getElem?_eq_some_iff.1 HA3.out).1
  have C2 := hid (rring_any W3 x b HX.out hb)
  rw [HCL.out, HDB.out, HCB.out] at C2
  go_wp2_with (first
    | (refine wpList_alloc_digest rfl rfl ?_; rw [HZD.out])
    | (refine wpList_store_row rfl 43 _ _ rfl W2.heap.size ca rfl rfl 43 _ HR2.out SA.out hza.out O1.out ?_; rw [HW3.out])
    | (refine wpList_load_row rfl 23 _ rfl w.heap.size rfl 23 cl (0, 0) _ HC3.out Tryd.underlying23 rfl HIx.out ?_))
  refine C2.out.mono ?_
  rintro e W4 ⟨rfl, hB4⟩
  have HB4 : Hid (Below w.heap.size w W4) := (HB2.out.trans (HB3.out.mono HB2.out.size)).trans (hB4.mono (by omega))
  have HA4 : Hid (W4.heap[W2.heap.size]? = some (.cells ca 43 (0, 0))) := (hB4.block _ hs3).trans HA3.out
  have hs4 := hB4.size
  clear hB4 C2 HC3
  have HR4 : Hid ((W4.alloc (.cells zd 43)).heap[W4.heap.size]? = some (.cells zd 43 (0, 0))) := heap_alloc_new W4 _
  obtain ⟨W5, HW5⟩ : ∃ W5, Hid ((W4.alloc (.cells zd 43)).setRow W4.heap.size cb = W5) := ⟨_, rfl⟩
  have HD5 : Hid (W5.heap[W4.heap.size]? = some (.cells cb 43 (0, 0))) := by rw [← HW5.out]; exact setRow_heap _ _ _ _ _ _ HR4.out
  have HB5 : Hid (Below W4.heap.size W4 W5) := by rw [← HW5.out]; exact below_setRow ((Below.refl _ W4).alloc (Nat.le_refl _) _) (Nat.le_refl _) _
  have HA5 : Hid (W5.heap[W2.heap.size]? = some (.cells ca 43 (0, 0))) := (HB5.out.block _ (by omega)).trans HA4.out
  have BL5 : Hid (Below w.heap.size w W5) := HB4.out.trans (HB5.out.mono HB4.out.size)
  have CL : Hid (∀ W : World, W.heap = W5.heap → Calls Tryd.prog 33 #[.slice (some ⟨W2.heap.size, 0, none⟩) 32 32, .slice (some ⟨W4.heap.size, 0, none⟩) 32 32] W fun e w' => e = .returned (.bool (ltL da db')) ∧ Dr W w') := hid fun W hW => rless_any W _ _ da db' (HB.dig DA.out (T := 43) (by rw [hW, HCA.out]; exact HA5.out)) (HB.dig DB.out (T := 43) (by rw [hW, HCB.out]; exact HD5.out))
  by_cases hE : da = db'
  · have HE := hid hE
    rw [decide_eq_true hE] at HEQ
    clear hE
    go_wp2_with (first
      | (refine wpList_alloc_digest rfl rfl ?_; rw [HZD.out])
      | (refine wpList_store_row rfl 43 _ _ rfl W4.heap.size cb rfl rfl 43 _ HR4.out SB.out hzb.out O2.out ?_; rw [HW5.out])
      | (refine wpList_load_row rfl 43 _ rfl W2.heap.size rfl 43 ca (0, 0) _ HA5.out Tryd.underlying43 rfl SA.out ?_)
      | (refine wpList_load_row rfl 43 _ rfl W4.heap.size rfl 43 cb (0, 0) _ HD5.out Tryd.underlying43 rfl SB.out ?_))
    go_ret
    exact ⟨by rw [HM2.out, if_pos HE.out]; rfl, BL5.out⟩
  · have HE := hid hE
    rw [decide_eq_false hE] at HEQ
    clear hE
    go_wp2_with (first
      | (refine wpList_alloc_digest rfl rfl ?_; rw [HZD.out])
      | (refine wpList_store_row rfl 43 _ _ rfl W4.heap.size cb rfl rfl 43 _ HR4.out SB.out hzb.out O2.out ?_; rw [HW5.out])
      | (refine wpList_load_row rfl 43 _ rfl W2.heap.size rfl 43 ca (0, 0) _ HA5.out Tryd.underlying43 rfl SA.out ?_)
      | (refine wpList_load_row rfl 43 _ rfl W4.heap.size rfl 43 cb (0, 0) _ HD5.out Tryd.underlying43 rfl SB.out ?_))
    refine wp_region_held_drew (S := fun W' => W'.heap = W5.heap) (by kernel_rfl) (by exact rfl) (fun hHeld => ?_)
    have HS := hid hHeld
    clear hHeld
    change wpAnyH _ _ _ _ _ _ _ _ (World.drew _)
    refine wpAnyH_take (i := 0) (v := ?_) rfl (by kernel_rfl) (by kernel_rfl) (by kernel_rfl) (fun _ _ _ h => h) (Or.inl ⟨by rfl, ?q0⟩) HS.out ?_
    case q0 => intro w hSw; go_simp; rfl
    simp only [Act.put, List.getElem_toArray, List.getElem_cons_zero, List.getElem_cons_succ, List.setIfInBounds_toArray, List.set_cons_zero, List.set_cons_succ]
    refine wpAnyH_take (i := 1) (v := ?_) rfl (by kernel_rfl) (by kernel_rfl) (by kernel_rfl) (fun _ _ _ h => h) (Or.inl ⟨by rfl, ?q1⟩) HS.out ?_
    case q1 => intro w hSw; go_simp; rfl
    simp only [Act.put, List.getElem_toArray, List.getElem_cons_zero, List.getElem_cons_succ, List.setIfInBounds_toArray, List.set_cons_zero, List.set_cons_succ]
    refine wpAnyH_ready (rs := [2]) (by kernel_rfl) (by simp) ?_
    refine AllReadyH.cons rfl (fun K hK => ?_) AllReadyH.nil
    replace hK := hid hK
    go_simp
    refine (CL.out _ HS.out).mono ?_
    rintro e w' ⟨rfl, hd⟩
    have HD := hid hd
    have HS2 : Hid (w'.heap = W5.heap) := hid (hd.heap.trans HS.out)
    clear hd
    refine hK.out _ _ HS2.out (fun _ => ?_)
    clear hK K
    replace HS := HS2
    refine wpAnyH_take (i := 3) (v := ?_) rfl (by kernel_rfl) (by kernel_rfl) (by kernel_rfl) (fun _ _ _ h => h) (Or.inl ⟨by rfl, ?q3⟩) HS.out ?_
    case q3 => intro w hSw; go_simp; rfl
    simp only [Act.put, List.getElem_toArray, List.getElem_cons_zero, List.getElem_cons_succ, List.setIfInBounds_toArray, List.set_cons_zero, List.set_cons_succ]
    refine wpAnyH_done (by kernel_rfl) ?_ _
    go_wp2
    go_ret
    exact ⟨by rw [HM2.out, if_neg HE.out]; rfl, BL5.out.drew.trans (HD.out.below _)⟩
def roL (l : List Nat) (k : Nat) : List Nat := l.map fun s => if s < k then s else 0
theorem roL_length (l : List Nat) (k : Nat) : (roL l k).length = l.length := by simp [roL]
theorem roL_zero (l : List Nat) (n : Nat) (h : l.length = n) : roL l 0 = List.replicate n 0 := by
  subst h
  unfold roL
  apply List.ext_getElem (by simp)
  intro i h1 h2
  simp
theorem roL_all {d : Nat → List Int} {n : Nat} {l : List Nat} (h : IsO d n l) : roL l n = l := by
  unfold roL
  conv => rhs; rw [← List.map_id l]
  refine List.map_congr_left fun a ha => ?_
  rw [if_pos ((h.mem a).1 ha)]
  rfl
theorem roL_step {d : Nat → List Int} {n : Nat} {l : List Nat} (h : IsO d n l) {i k : Nat} (hi : l[i]? = some k) : (roL l k).set i k = roL l (k + 1) := by
  have hil := (List.getElem?_eq_some_iff.1 hi).1
  have e : l[i] = k := (List.getElem?_eq_some_iff.1 hi).2
  apply List.ext_getElem (by simp [roL])
  intro j h1 h2
  have hjl : j < l.length := by simpa [roL] using h2
  rw [List.getElem_set]
  by_cases q : i = j
  · subst q
    rw [if_pos rfl]
    simp [roL, e]
  · rw [if_neg q]
    have hne : l[j] ≠ k := by
      intro hh
      rcases Nat.lt_or_ge i j with p | p
      · exact (List.pairwise_iff_getElem.1 h.nodup) i j hil hjl p (by rw [e, hh])
      · exact (List.pairwise_iff_getElem.1 h.nodup) j i hjl hil (by omega) (by rw [e, hh])
    simp only [roL, List.getElem_map]
    by_cases p : l[j] < k
    · rw [if_pos p, if_pos (by omega)]
    · rw [if_neg p, if_neg (by omega)]
theorem IsO.place {d : Nat → List Int} {n : Nat} {l : List Nat} (h : IsO d n l) {k : Nat} (hk : k < n) : ∃ i, i < n ∧ l[i]? = some k := by
  obtain ⟨i, hi, e⟩ := List.getElem_of_mem ((h.mem k).2 hk)
  exact ⟨i, by rw [← h.len]; exact hi, by rw [List.getElem?_eq_getElem hi, e]⟩
def cntA (d : Nat → List Int) (s t : Nat) : Nat := (List.range t).countP (fun u => decide (ltR d u s))
theorem cntA_step (d : Nat → List Int) (s t : Nat) : cntA d s (t + 1) = cntA d s t + if ltR d t s then 1 else 0 := by
  unfold cntA
  rw [List.range_succ, List.countP_append]
  by_cases h : ltR d t s <;> simp [h]
theorem cntA_le (d : Nat → List Int) (s t : Nat) : cntA d s t ≤ t := by
  have := List.countP_le_length (p := fun u => decide (ltR d u s)) (l := List.range t)
  rwa [List.length_range] at this
set_option maxRecDepth 100000 in
set_option maxHeartbeats 2000000 in
theorem rorder_bad (w : World) (x : List Int) (n : Int) (hx : X16 x) (hn : n < 1 ∨ 32 < n) :
    Calls Tryd.prog 9 #[.agg (cellsB x), .int .i64 n] w fun e w' => e = .returned (.tuple #[.slice none 0 0, .int .i64 2]) ∧ Below w.heap.size w w' := by
  obtain ⟨cl, HCL⟩ : ∃ c, Hid (cellsB x = c) := ⟨_, rfl⟩
  rw [HCL.out]
  have HB0 : Hid (Below w.heap.size w (w.alloc (.cells cl 23))) := (Below.refl _ w).alloc (Nat.le_refl _) _
  go_enter Tryd.func9, Tryd.ntmps9
  by_cases h1 : n < 1
  · go_wp2
    go_ret2
    exact ⟨rfl, HB0.out⟩
  · have h2 : 32 < n := by omega
    go_wp2
    go_ret2
    exact ⟨rfl, HB0.out⟩
set_option maxRecDepth 100000 in
set_option maxHeartbeats 4000000 in
theorem rorder_ok (w : World) (x : List Int) (n : Nat) (l : List Nat) (hx : X16 x) (h1 : 1 ≤ n) (h2 : n ≤ 32) (hO : IsO (rgL x) n l) :
    Calls Tryd.prog 9 #[.agg (cellsB x), .int .i64 (n : Int)] w fun e w' => ∃ g, e = .returned (.tuple #[.slice (some ⟨g, 0, none⟩) n n, .int .i64 0]) ∧ w.heap.size ≤ g ∧ OI w' g l ∧ Below w.heap.size w w' := by
  have HIx := hid (size_ix hx)
  obtain ⟨cl, HCL⟩ : ∃ c, Hid (cellsB x = c) := ⟨_, rfl⟩
  rw [HCL.out] at HIx
  rw [HCL.out]
  have HX := hid hx
  have HO := hid hO
  have HL := hid hO.len
  obtain ⟨W1, HW1⟩ : ∃ W1, Hid (w.alloc (.cells cl 23) = W1) := ⟨_, rfl⟩
  have HB1 : Hid (Below w.heap.size w W1) := by rw [← HW1.out]; exact (Below.refl _ w).alloc (Nat.le_refl _) _
  have HS1 : Hid (W1.heap.size = w.heap.size + 1) := by rw [← HW1.out]; refine hid ?_; simp
  have HC1 : Hid (W1.heap[w.heap.size]? = some (.cells cl 23 (0, 0))) := by rw [← HW1.out]; exact heap_alloc_new w _
  have hmk := run_make_int W1 n (by omega)
  obtain ⟨W2, HW2⟩ : ∃ W2, Hid (W1.alloc (.cells (nv (List.replicate n 0)) 3) = W2) := ⟨_, rfl⟩
  have BL2 : Hid (Below (w.heap.size + 1) W1 W2) := by rw [← HS1.out, ← HW2.out]; exact (Below.refl _ W1).alloc (Nat.le_refl _) _
  have HO2 : Hid (OI W2 (w.heap.size + 1) (roL l 0)) := by rw [← HW2.out, ← HS1.out, roL_zero l n HL.out]; exact heap_alloc_new W1 _
  rw [HW2.out, HS1.out] at hmk
  have h1' : ¬ ((n : Int) < 1) := by omega
  have h2' : ¬ (32 < (n : Int)) := by omega
  clear hx hO
  go_enter Tryd.func9, Tryd.ntmps9
  go_wp2
  rw [HW1.out]
  go_wp2
  rw [hmk]
  simp only [Result.andThen]
  rw [Oper.upon_value]
  go_wp2
  clear hmk
  go_loopw [7] (fun i wr => ∃ s : Nat, s ≤ n ∧ i = .int .i64 s ∧ Hid (OI wr (w.heap.size + 1) (roL l s)) ∧ Hid (Below (w.heap.size + 1) W1 wr)) (fun i _ => n - (intOf i).toNat)
  case atStart => exact ⟨0, Nat.zero_le _, rfl, HO2, BL2⟩
  case round =>
    obtain ⟨s, hs, rfl, HOs, HBs⟩ := hrel
    by_cases hlt : s < n
    · obtain ⟨i, hin, hi⟩ := HO.out.place hlt
      have HPI := hid hi
      have HRK : Hid (cntA (rgL x) s n = i) := HO.out.rank hi
      clear hi
      go_wp2
      go_loopw [8, 9] (fun r j wi => ∃ t : Nat, t ≤ n ∧ j = .int .i64 t ∧ r = .int .i64 (cntA (rgL x) s t : Nat) ∧ Hid (OI wi (w.heap.size + 1) (roL l s)) ∧ Hid (Below (w.heap.size + 1) W1 wi)) (fun _ j _ => n - (intOf j).toNat)
      case atStart => exact ⟨0, Nat.zero_le _, rfl, rfl, HOs, HBs⟩
      case round =>
        clear HOs HBs
        obtain ⟨t, ht, rfl, rfl, HOs, HBs⟩ := hrel
        have hsz := HBs.out.size
        have HCi : Hid (wr.heap[w.heap.size]? = some (.cells cl 23 (0, 0))) := (HBs.out.block _ (by omega)).trans HC1.out
        have hcs := cntA_step (rgL x) s t
        have hcl := cntA_le (rgL x) s t
        by_cases htn : t < n
        · by_cases hts : t = s
          · have HC0 : Hid (cntA (rgL x) s (t + 1) = cntA (rgL x) s t) := by
              refine hid ?_
              rw [hcs, hts, if_neg (ltR_irrefl _ _)]
              rfl
            clear hcs
            obtain ⟨c, HC⟩ : ∃ c, Hid (cntA (rgL x) s t = c) := ⟨_, rfl⟩
            rw [HC.out] at hcl HC0 ⊢
            subst hts
            go_wp2
            exact ⟨⟨t + 1, by omega, by go_num, by rw [HC0.out], HOs, HBs⟩, by simp [intOf]; omega⟩
          · have hbn : ((t : Int) != (s : Int)) = true := by simp only [bne_iff_ne, ne_eq]; omega
            have CA := hid (ahead_any wr x t s HX.out (by omega) (by omega))
            rw [HCL.out] at CA
            obtain ⟨c, HC⟩ : ∃ c, Hid (cntA (rgL x) s t = c) := ⟨_, rfl⟩
            have HC0 := hid hcs
            rw [HC.out] at hcl HC0 ⊢
            clear hcs
            by_cases hR : ltR (rgL x) t s
            · rw [decide_eq_true hR] at CA
              rw [if_pos hR] at HC0
              clear hR
              go_wp2_with (first | (refine wpList_load_row_on (by rfl) 23 _ rfl w.heap.size rfl 23 cl (0, 0) _ HCi.out Tryd.underlying23 rfl HIx.out ?_))
              refine CA.out.mono ?_
              rintro e W5 ⟨rfl, hB5⟩
              have HO5 := hid (HOs.out.below hB5)
              have BL5 : Hid (Below (w.heap.size + 1) W1 W5) := HBs.out.trans (hB5.mono (by rw [← HS1.out]; exact hsz))
              clear hB5 CA
              go_wp2
              exact ⟨⟨t + 1, by omega, by go_num, by rw [HC0.out]; go_num, HO5, BL5⟩, by simp [intOf]; omega⟩
            · rw [decide_eq_false hR] at CA
              rw [if_neg hR] at HC0
              clear hR
              go_wp2_with (first | (refine wpList_load_row_on (by rfl) 23 _ rfl w.heap.size rfl 23 cl (0, 0) _ HCi.out Tryd.underlying23 rfl HIx.out ?_))
              refine CA.out.mono ?_
              rintro e W5 ⟨rfl, hB5⟩
              have HO5 := hid (HOs.out.below hB5)
              have BL5 : Hid (Below (w.heap.size + 1) W1 W5) := HBs.out.trans (hB5.mono (by rw [← HS1.out]; exact hsz))
              clear hB5 CA
              go_wp2
              exact ⟨⟨t + 1, by omega, by go_num, by rw [HC0.out]; rfl, HO5, BL5⟩, by simp [intOf]; omega⟩
        · have htn2 : t = n := by omega
          clear hcs hcl
          rw [htn2, HRK.out]
          have hcell := HOs.out.cell (i := i) (by rw [roL_length, HL.out]; exact hin)
          have hfree := HOs.out.free i
          have HO6 := hid (HOs.out.set i s)
          rw [roL_step HO.out HPI.out] at HO6
          have BL6 : Hid (Below (w.heap.size + 1) W1 (wr.setCell ⟨w.heap.size + 1, i, none⟩ (.int .i64 (s : Int)))) := hid (HBs.out.setCell (p := ⟨w.heap.size + 1, i, none⟩) (Nat.le_refl _) _)
          clear htn2 htn
          go_wp2
          exact ⟨⟨s + 1, by omega, by go_num, HO6, BL6⟩, by simp [intOf]; omega⟩
    · have hsn : s = n := by omega
      have HO7 := HOs.out
      rw [hsn, roL_all HO.out] at HO7
      have HO8 := hid HO7
      clear HO7 hsn
      go_wp2
      go_ret2
      exact ⟨_, rfl, by omega, HO8.out, HB1.out.trans (HBs.out.mono (by omega))⟩
end Go.Proofs.YtjdfclbjmmmcfaaDoor
namespace Go.Proofs.YtjdfclbjmmmcfaaDoor
open Go Go.RowKit Go.Shelf
theorem rg_held_n {P : Program} {ops : Array Oper} {Q : Exit → Act → World → Prop} {S : World → Prop} {id : Nat} {a : Act} {w : World} (hm : P.follows .mixedOrders = true) (hS : S w.drew)
    (h : S w.drew → wpAnyH P .any ops (fun e a' w' => e = .normal ∧ Q e a' w') S ops.size (Array.replicate ops.size false) a w.drew) : (Code.region id ops true).wp P Q a w :=
  Code.wp_mono (fun _ _ _ q => q.2) (wp_region_held_drew hm hS h)
def sn (l : List Nat) (k : Nat) : Array Value := ((List.range 40).map fun v => Value.bool (decide (v ∈ l.take k))).toArray
theorem sn_size (l : List Nat) (k : Nat) : (sn l k).size = 40 := by simp [sn]
theorem sn_at (l : List Nat) (k v : Nat) (hv : v < 40) : (sn l k)[v]? = some (.bool (decide (v ∈ l.take k))) := by simp [sn, hv]
theorem sn_step (l : List Nat) (k : Nat) (hk : k < l.length) (h40 : l.getD k 0 < 40) : (sn l k).setIfInBounds (l.getD k 0) (.bool true) = sn l (k + 1) := by
  have e : l[k] = l.getD k 0 := by simp [List.getD, List.getElem?_eq_getElem hk]
  apply Array.ext_getElem?
  intro v
  by_cases hv : v < 40
  · rw [sn_at _ _ _ hv, List.take_succ_eq_append_getElem hk, e]
    by_cases q : l.getD k 0 = v
    · rw [← q, decide_eq_true (List.mem_append_right _ (List.mem_singleton.2 rfl))]
      rw [Array.getElem?_setIfInBounds_self_of_lt (by rw [sn_size]; exact h40)]
    · rw [Array.getElem?_setIfInBounds_ne q, sn_at _ _ _ hv]
      congr 2
      rw [decide_eq_decide]
      constructor
      · intro h; exact List.mem_append_left _ h
      · intro h
        rcases List.mem_append.1 h with h | h
        · exact h
        · rw [List.mem_singleton] at h
          exact absurd h.symm q
  · rw [Array.getElem?_eq_none (by simp [sn_size]; omega), Array.getElem?_eq_none (by rw [sn_size]; omega)]
theorem sn_zero (l : List Nat) : sn l 0 = (List.replicate 40 (Value.bool false)).toArray := by
  unfold sn
  congr 1
theorem sn_new {l : List Nat} (hd : l.Nodup) {k : Nat} (hk : k < l.length) : decide (l.getD k 0 ∈ l.take k) = false := by
  rw [decide_eq_false_iff_not]
  intro h
  obtain ⟨j, hj, e⟩ := List.getElem_of_mem h
  have hjk : j < k := by simp at hj; omega
  rw [List.getElem_take] at e
  have e2 : l[k] = l.getD k 0 := by simp [List.getD, List.getElem?_eq_getElem hk]
  exact (List.pairwise_iff_getElem.1 hd) j k (by omega) hk hjk (by rw [e, e2])
structure Wq (w : World) (cx : Array Value) (n g bL bS : Nat) (l : List Nat) (k : Nat) (W : World) : Prop where
  hx : W.heap[w.heap.size]? = some (.cells cx 23 (0, 0))
  hn : W.heap[w.heap.size + 1]? = some (.cells #[.int .i64 (n : Int)] 3 (0, 0))
  hr : W.heap[w.heap.size + 2]? = some (.cells #[.bool false] 4 (0, 0))
  hl : W.heap[bL]? = some (.cells #[.slice (some ⟨g, 0, none⟩) n n] 24 (0, 0))
  hs : W.heap[bS]? = some (.cells (sn l k) 4 (0, 0))
  hg : OI W g l
  bel : Below w.heap.size w W
theorem hp_lt {W : World} {b : Nat} {o : Obj} (h : W.heap[b]? = some o) : b < W.heap.size := (Array.getElem?_eq_some_iff.1 h).1
theorem Wq.below {w W W' : World} {cx : Array Value} {n g bL bS : Nat} {l : List Nat} {k : Nat} (h : Wq w cx n g bL bS l k W) (hB : Below W.heap.size W W') : Wq w cx n g bL bS l k W' :=
  ⟨(hB.block _ (hp_lt h.hx)).trans h.hx, (hB.block _ (hp_lt h.hn)).trans h.hn, (hB.block _ (hp_lt h.hr)).trans h.hr, (hB.block _ (hp_lt h.hl)).trans h.hl, (hB.block _ (hp_lt h.hs)).trans h.hs, h.hg.below hB, h.bel.trans (hB.mono h.bel.size)⟩
theorem Wq.cn {w W : World} {cx : Array Value} {n g bL bS : Nat} {l : List Nat} {k : Nat} (h : Wq w cx n g bL bS l k W) : W.cell? ⟨w.heap.size + 1, 0, none⟩ = some (.int .i64 (n : Int)) := (cell_of_row _ _ _ _ _ _ h.hn).trans rfl
theorem Wq.cl {w W : World} {cx : Array Value} {n g bL bS : Nat} {l : List Nat} {k : Nat} (h : Wq w cx n g bL bS l k W) : W.cell? ⟨bL, 0, none⟩ = some (.slice (some ⟨g, 0, none⟩) n n) := (cell_of_row _ _ _ _ _ _ h.hl).trans rfl
theorem Wq.cs {w W : World} {cx : Array Value} {n g bL bS : Nat} {l : List Nat} {k : Nat} (h : Wq w cx n g bL bS l k W) (v : Nat) (hv : v < 40) : W.cell? ⟨bS, v, none⟩ = some (.bool (decide (v ∈ l.take k))) := (cell_of_row _ _ _ _ _ _ h.hs).trans (sn_at l k v hv)
theorem rising_ok {x : List Int} {n : Nat} {l : List Nat} (h : IsO (rgL x) n l) {k : Nat} (h0 : 0 < k) (hk : k < n) : ltL (rgL x (l.getD k 0)) (rgL x (l.getD (k - 1) 0)) = false ∧ ¬ (rgL x (l.getD (k - 1) 0) = rgL x (l.getD k 0) ∧ l.getD k 0 < l.getD (k - 1) 0) := by
  have hl := h.len
  have e1 : l[k]'(by omega) = l.getD k 0 := by simp [List.getD, List.getElem?_eq_getElem (show k < l.length by omega)]
  have e2 : l[k - 1]'(by omega) = l.getD (k - 1) 0 := by simp [List.getD, List.getElem?_eq_getElem (show k - 1 < l.length by omega)]
  have := (List.pairwise_iff_getElem.1 h.2) (k - 1) k (by omega) (by omega) (by omega)
  rw [e1, e2] at this
  generalize l.getD k 0 = b at *
  generalize l.getD (k - 1) 0 = a at *
  rw [ltR_iff] at this
  rw [ltL_cmpB, decide_eq_false_iff_not]
  rcases this with ⟨q, p⟩ | ⟨q, p⟩
  · rw [q, cmpB_self]
    exact ⟨by decide, fun h => by omega⟩
  · refine ⟨fun h => ?_, fun h => q h.1⟩
    rw [cmpB_neg] at h
    omega
set_option maxRecDepth 100000 in
set_option maxHeartbeats 1000000 in
theorem lpick_any (w : World) (x : Int) (n : Nat) (h1 : 1 ≤ n) (h2 : n ≤ 32) (hx : -9223372036854775808 ≤ x ∧ x < 9223372036854775808) : Calls Tryd.prog 19 #[.int .i64 x, .int .i64 (n : Int)] w fun e w' => e = .returned (.int .i64 (x % (n : Int))) ∧ w' = w := by
  have hn0 : ¬ (n = 0) := by omega
  have hn1 : ¬ ((n : Int) < 1) := by omega
  have b1 := Int.emod_nonneg x (show (n : Int) ≠ 0 by omega)
  have b2 := Int.emod_lt_of_pos x (show (0 : Int) < n by omega)
  have h3 : Int.tmod x n = if 0 ≤ x ∨ (n : Int) ∣ x then x % n else x % n - n := by
    rw [Int.tmod_eq_emod]
    split <;> simp
  obtain ⟨t, HT⟩ : ∃ t, Hid (Int.tmod x n = t) := ⟨_, rfl⟩
  rw [HT.out] at h3
  have HT2 := HT.out
  by_cases hc : 0 ≤ x ∨ (n : Int) ∣ x
  · rw [if_pos hc] at h3
    have ht : ¬ (t < 0) := by omega
    have HE := hid h3
    clear h3 hc b1 b2
    go_enter Tryd.func19, Tryd.ntmps19
    go_wp2
    go_ret
    exact ⟨by rw [← HE.out]; rfl, rfl⟩
  · rw [if_neg hc] at h3
    have ht : t < 0 := by omega
    have HE : Hid (t + (n : Int) = x % (n : Int)) := hid (by omega)
    have HB : -9223372036854775808 ≤ t + (n : Int) ∧ t + (n : Int) ≤ 9223372036854775807 := by omega
    clear h3 hc b1 b2
    go_enter Tryd.func19, Tryd.ntmps19
    go_wp2
    go_ret
    exact ⟨by rw [← HE.out]; rfl, rfl⟩
theorem keyed {P : Nat → World → Prop} {K : Act → World → Prop} {G : Prop} (A : Nat → Act) (hkey : ∀ d W', P d W' → K (A d) W') (main : (∀ d W', P d W' → K (A d) W') → G) : G := main hkey
theorem cells_from {A C : World} {row : Option Nat} {b n : Nat} {cs : Array Value} {t : TypeId} {fz : Nat × Nat} (h : A.heap[b]? = some (.cells cs t fz)) (hg : A.grownBy C row) (hr : ∀ r, row = some r → n ≤ r ∧ ∃ o : Obj, A.heap[r]? = some o ∧ o.isCells = false) : C.heap[b]? = some (.cells cs t fz) := by
  refine (hg.block b (hp_lt h) fun e => ?_).trans h
  obtain ⟨_, o, ho, hc⟩ := hr b e.symm
  rw [h] at ho
  cases ho
  cases hc
structure Wr (w : World) (n g bL bN bK : Nat) (l : List Nat) (q k : Nat) (W : World) : Prop where
  hn : W.heap[w.heap.size + 1]? = some (.cells #[.int .i64 (n : Int)] 3 (0, 0))
  hr : W.heap[w.heap.size + 2]? = some (.cells #[.bool false] 4 (0, 0))
  hl : W.heap[bL]? = some (.cells #[.slice (some ⟨g, 0, none⟩) n n] 24 (0, 0))
  hg : OI W g l
  hN : W.heap[bN]? = some (.cells #[.int .i64 (q : Int)] 3 (0, 0))
  hK : W.heap[bK]? = some (.cells #[.int .i64 (k : Int)] 3 (0, 0))
  bel : Below w.heap.size w W
theorem Wr.from {w A C : World} {n g bL bN bK : Nat} {l : List Nat} {q k B : Nat} {row : Option Nat} (h : Wr w n g bL bN bK l q k A) (hB : w.heap.size ≤ B) (hg : A.grownBy C row) (hr : ∀ r, row = some r → B ≤ r ∧ ∃ o : Obj, A.heap[r]? = some o ∧ o.isCells = false) : Wr w n g bL bN bK l q k C :=
  ⟨cells_from h.hn hg hr, cells_from h.hr hg hr, cells_from h.hl hg hr, cells_from h.hg hg hr, cells_from h.hN hg hr, cells_from h.hK hg hr, below_from h.bel (Nat.le_refl _) hg hr hB⟩
theorem Wr.next {w W : World} {n g bL bN bK : Nat} {l : List Nat} {q k q2 k2 : Nat} (h : Wr w n g bL bN bK l q k W) (d1 : bN ≠ w.heap.size + 1) (d2 : bN ≠ w.heap.size + 2) (d3 : bN ≠ bL) (d4 : bN ≠ g) (d5 : bK ≠ w.heap.size + 1) (d6 : bK ≠ w.heap.size + 2) (d7 : bK ≠ bL) (d8 : bK ≠ g) (d9 : bN ≠ bK) (hN : w.heap.size ≤ bN) (hK : w.heap.size ≤ bK) :
    Wr w n g bL bN bK l q2 k2 ((W.setCell ⟨bN, 0, none⟩ (.int .i64 (q2 : Int))).setCell ⟨bK, 0, none⟩ (.int .i64 (k2 : Int))) := by
  have kp : ∀ b o, W.heap[b]? = some o → b ≠ bN → b ≠ bK → ((W.setCell ⟨bN, 0, none⟩ (.int .i64 (q2 : Int))).setCell ⟨bK, 0, none⟩ (.int .i64 (k2 : Int))).heap[b]? = some o := fun b o hb h1 h2 => by
    rw [heap_setCell_other _ _ _ _ (fun e => h2 e), heap_setCell_other _ _ _ _ (fun e => h1 e)]
    exact hb
  refine ⟨kp _ _ h.hn (Ne.symm d1) (Ne.symm d5), kp _ _ h.hr (Ne.symm d2) (Ne.symm d6), kp _ _ h.hl (Ne.symm d3) (Ne.symm d7), kp _ _ h.hg (Ne.symm d4) (Ne.symm d8), ?_, ?_, (h.bel.setCell (p := ⟨bN, 0, none⟩) hN _).setCell (p := ⟨bK, 0, none⟩) hK _⟩
  · rw [heap_setCell_other _ _ _ _ (fun e => d9 e)]
    exact heap_setCell_same W bN 0 _ _ _ h.hN
  · have := (heap_setCell_other W ⟨bN, 0, none⟩ bK (.int .i64 (q2 : Int)) (fun e => d9 e.symm)).trans h.hK
    exact heap_setCell_same _ bK 0 _ _ _ this
end Go.Proofs.YtjdfclbjmmmcfaaDoor
namespace Go.Proofs.YtjdfclbjmmmcfaaDoor
open Go Go.RowKit
set_option maxRecDepth 100000 in
set_option maxHeartbeats 2000000 in
theorem rrank_none (w : World) (x : List Int) (n s : Int) (hx : X16 x) (h : n < 1 ∨ 32 < n) :
    Calls Tryd.prog 11 #[.agg (cellsB x), .int .i64 n, .int .i64 s] w fun e w' => e = .returned (.tuple #[.int .i64 0, .int .i64 2]) ∧ Below w.heap.size w w' := by
  have HIx := hid (size_ix hx)
  obtain ⟨cl, HCL⟩ : ∃ c, Hid (cellsB x = c) := ⟨_, rfl⟩
  rw [HCL.out] at HIx
  rw [HCL.out]
  obtain ⟨W1, HW1⟩ : ∃ W1, Hid (w.alloc (.cells cl 23) = W1) := ⟨_, rfl⟩
  have HB1 : Hid (Below w.heap.size w W1) := by rw [← HW1.out]; exact (Below.refl _ w).alloc (Nat.le_refl _) _
  have HC1 : Hid (W1.heap[w.heap.size]? = some (.cells cl 23 (0, 0))) := by rw [← HW1.out]; exact heap_alloc_new w _
  have C1 := hid (rorder_bad W1 x n hx h)
  rw [HCL.out] at C1
  clear h hx
  go_enter Tryd.func11, Tryd.ntmps11
  go_wp2_with (refine wpList_load_row rfl 23 _ rfl w.heap.size rfl 23 cl (0, 0) _ (by rw [HW1.out]; exact HC1.out) Tryd.underlying23 rfl HIx.out ?_; rw [HW1.out])
  refine C1.out.mono ?_
  rintro e W3 ⟨rfl, hB3⟩
  have BL3 : Hid (Below w.heap.size w W3) := HB1.out.trans (hB3.mono HB1.out.size)
  clear hB3 C1
  go_wp2
  go_ret2
  exact ⟨rfl, BL3.out⟩
set_option maxRecDepth 100000 in
set_option maxHeartbeats 2000000 in
theorem rrank_bad (w : World) (x : List Int) (n : Nat) (s : Int) (l : List Nat) (hx : X16 x) (h1 : 1 ≤ n) (h2 : n ≤ 32) (hO : IsO (rgL x) n l) (h : s < 0 ∨ (n : Int) ≤ s) :
    Calls Tryd.prog 11 #[.agg (cellsB x), .int .i64 (n : Int), .int .i64 s] w fun e w' => e = .returned (.tuple #[.int .i64 0, .int .i64 2]) ∧ Below w.heap.size w w' := by
  have HIx := hid (size_ix hx)
  obtain ⟨cl, HCL⟩ : ∃ c, Hid (cellsB x = c) := ⟨_, rfl⟩
  rw [HCL.out] at HIx
  rw [HCL.out]
  obtain ⟨W1, HW1⟩ : ∃ W1, Hid (w.alloc (.cells cl 23) = W1) := ⟨_, rfl⟩
  have HB1 : Hid (Below w.heap.size w W1) := by rw [← HW1.out]; exact (Below.refl _ w).alloc (Nat.le_refl _) _
  have HC1 : Hid (W1.heap[w.heap.size]? = some (.cells cl 23 (0, 0))) := by rw [← HW1.out]; exact heap_alloc_new w _
  have C1 := hid (rorder_ok W1 x n l hx h1 h2 hO)
  rw [HCL.out] at C1
  have HH := hid h
  clear h hx hO
  go_enter Tryd.func11, Tryd.ntmps11
  go_wp2_with (refine wpList_load_row rfl 23 _ rfl w.heap.size rfl 23 cl (0, 0) _ (by rw [HW1.out]; exact HC1.out) Tryd.underlying23 rfl HIx.out ?_; rw [HW1.out])
  refine C1.out.mono ?_
  rintro e W3 ⟨g, rfl, hg, hI, hB3⟩
  have BL3 : Hid (Below w.heap.size w W3) := HB1.out.trans (hB3.mono HB1.out.size)
  clear hB3 C1 hI
  by_cases hs : s < 0
  · go_wp2
    go_ret2
    exact ⟨rfl, BL3.out⟩
  · have hs2 : (n : Int) ≤ s := by have := HH.out; omega
    go_wp2
    go_ret2
    exact ⟨rfl, BL3.out⟩
set_option maxRecDepth 100000 in
set_option maxHeartbeats 2000000 in
theorem rrank_ok (w : World) (x : List Int) (n s i : Nat) (l : List Nat) (hx : X16 x) (h1 : 1 ≤ n) (h2 : n ≤ 32) (hs : s < n) (hO : IsO (rgL x) n l) (hi : l[i]? = some s) :
    Calls Tryd.prog 11 #[.agg (cellsB x), .int .i64 (n : Int), .int .i64 (s : Int)] w fun e w' => e = .returned (.tuple #[.int .i64 (i : Int), .int .i64 0]) ∧ Below w.heap.size w w' := by
  have HIx := hid (size_ix hx)
  obtain ⟨cl, HCL⟩ : ∃ c, Hid (cellsB x = c) := ⟨_, rfl⟩
  rw [HCL.out] at HIx
  rw [HCL.out]
  obtain ⟨W1, HW1⟩ : ∃ W1, Hid (w.alloc (.cells cl 23) = W1) := ⟨_, rfl⟩
  have HB1 : Hid (Below w.heap.size w W1) := by rw [← HW1.out]; exact (Below.refl _ w).alloc (Nat.le_refl _) _
  have HC1 : Hid (W1.heap[w.heap.size]? = some (.cells cl 23 (0, 0))) := by rw [← HW1.out]; exact heap_alloc_new w _
  have C1 := hid (rorder_ok W1 x n l hx h1 h2 hO)
  rw [HCL.out] at C1
  have hil : i < n := by have := (List.getElem?_eq_some_iff.1 hi).1; rw [hO.len] at this; exact this
  have HD : Hid (∀ k, k < i → l.getD k 0 ≠ s) := fun k hk => nodup_before hO.nodup hi k hk
  have HE : Hid (l.getD i 0 = s) := by rw [List.getD_eq_getElem?_getD, hi]; exact rfl
  have HL := hid hO.len
  have hs0 : ¬ ((s : Int) < 0) := by omega
  have hs1 : (s : Int) < (n : Int) := by omega
  clear hx hO hi
  go_enter Tryd.func11, Tryd.ntmps11
  go_wp2_with (refine wpList_load_row rfl 23 _ rfl w.heap.size rfl 23 cl (0, 0) _ (by rw [HW1.out]; exact HC1.out) Tryd.underlying23 rfl HIx.out ?_; rw [HW1.out])
  refine C1.out.mono ?_
  rintro e W3 ⟨g, rfl, hg, hI, hB3⟩
  have BL3 : Hid (Below w.heap.size w W3) := HB1.out.trans (hB3.mono HB1.out.size)
  have HI := hid hI
  clear hB3 C1 hI
  go_wp2
  go_loopw [10] (fun y wr => ∃ k : Nat, k ≤ i ∧ y = .int .i64 k ∧ Hid (wr = W3)) (fun y _ => n - (intOf y).toNat)
  case atStart => exact ⟨0, Nat.zero_le _, rfl, rfl⟩
  case round =>
    obtain ⟨k, hk, rfl, hwr⟩ := hrel
    have hwo := hwr.out
    rw [hwo]
    clear hwo hwr
    have hc := HI.out.cell (i := k) (by rw [HL.out]; omega)
    by_cases hki : k = i
    · subst hki
      rw [HE.out] at hc
      clear HE
      go_wp2
      go_ret2
      exact ⟨rfl, BL3.out⟩
    · have hv := HD.out k (by omega)
      generalize l.getD k 0 = y at hc hv
      have hne : ¬ ((y : Int) = (s : Int)) := by omega
      have hkn : k < n := by omega
      go_wp2
      exact ⟨⟨k + 1, by omega, by go_num, trivial⟩, by simp [intOf]; omega⟩
end Go.Proofs.YtjdfclbjmmmcfaaDoor
namespace Go.Proofs.YtjdfclbjmmmcfaaDoor.I
open Go Go.RowKit Go.Proofs.YtjdfclbjmmmcfaaDoor
theorem info_bytes : (Tryd.prog.info? 24).map (fun i => (i.zero, i.size, i.bytes)) = some (some (.slice none 0 0), 1, 24) := by kernel_rfl
theorem own_block_ne {w : World} {B e n : Nat} {v : Value} {xs : List Value} (h : w.ownsRow B e 1 v n xs) {g : Nat} {cur : Array Value} {e' : TypeId} {fz : Nat × Nat} (hg : w.heap[g]? = some (.cells cur e' fz)) (hne : e ≠ e') : v.ownBlock ≠ some g := by
  intro hv
  rcases h.2 with ⟨rfl, _⟩ | ⟨g', cap, cur', rfl, _, hh, _⟩
  · simp [Value.ownBlock] at hv
  · simp only [Value.ownBlock, Option.some.injEq] at hv
    subst hv
    rw [hh] at hg
    simp only [Option.some.injEq, Obj.cells.injEq] at hg
    exact hne hg.2.1
theorem getD_app {α : Type} (l m : List α) (d : α) (j : Nat) : (l ++ m).getD j d = if j < l.length then l.getD j d else m.getD (j - l.length) d := by
  simp only [List.getD, List.getElem?_append]
  split <;> rfl
def BT (w : World) (g : Nat) (T : TypeId) : Prop := ∃ cur fz, w.heap[g]? = some (.cells cur T fz)
def marksL (k n : Nat) : List Int := (List.range n).map (mkB k)
theorem marksL_length (k n : Nat) : (marksL k n).length = n := by simp [marksL]
theorem marksL_getD (k n i : Nat) (h : i < n) : (marksL k n).getD i 0 = mkB k i := by simp [marksL, List.getD, h]
theorem marksL_byt (k n : Nat) : ∀ x ∈ marksL k n, -9223372036854775808 ≤ x ∧ x < 9223372036854775808 := by
  intro x hx
  obtain ⟨i, _, rfl⟩ := List.mem_map.1 hx
  exact mkB_byt _ _
theorem marksL_succ (k n : Nat) : marksL k (n + 1) = marksL k n ++ [mkB k n] := by simp [marksL, List.range_succ]
theorem marksL_take (k n m : Nat) (h : n ≤ m) : (marksL k m).take n = marksL k n := by
  unfold marksL
  rw [← List.map_take, List.take_range]
  congr 2
  omega
def Apt (B : Nat) (w : World) (us : List Value) (ls : List (List Int)) : Prop :=
  us.length = ls.length ∧ (∀ k, k < us.length → w.ownsRow B 3 1 (us.getD k undef) (ls.getD k []).length ((ls.getD k []).map (Value.int .i64))) ∧
    ∀ i j, i < us.length → j < us.length → i ≠ j → (us.getD i undef).ownBlock = none ∨ (us.getD i undef).ownBlock ≠ (us.getD j undef).ownBlock
def HV (w : World) (v : Value) (us : List Value) : Prop :=
  ∃ (p : Option Addr) (c : Nat), v = .slice p us.length c ∧ us.length ≤ c ∧ c ≤ maxLen ∧
    (us ≠ [] → ∃ b off, p = some ⟨b, off, none⟩ ∧ BT w b 24 ∧ ∀ k, k < us.length → w.cell? ⟨b, off + k, none⟩ = some (us.getD k undef))
theorem BT.grown {w w' : World} {b : Nat} {T : TypeId} {row : Option Nat} (h : BT w b T) (hg : w.grownBy w' row) (hr : ∀ g, row = some g → ∃ e, BT w g e ∧ e ≠ T) : BT w' b T := by
  obtain ⟨cur, fz, hh⟩ := h
  refine ⟨cur, fz, ?_⟩
  rw [hg.block b (Array.getElem?_eq_some_iff.1 hh).1 ?_]
  · exact hh
  · intro e
    obtain ⟨e', ⟨cur', fz', hh'⟩, hne⟩ := hr b e.symm
    rw [hh] at hh'
    simp only [Option.some.injEq, Obj.cells.injEq] at hh'
    exact hne hh'.2.1.symm
theorem HV.grown {w w' : World} {v : Value} {us : List Value} {row : Option Nat} (h : HV w v us) (hg : w.grownBy w' row) (hr : ∀ g, row = some g → BT w g 3) : HV w' v us := by
  obtain ⟨p, c, h1, h2, h3, h4⟩ := h
  refine ⟨p, c, h1, h2, h3, fun hne => ?_⟩
  obtain ⟨b, off, e, hb, hc⟩ := h4 hne
  have hb' : BT w' b 24 := hb.grown hg (fun g e => ⟨_, hr g e, by decide⟩)
  refine ⟨b, off, e, hb', fun k hk => hg.cell (hc k hk) ?_⟩
  intro e
  obtain ⟨cur, fz, hh⟩ := hb
  obtain ⟨cur', fz', hh'⟩ := hr b e.symm
  rw [hh] at hh'
  simp at hh'
theorem own_BT {w : World} {B n : Nat} {v : Value} {xs : List Value} {e : TypeId} (h : w.ownsRow B e 1 v n xs) : ∀ g, v.ownBlock = some g → BT w g e := by
  intro g hg
  rcases h.2 with ⟨rfl, _⟩ | ⟨g', cap, cur, rfl, _, hh, _⟩
  · simp [Value.ownBlock] at hg
  · simp only [Value.ownBlock, Option.some.injEq] at hg
    subst hg
    exact ⟨cur, _, hh⟩
theorem BT.ne {w : World} {b g : Nat} {T U : TypeId} (h : BT w b T) (k : BT w g U) (hne : T ≠ U) : b ≠ g := by
  intro e
  subst e
  obtain ⟨cur, fz, hh⟩ := h
  obtain ⟨cur', fz', hh'⟩ := k
  rw [hh] at hh'
  simp only [Option.some.injEq, Obj.cells.injEq] at hh'
  exact hne hh'.2.1
theorem HV.block {w : World} {b off n c : Nat} {us : List Value} (h : HV w (.slice (some ⟨b, off, none⟩) n c) us) (h0 : 0 < us.length) : BT w b 24 := by
  obtain ⟨p, c', e, _, _, h4⟩ := h
  obtain ⟨b', off', e2, hb, _⟩ := h4 (by intro e; subst e; simp at h0)
  simp only [Value.slice.injEq] at e
  rw [← e.1] at e2
  simp only [Option.some.injEq, Addr.mk.injEq, and_true] at e2
  rw [e2.1]
  exact hb
theorem getD_set {α : Type} (l : List α) (d x : α) (k j : Nat) (hk : k < l.length) : (l.set k x).getD j d = if j = k then x else l.getD j d := by
  by_cases h : j = k
  · subst h
    simp [List.getD, hk]
  · rw [if_neg h]
    simp only [List.getD]
    rw [List.getElem?_set_ne (Ne.symm h)]
theorem Apt.store {B : Nat} {w : World} {us : List Value} {ls : List (List Int)} (h : Apt B w us ls) (k i : Nat) (x : Int) (hk : k < us.length) {g cap n : Nat} (hu : us.getD k undef = .slice (some ⟨g, 0, none⟩) n cap) :
    Apt B (w.setCell ⟨g, i, none⟩ (.int .i64 x)) us (ls.set k ((ls.getD k []).set i x)) ∧ w.grownBy (w.setCell ⟨g, i, none⟩ (.int .i64 x)) (some g) := by
  obtain ⟨h1, h2, h3⟩ := h
  have hok := h2 k hk
  rw [hu] at hok
  have hn : n = (ls.getD k []).length := by
    rcases hok.2 with ⟨e, _⟩ | ⟨_, _, _, e, _⟩
    · cases e
    · cases e; rfl
  subst hn
  have hst := hok.stored i (.int .i64 x)
  refine ⟨⟨by simpa using h1, fun j hj => ?_, h3⟩, hst.2⟩
  rw [getD_set ls [] _ k j (by omega)]
  by_cases hjk : j = k
  · subst hjk
    rw [if_pos rfl, hu, List.length_set, List.map_set]
    exact hst.1
  · rw [if_neg hjk]
    refine (h2 j hj).kept hst.2 ?_
    have := h3 j k hj hk hjk
    rw [hu] at this
    exact this
theorem Apt.slice {B : Nat} {w : World} {us : List Value} {ls : List (List Int)} (h : Apt B w us ls) (k : Nat) (hk : k < us.length) : ∃ p c, us.getD k undef = .slice p (ls.getD k []).length c := by
  rcases (h.2.1 k hk).2 with ⟨e, e2⟩ | ⟨g, cap, _, e, _⟩
  · exact ⟨none, 0, by rw [e, e2]⟩
  · exact ⟨_, _, e⟩
theorem Apt.some {B : Nat} {w : World} {us : List Value} {ls : List (List Int)} (h : Apt B w us ls) (k : Nat) (hk : k < us.length) (h0 : 0 < (ls.getD k []).length) : ∃ g c, us.getD k undef = .slice (Option.some ⟨g, 0, none⟩) (ls.getD k []).length c ∧ c ≤ maxLen ∧ (ls.getD k []).length ≤ c ∧ B ≤ g ∧ BT w g 3 := by
  rcases (h.2.1 k hk).2 with ⟨_, e2⟩ | ⟨g, cap, cur, e, hb, hh, h1, h2, _⟩
  · omega
  · exact ⟨g, cap, e, h2, h1, hb, cur, _, hh⟩
def Ph1 (B : Nat) (w : World) (us : List Value) (ls : List (List Int)) (K i : Nat) : Prop :=
  ∃ ms, Apt B w us ms ∧ (∀ j, (ms.getD j []).length = (ls.getD j []).length) ∧ (∀ j, j < K → ms.getD j [] = marksL (j + 1) (ls.getD j []).length) ∧ (ms.getD K []).take i = marksL (K + 1) i
theorem Ph1.start {B : Nat} {w : World} {us : List Value} {ls : List (List Int)} (h : Apt B w us ls) : Ph1 B w us ls 0 0 := ⟨ls, h, fun _ => rfl, fun j hj => by omega, by simp [marksL]⟩
theorem take_set_succ (l : List Int) (i : Nat) (x : Int) (hi : i < l.length) : (l.set i x).take (i + 1) = l.take i ++ [x] := by
  rw [List.take_succ_eq_append_getElem (by simpa using hi)]
  have e : (l.set i x).take i = l.take i := by
    apply List.ext_getElem?
    intro j
    simp only [List.getElem?_take]
    split
    · rw [List.getElem?_set_ne (by omega)]
    · rfl
  rw [e]
  simp
theorem Ph1.step {B : Nat} {w : World} {us : List Value} {ls : List (List Int)} {K i : Nat} (h : Ph1 B w us ls K i) (hK : K < us.length) (hi : i < (ls.getD K []).length) {g cap n : Nat} (hu : us.getD K undef = .slice (some ⟨g, 0, none⟩) n cap) :
    Ph1 B (w.setCell ⟨g, i, none⟩ (.int .i64 (mkB (K + 1) i))) us ls K (i + 1) ∧ w.grownBy (w.setCell ⟨g, i, none⟩ (.int .i64 (mkB (K + 1) i))) (some g) := by
  obtain ⟨ms, ha, hl, hd, ht⟩ := h
  have hs := ha.store K i (mkB (K + 1) i) hK hu
  have hKm : K < ms.length := by have := ha.1; omega
  refine ⟨⟨_, hs.1, fun j => ?_, fun j hj => ?_, ?_⟩, hs.2⟩
  · rw [getD_set ms [] _ K j hKm]
    split
    · rename_i e; subst e; rw [List.length_set]; exact hl _
    · exact hl j
  · rw [getD_set ms [] _ K j hKm, if_neg (by omega)]
    exact hd j hj
  · rw [getD_set ms [] _ K K hKm, if_pos rfl, take_set_succ _ _ _ (by rw [hl]; exact hi), ht, marksL_succ]
theorem Ph1.next {B : Nat} {w : World} {us : List Value} {ls : List (List Int)} {K i : Nat} (h : Ph1 B w us ls K i) (hi : (ls.getD K []).length ≤ i) : Ph1 B w us ls (K + 1) 0 := by
  obtain ⟨ms, ha, hl, hd, ht⟩ := h
  refine ⟨ms, ha, hl, fun j hj => ?_, by simp [marksL]⟩
  by_cases hj2 : j < K
  · exact hd j hj2
  · have e : j = K := by omega
    subst e
    have e1 := congrArg (List.take (ls.getD j []).length) ht
    rw [List.take_take, marksL_take _ _ _ hi] at e1
    rw [← e1, List.take_of_length_le]
    rw [hl]
    omega
theorem Ph1.slice {B : Nat} {w : World} {us : List Value} {ls : List (List Int)} {K i : Nat} (h : Ph1 B w us ls K i) (k : Nat) (hk : k < us.length) : ∃ p c, us.getD k undef = .slice p (ls.getD k []).length c := by
  obtain ⟨ms, ha, hl, _, _⟩ := h
  obtain ⟨p, c, e⟩ := ha.slice k hk
  rw [hl] at e
  exact ⟨p, c, e⟩
theorem Ph1.some {B : Nat} {w : World} {us : List Value} {ls : List (List Int)} {K i : Nat} (h : Ph1 B w us ls K i) (k : Nat) (hk : k < us.length) (h0 : 0 < (ls.getD k []).length) : ∃ g c, us.getD k undef = .slice (Option.some ⟨g, 0, none⟩) (ls.getD k []).length c ∧ c ≤ maxLen ∧ (ls.getD k []).length ≤ c ∧ B ≤ g ∧ BT w g 3 ∧ ∀ j, j < (ls.getD k []).length → (∃ z, w.cell? ⟨g, j, none⟩ = Option.some z) ∧ w.frozen? ⟨g, j, none⟩ = false := by
  obtain ⟨ms, ha, hl, _, _⟩ := h
  obtain ⟨g, c, e, h1, h2, h3, h4⟩ := ha.some k hk (by rw [hl]; exact h0)
  have hrow := ha.2.1 k hk
  rw [e] at hrow
  rw [hl] at e h2
  refine ⟨g, c, e, h1, h2, h3, h4, fun j hj => ⟨?_, hrow.frozenAt j⟩⟩
  have := hrow.cellAt j (by rw [hl]; omega)
  rw [this]
  exact ⟨_, List.getElem?_eq_getElem (by simp only [List.length_map]; rw [hl]; exact hj)⟩
theorem Ph1.drew {B : Nat} {w : World} {us : List Value} {ls : List (List Int)} {K i : Nat} (h : Ph1 B w us ls K i) : Ph1 B w.drew us ls K i := h
theorem HV.drew {w : World} {v : Value} {us : List Value} (h : HV w v us) : HV w.drew v us := h
theorem HB.away {w w' : World} {u : Value} {l : List Int} {row : Option Nat} (h : HB w u l) (hg : w.grownBy w' row) (hr : u.ownBlock = none ∨ u.ownBlock ≠ row) : HB w' u l := by
  obtain ⟨⟨p, c, rfl, h2, h3, h6, h4⟩, h5⟩ := h
  refine ⟨⟨p, c, rfl, h2, h3, h6, fun hl => ?_⟩, h5⟩
  obtain ⟨b, off, rfl, hh⟩ := h4 hl
  refine ⟨b, off, rfl, fun j hj => hg.cell (hh j hj) ?_⟩
  rcases hr with hr | hr
  · simp [Value.ownBlock] at hr
  · exact hr
def Usf (w : World) (us : List Value) (ls : List (List Int)) : Prop :=
  (∀ i j, i < us.length → j < us.length → i ≠ j → (us.getD i undef).ownBlock = none ∨ (us.getD i undef).ownBlock ≠ (us.getD j undef).ownBlock) ∧
  (∀ j b, j < us.length → (us.getD j undef).ownBlock = some b → b < w.heap.size ∧ ∃ c, us.getD j undef = .slice (some ⟨b, 0, none⟩) (ls.getD j []).length c ∧ (ls.getD j []).length ≤ c ∧ c ≤ maxLen) ∧
  (∀ j, j < us.length → ∃ p c, us.getD j undef = .slice p (ls.getD j []).length c)
theorem Usf.grown {w w' : World} {us : List Value} {ls : List (List Int)} (h : Usf w us ls) (hs : w.heap.size ≤ w'.heap.size) : Usf w' us ls :=
  ⟨h.1, fun j b hj hb => ⟨Nat.lt_of_lt_of_le (h.2.1 j b hj hb).1 hs, (h.2.1 j b hj hb).2⟩, h.2.2⟩
def Pool (B : Nat) (w : World) (us : List Value) (ls : List (List Int)) (K L : Nat) (gl : List Value) : Prop :=
  gl.length = K ∧ Usf w us ls ∧
  (∀ j, j < K → w.ownsRow B 3 1 (gl.getD j undef) ((ls.getD j []).length + 70) ((marksL (j + 1) ((ls.getD j []).length + 70)).map (Value.int .i64)) ∧ HB w (us.getD j undef) (marksL (j + 1) (ls.getD j []).length)) ∧
  (∀ j, L ≤ j → j < us.length → w.ownsRow B 3 1 (us.getD j undef) (ls.getD j []).length ((marksL (j + 1) (ls.getD j []).length).map (Value.int .i64))) ∧
  (∀ i j, i < K → K ≤ j → j < us.length → (gl.getD i undef).ownBlock ≠ (us.getD j undef).ownBlock)
theorem Pool.grown {B : Nat} {w w' : World} {us : List Value} {ls : List (List Int)} {K L : Nat} {gl : List Value} {row : Option Nat} (h : Pool B w us ls K L gl) (hg : w.grownBy w' row)
    (hr1 : ∀ i, i < K → (gl.getD i undef).ownBlock = none ∨ (gl.getD i undef).ownBlock ≠ row) (hr2 : ∀ j, j < us.length → (j < K ∨ L ≤ j) → (us.getD j undef).ownBlock = none ∨ (us.getD j undef).ownBlock ≠ row) (hKL : K ≤ us.length) : Pool B w' us ls K L gl := by
  obtain ⟨h1, h2, h3, h4, h5⟩ := h
  refine ⟨h1, h2.grown hg.size, fun j hj => ⟨(h3 j hj).1.kept hg (hr1 j hj), (h3 j hj).2.away hg (hr2 j (by omega) (.inl hj))⟩, fun j hj hj2 => (h4 j hj hj2).kept hg (hr2 j hj2 (.inr hj)), h5⟩
def Cur (B : Nat) (w : World) (us : List Value) (ls : List (List Int)) (K : Nat) (gl : List Value) (g : Value) (m : Nat) : Prop :=
  Pool B w us ls K (K + 1) gl ∧ w.ownsRow B 3 1 g ((ls.getD K []).length + m) ((marksL (K + 1) ((ls.getD K []).length + m)).map (Value.int .i64)) ∧ HB w (us.getD K undef) (marksL (K + 1) (ls.getD K []).length) ∧
  (∀ i, i < K → (gl.getD i undef).ownBlock ≠ g.ownBlock) ∧ ∀ j, j < us.length → j ≠ K → (us.getD j undef).ownBlock = none ∨ (us.getD j undef).ownBlock ≠ g.ownBlock
theorem Cur.start {B : Nat} {w : World} {us : List Value} {ls : List (List Int)} {K : Nat} {gl : List Value} (h : Pool B w us ls K K gl) (hK : K < us.length) : Cur B w us ls K gl (us.getD K undef) 0 := by
  obtain ⟨h1, h2, h3, h4, h5⟩ := h
  have hk := h4 K (Nat.le_refl _) hK
  refine ⟨⟨h1, h2, h3, fun j hj => h4 j (by omega), h5⟩, by simpa using hk, HB.of_own (by rw [marksL_length]; exact hk) (marksL_byt _ _), fun i hi => h5 i K hi (Nat.le_refl _) hK, fun j hj hne => h2.1 j K hj hK hne⟩
theorem Cur.finish {B : Nat} {w : World} {us : List Value} {ls : List (List Int)} {K : Nat} {gl : List Value} {g : Value} (h : Cur B w us ls K gl g 70) (hK : K < us.length) : Pool B w us ls (K + 1) (K + 1) (gl ++ [g]) := by
  obtain ⟨⟨h1, h2, h3, h4, h5⟩, hg, hu, hs1, hs2⟩ := h
  have gd : ∀ j, (gl ++ [g]).getD j undef = if j < K then gl.getD j undef else if j = K then g else undef := by
    intro j
    rw [getD_app, h1]
    split
    · rfl
    · split
      · rename_i e; subst e; simp
      · rename_i h6 h7
        have : 0 < j - K := by omega
        obtain ⟨t, ht⟩ : ∃ t, j - K = t + 1 := ⟨j - K - 1, by omega⟩
        rw [ht]; rfl
  refine ⟨by simp [h1], h2, fun j hj => ?_, h4, fun i j hi hj hj2 => ?_⟩
  · rw [gd]
    by_cases hjk : j < K
    · rw [if_pos hjk]; exact h3 j hjk
    · have e : j = K := by omega
      subst e
      rw [if_neg hjk, if_pos rfl]
      exact ⟨hg, hu⟩
  · rw [gd]
    by_cases hik : i < K
    · rw [if_pos hik]; exact h5 i j hik (by omega) hj2
    · have e : i = K := by omega
      subst e
      rw [if_neg hik, if_pos rfl]
      rcases hs2 j hj2 (by omega) with h | h
      · rw [h]
        intro e
        rcases hg.2 with ⟨_, e2⟩ | ⟨g', cap, cur, e2, _⟩
        · omega
        · rw [e2] at e; simp [Value.ownBlock] at e
      · exact Ne.symm h
theorem Cur.alloc {B : Nat} {w : World} {us : List Value} {ls : List (List Int)} {K : Nat} {gl : List Value} {g : Value} {m : Nat} (h : Cur B w us ls K gl g m) (hK : K < us.length) (o : Obj) : Cur B (w.alloc o) us ls K gl g m := by
  have hg := World.grownBy_alloc w o none
  have tr : ∀ x : Option Nat, x = none ∨ x ≠ none := fun x => by cases x <;> simp
  exact ⟨h.1.grown hg (fun i _ => tr _) (fun j _ _ => tr _) (by omega), h.2.1.kept hg (tr _), h.2.2.1.away hg (tr _), h.2.2.2⟩
theorem Cur.step {B : Nat} {w w' : World} {us : List Value} {ls : List (List Int)} {K : Nat} {gl : List Value} {g g' : Value} {m : Nat} (h : Cur B w us ls K gl g m) (hK : K < us.length)
    (hown : w'.ownsRow B 3 1 g' ((ls.getD K []).length + m + 1) ((marksL (K + 1) ((ls.getD K []).length + m)).map (Value.int .i64) ++ [.int .i64 (mkB (K + 1) ((ls.getD K []).length + m))])) (hgr : w.grownBy w' g.ownBlock)
    (hd : g'.ownBlock = g.ownBlock ∨ (g'.ownBlock = some w.heap.size ∧ w.grownBy w' none)) : Cur B w' us ls K gl g' (m + 1) := by
  obtain ⟨hp, hg, hu, hs1, hs2⟩ := h
  have hp2 := hp
  obtain ⟨h1, h2, h3, h4, h5⟩ := hp2
  have hown2 : w'.ownsRow B 3 1 g' ((ls.getD K []).length + (m + 1)) ((marksL (K + 1) ((ls.getD K []).length + (m + 1))).map (Value.int .i64)) := by
    rw [← Nat.add_assoc, marksL_succ, List.map_append]
    exact hown
  have tr : ∀ x : Option Nat, x = none ∨ x ≠ none := fun x => by cases x <;> simp
  have hpool : Pool B w' us ls K (K + 1) gl := hp.grown hgr (fun i hi => .inr (hs1 i hi)) (fun j hj hj2 => hs2 j hj (by omega)) (by omega)
  rcases hd with hd | ⟨hd, hgn⟩
  · refine ⟨hpool, hown2, ?_, fun i hi => by rw [hd]; exact hs1 i hi, fun j hj hne => by rw [hd]; exact hs2 j hj hne⟩
    by_cases hsame : (us.getD K undef).ownBlock = none ∨ (us.getD K undef).ownBlock ≠ g.ownBlock
    · exact hu.away hgr hsame
    · obtain ⟨b, hb⟩ : ∃ b, (us.getD K undef).ownBlock = some b := by
        cases hx : (us.getD K undef).ownBlock with
        | none => exact absurd (.inl hx) hsame
        | some b => exact ⟨b, rfl⟩
      have hbg : g.ownBlock = some b := by
        apply Classical.byContradiction
        intro hn
        exact hsame (.inr (by rw [hb]; exact Ne.symm hn))
      obtain ⟨_, c, e, hc1, hc2⟩ := h2.2.1 K b hK hb
      rw [e]
      refine ⟨⟨some ⟨b, 0, none⟩, c, by rw [marksL_length], by rw [marksL_length]; exact hc1, hc2, (fun e => by cases e), fun _ => ⟨b, 0, rfl, fun j hj => ?_⟩⟩, marksL_byt _ _⟩
      rw [marksL_length] at hj
      obtain ⟨g2, cap, e2, _, _, _, hcell⟩ := ownsRow_cells hown2 (by omega)
      rw [hbg, e2] at hd
      simp only [Value.ownBlock, Option.some.injEq] at hd
      subst hd
      have hjl : j < (marksL (K + 1) ((ls.getD K []).length + (m + 1))).length := by rw [marksL_length]; omega
      have := hcell j (.int .i64 (mkB (K + 1) j)) (by
        rw [List.getElem?_map, List.getElem?_eq_getElem hjl, ← getD_of_lt hjl, marksL_getD _ _ _ (by omega)]; rfl)
      rw [this, marksL_getD _ _ _ hj]
  · refine ⟨hpool, hown2, hu.away hgn (tr _), fun i hi => ?_, fun j hj hne => ?_⟩
    · rw [hd]
      intro e
      have := ((h3 i hi).1.lt _ e).2
      omega
    · rw [hd]
      right
      intro e
      have := (h2.2.1 j _ hj e).1
      omega
theorem Ph1.pool {B : Nat} {w : World} {us : List Value} {ls : List (List Int)} (h : Ph1 B w us ls us.length 0) : Pool B w us ls 0 0 [] := by
  obtain ⟨ms, ha, hl, hd, _⟩ := h
  refine ⟨rfl, ⟨ha.2.2, fun j b hj hb => ?_, fun j hj => ?_⟩, fun j hj => by omega, fun j _ hj => ?_, fun i j hi => by omega⟩
  · have hrow := ha.2.1 j hj
    refine ⟨(hrow.lt b hb).2, ?_⟩
    rcases hrow.2 with ⟨e, _⟩ | ⟨g, cap, cur, e, _, _, h1, h2, _⟩
    · rw [e] at hb; simp [Value.ownBlock] at hb
    · rw [e] at hb
      simp only [Value.ownBlock, Option.some.injEq] at hb
      subst hb
      rw [hl] at e h1
      exact ⟨cap, e, h1, h2⟩
  · obtain ⟨p, c, e⟩ := ha.slice j hj
    rw [hl] at e
    exact ⟨p, c, e⟩
  · have := ha.2.1 j hj
    rw [hd j hj, marksL_length] at this
    exact this
theorem HV.apart {w w' : World} {v : Value} {us : List Value} {row : Option Nat} {N : Nat} (h : HV w v us) (hg : w.grownBy w' row) (hr : ∀ g, row = some g → N ≤ g) (hv : ∀ b off n c, v = .slice (some ⟨b, off, none⟩) n c → 0 < us.length → b < N) : HV w' v us := by
  obtain ⟨p, c, h1, h2, h3, h4⟩ := h
  refine ⟨p, c, h1, h2, h3, fun hne => ?_⟩
  obtain ⟨b, off, e, ⟨cur, fz, hh⟩, hc⟩ := h4 hne
  have hb : b < N := hv b off us.length c (by rw [h1, e]) (by cases us with | nil => exact absurd rfl hne | cons _ _ => simp)
  have hne2 : some b ≠ row := fun e => by have := hr b e.symm; omega
  exact ⟨b, off, e, ⟨cur, fz, by rw [hg.block b (Array.getElem?_eq_some_iff.1 hh).1 hne2]; exact hh⟩, fun k hk => hg.cell (hc k hk) hne2⟩
theorem HV.cellAt {w : World} {b off n c : Nat} {us : List Value} (h : HV w (.slice (some ⟨b, off, none⟩) n c) us) (k : Nat) (hk : k < us.length) : w.cell? ⟨b, off + k, none⟩ = some (us.getD k undef) := by
  obtain ⟨p', c', e', _, _, h4⟩ := h
  obtain ⟨b', off', e2, _, hc⟩ := h4 (by intro e; subst e; simp at hk)
  simp only [Value.slice.injEq] at e'
  rw [← e'.1] at e2
  simp only [Option.some.injEq, Addr.mk.injEq, and_true] at e2
  obtain ⟨rfl, rfl⟩ := e2
  exact hc k hk
set_option maxHeartbeats 4000000 in
theorem apart_any (B : Nat) (w : World) (v : Value) (us : List Value) (ls : List (List Int)) (hv : HV w v us) (ha : Apt B w us ls) (hB : B ≤ w.heap.size) (hn : us.length ≤ 1000000) (hls : ∀ k, (ls.getD k []).length ≤ 17592186043904) :
    Calls Tryd.prog 13 #[v] w fun e w' => e = .returned (.bool true) ∧ Below B w w' := by
  obtain ⟨p, c, e, hlc, hm, hcell⟩ := id hv
  unfold maxLen at hm
  subst e
  have A : Hid (0 < us.length → ∃ b off, p = some ⟨b, off, none⟩) := fun h0 => by
    obtain ⟨b, off, e, _⟩ := hcell (by intro e; subst e; simp at h0)
    exact ⟨b, off, e⟩
  have HV0 := hid hv
  have HA0 := hid (Ph1.start ha)
  have HLS := hid hls
  clear hcell hv ha hls
  go_enter Tryd.func13, Tryd.ntmps13
  go_wp2
  go_loopw [3] (fun k wr => ∃ K : Nat, K ≤ us.length ∧ k = .int .i64 K ∧ Hid (Ph1 B wr us ls K 0) ∧ Hid (HV wr (.slice p us.length c) us) ∧ Hid (Below B w wr)) (fun k _ => us.length - (intOf k).toNat)
  case atStart => exact ⟨0, Nat.zero_le _, rfl, HA0, HV0, Below.refl _ _⟩
  case round =>
    clear HA0 HV0
    obtain ⟨K, hK, rfl, HP, HVr, HBr⟩ := hrel
    by_cases hlt : K < us.length
    · obtain ⟨b, off, rfl⟩ := A.out (by omega)
      have hcells : Hid (∀ wz, HV wz (.slice (some ⟨b, off, none⟩) us.length c) us → wz.cell? ⟨b, off + K, none⟩ = some (us.getD K undef)) := by
        intro wz hz
        obtain ⟨p', c', e', _, _, h4⟩ := hz
        obtain ⟨b', off', e2, _, hc⟩ := h4 (by intro e; subst e; simp at hlt)
        simp only [Value.slice.injEq, true_and] at e'
        rw [← e'.1] at e2
        simp only [Option.some.injEq, Addr.mk.injEq, and_true] at e2
        obtain ⟨rfl, rfl⟩ := e2
        exact hc K hlt
      obtain ⟨n, HN⟩ : ∃ n, Hid ((ls.getD K []).length = n) := ⟨_, rfl⟩
      have hn2 : n ≤ 17592186043904 := by rw [← HN.out]; exact HLS.out K
      obtain ⟨pk, ck, HU⟩ : ∃ pk ck, Hid (us.getD K undef = .slice pk n ck) := by
        obtain ⟨pk, ck, e⟩ := HP.out.slice K hlt
        rw [HN.out] at e
        exact ⟨pk, ck, e⟩
      go_wp2
      go_loopw [4] (fun i wz => ∃ I : Nat, I ≤ n ∧ i = .int .i64 I ∧ Hid (Ph1 B wz us ls K I) ∧ Hid (HV wz (.slice (some ⟨b, off, none⟩) us.length c) us) ∧ Hid (Below B w wz)) (fun i _ => n - (intOf i).toNat)
      case atStart => exact ⟨0, Nat.zero_le _, rfl, HP, HVr, HBr⟩
      case round =>
        clear HP HVr HBr
        obtain ⟨I, hI, rfl, HP, HVr, HBr⟩ := hrel
        have hc1 := hcells.out wr HVr.out
        rw [HU.out] at hc1
        by_cases hli : I < n
        · obtain ⟨g, ck', e, hck, hck2, hgB, hBT, hcc⟩ := HP.out.some K hlt (by rw [HN.out]; omega)
          rw [HU.out, HN.out] at e
          simp only [Value.slice.injEq, true_and] at e
          obtain ⟨rfl, rfl⟩ := e
          obtain ⟨⟨z, hz⟩, hfz⟩ := hcc I (by rw [HN.out]; exact hli)
          rw [HN.out] at hck2
          unfold maxLen at hck
          have HBT := hid hBT
          have hgb : b ≠ g := (HVr.out.block (by omega)).ne hBT (by decide)
          have hbg : g ≠ b := Ne.symm hgb
          clear hcc hBT
          go_wp2
          go_region_held3 (fun w' => w'.cell? ⟨b, off + K, none⟩ = some (.slice (some ⟨g, 0, none⟩) n ck)) (go_keep) ((go_at_call 23; refine (mark_eq _ (K + 1) I _ _ (wrap_succ K (by omega)) rfl (by omega) (by omega)).mono ?_; rintro e wz ⟨rfl, hw⟩; have hw' := hw.symm; subst hw'; clear hw))
          have hst := HP.out.step hlt (by rw [HN.out]; exact hli) HU.out
          have HP2 := hid hst.1.drew
          have HV2 := hid (HVr.out.grown hst.2 (fun g' e => by cases e; exact HBT.out)).drew
          have HB2 := hid (HBr.out.setCell (p := ⟨g, I, none⟩) hgB (.int .i64 (mkB (K + 1) I))).drew
          clear hst
          go_wp2
          exact ⟨⟨I + 1, by omega, by go_num, HP2, HV2, HB2⟩, by simp [intOf]; omega⟩
        · have HP2 := hid (HP.out.next (by rw [HN.out]; omega))
          go_wp2
          exact ⟨⟨K + 1, by omega, by go_num, HP2, HVr, HBr⟩, by simp [intOf]; omega⟩
    · have hKn : K = us.length := by omega
      have HPl : Hid (Pool B wr us ls 0 0 []) := by
        have := HP.out
        rw [hKn] at this
        exact this.pool
      obtain ⟨N, HN⟩ : ∃ N, Hid (wr.heap.size = N) := ⟨_, rfl⟩
      have HNu : Hid (∀ j b, j < us.length → (us.getD j undef).ownBlock = some b → b < N) := fun j b hj hb => by rw [← HN.out]; exact (HPl.out.2.1.2.1 j b hj hb).1
      have HNv : Hid (∀ b off n c', Value.slice p us.length c = .slice (some ⟨b, off, none⟩) n c' → 0 < us.length → b < N) := fun b off n c' e h0 => by
        rw [← HN.out]
        have h1 := HVr.out
        rw [e] at h1
        obtain ⟨cur, fz, hh⟩ := h1.block h0
        exact (Array.getElem?_eq_some_iff.1 hh).1
      have HNB : Hid (B ≤ N) := by rw [← HN.out]; exact Nat.le_trans hB HBr.out.size
      have HNs : Hid (N ≤ wr.heap.size) := by rw [HN.out]; exact Nat.le_refl N
      clear HP hKn HN
      go_wp2
      go_loopw [5, 6] (fun gs k wz => ∃ (K : Nat) (gl : List Value), K ≤ us.length ∧ k = .int .i64 K ∧ Hid (Pool B wz us ls K K gl) ∧ Hid (wz.ownsRow N 24 1 gs K gl) ∧ Hid (HV wz (.slice p us.length c) us) ∧ Hid (Below B w wz) ∧ Hid (N ≤ wz.heap.size)) (fun _ k _ => us.length - (intOf k).toNat)
      case atStart => exact ⟨0, [], Nat.zero_le _, rfl, HPl, World.ownsRow_nil _ _ _ _, HVr, HBr, HNs⟩
      case round =>
        clear HPl HVr HBr HNs hlt hK
        obtain ⟨K, gl, hK, rfl, HP, HG, HVr, HBr, HNs⟩ := hrel
        by_cases hlt : K < us.length
        · obtain ⟨b, off, rfl⟩ := A.out (by omega)
          obtain ⟨n, HNn⟩ : ∃ n, Hid ((ls.getD K []).length = n) := ⟨_, rfl⟩
          have hn2 : n ≤ 17592186043904 := by rw [← HNn.out]; exact HLS.out K
          obtain ⟨pk, ck, HU⟩ : ∃ pk ck, Hid (us.getD K undef = .slice pk n ck) := by
            obtain ⟨pk, ck, e⟩ := HP.out.2.1.2.2 K hlt
            rw [HNn.out] at e
            exact ⟨pk, ck, e⟩
          have hc1 := HVr.out.cellAt K hlt
          rw [HU.out] at hc1
          have HC := hid (Cur.start HP.out hlt)
          rw [HU.out] at HC
          go_wp2
          go_loopw [7, 8] (fun g i wz => ∃ m : Nat, m ≤ 70 ∧ i = .int .i64 m ∧ Hid (Cur B wz us ls K gl g m) ∧ Hid (wz.ownsRow N 24 1 u5 K gl) ∧ Hid (HV wz (.slice (some ⟨b, off, none⟩) us.length c) us) ∧ Hid (Below B w wz) ∧ Hid (N ≤ wz.heap.size)) (fun _ i _ => 70 - (intOf i).toNat)
          case atStart => exact ⟨0, Nat.zero_le _, rfl, HC, HG, HVr, HBr, HNs⟩
          case round =>
            clear HC HG HVr HBr HNs hc1
            obtain ⟨m, hm70, rfl, HC, HG, HVr, HBr, HNs⟩ := hrel
            have hc1 := HVr.out.cellAt K hlt
            rw [HU.out] at hc1
            by_cases hlm : m < 70
            · have hlm2 : (m : Int) < 70 := by omega
              go_wp2_with fail
              refine (mark_eq wr (K + 1) (n + m) _ _ (by omega) (by omega) (by omega) (by omega)).mono ?_
              rintro e wz ⟨rfl, hw⟩
              have hw' := hw.symm
              subst hw'
              clear hw
              have HCa := hid (HC.out.alloc hlt (.cells #[.int .i64 (mkB (K + 1) (n + m))] 3))
              have HO := HCa.out.2.1
              rw [HNn.out] at HO
              have HOh := hid HO
              clear HO
              go_wp2_with (at_builtin; refine wpList_append_byte rfl _ _ rfl B _ (n + m) _ rfl HOh.out ⟨wr.heap.size, 0, none⟩ 1 (mkB (K + 1) (n + m)) rfl (by simp) ?q1 ?q2 ?_)
              case q1 => omega
              case q2 => have := HBr.out.size; simp; omega
              intro g' w2 hown2 hgr2 hd2
              have hBT := own_BT HOh.out
              have hal := World.grownBy_alloc wr (.cells #[.int .i64 (mkB (K + 1) (n + m))] 3) none
              have HC2 := hid (HCa.out.step hlt (by rw [HNn.out]; exact hown2) hgr2 (by rw [World.size_alloc]; exact hd2))
              have HG2 : Hid (w2.ownsRow N 24 1 u5 K gl) := by
                have h1 := HG.out.alloc (.cells #[.int .i64 (mkB (K + 1) (n + m))] 3)
                refine h1.kept hgr2 ?_
                cases hx : u7.ownBlock with
                | none => cases hy : u5.ownBlock <;> simp
                | some q =>
                  obtain ⟨cur, fz, hh⟩ := hBT q hx
                  exact .inr (own_block_ne h1 hh (by decide))
              have HV2 := hid ((HVr.out.grown hal (fun g e => by cases e)).grown hgr2 hBT)
              have HB2 := hid ((HBr.out.alloc (Nat.le_trans hB HBr.out.size) (.cells #[.int .i64 (mkB (K + 1) (n + m))] 3)).grown hgr2 (by have := HBr.out.size; simp; omega) (fun k e => (HOh.out.lt k e).1))
              have HN2 : Hid (N ≤ w2.heap.size) := by have h1 := hgr2.size; have h2 := HNs.out; simp at h1; exact Nat.le_trans h2 (by omega)
              clear hown2 hgr2 hd2 hBT hal
              go_wp2
              exact ⟨⟨m + 1, by omega, by go_num, HC2, HG2, HV2, HB2, HN2⟩, by simp [intOf]; omega⟩
            · have e70 : m = 70 := by omega
              subst e70
              have HPn := hid (HC.out.finish hlt)
              have HOg := HC.out.2.1
              rw [HNn.out] at HOg
              obtain ⟨pg, cg, eg, _, _⟩ : ∃ pg cg, u7 = .slice pg (n + 70) cg ∧ True ∧ True := by
                rcases HOg.2 with ⟨_, e⟩ | ⟨g', cap, cur, e, _⟩
                · omega
                · exact ⟨_, _, e, trivial, trivial⟩
              subst eg
              obtain ⟨i0, hi, hz0, hz1, hz2⟩ := info_parts info_bytes
              have HGa := hid (HG.out.alloc (.cells #[.slice pg (n + 70) cg] 24))
              have hal := World.grownBy_alloc wr (.cells #[.slice pg (n + 70) cg] 24) none
              have tr : ∀ x : Option Nat, x = none ∨ x ≠ none := fun x => by cases x <;> simp
              have HPa := hid (HPn.out.grown hal (fun i _ => tr _) (fun j _ _ => tr _) (by omega))
              have HVa := hid (HVr.out.grown hal (fun g e => by cases e))
              have HBa := hid (HBr.out.alloc (Nat.le_trans hB HBr.out.size) (.cells #[.slice pg (n + 70) cg] 24))
              clear HOg tr hal
              go_wp2_with (at_builtin; refine wpList_append_own _ rfl _ _ 32 rfl N 24 i0 (.slice none 0 0) 1 24 Tryd.underlying32 hi hz0 hz1 hz2 rfl (by decide) _ K gl rfl HGa.out ⟨wr.heap.size, 0, none⟩ 1 1 [_] rfl rfl (cell_one_new _ _ _) ?q1 ?q2 ?q3 ?q4 ?_)
              case q1 => intro u hu; simp only [List.mem_singleton] at hu; subst hu; rfl
              case q2 => unfold maxLen; omega
              case q3 => omega
              case q4 => have := HNs.out; simp; omega
              intro gs' w2 hown2 hgr2 _
              have hlo : ∀ g, u5.ownBlock = some g → N ≤ g := fun g e => (HGa.out.lt g e).1
              have HP2 : Hid (Pool B w2 us ls (K + 1) (K + 1) (gl ++ [.slice pg (n + 70) cg])) := by
                refine HPa.out.grown hgr2 (fun i hi => ?_) (fun j hj _ => ?_) (by omega)
                · cases hx : u5.ownBlock with
                  | none => cases hy : ((gl ++ [Value.slice pg (n + 70) cg]).getD i undef).ownBlock <;> simp
                  | some q =>
                    obtain ⟨cur, fz, hh⟩ := own_BT HGa.out q hx
                    exact .inr (own_block_ne (HPa.out.2.2.1 i hi).1 hh (by decide))
                · cases hx : (us.getD j undef).ownBlock with
                  | none => exact .inl rfl
                  | some q =>
                    right
                    intro e
                    have h1 := HNu.out j q hj hx
                    have h2 := hlo q e.symm
                    omega
              have HV2 := hid (HVa.out.apart hgr2 hlo HNv.out)
              have HB2 := hid (HBa.out.grown hgr2 (by have := HBr.out.size; simp; omega) (fun k e => Nat.le_trans HNB.out (hlo k e)))
              have HG2 : Hid (w2.ownsRow N 24 1 gs' (K + 1) (gl ++ [.slice pg (n + 70) cg])) := hown2
              have HN2 : Hid (N ≤ w2.heap.size) := by have h1 := hgr2.size; have h2 := HNs.out; simp at h1; exact Nat.le_trans h2 (by omega)
              clear hown2 hgr2 hlo
              go_wp2
              exact ⟨⟨K + 1, _, by omega, by go_num, HP2, HG2, HV2, HB2, HN2⟩, by simp [intOf]; omega⟩
        · have hKn : K = us.length := by omega
          subst hKn
          obtain ⟨pg, cg, eg⟩ : ∃ pg cg, u5 = .slice pg us.length cg := by
            rcases HG.out.2 with ⟨e, e2⟩ | ⟨g', cap, cur, e, _⟩
            · exact ⟨none, 0, by rw [e, e2]⟩
            · exact ⟨_, _, e⟩
          subst eg
          go_wp2
          go_loop [9] (fun k => ∃ Q : Nat, Q ≤ us.length ∧ k = .int .i64 Q) (fun k => us.length - (intOf k).toNat)
          case atStart => exact ⟨0, Nat.zero_le _, rfl⟩
          case round =>
            obtain ⟨Q, hQ, rfl⟩ := hrel
            by_cases hlq : Q < us.length
            · obtain ⟨b, off, rfl⟩ := A.out (by omega)
              obtain ⟨n, HNn⟩ : ∃ n, Hid ((ls.getD Q []).length = n) := ⟨_, rfl⟩
              have hn2 : n ≤ 17592186043904 := by rw [← HNn.out]; exact HLS.out Q
              have hc1 := HVr.out.cellAt Q hlq
              obtain ⟨hrow, hu⟩ := HP.out.2.2.1 Q hlq
              rw [HNn.out] at hrow hu
              obtain ⟨pk, ck, HU⟩ : ∃ pk ck, Hid (us.getD Q undef = .slice pk n ck) := by
                obtain ⟨pk, ck, e⟩ := HP.out.2.1.2.2 Q hlq
                rw [HNn.out] at e
                exact ⟨pk, ck, e⟩
              rw [HU.out] at hc1 hu
              obtain ⟨gg, capg, eg, _, hcg1, hcg2, hgc⟩ := ownsRow_cells HG.out (by omega)
              simp only [Value.slice.injEq, true_and] at eg
              obtain ⟨rfl, rfl⟩ := eg
              have hgl : gl.length = us.length := HP.out.1
              have hc2 := hgc Q (gl.getD Q undef) (by simp [List.getD, List.getElem?_eq_getElem (show Q < gl.length by omega)])
              rw [Nat.zero_add] at hc2
              obtain ⟨gq, capq, eq, _, hq1, hq2, hqc⟩ := ownsRow_cells hrow (by omega)
              rw [eq] at hc2
              have HQ : Hid (∀ I, I < n + 70 → wr.cell? ⟨gq, I, none⟩ = some (.int .i64 (mkB (Q + 1) I))) := fun I hI => by
                have hjl : I < (marksL (Q + 1) (n + 70)).length := by rw [marksL_length]; exact hI
                have := hqc I (.int .i64 (mkB (Q + 1) I)) (by rw [List.getElem?_map, List.getElem?_eq_getElem hjl, ← getD_of_lt hjl, marksL_getD _ _ _ hI]; rfl)
                rwa [Nat.zero_add] at this
              have HUc : Hid (∀ I, I < n → ∃ b' off', pk = some ⟨b', off', none⟩ ∧ wr.cell? ⟨b', off' + I, none⟩ = some (.int .i64 (mkB (Q + 1) I)) ∧ n ≤ ck) := fun I hI => by
                obtain ⟨b', off', c', e, h1, h2, hh⟩ := hu.ne (by rw [marksL_length]; omega)
                rw [marksL_length] at e hh h1
                simp only [Value.slice.injEq, true_and] at e
                obtain ⟨rfl, rfl⟩ := e
                have := hh I hI
                rw [marksL_getD _ _ _ hI] at this
                exact ⟨b', off', rfl, this, h1⟩
              unfold maxLen at hcg2 hq2
              clear hrow hu hgc hqc eq hgl
              go_wp2
              go_loop [10] (fun i => ∃ I : Nat, I ≤ n + 70 ∧ i = .int .i64 I) (fun i => n + 70 - (intOf i).toNat)
              case atStart => exact ⟨0, Nat.zero_le _, rfl⟩
              case round =>
                obtain ⟨I, hI, rfl⟩ := hrel
                by_cases hli : I < n + 70
                · have hx1 := HQ.out I hli
                  have hli2 : (I : Int) < (n : Int) + 70 := by omega
                  go_wp2_with fail
                  refine (mark_eq wr (Q + 1) I _ _ (by omega) rfl (by omega) (by omega)).mono ?_
                  rintro e wz ⟨rfl, hw⟩
                  have hw' := hw.symm
                  subst hw'
                  clear hw
                  obtain ⟨x, HX⟩ : ∃ x, Hid (mkB (Q + 1) I = x) := ⟨_, rfl⟩
                  rw [HX.out] at hx1 ⊢
                  have hxx : (x != x) = false := by simp
                  by_cases hln : I < n
                  · have hdn : decide ((I : Int) < (n : Int)) = true := by simp; omega
                    have hln2 : (I : Int) < (n : Int) := by omega
                    obtain ⟨b', off', rfl, hx2, _⟩ := HUc.out I hln
                    rw [HX.out] at hx2
                    go_wp2
                    exact ⟨⟨I + 1, by omega, by go_num⟩, by simp [intOf]; omega⟩
                  · have hdn : decide ((I : Int) < (n : Int)) = false := by simp; omega
                    go_wp2
                    exact ⟨⟨I + 1, by omega, by go_num⟩, by simp [intOf]; omega⟩
                · have hli2 : ¬ ((I : Int) < (n : Int) + 70) := by omega
                  go_wp2
                  exact ⟨⟨Q + 1, by omega, by go_num⟩, by simp [intOf]; omega⟩
            · go_wp2
              go_ret
              exact ⟨rfl, HBr.out⟩
end Go.Proofs.YtjdfclbjmmmcfaaDoor.I
namespace Go.Proofs.YtjdfclbjmmmcfaaDoor
open Go Go.RowKit
def rkL (n f i : Nat) : List Int := (List.range i).map fun k => (((f + k) % n : Nat) : Int)
def svL (l : List Nat) (n f i : Nat) : List Int := (List.range i).map fun k => ((l.getD ((f + k) % n) 0 : Nat) : Int)
theorem own_slcI {w : World} {B n : Nat} {v : Value} {xs : List Value} (h : w.ownsRow B 3 1 v n xs) : ∃ p c, v = .slice p n c := by
  rcases h.2 with ⟨rfl, rfl⟩ | ⟨g, cap, cur, rfl, _⟩
  · exact ⟨_, _, rfl⟩
  · exact ⟨_, _, rfl⟩
theorem opt_swap {p q : Option Nat} (h : p = none ∨ p ≠ q) : q = none ∨ q ≠ p := by
  rcases h with z | z
  · cases q with
    | none => exact .inl rfl
    | some b => exact .inr (by rw [z]; simp)
  · exact .inr (Ne.symm z)
theorem rkL_succ (n f i : Nat) : rkL n f (i + 1) = rkL n f i ++ [(((f + i) % n : Nat) : Int)] := by simp [rkL, List.range_succ]
theorem svL_succ (l : List Nat) (n f i : Nat) : svL l n f (i + 1) = svL l n f i ++ [((l.getD ((f + i) % n) 0 : Nat) : Int)] := by simp [svL, List.range_succ]
theorem rkL_len (n f i : Nat) : (rkL n f i).length = i := by simp [rkL]
theorem svL_len (l : List Nat) (n f i : Nat) : (svL l n f i).length = i := by simp [svL]
set_option maxRecDepth 100000 in
set_option maxHeartbeats 2000000 in
theorem rround_bad (w : World) (x : List Int) (n f : Int) (hx : X16 x) (h : n < 1 ∨ 32 < n) :
    Calls Tryd.prog 14 #[.agg (cellsB x), .int .i64 n, .int .i64 f] w fun e w' => e = .returned (.tuple #[.slice none 0 0, .slice none 0 0]) ∧ Below w.heap.size w w' := by
  have HIx := hid (size_ix hx)
  obtain ⟨cl, HCL⟩ : ∃ c, Hid (cellsB x = c) := ⟨_, rfl⟩
  rw [HCL.out] at HIx
  rw [HCL.out]
  obtain ⟨W1, HW1⟩ : ∃ W1, Hid (w.alloc (.cells cl 23) = W1) := ⟨_, rfl⟩
  have HB1 : Hid (Below w.heap.size w W1) := by rw [← HW1.out]; exact (Below.refl _ w).alloc (Nat.le_refl _) _
  have HC1 : Hid (W1.heap[w.heap.size]? = some (.cells cl 23 (0, 0))) := by rw [← HW1.out]; exact heap_alloc_new w _
  have C1 := hid (rorder_bad W1 x n hx h)
  rw [HCL.out] at C1
  clear h hx
  go_enter Tryd.func14, Tryd.ntmps14
  go_wp2_with (refine wpList_load_row rfl 23 _ rfl w.heap.size rfl 23 cl (0, 0) _ (by rw [HW1.out]; exact HC1.out) Tryd.underlying23 rfl HIx.out ?_; rw [HW1.out])
  refine C1.out.mono ?_
  rintro e W3 ⟨rfl, hB3⟩
  have BL3 : Hid (Below w.heap.size w W3) := HB1.out.trans (hB3.mono HB1.out.size)
  clear hB3 C1
  go_wp2
  go_ret2
  exact ⟨rfl, BL3.out⟩
set_option maxRecDepth 100000 in
set_option maxHeartbeats 4000000 in
theorem rround_ok (w : World) (x : List Int) (n f0 : Nat) (f : Int) (l : List Nat) (hx : X16 x) (h1 : 1 ≤ n) (h2 : n ≤ 32) (hf : -9223372036854775808 ≤ f ∧ f < 9223372036854775808) (hf0 : f % (n : Int) = (f0 : Int)) (hO : IsO (rgL x) n l) :
    Calls Tryd.prog 14 #[.agg (cellsB x), .int .i64 (n : Int), .int .i64 f] w fun e w' => ∃ v1 v2, e = .returned (.tuple #[v1, v2]) ∧ w'.ownsRow w.heap.size 3 1 v1 n ((rkL n f0 n).map (Value.int .i64)) ∧ w'.ownsRow w.heap.size 3 1 v2 n ((svL l n f0 n).map (Value.int .i64)) ∧ Below w.heap.size w w' := by
  have HIx := hid (size_ix hx)
  obtain ⟨cl, HCL⟩ : ∃ c, Hid (cellsB x = c) := ⟨_, rfl⟩
  rw [HCL.out] at HIx
  rw [HCL.out]
  obtain ⟨W1, HW1⟩ : ∃ W1, Hid (w.alloc (.cells cl 23) = W1) := ⟨_, rfl⟩
  have HB1 : Hid (Below w.heap.size w W1) := by rw [← HW1.out]; exact (Below.refl _ w).alloc (Nat.le_refl _) _
  have HC1 : Hid (W1.heap[w.heap.size]? = some (.cells cl 23 (0, 0))) := by rw [← HW1.out]; exact heap_alloc_new w _
  have C1 := hid (rorder_ok W1 x n l hx h1 h2 hO)
  rw [HCL.out] at C1
  have HL := hid hO.len
  clear hx hO
  have hn0 : ¬ (n = 0) := by omega
  have hfl : f0 < n := by have := Int.emod_lt_of_pos f (show (0 : Int) < n by omega); omega
  have h3 : Int.tmod f n = if 0 ≤ f ∨ (n : Int) ∣ f then f % n else f % n - n := by
    rw [Int.tmod_eq_emod]
    split <;> simp
  rw [hf0] at h3
  obtain ⟨t, HT⟩ : ∃ t, Hid (Int.tmod f n = t) := ⟨_, rfl⟩
  rw [HT.out] at h3
  have HT2 := HT.out
  have key : Hid ((t < 0 ∧ t + (n : Int) = (f0 : Int)) ∨ (¬ t < 0 ∧ t = (f0 : Int))) := by
    refine hid ?_
    split at h3
    · exact .inr ⟨by omega, h3⟩
    · exact .inl ⟨by omega, by omega⟩
  have hF := hid hf0
  clear h3 hf0
  go_enter Tryd.func14, Tryd.ntmps14
  go_wp2_with (refine wpList_load_row rfl 23 _ rfl w.heap.size rfl 23 cl (0, 0) _ (by rw [HW1.out]; exact HC1.out) Tryd.underlying23 rfl HIx.out ?_; rw [HW1.out])
  refine C1.out.mono ?_
  rintro e W3 ⟨g, rfl, hg, hI, hB3⟩
  have BL3 : Hid (Below w.heap.size w W3) := HB1.out.trans (hB3.mono HB1.out.size)
  have HI := hid hI
  have hgl := hI.lt
  have s3 := BL3.out.size
  clear hB3 C1 hI
  rcases key.out with ⟨ht, hte⟩ | ⟨ht, hte⟩
  · clear HT
    go_wp2
    clear hte ht HT2
    go_loopw [10, 11, 12] (fun p q i wr => ∃ k : Nat, k ≤ n ∧ i = .int .i64 k ∧ Hid (wr.ownsRow W3.heap.size 3 1 p k ((rkL n f0 k).map (Value.int .i64))) ∧ Hid (wr.ownsRow W3.heap.size 3 1 q k ((svL l n f0 k).map (Value.int .i64))) ∧ Hid (p.ownBlock = none ∨ p.ownBlock ≠ q.ownBlock) ∧ Hid (Below W3.heap.size W3 wr)) (fun _ _ i _ => n - (intOf i).toNat)
    case atStart => exact ⟨0, Nat.zero_le _, rfl, ⟨rfl, .inl ⟨rfl, rfl⟩⟩, ⟨rfl, .inl ⟨rfl, rfl⟩⟩, .inl rfl, Below.refl _ _⟩
    case round =>
      obtain ⟨k, hk, rfl, HP, HQ, HN, HBw⟩ := hrel
      by_cases hlt : k < n
      · obtain ⟨r, HR⟩ : ∃ r, Hid ((f0 + k) % n = r) := ⟨_, rfl⟩
        have hr : r < n := by rw [← HR.out]; exact Nat.mod_lt _ h1
        have hti : Int.tmod ((f0 : Int) + (k : Int)) (n : Int) = (r : Int) := by
          rw [Int.tmod_eq_emod_of_nonneg (by omega), ← HR.out]
          simp
        have HS1 := hid (rkL_succ n f0 k)
        have HS2 := hid (svL_succ l n f0 k)
        rw [HR.out] at HS1 HS2
        go_wp2_with (at_builtin; refine I.wpList_append_byte rfl _ _ rfl W3.heap.size _ k _ rfl (HP.out.alloc _) ⟨wr.heap.size, 0, none⟩ 1 (r : Int) rfl (by simp) ?q1 ?q2 ?_)
        case q1 => omega
        case q2 => have := HBw.out.size; simp; omega
        intro v1 w1 hown1 hgr1 hbl1
        have HP1 : Hid (w1.ownsRow W3.heap.size 3 1 v1 (k + 1) ((rkL n f0 (k + 1)).map (Value.int .i64))) := by
          rw [HS1.out, List.map_append]
          exact hown1
        have HQ1 := hid ((HQ.out.alloc (.cells #[.int .i64 (r : Int)] 3)).kept hgr1 (opt_swap HN.out))
        have HB1' := hid ((HBw.out.alloc HBw.out.size _).grown hgr1 (by have := HBw.out.size; simp; omega) (fun k e => (HP.out.lt k e).1))
        have hcell : w1.cell? ⟨g, r, none⟩ = some (.int .i64 ((l.getD r 0 : Nat) : Int)) := (HI.out.belowB HB1'.out hgl).cell (by rw [HL.out]; exact hr)
        have hlt1 : ∀ b, u10.ownBlock = some b → b < wr.heap.size := fun b e => (HP.out.lt b e).2
        have hltq : ∀ b, u11.ownBlock = some b → b < wr.heap.size := fun b e => (HQ.out.lt b e).2
        have HN1 : Hid (v1.ownBlock = none ∨ v1.ownBlock ≠ u11.ownBlock) := by
          refine hid ?_
          rcases hbl1 with z | ⟨z, _⟩
          · rw [z]; exact HN.out
          · refine .inr fun e => ?_
            rw [z] at e
            have := hltq _ e.symm
            try simp at this
            try omega
        have h1lt : ∀ b, v1.ownBlock = some b → b < w1.heap.size := fun b e => (HP1.out.lt b e).2
        obtain ⟨p1, c1, ev1⟩ := own_slcI HP1.out
        subst ev1
        clear hown1 hgr1 hbl1
        generalize l.getD r 0 = y at hcell HS2
        go_wp2_with (at_builtin; refine I.wpList_append_byte rfl _ _ rfl W3.heap.size _ k _ rfl (HQ1.out.alloc _) ⟨w1.heap.size, 0, none⟩ 1 (y : Int) rfl (by simp) ?q3 ?q4 ?_)
        case q3 => omega
        case q4 => have := HB1'.out.size; simp; omega
        intro v2 w2 hown2 hgr2 hbl2
        have HQ2 : Hid (w2.ownsRow W3.heap.size 3 1 v2 (k + 1) ((svL l n f0 (k + 1)).map (Value.int .i64))) := by
          rw [HS2.out, List.map_append]
          exact hown2
        have HP2 := hid ((HP1.out.alloc (.cells #[.int .i64 (y : Int)] 3)).kept hgr2 HN1.out)
        have HB2' := hid ((HB1'.out.alloc HB1'.out.size _).grown hgr2 (by have := HB1'.out.size; simp; omega) (fun k e => (HQ1.out.lt k e).1))
        have HN2 : Hid ((Value.slice p1 (k + 1) c1).ownBlock = none ∨ (Value.slice p1 (k + 1) c1).ownBlock ≠ v2.ownBlock) := by
          refine hid ?_
          rcases hbl2 with z | ⟨z, _⟩
          · rw [z]; exact HN1.out
          · refine .inr fun e => ?_
            rw [z] at e
            have := h1lt _ e
            try simp at this
            try omega
        clear hown2 hgr2 hbl2 hcell hlt1 hltq h1lt
        go_wp2
        exact ⟨⟨k + 1, by omega, by go_num, HP2, HQ2, HN2, HB2'⟩, by simp [intOf]; omega⟩
      · have hkn : k = n := by omega
        have HP3 := HP.out
        have HQ3 := HQ.out
        rw [hkn] at HP3 HQ3
        have HP4 := hid HP3
        have HQ4 := hid HQ3
        clear HP3 HQ3 hkn
        go_wp2
        go_ret2
        exact ⟨_, _, rfl, own_mono HP4.out s3, own_mono HQ4.out s3, BL3.out.trans (HBw.out.mono s3)⟩
  · have hte2 := hte
    rw [hte2] at ht HT2
    clear hte hte2 HT
    go_wp2
    go_loopw [10, 11, 12] (fun p q i wr => ∃ k : Nat, k ≤ n ∧ i = .int .i64 k ∧ Hid (wr.ownsRow W3.heap.size 3 1 p k ((rkL n f0 k).map (Value.int .i64))) ∧ Hid (wr.ownsRow W3.heap.size 3 1 q k ((svL l n f0 k).map (Value.int .i64))) ∧ Hid (p.ownBlock = none ∨ p.ownBlock ≠ q.ownBlock) ∧ Hid (Below W3.heap.size W3 wr)) (fun _ _ i _ => n - (intOf i).toNat)
    case atStart => exact ⟨0, Nat.zero_le _, rfl, ⟨rfl, .inl ⟨rfl, rfl⟩⟩, ⟨rfl, .inl ⟨rfl, rfl⟩⟩, .inl rfl, Below.refl _ _⟩
    case round =>
      obtain ⟨k, hk, rfl, HP, HQ, HN, HBw⟩ := hrel
      by_cases hlt : k < n
      · obtain ⟨r, HR⟩ : ∃ r, Hid ((f0 + k) % n = r) := ⟨_, rfl⟩
        have hr : r < n := by rw [← HR.out]; exact Nat.mod_lt _ h1
        have hti : Int.tmod ((f0 : Int) + (k : Int)) (n : Int) = (r : Int) := by
          rw [Int.tmod_eq_emod_of_nonneg (by omega), ← HR.out]
          simp
        have HS1 := hid (rkL_succ n f0 k)
        have HS2 := hid (svL_succ l n f0 k)
        rw [HR.out] at HS1 HS2
        go_wp2_with (at_builtin; refine I.wpList_append_byte rfl _ _ rfl W3.heap.size _ k _ rfl (HP.out.alloc _) ⟨wr.heap.size, 0, none⟩ 1 (r : Int) rfl (by simp) ?q1 ?q2 ?_)
        case q1 => omega
        case q2 => have := HBw.out.size; simp; omega
        intro v1 w1 hown1 hgr1 hbl1
        have HP1 : Hid (w1.ownsRow W3.heap.size 3 1 v1 (k + 1) ((rkL n f0 (k + 1)).map (Value.int .i64))) := by
          rw [HS1.out, List.map_append]
          exact hown1
        have HQ1 := hid ((HQ.out.alloc (.cells #[.int .i64 (r : Int)] 3)).kept hgr1 (opt_swap HN.out))
        have HB1' := hid ((HBw.out.alloc HBw.out.size _).grown hgr1 (by have := HBw.out.size; simp; omega) (fun k e => (HP.out.lt k e).1))
        have hcell : w1.cell? ⟨g, r, none⟩ = some (.int .i64 ((l.getD r 0 : Nat) : Int)) := (HI.out.belowB HB1'.out hgl).cell (by rw [HL.out]; exact hr)
        have hlt1 : ∀ b, u10.ownBlock = some b → b < wr.heap.size := fun b e => (HP.out.lt b e).2
        have hltq : ∀ b, u11.ownBlock = some b → b < wr.heap.size := fun b e => (HQ.out.lt b e).2
        have HN1 : Hid (v1.ownBlock = none ∨ v1.ownBlock ≠ u11.ownBlock) := by
          refine hid ?_
          rcases hbl1 with z | ⟨z, _⟩
          · rw [z]; exact HN.out
          · refine .inr fun e => ?_
            rw [z] at e
            have := hltq _ e.symm
            try simp at this
            try omega
        have h1lt : ∀ b, v1.ownBlock = some b → b < w1.heap.size := fun b e => (HP1.out.lt b e).2
        obtain ⟨p1, c1, ev1⟩ := own_slcI HP1.out
        subst ev1
        clear hown1 hgr1 hbl1
        generalize l.getD r 0 = y at hcell HS2
        go_wp2_with (at_builtin; refine I.wpList_append_byte rfl _ _ rfl W3.heap.size _ k _ rfl (HQ1.out.alloc _) ⟨w1.heap.size, 0, none⟩ 1 (y : Int) rfl (by simp) ?q3 ?q4 ?_)
        case q3 => omega
        case q4 => have := HB1'.out.size; simp; omega
        intro v2 w2 hown2 hgr2 hbl2
        have HQ2 : Hid (w2.ownsRow W3.heap.size 3 1 v2 (k + 1) ((svL l n f0 (k + 1)).map (Value.int .i64))) := by
          rw [HS2.out, List.map_append]
          exact hown2
        have HP2 := hid ((HP1.out.alloc (.cells #[.int .i64 (y : Int)] 3)).kept hgr2 HN1.out)
        have HB2' := hid ((HB1'.out.alloc HB1'.out.size _).grown hgr2 (by have := HB1'.out.size; simp; omega) (fun k e => (HQ1.out.lt k e).1))
        have HN2 : Hid ((Value.slice p1 (k + 1) c1).ownBlock = none ∨ (Value.slice p1 (k + 1) c1).ownBlock ≠ v2.ownBlock) := by
          refine hid ?_
          rcases hbl2 with z | ⟨z, _⟩
          · rw [z]; exact HN1.out
          · refine .inr fun e => ?_
            rw [z] at e
            have := h1lt _ e
            try simp at this
            try omega
        clear hown2 hgr2 hbl2 hcell hlt1 hltq h1lt
        go_wp2
        exact ⟨⟨k + 1, by omega, by go_num, HP2, HQ2, HN2, HB2'⟩, by simp [intOf]; omega⟩
      · have hkn : k = n := by omega
        have HP3 := HP.out
        have HQ3 := HQ.out
        rw [hkn] at HP3 HQ3
        have HP4 := hid HP3
        have HQ4 := hid HQ3
        clear HP3 HQ3 hkn
        go_wp2
        go_ret2
        exact ⟨_, _, rfl, own_mono HP4.out s3, own_mono HQ4.out s3, BL3.out.trans (HBw.out.mono s3)⟩
end Go.Proofs.YtjdfclbjmmmcfaaDoor
namespace Go.Proofs.YtjdfclbjmmmcfaaDoor
open Go Go.RowKit Go.Shelf
def MQ (w : World) (M : List (Nat × Obj)) (E : Nat → Prop) (W : World) : Prop :=
  (∀ p ∈ M, W.heap[p.1]? = some p.2 ∧ ¬ E p.1) ∧ (∀ i, E i → w.heap.size ≤ i) ∧ Below w.heap.size w W
theorem MQ.more {w A C : World} {M : List (Nat × Obj)} {E : Nat → Prop} (h : MQ w M E A) (hg : A.grownBy C none) : MQ w M (fun i => E i ∨ (A.heap.size ≤ i ∧ i < C.heap.size)) C := by
  refine ⟨fun p hp => ?_, fun i hi => ?_, h.2.2.grown hg h.2.2.size (fun k e => by cases e)⟩
  · have hl := hp_lt (h.1 p hp).1
    exact ⟨(hg.block _ hl (by simp)).trans (h.1 p hp).1, fun q => q.elim (h.1 p hp).2 (fun z => by omega)⟩
  · rcases hi with z | z
    · exact h.2.1 i z
    · have := h.2.2.size; omega
theorem MQ.turn {w A C : World} {M : List (Nat × Obj)} {E : Nat → Prop} {r : Nat} (h : MQ w M E A) (hr : E r) (hg : A.grownBy C (some r)) : MQ w M E C :=
  ⟨fun p hp => ⟨(hg.block _ (hp_lt (h.1 p hp).1) (fun e => (h.1 p hp).2 (by cases e; exact hr))).trans (h.1 p hp).1, (h.1 p hp).2⟩, h.2.1, h.2.2.grown hg h.2.2.size (fun k e => by cases e; exact h.2.1 _ hr)⟩
theorem MQ.less {w A : World} {M : List (Nat × Obj)} {E E' : Nat → Prop} (h : MQ w M E A) (hl : ∀ i, E' i → E i) : MQ w M E' A :=
  ⟨fun p hp => ⟨(h.1 p hp).1, fun q => (h.1 p hp).2 (hl _ q)⟩, fun i hi => h.2.1 i (hl i hi), h.2.2⟩
theorem jn_MQ {β : Type} (w : World) (M : β → List (Nat × Obj)) (R : β → Prop) : JN (fun s E W => R s ∧ MQ w (M s) E W) where
  more := fun s E A C ⟨hr, h⟩ hg => ⟨hr, h.more hg⟩
  turn := fun s E A C r ⟨hr, h⟩ hE hg _ => ⟨hr, h.turn hE hg⟩
  less := fun s E E' A ⟨hr, h⟩ hl => ⟨hr, h.less hl⟩
theorem jn_MX {β : Type} (w : World) (M : Nat → List (Nat × Obj)) (R : β → Prop) : JN (fun (s : β) E W => R s ∧ ∃ k, MQ w (M k) E W) where
  more := fun s E A C ⟨hr, k, h⟩ hg => ⟨hr, k, h.more hg⟩
  turn := fun s E A C r ⟨hr, k, h⟩ hE hg _ => ⟨hr, k, h.turn hE hg⟩
  less := fun s E E' A ⟨hr, k, h⟩ hl => ⟨hr, k, h.less hl⟩
theorem MQ.at {w W : World} {M : List (Nat × Obj)} {E : Nat → Prop} (h : MQ w M E W) {b : Nat} {o : Obj} (hm : (b, o) ∈ M) : W.heap[b]? = some o := (h.1 (b, o) hm).1
theorem MQ.cell {w W : World} {M : List (Nat × Obj)} {E : Nat → Prop} (h : MQ w M E W) {b : Nat} {v : Value} {t : TypeId} (hm : (b, Obj.cells #[v] t (0, 0)) ∈ M) : W.cell? ⟨b, 0, none⟩ = some v := (cell_of_row _ _ _ _ _ _ (h.at hm)).trans rfl
theorem MQ.free {w W : World} {M : List (Nat × Obj)} {E : Nat → Prop} (h : MQ w M E W) {b : Nat} {cs : Array Value} {t : TypeId} (hm : (b, Obj.cells cs t (0, 0)) ∈ M) (i : Nat) : W.frozen? ⟨b, i, none⟩ = false := frozen_of_row _ _ _ _ _ (h.at hm)
theorem MQ.set {w W : World} {M : List (Nat × Obj)} {E : Nat → Prop} {b : Nat} {v u : Value} {t : TypeId} (h : MQ w (M ++ [(b, Obj.cells #[v] t (0, 0))]) E W) (hb : w.heap.size ≤ b) (hn : ∀ p ∈ M, p.1 ≠ b) : MQ w (M ++ [(b, Obj.cells #[u] t (0, 0))]) E (W.setCell ⟨b, 0, none⟩ u) := by
  refine ⟨fun p hp => ?_, h.2.1, h.2.2.setCell (p := ⟨b, 0, none⟩) hb _⟩
  rcases List.mem_append.1 hp with z | z
  · have := h.1 p (List.mem_append_left _ z)
    exact ⟨(heap_setCell_other _ _ _ _ (fun e => hn p z e)).trans this.1, this.2⟩
  · obtain rfl : p = (b, Obj.cells #[u] t (0, 0)) := by simpa using z
    have := h.1 (b, Obj.cells #[v] t (0, 0)) (List.mem_append_right _ (by simp))
    exact ⟨heap_setCell_same W b 0 _ _ _ this.1, this.2⟩
theorem MQ.alloc {w W : World} {M : List (Nat × Obj)} {E : Nat → Prop} (h : MQ w M E W) (hE : ∀ i, E i → i < W.heap.size) (cs : Array Value) (t : TypeId) : MQ w (M ++ [(W.heap.size, Obj.cells cs t (0, 0))]) E (W.alloc (.cells cs t)) := by
  refine ⟨fun p hp => ?_, h.2.1, h.2.2.alloc h.2.2.size _⟩
  rcases List.mem_append.1 hp with z | z
  · have := h.1 p z
    exact ⟨(Below.heap_alloc _ _ _ (hp_lt this.1)).trans this.1, this.2⟩
  · obtain rfl : p = (W.heap.size, Obj.cells cs t (0, 0)) := by simpa using z
    exact ⟨heap_alloc_new W _, fun q => absurd (hE _ q) (by simp)⟩
theorem KE.refl (D : Nat → Prop) (A : World) : KE D A A := ⟨Nat.le_refl _, fun _ _ => rfl⟩
theorem range_fitM {F : Fence} {n : Nat} {P : Program} {g : Operand} {ps : Array Tmp} {assign body : Code} {Q : Exit → Act → World → Prop} {a : Act} {w : World}
    (hro : F.round = none) (h1 : 1 ≤ n) {gf : Nat} {lb : Array Value} (hg : a.eval g = .func (.func gf) #[] lb) (hFg : F.fn gf) (eg : ∀ args w, (callFunc gf args).run P w = .ok (.enter gf args) w)
    {enc : Nat → Value → Array Value} {Fit : Nat → Value → Prop} {D : Nat → Prop} {N : Nat} {w0 : World} (hit : IterN F (n - 1) P gf lb enc Fit D N w0) (hw0 : KE D w0 w) (hD : ∀ i, D i → i < w.heap.size) (hps : ∀ k v, (enc k v).size = ps.size)
    (wB : World) (M : Nat → List (Nat × Obj)) (R : Nat → Prop) (Ix : Code → (Nat → Prop) → World → Prop) (hIx : JN Ix) (h0 : R 0 ∧ MQ wB (M 0) D w) (A0 : Nat → Value → Act)
    (hassign : ∀ (l k : Nat) (v : Value) (W : World) (K : Act → World → Prop), K (A0 k v) W → assign.wpIn (F.inRound l) (n - 1 - 1) P (Exit.then K (fun _ _ _ => False)) { tmps := (ps.zip (enc k v)).foldl (fun t (p, v) => t.setIfInBounds p v) a.tmps, defers := [] } W)
    (hbody : ∀ (l k : Nat) (v : Value) (E : Nat → Prop) (W : World), E l → (∃ r, W.heap[l]? = some (.loop r)) → R k → MQ wB (M k) E W → Fit k v → (∀ i, D i → E i) → (∀ i, E i → i < W.heap.size) → KE D w W → k < N → body.wpIn (F.inRound l) (n - 1 - 1) P (OutN E (fun k E W => R k ∧ MQ wB (M k) E W) Ix k W) (A0 k v) W)
    (hdone : ∀ (d : Nat) (W : World), w.heap.size ≤ d → R N → MQ wB (M N) (fun i => D i ∨ i = d) W → W.heap[d]? = some (.deferred (some [])) → KE D w W → Q .normal { a with defers := { target := .collected d, args := #[] } :: a.defers } W)
    (hstop : ∀ (d : Nat) (c : Code) (W : World), w.heap.size ≤ d → Ix c (fun i => D i ∨ i = d) W → W.heap[d]? = some (.deferred (some [])) → KE D w W → c.wpIn F n P Q { a with defers := { target := .collected d, args := #[] } :: a.defers } W) :
    (Code.rangeFunc g ps assign body).wpIn F n P Q a w :=
  range_fitN hro h1 hg hFg eg hit hw0 hD hps (fun k E W => R k ∧ MQ wB (M k) E W) Ix (jn_MQ wB M R) hIx h0
    (fun k v a₁ E W => (a₁ = A0 k v ∧ Fit k v ∧ R k) ∧ MQ wB (M k) E W) (fun k v => jn_MQ wB (fun _ => M k) (fun a₁ => a₁ = A0 k v ∧ Fit k v ∧ R k))
    (fun l k v E W _ hI hDE hE hf hk => hassign l k v W _ ⟨KE.refl _ _, ⟨rfl, hf, hI.1⟩, hI.2⟩)
    (fun l k v a₁ E W _ hl hr hA hDE hE hke hk => by
      obtain ⟨⟨rfl, hf, hR⟩, hM⟩ := hA
      exact hbody l k v E W hl hr hR hM hf hDE hE hke hk)
    (fun d W hd hI hdf hke => hdone d W hd hI.1 hI.2 hdf hke) hstop
theorem range_fitMR {F : Fence} {l0 : Nat} {r0 : Loop} {n : Nat} {P : Program} {g : Operand} {ps : Array Tmp} {assign body : Code} {Q : Exit → Act → World → Prop} {a : Act} {w : World}
    (hro : F.round = some l0) (hl0 : w.heap[l0]? = some (.loop r0)) (h1 : F.depth.isSome = true → 1 ≤ n) {gf : Nat} {lb : Array Value} (hg : a.eval g = .func (.func gf) #[] lb) (hFg : F.fn gf) (eg : ∀ args w, (callFunc gf args).run P w = .ok (.enter gf args) w)
    {enc : Nat → Value → Array Value} {Fit : Nat → Value → Prop} {D : Nat → Prop} {N : Nat} {w0 : World} (hit : IterN F (n - 1) P gf lb enc Fit D N w0) (hw0 : KE D w0 w) (hD : ∀ i, D i → i < w.heap.size) (hps : ∀ k v, (enc k v).size = ps.size)
    (wB : World) (M : Nat → List (Nat × Obj)) (R : Nat → Prop) (Ix : Code → (Nat → Prop) → World → Prop) (hIx : JN Ix) (h0 : R 0 ∧ MQ wB (M 0) D w) (A0 : Nat → Value → Act)
    (hassign : ∀ (l k : Nat) (v : Value) (W : World) (K : Act → World → Prop), K (A0 k v) W → assign.wpIn (F.inRound l) (n - 1 - 1) P (Exit.then K (fun _ _ _ => False)) { tmps := (ps.zip (enc k v)).foldl (fun t (p, v) => t.setIfInBounds p v) a.tmps, defers := [] } W)
    (hbody : ∀ (l k : Nat) (v : Value) (E : Nat → Prop) (W : World), E l → (∃ r, W.heap[l]? = some (.loop r)) → R k → MQ wB (M k) E W → Fit k v → (∀ i, D i → E i) → (∀ i, E i → i < W.heap.size) → KE D w W → k < N → body.wpIn (F.inRound l) (n - 1 - 1) P (OutN E (fun k E W => R k ∧ MQ wB (M k) E W) Ix k W) (A0 k v) W)
    (hdone : ∀ (W : World), R N → MQ wB (M N) D W → KE D w W → Q .normal a W)
    (hstop : ∀ (c : Code) (W : World), Ix c D W → KE D w W → c.wpIn F n P Q a W) :
    (Code.rangeFunc g ps assign body).wpIn F n P Q a w :=
  range_fitR hro hl0 h1 hg hFg eg hit hw0 hD hps (fun k E W => R k ∧ MQ wB (M k) E W) Ix (jn_MQ wB M R) hIx h0
    (fun k v a₁ E W => (a₁ = A0 k v ∧ Fit k v ∧ R k) ∧ MQ wB (M k) E W) (fun k v => jn_MQ wB (fun _ => M k) (fun a₁ => a₁ = A0 k v ∧ Fit k v ∧ R k))
    (fun l k v E W _ hI hDE hE hf hk => hassign l k v W _ ⟨KE.refl _ _, ⟨rfl, hf, hI.1⟩, hI.2⟩)
    (fun l k v a₁ E W _ hl hr hA hDE hE hke hk => by
      obtain ⟨⟨rfl, hf, hR⟩, hM⟩ := hA
      exact hbody l k v E W hl hr hR hM hf hDE hE hke hk)
    (fun W hI hke => hdone W hI.1 hI.2 hke) hstop
end Go.Proofs.YtjdfclbjmmmcfaaDoor
