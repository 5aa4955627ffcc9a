/- Of the road to rsAny_holds: GsHo, GsDc, GsDt, GsCo, GsMl, GsRo, RsEven. -/
import Derived.Test.YtbiplflejijbeaaG05
import Derived.Test.YtbiplflejijbeaaG07
import Derived.Test.YtbiplflejijbeaaG06
set_option linter.unusedVariables false
set_option linter.unusedSimpArgs false
namespace Go.Proofs.Ytbiplflejijbeaa
open Go Go.RowKit
theorem flt_le {p q : Nat → Bool} : ∀ (l : List Nat), (∀ x ∈ l, p x = true → q x = true) → (l.filter p).length ≤ (l.filter q).length
  | [], _ => Nat.le_refl _
  | a :: l, h => by
    have ih := flt_le l fun x hx => h x (List.mem_cons_of_mem _ hx)
    have ha := h a List.mem_cons_self
    rw [List.filter_cons, List.filter_cons]
    by_cases q1 : p a = true
    · rw [if_pos q1, if_pos (ha q1), List.length_cons, List.length_cons]
      omega
    · rw [if_neg q1]
      split
      · rw [List.length_cons]; omega
      · exact ih
theorem flt_lt {p q : Nat → Bool} : ∀ (l : List Nat), (∀ x ∈ l, p x = true → q x = true) → (∃ x ∈ l, q x = true ∧ p x = false) → (l.filter p).length < (l.filter q).length
  | [], _, h => by obtain ⟨x, hx, _⟩ := h; cases hx
  | a :: l, h, ⟨x, hx, hq, hp⟩ => by
    have hl := flt_le (p := p) (q := q) l fun x hx => h x (List.mem_cons_of_mem _ hx)
    have ha := h a List.mem_cons_self
    rw [List.filter_cons, List.filter_cons]
    rcases List.mem_cons.1 hx with e | e
    · subst e
      rw [if_neg (by rw [hp]; decide), if_pos hq, List.length_cons]
      omega
    · have ih := flt_lt l (fun x hx => h x (List.mem_cons_of_mem _ hx)) ⟨x, e, hq, hp⟩
      by_cases q1 : p a = true
      · rw [if_pos q1, if_pos (ha q1), List.length_cons, List.length_cons]
        omega
      · rw [if_neg q1]
        split
        · rw [List.length_cons]; omega
        · exact ih
def unH (f : Nat → Nat) (k : Nat) : Nat := ((List.range k).filter fun i => f i != i).length
theorem unH_lt {f : Nat → Nat} {k a m : Nat} (ha : a < k) (hm : m < k) (hne : m ≠ a) (hf : f a = m) (hm2 : f m ≠ m) : unH (fun i => f (pis a m i)) k < unH f k := by
  refine flt_lt _ (fun x hx h => ?_) ⟨m, List.mem_range.2 hm, by simpa using hm2, ?_⟩
  · have h : (f (pis a m x) != x) = true := h
    unfold pis at h
    by_cases e : x = a
    · subst e
      show (f x != x) = true
      rw [hf]
      simpa using hne
    · rw [if_neg e] at h
      by_cases e2 : x = m
      · subst e2
        show (f x != x) = true
        simpa using hm2
      · rw [if_neg e2] at h
        exact h
  · show (f (pis a m m) != m) = false
    unfold pis
    rw [if_neg hne, if_pos rfl, hf]
    simp
theorem set_two (vs : Nat → Value) (k a m : Nat) (hne : m ≠ a) : (((List.range k).map vs).set a (vs m)).set m (vs a) = (List.range k).map fun i => vs (pis a m i) := by
  refine List.ext_getElem (by simp) fun i h1 h2 => ?_
  simp only [List.getElem_set, List.getElem_map, List.getElem_range]
  unfold pis
  by_cases e1 : m = i
  · rw [if_pos e1, if_neg (fun q => hne (e1.trans q)), if_pos e1.symm]
  · rw [if_neg e1]
    by_cases e2 : a = i
    · rw [if_pos e2, if_pos e2.symm]
    · rw [if_neg e2, if_neg (fun q => e2 q.symm), if_neg (fun q => e1 q.symm)]
def PiK (k : Nat) (π : Nat → Nat) : Prop := (∀ i, i < k → π i < k) ∧ ∀ i j, i < k → j < k → π i = π j → i = j
theorem PiK.pis {k : Nat} {π : Nat → Nat} (h : PiK k π) {a m : Nat} (ha : a < k) (hm : m < k) : PiK k (fun i => π (pis a m i)) :=
  ⟨fun i hi => h.1 _ (pis_lt ha hm hi), fun i j hi hj e => by
    have := h.2 _ _ (pis_lt ha hm hi) (pis_lt ha hm hj) e
    exact Classical.byContradiction fun n => pis_inj n this⟩
set_option maxRecDepth 100000 in
set_option maxHeartbeats 8000000 in
theorem homed_ok (w : World) (gn on cn gb ob cb k : Nat) (ns : Nat → Nat) (vs : Nat → Value) (hk1 : 1 ≤ k) (hk : k ≤ 255) (hv : ∀ i, i < k → w.cell? ⟨gn, on + i, none⟩ = some (.int .i64 (ns i : Int))) (hb : ∀ i, i < k → w.cell? ⟨gb, ob + i, none⟩ = some (vs i))
    (hs : ∀ i, i < k → ∃ p n c, vs i = .slice p n c) (hne : ∀ i j, i < k → j < k → ns i = ns j → i = j) :
    Calls Try.prog 22 #[.slice (some ⟨gn, on, none⟩) k cn, .slice (some ⟨gb, ob, none⟩) k cb] w fun e w' => ∃ (π : Nat → Nat) (v1 v2 : Value), e = .returned (.tuple #[v1, v2]) ∧ PiK k π ∧ w'.ownsRow w.heap.size 3 1 v1 k ((List.range k).map fun i => Value.int .i64 (ns (π i) : Int)) ∧ w'.ownsRow w.heap.size 22 1 v2 k ((List.range k).map fun i => vs (π i)) ∧ Below w.heap.size w w' := by
  have C1 := hid (clone_ints w gn on k cn (fun i => .int .i64 (ns i : Int)) (by omega) hv fun i hi => rfl)
  have HBb := hid hb
  have HS := hid hs
  have HNE := hid hne
  have hgb := World.block_lt_of_cell? w _ (hb 0 (by omega))
  clear hv hb hs hne
  go_enter Try.func22, Try.ntmps22
  go_wp2_with fail
  refine C1.out.mono ?_
  rintro e w1 ⟨v1, rfl, ho1, hb1⟩
  have C2 := hid (clone_lists w1 gb ob k cb vs (by omega) (fun i hi => (hb1.cell (p := ⟨gb, ob + i, none⟩) (World.block_lt_of_cell? w _ (HBb.out i hi))).trans (HBb.out i hi)) fun i hi => by obtain ⟨p, n, c, e⟩ := HS.out i hi; rw [e]; rfl)
  have O1 := hid ho1
  have B1 := hid hb1
  clear ho1 hb1 C1
  go_wp2_with fail
  refine C2.out.mono ?_
  rintro e w2 ⟨v2, rfl, ho2, hb2⟩
  have P1 := hid (own_blkR O1.out fun q e => hb2.block _ (O1.out.lt q e).2)
  have P2 := hid (own_mono ho2 B1.out.size)
  have B2 := hid (B1.out.trans (hb2.mono B1.out.size))
  clear ho2 hb2 C2 O1 B1
  obtain ⟨p1, c1, e1⟩ := own_slc P1.out
  obtain ⟨p2, c2, e2⟩ := own_slc P2.out
  subst e1
  subst e2
  obtain ⟨g1, e1⟩ := own_someR P1.out (by omega)
  obtain ⟨g2, e2⟩ := own_someR P2.out (by omega)
  subst e1
  subst e2
  have hg1 := (P1.out.lt g1 rfl).1
  have hg2 := (P2.out.lt g2 rfl).1
  have hg12 : g1 ≠ g2 := fun e => own_nothR P1.out P2.out (by decide) rfl (by rw [e]; rfl)
  have Q1 : Hid (w2.ownsRow w.heap.size 3 1 (.slice (some ⟨g1, 0, none⟩) k c1) k ((List.range k).map fun i => Value.int .i64 (ns (id i) : Int))) := P1
  have Q2 : Hid (w2.ownsRow w.heap.size 22 1 (.slice (some ⟨g2, 0, none⟩) k c2) k ((List.range k).map fun i => vs (id i))) := P2
  have HI : Hid (PiK k id) := hid ⟨fun i h => h, fun i j _ _ e => e⟩
  clear P1 P2
  go_wp2_with fail
  go_loopg [14] k (fun g s14 wr => ∃ (a : Nat) (π : Nat → Nat), a + g = k ∧ s14 = .int .i64 (a : Int) ∧ Hid (PiK k π) ∧ Hid (wr.ownsRow w.heap.size 3 1 (.slice (some ⟨g1, 0, none⟩) k c1) k ((List.range k).map fun i => Value.int .i64 (ns (π i) : Int))) ∧ Hid (wr.ownsRow w.heap.size 22 1 (.slice (some ⟨g2, 0, none⟩) k c2) k ((List.range k).map fun i => vs (π i))) ∧ Hid (Below w.heap.size w wr))
  case atStart => exact ⟨0, id, by omega, rfl, HI, Q1, Q2, B2⟩
  case round =>
    clear HI Q1 Q2 B2
    obtain ⟨a, π, hag, rfl, HP, O1, O2, HB⟩ := hrel
    cases gk with
    | zero =>
      have hak : a = k := by omega
      subst hak
      go_wp2_with fail
      go_ret2
      exact ⟨π, _, _, rfl, HP.out, O1.out, O2.out, HB.out⟩
    | succ g =>
      have hak : a < k := by omega
      go_wp2_with fail
      go_loopg [] (unH (fun i => ns (π i)) k) (fun g3 wr => ∃ π : Nat → Nat, unH (fun i => ns (π i)) k = g3 ∧ Hid (PiK k π) ∧ Hid (wr.ownsRow w.heap.size 3 1 (.slice (some ⟨g1, 0, none⟩) k c1) k ((List.range k).map fun i => Value.int .i64 (ns (π i) : Int))) ∧ Hid (wr.ownsRow w.heap.size 22 1 (.slice (some ⟨g2, 0, none⟩) k c2) k ((List.range k).map fun i => vs (π i))) ∧ Hid (Below w.heap.size w wr))
      case atStart => exact ⟨π, rfl, HP, O1, O2, HB⟩
      case round =>
        clear HP O1 O2 HB π
        obtain ⟨π, hun, HP, O1, O2, HB⟩ := hrel
        have HUN := hid hun
        clear hun
        obtain ⟨m, HM⟩ : ∃ x, Hid (ns (π a) = x) := ⟨_, hid rfl⟩
        have ca : wr.cell? ⟨g1, a, none⟩ = some (.int .i64 (m : Int)) := by
          rw [O1.out.cellAt a (by omega), List.getElem?_map, List.getElem?_range hak, Option.map_some, HM.out]
        by_cases hmk : m < k
        · have hmk' : (m : Int) < (k : Int) := by omega
          by_cases hma : m = a
          · have hma' : ((m : Int) != (a : Int)) = false := by simp [hma]
            clear hma
            go_wp2_with fail
            go_roundg g
            case measure => omega
            case rel => exact ⟨a + 1, π, by omega, by go_num, HP, O1, O2, HB⟩
          · have hma' : ((m : Int) != (a : Int)) = true := by simp; omega
            have HMA := hid hma
            clear hma
            obtain ⟨y, HY⟩ : ∃ x, Hid (ns (π m) = x) := ⟨_, hid rfl⟩
            have cm : wr.cell? ⟨g1, m, none⟩ = some (.int .i64 (y : Int)) := by
              rw [O1.out.cellAt m (by omega), List.getElem?_map, List.getElem?_range hmk, Option.map_some, HY.out]
            have fa := O1.out.frozenAt a
            have fm := O1.out.frozenAt m
            have st := (O1.out.stored a (.int .i64 (y : Int))).1
            have hx : (wr.setCell ⟨g1, a, none⟩ (.int .i64 (y : Int))).cell? ⟨g1, m, none⟩ = some (.int .i64 (y : Int)) := by
              rw [st.cellAt m (by omega), List.getElem?_set, if_neg (fun q => HMA.out q.symm), List.getElem?_map, List.getElem?_range hmk, Option.map_some, HY.out]
            have fx : (wr.setCell ⟨g1, a, none⟩ (.int .i64 (y : Int))).frozen? ⟨g1, m, none⟩ = false := st.frozenAt m
            have S1 := hid (st.stored m (.int .i64 (m : Int))).1
            clear st
            go_wp2_with fail
            go_region
            generalize hw3 : World.drew _ = w3
            have h3 : ∀ q, q ≠ g1 → w3.heap[q]? = wr.heap[q]? := fun q hq => by
              rw [← hw3]
              exact (heap_setCell_other _ _ _ _ (by simpa using hq)).trans (heap_setCell_other _ _ _ _ (by simpa using hq))
            have R1 : Hid (w3.ownsRow w.heap.size 3 1 (.slice (some ⟨g1, 0, none⟩) k c1) k ((List.range k).map fun i => Value.int .i64 (ns (π (pis a m i)) : Int))) := hid (by
              have := S1.out
              rw [← HM.out] at this
              have e := set_two (fun i => Value.int .i64 (ns (π i) : Int)) k a m HMA.out
              simp only [HM.out, HY.out] at e
              have this := S1.out
              rw [e] at this
              exact own_blkR this fun q _ => by rw [← hw3]; rfl)
            have R2 := hid (own_blkR O2.out fun q e => h3 q fun z => by subst z; simp [Value.ownBlock] at e; exact hg12 e.symm)
            have B3 : Hid (Below w.heap.size w w3) := by rw [← hw3]; exact hid (((HB.out.setCell (p := ⟨g1, a, none⟩) hg1 _).setCell (p := ⟨g1, m, none⟩) hg1 _).drew)
            have HPP := hid (HP.out.pis hak hmk)
            have HLT : Hid (unH (fun i => ns (π (pis a m i))) k < gk) := hid (by
              rw [← HUN.out]
              refine unH_lt (f := fun i => ns (π i)) hak hmk HMA.out HM.out fun e => HMA.out ?_
              have e : ns (π m) = m := e
              exact HP.out.2 _ _ hmk hak (HNE.out _ _ (HP.out.1 _ hmk) (HP.out.1 _ hak) (e.trans HM.out.symm)))
            clear hw3 h3 S1 hx fx fa fm ca cm O1 O2 HB
            obtain ⟨pa, na, qa, ea⟩ := HS.out (π a) (HP.out.1 _ hak)
            obtain ⟨pm, nm, qm, em⟩ := HS.out (π m) (HP.out.1 _ hmk)
            have HEA := hid ea
            have HEM := hid em
            clear ea em
            have ca : w3.cell? ⟨g2, a, none⟩ = some (.slice pa na qa) := by rw [R2.out.cellAt a (by omega), List.getElem?_map, List.getElem?_range hak, Option.map_some, HEA.out]
            have cm : w3.cell? ⟨g2, m, none⟩ = some (.slice pm nm qm) := by rw [R2.out.cellAt m (by omega), List.getElem?_map, List.getElem?_range hmk, Option.map_some, HEM.out]
            have fa := R2.out.frozenAt a
            have fm := R2.out.frozenAt m
            have st := (R2.out.stored a (.slice pm nm qm)).1
            have hx : (w3.setCell ⟨g2, a, none⟩ (.slice pm nm qm)).cell? ⟨g2, m, none⟩ = some (.slice pm nm qm) := by
              rw [st.cellAt m (by omega), List.getElem?_set, if_neg (fun q => HMA.out q.symm), List.getElem?_map, List.getElem?_range hmk, Option.map_some, HEM.out]
            have fx : (w3.setCell ⟨g2, a, none⟩ (.slice pm nm qm)).frozen? ⟨g2, m, none⟩ = false := st.frozenAt m
            have S2 := hid (st.stored m (.slice pa na qa)).1
            clear st
            go_wp2_with fail
            go_region
            generalize hw4 : World.drew _ = w4
            have h4 : ∀ q, q ≠ g2 → w4.heap[q]? = w3.heap[q]? := fun q hq => by
              rw [← hw4]
              exact (heap_setCell_other _ _ _ _ (by simpa using hq)).trans (heap_setCell_other _ _ _ _ (by simpa using hq))
            have T2 : Hid (w4.ownsRow w.heap.size 22 1 (.slice (some ⟨g2, 0, none⟩) k c2) k ((List.range k).map fun i => vs (π (pis a m i)))) := hid (by
              have e := set_two (fun i => vs (π i)) k a m HMA.out
              simp only [HEA.out, HEM.out] at e
              have this := S2.out
              rw [e] at this
              exact own_blkR this fun q _ => by rw [← hw4]; rfl)
            have T1 := hid (own_blkR R1.out fun q e => h4 q fun z => by subst z; simp [Value.ownBlock] at e; exact hg12 e)
            have B4 : Hid (Below w.heap.size w w4) := by rw [← hw4]; exact hid (((B3.out.setCell (p := ⟨g2, a, none⟩) hg2 _).setCell (p := ⟨g2, m, none⟩) hg2 _).drew)
            clear hw4 h4 S2 hx fx fa fm ca cm R1 R2
            go_wp2_with fail
            go_roundg (unH (fun i => ns (π (pis a m i))) k)
            case measure => exact HLT.out
            case rel => exact ⟨fun i => π (pis a m i), rfl, HPP, T1, T2, B4⟩
        · have hmk' : ¬ ((m : Int) < (k : Int)) := by omega
          go_wp2_with fail
          go_roundg g
          case measure => omega
          case rel => exact ⟨a + 1, π, by omega, by go_num, HP, O1, O2, HB⟩
def dsP (ds : List (List Int)) (k : Nat) (π : Nat → Nat) : List (List Int) := (List.range k).map fun i => ds.getD (π i) []
theorem dsP_len (ds : List (List Int)) (k : Nat) (π : Nat → Nat) : (dsP ds k π).length = k := by simp [dsP]
theorem dsP_get (ds : List (List Int)) (k : Nat) (π : Nat → Nat) (i : Nat) (h : i < k) : (dsP ds k π).getD i [] = ds.getD (π i) [] := by simp [dsP, List.getD, h]
set_option maxRecDepth 100000 in
set_option maxHeartbeats 8000000 in
theorem decode_ok (w : World) (gc k n : Nat) (gn on cn : Nat) (ns : Nat → Nat) (vb : Value) (ds : List (List Int)) (L : Nat) (h : HCd w gc k n) (hk1 : 1 ≤ k) (hkn : k ≤ n) (hn : n ≤ 255) (hcn : k ≤ cn) (hcn2 : cn ≤ 9223372036854775807)
    (hv : ∀ i, i < k → w.cell? ⟨gn, on + i, none⟩ = some (.int .i64 (ns i : Int))) (hns : ∀ i, i < k → ns i < n) (hne : ∀ i j, i < k → j < k → ns i = ns j → i = j) (hd : HL w vb ds) (hdk : ds.length = k) (hL : ∀ j, j < ds.length → (ds.getD j []).length = L) (hLb : L ≤ 140737488355328)
    (hf : ∀ π, PiK k π → (FB.els k (Fd.bes k (mtN (pkL (elL k n) k (fun i => ns (π i)) k) k)) k).2 = k) :
    Calls Try.prog 9 #[.pointer (some ⟨gc, 0, none⟩), .slice (some ⟨gn, on, none⟩) k cn, vb] w fun e w' => ∃ (v : Value) (π : Nat → Nat), e = .returned (.tuple #[v, .int .i64 0]) ∧ PiK k π ∧ PW w.heap.size w' v (prL (ivL (pkL (elL k n) k (fun i => ns (π i)) k) k) k (dsP ds k π) L k) ∧ Below w.heap.size w w' := by
  have CR : Hid (Calls Try.prog 21 #[.pointer (some ⟨gc, 0, none⟩), .slice (some ⟨gn, on, none⟩) k cn, vb, .int .i64 0] w fun e w' => e = .returned (.int .i64 0) ∧ w' = w) := hid (refused_ok w gc k n gn on cn ns vb ds L 0 h hk1 (by omega) hcn hcn2 hv hns (fun i j hi hj e => by have := hne j i (by omega) hi e; omega) hd hdk hL (by omega))
  obtain ⟨gb, ob, cb, rfl, hlb, hcb, hh⟩ := hd.ne (by omega)
  rw [hdk] at CR ⊢
  obtain ⟨vs, hvs⟩ : ∃ vs : Nat → Value, ∀ i, i < k → w.cell? ⟨gb, ob + i, none⟩ = some (vs i) ∧ HB w (vs i) (ds.getD i []) := by
    refine ⟨fun i => (w.cell? ⟨gb, ob + i, none⟩).getD undef, fun i hi => ?_⟩
    obtain ⟨u, hu, hbu⟩ := hh i (by omega)
    have e : (w.cell? ⟨gb, ob + i, none⟩).getD undef = u := by rw [hu]; rfl
    show w.cell? ⟨gb, ob + i, none⟩ = some ((w.cell? ⟨gb, ob + i, none⟩).getD undef) ∧ HB w ((w.cell? ⟨gb, ob + i, none⟩).getD undef) _
    rw [e]
    exact ⟨hu, hbu⟩
  have CH := hid (homed_ok w gn on cn gb ob cb k ns vs hk1 (by omega) hv (fun i hi => (hvs i hi).1) (fun i hi => by obtain ⟨p, c, e, _⟩ := (hvs i hi).2.open; exact ⟨p, _, c, e⟩) hne)
  have HVS := hid hvs
  have HNS := hid hns
  have HF := hid hf
  have HLL := hid hL
  have HDK := hid hdk
  have HC := hid h
  clear hh hv hns hne hd hvs hf hL hdk h
  go_enter Try.func9, Try.ntmps9
  go_wp2_with fail
  refine CR.out.mono ?_
  rintro e wq ⟨rfl, hwq⟩
  rw [hwq]
  clear hwq wq CR
  go_wp2_with fail
  refine CH.out.mono ?_
  rintro e w1 ⟨π, v1, v2, rfl, hpi, ho1, ho2, hb1⟩
  have HPI := hid hpi
  have B1 := hid hb1
  obtain ⟨p1, c1, e1⟩ := own_slc ho1
  obtain ⟨p2, c2, e2⟩ := own_slc ho2
  subst e1
  subst e2
  obtain ⟨g1, e1⟩ := own_someR ho1 (by omega)
  obtain ⟨g2, e2⟩ := own_someR ho2 (by omega)
  subst e1
  subst e2
  have hc1 : k ≤ c1 ∧ c1 ≤ 9223372036854775807 := by
    rcases ho1.2 with ⟨e, _⟩ | ⟨g', cap, cur, e, _, _, h3, h4, _⟩
    · cases e
    · cases e
      unfold maxLen at h4
      exact ⟨h3, h4⟩
  have hc2 : k ≤ c2 ∧ c2 ≤ maxLen := by
    rcases ho2.2 with ⟨e, _⟩ | ⟨g', cap, cur, e, _, _, h3, h4, _⟩
    · cases e
    · cases e
      exact ⟨h3, h4⟩
  have CB := hid (back_ok w1 gc k n g1 0 c1 (fun i => ns (π i)) (HC.out.below hb1) hk1 (by omega) hn hc1.1 hc1.2 (fun i hi => by
    rw [Nat.zero_add, ho1.cellAt i (by omega), List.getElem?_map, List.getElem?_range hi, Option.map_some]) (fun i hi => HNS.out _ (hpi.1 i hi)) (HF.out π hpi))
  have H2 : Hid (HL w1 (.slice (some ⟨g2, 0, none⟩) k c2) (dsP ds k π)) := hid ⟨_, c2, by rw [dsP_len], by rw [dsP_len]; exact hc2.1, hc2.2, (fun e => by cases e), fun _ => ⟨g2, 0, rfl, fun j hj => by
    rw [dsP_len] at hj
    refine ⟨vs (π j), ?_, ?_⟩
    · rw [Nat.zero_add, ho2.cellAt j (by omega), List.getElem?_map, List.getElem?_range hj, Option.map_some]
    · rw [dsP_get _ _ _ _ hj]
      exact (HVS.out (π j) (hpi.1 j hj)).2.below hb1⟩⟩
  clear ho1 ho2 hb1 hpi CH
  go_wp2_with fail
  refine CB.out.mono ?_
  rintro e w2 ⟨g', rfl, hg', hm', hb2⟩
  have B2 := hid (B1.out.trans (hb2.mono B1.out.size))
  have CP := hid (products_any w2 g' k k _ (.slice (some ⟨g2, 0, none⟩) k c2) (dsP ds k π) L hm' hk1 (by omega) hk1 (by omega) (H2.out.below hb2) (dsP_len _ _ _) (fun j hj => by rw [dsP_len] at hj; rw [dsP_get _ _ _ _ hj]; exact HLL.out _ (by rw [HDK.out]; exact HPI.out.1 j hj)) hLb)
  clear hm' hb2 CB
  go_wp2_with fail
  refine CP.out.mono ?_
  rintro e w3 ⟨v, rfl, hpw, hb3⟩
  have B3 := hid (B2.out.trans (hb3.mono B2.out.size))
  have HPW := hid hpw
  have HSZ := B2.out.size
  clear hpw hb3 CP
  go_wp2_with fail
  go_ret2
  exact ⟨v, π, rfl, HPI.out, by
    obtain ⟨xs, h1, h2⟩ := HPW.out
    exact ⟨xs, own_mono h1 HSZ, fun j hj => ⟨own_mono (h2 j hj).1 HSZ, (h2 j hj).2⟩⟩, B3.out⟩
def natL (l : List Int) : Nat → Nat := fun j => (l.getD j 0).toNat
def dotL (l1 l2 : List Int) (n : Nat) : Nat := FB.dot (natL l1) (natL l2) n
theorem natL_lt {l : List Int} (h : ∀ x ∈ l, 0 ≤ x ∧ x < 256) (j : Nat) : natL l j < 256 := by
  unfold natL
  simp only [List.getD]
  cases hq : l[j]? with
  | none => decide
  | some x =>
    have := h x (List.mem_of_getElem? hq)
    show x.toNat < 256
    omega
theorem dotL_lt {l1 l2 : List Int} (h1 : ∀ x ∈ l1, 0 ≤ x ∧ x < 256) (h2 : ∀ x ∈ l2, 0 ≤ x ∧ x < 256) (n : Nat) : dotL l1 l2 n < 256 := Fd.dot_ok (F := FB) (natL_lt h1) (natL_lt h2)
theorem dotL_succ (l1 l2 : List Int) (n : Nat) : dotL l1 l2 (n + 1) = dotL l1 l2 n ^^^ prod (natL l1 n) (natL l2 n) := rfl
set_option maxRecDepth 100000 in
set_option maxHeartbeats 8000000 in
theorem bdot_any (w : World) (v1 v2 : Value) (l1 l2 : List Int) (h1 : HB w v1 l1) (h2 : HB w v2 l2) (hl : l1.length = l2.length) :
    Calls Try.prog 45 #[gfF, v1, v2] w fun e w' => e = .returned (.int .u8 ((dotL l1 l2 l1.length : Nat) : Int)) ∧ Below w.heap.size w w' := by
  have HA := hid h1
  have HC := hid h2
  obtain ⟨p1, c1, rfl, hc1, hm1⟩ := h1.open
  obtain ⟨p2, c2, rfl, hc2, hm2⟩ := h2.open
  unfold maxLen at hm1 hm2
  obtain ⟨n, HN⟩ : ∃ x, Hid (l1.length = x) := ⟨_, hid rfl⟩
  have HN2 : Hid (l2.length = n) := hid (by rw [← hl]; exact HN.out)
  rw [HN.out] at hc1 ⊢
  rw [HN2.out] at hc2 ⊢
  have CZ := hid (gfZero w)
  unfold gfF
  clear h1 h2 hl
  go_enter Try.func45, Try.ntmps45
  go_wp2_with fail
  refine CZ.out.mono ?_
  rintro e w1 ⟨rfl, hb1⟩
  have B1 := hid hb1
  clear hb1 CZ
  go_wp2_with fail
  go_loopw [7, 14] (fun s i wr => ∃ I : Nat, I ≤ n ∧ i = .int .i64 (I : Int) ∧ s = .int .u8 ((dotL l1 l2 I : Nat) : Int) ∧ Hid (Below w.heap.size w wr)) (fun _ i _ => n - (intOf i).toNat)
  case atStart => exact ⟨0, Nat.zero_le _, rfl, rfl, B1⟩
  case round =>
    clear B1
    obtain ⟨I, hI, rfl, rfl, HB1⟩ := hrel
    by_cases hlt : I < n
    · obtain ⟨b1, o1, k1, e1, _, _, hk1⟩ := HA.out.ne (by rw [HN.out]; omega)
      simp only [Value.slice.injEq] at e1
      obtain ⟨rfl, _, rfl⟩ := e1
      obtain ⟨b2, o2, k2, e2, _, _, hk2⟩ := HC.out.ne (by rw [HN2.out]; omega)
      simp only [Value.slice.injEq] at e2
      obtain ⟨rfl, _, rfl⟩ := e2
      obtain ⟨x, HX⟩ : ∃ x, Hid (natL l1 I = x) := ⟨_, hid rfl⟩
      obtain ⟨y, HY⟩ : ∃ x, Hid (natL l2 I = x) := ⟨_, hid rfl⟩
      obtain ⟨s, HSm⟩ : ∃ x, Hid (dotL l1 l2 I = x) := ⟨_, hid rfl⟩
      have hx : x < 256 := by rw [← HX.out]; exact natL_lt HA.out.2 I
      have hy : y < 256 := by rw [← HY.out]; exact natL_lt HC.out.2 I
      have hs : s < 256 := by rw [← HSm.out]; exact dotL_lt HA.out.2 HC.out.2 I
      have i1 := hk1 I (by rw [HN.out]; exact hlt)
      have i2 := hk2 I (by rw [HN2.out]; exact hlt)
      have q1 : wr.cell? ⟨b1, o1 + I, none⟩ = some (.int .u8 (x : Int)) := by
        rw [HB1.out.cell (p := ⟨b1, o1 + I, none⟩) (World.block_lt_of_cell? w _ i1), i1]
        have := HA.out.byte I
        rw [← HX.out]
        unfold natL
        congr 2
        omega
      have q2 : wr.cell? ⟨b2, o2 + I, none⟩ = some (.int .u8 (y : Int)) := by
        rw [HB1.out.cell (p := ⟨b2, o2 + I, none⟩) (World.block_lt_of_cell? w _ i2), i2]
        have := HC.out.byte I
        rw [← HY.out]
        unfold natL
        congr 2
        omega
      have Q2 := hid q2
      have hb2 := World.block_lt_of_cell? wr _ q2
      have CM := hid (bmMul wr.drew x y hx hy)
      obtain ⟨z, HZ⟩ : ∃ z, Hid (prod x y = z) := ⟨_, hid rfl⟩
      have hz : z < 256 := by rw [← HZ.out]; exact prod_lt _ hx
      rw [HZ.out] at CM
      have SU : Hid (dotL l1 l2 (I + 1) = s ^^^ z) := hid (by rw [dotL_succ, HX.out, HY.out, HSm.out, HZ.out])
      rw [HSm.out]
      clear hk1 hk2 i1 i2 q2
      go_wp2_with fail
      refine wp_region_last (S := (fun W : World => W.cell? ⟨b2, o2 + I, none⟩ = some (.int .u8 (y : Int)))) 16 (by kernel_rfl) Q2.out (fun hHeld => ?_)
      have HS := hid hHeld
      clear hHeld
      change wpAnyL _ _ _ _ _ _ _ _ _ (World.drew _)
      refine wpAnyL_take (i := 0) (v := ?_) rfl (by kernel_rfl) (by kernel_rfl) (by kernel_rfl) (by kernel_rfl) (by kernel_rfl) (fun _ _ _ h => h) (Or.inl ⟨by rfl, ?q0⟩) HS.out ?_
      case q0 => intro w hSw; have hc0 := hSw; go_simp; rfl
      simp only [Act.put, List.getElem_toArray, List.getElem_cons_zero, List.getElem_cons_succ, List.setIfInBounds_toArray, List.set_cons_zero, List.set_cons_succ]
      refine wpAnyL_take (i := 1) (v := ?_) rfl (by kernel_rfl) (by kernel_rfl) (by kernel_rfl) (by kernel_rfl) (by kernel_rfl) (fun _ _ _ h => h) (Or.inl ⟨by rfl, ?q1⟩) HS.out ?_
      case q1 => intro w hSw; have hc0 := hSw; go_simp; rfl
      simp only [Act.put, List.getElem_toArray, List.getElem_cons_zero, List.getElem_cons_succ, List.setIfInBounds_toArray, List.set_cons_zero, List.set_cons_succ]
      refine wpAnyL_take (i := 2) (v := ?_) rfl (by kernel_rfl) (by kernel_rfl) (by kernel_rfl) (by kernel_rfl) (by kernel_rfl) (fun _ _ _ h => h) (Or.inl ⟨by rfl, ?q2⟩) HS.out ?_
      case q2 => intro w hSw; have hc0 := hSw; go_simp; rfl
      simp only [Act.put, List.getElem_toArray, List.getElem_cons_zero, List.getElem_cons_succ, List.setIfInBounds_toArray, List.set_cons_zero, List.set_cons_succ]
      refine wpAnyL_take (i := 3) (v := ?_) rfl (by kernel_rfl) (by kernel_rfl) (by kernel_rfl) (by kernel_rfl) (by kernel_rfl) (fun _ _ _ h => h) (Or.inl ⟨by rfl, ?q3⟩) HS.out ?_
      case q3 => intro w hSw; have hc0 := hSw; go_simp; rfl
      simp only [Act.put, List.getElem_toArray, List.getElem_cons_zero, List.getElem_cons_succ, List.setIfInBounds_toArray, List.set_cons_zero, List.set_cons_succ]
      refine wpAnyL_take (i := 4) (v := ?_) rfl (by kernel_rfl) (by kernel_rfl) (by kernel_rfl) (by kernel_rfl) (by kernel_rfl) (fun _ _ _ h => h) (Or.inl ⟨by rfl, ?q4⟩) HS.out ?_
      case q4 => intro w hSw; have hc0 := hSw; go_simp; rfl
      simp only [Act.put, List.getElem_toArray, List.getElem_cons_zero, List.getElem_cons_succ, List.setIfInBounds_toArray, List.set_cons_zero, List.set_cons_succ]
      refine wpAnyL_take (i := 5) (v := ?_) rfl (by kernel_rfl) (by kernel_rfl) (by kernel_rfl) (by kernel_rfl) (by kernel_rfl) (fun _ _ _ h => h) (Or.inl ⟨by rfl, ?q5⟩) HS.out ?_
      case q5 => intro w hSw; have hc0 := hSw; go_simp; rfl
      simp only [Act.put, List.getElem_toArray, List.getElem_cons_zero, List.getElem_cons_succ, List.setIfInBounds_toArray, List.set_cons_zero, List.set_cons_succ]
      refine wpAnyL_take (i := 6) (v := ?_) rfl (by kernel_rfl) (by kernel_rfl) (by kernel_rfl) (by kernel_rfl) (by kernel_rfl) (fun _ _ _ h => h) (Or.inl ⟨by rfl, ?q6⟩) HS.out ?_
      case q6 => intro w hSw; have hc0 := hSw; go_simp; rfl
      simp only [Act.put, List.getElem_toArray, List.getElem_cons_zero, List.getElem_cons_succ, List.setIfInBounds_toArray, List.set_cons_zero, List.set_cons_succ]
      refine wpAnyL_take (i := 7) (v := ?_) rfl (by kernel_rfl) (by kernel_rfl) (by kernel_rfl) (by kernel_rfl) (by kernel_rfl) (fun _ _ _ h => h) (Or.inl ⟨by rfl, ?q7⟩) HS.out ?_
      case q7 => intro w hSw; have hc0 := hSw; go_simp; rfl
      simp only [Act.put, List.getElem_toArray, List.getElem_cons_zero, List.getElem_cons_succ, List.setIfInBounds_toArray, List.set_cons_zero, List.set_cons_succ]
      refine wpAnyL_take (i := 8) (v := ?_) rfl (by kernel_rfl) (by kernel_rfl) (by kernel_rfl) (by kernel_rfl) (by kernel_rfl) (fun _ _ _ h => h) (Or.inl ⟨by rfl, ?q8⟩) HS.out ?_
      case q8 => intro w hSw; have hc0 := hSw; go_simp; rfl
      simp only [Act.put, List.getElem_toArray, List.getElem_cons_zero, List.getElem_cons_succ, List.setIfInBounds_toArray, List.set_cons_zero, List.set_cons_succ]
      refine wpAnyL_take (i := 9) rfl (by kernel_rfl) (by kernel_rfl) (by kernel_rfl) (by kernel_rfl) (by kernel_rfl) (fun _ _ _ h => h) (yieldsIf_nilM (by rfl) rfl rfl (by kernel_rfl)) HS.out ?_
      simp only [Act.put, List.getElem_toArray, List.getElem_cons_zero, List.getElem_cons_succ, List.setIfInBounds_toArray, List.set_cons_zero, List.set_cons_succ]
      refine wpAnyL_take (i := 10) (v := ?_) rfl (by kernel_rfl) (by kernel_rfl) (by kernel_rfl) (by kernel_rfl) (by kernel_rfl) (fun _ _ _ h => h) (Or.inl ⟨by rfl, ?q10⟩) HS.out ?_
      case q10 => intro w hSw; have hc0 := hSw; go_simp; rfl
      simp only [Act.put, List.getElem_toArray, List.getElem_cons_zero, List.getElem_cons_succ, List.setIfInBounds_toArray, List.set_cons_zero, List.set_cons_succ]
      refine wpAnyL_take (i := 12) (v := ?_) rfl (by kernel_rfl) (by kernel_rfl) (by kernel_rfl) (by kernel_rfl) (by kernel_rfl) (fun _ _ _ h => h) (Or.inl ⟨by rfl, ?q12⟩) HS.out ?_
      case q12 => intro w hSw; have hc0 := hSw; go_simp; rfl
      simp only [Act.put, List.getElem_toArray, List.getElem_cons_zero, List.getElem_cons_succ, List.setIfInBounds_toArray, List.set_cons_zero, List.set_cons_succ]
      refine wpAnyL_take (i := 13) rfl (by kernel_rfl) (by kernel_rfl) (by kernel_rfl) (by kernel_rfl) (by kernel_rfl) (fun _ _ _ h => h) (yieldsIf_nilM (by rfl) rfl rfl (by kernel_rfl)) HS.out ?_
      simp only [Act.put, List.getElem_toArray, List.getElem_cons_zero, List.getElem_cons_succ, List.setIfInBounds_toArray, List.set_cons_zero, List.set_cons_succ]
      refine wpAnyL_take (i := 14) (v := ?_) rfl (by kernel_rfl) (by kernel_rfl) (by kernel_rfl) (by kernel_rfl) (by kernel_rfl) (fun _ _ _ h => h) (Or.inl ⟨by rfl, ?q14⟩) HS.out ?_
      case q14 => intro w hSw; have hc0 := hSw; go_simp; rfl
      simp only [Act.put, List.getElem_toArray, List.getElem_cons_zero, List.getElem_cons_succ, List.setIfInBounds_toArray, List.set_cons_zero, List.set_cons_succ]
      refine wpAnyL_one (i := 11) (by kernel_rfl) rfl (fun K hK => ?_)
      refine wp_invM (b := false) (g := 88) (v := .agg #[]) (args := #[.agg #[], .int .u8 (x : Int), .int .u8 (y : Int)]) (by rfl) rfl rfl rfl (by go_simp) (by kernel_rfl) (by kernel_rfl) ?_
      refine CM.out.mono ?_
      rintro e w5 ⟨rfl, hb5⟩
      have hb5w : Below wr.heap.size wr w5 := (Below.refl _ wr).drew.trans hb5
      have S5 : Hid (w5.cell? ⟨b2, o2 + I, none⟩ = some (.int .u8 (y : Int))) := hid ((hb5w.cell (p := ⟨b2, o2 + I, none⟩) hb2).trans Q2.out)
      have B5 := hid hb5w
      refine ⟨_, rfl, hK.out _ _ (fun _ => S5.out) ?_⟩
      clear hK K CM hb5 hb5w HS
      have HS := S5
      try simp only [Act.put, List.getElem_toArray, List.getElem_cons_zero, List.getElem_cons_succ, List.setIfInBounds_toArray, List.set_cons_zero, List.set_cons_succ]
      refine wpAnyL_one (i := 15) (by kernel_rfl) rfl (fun K hK => ?_)
      have CA := hid (bmAdd w5 s z hs hz)
      refine wp_invM (b := false) (g := 86) (v := .agg #[]) (args := #[.agg #[], .int .u8 (s : Int), .int .u8 (z : Int)]) (by rfl) rfl rfl rfl (by go_simp) (by kernel_rfl) (by kernel_rfl) ?_
      refine CA.out.mono ?_
      rintro e w6 ⟨rfl, hb6⟩
      have hb6w : Below wr.heap.size wr w6 := B5.out.trans (hb6.mono B5.out.size)
      have S6 : Hid (w6.cell? ⟨b2, o2 + I, none⟩ = some (.int .u8 (y : Int))) := hid ((hb6w.cell (p := ⟨b2, o2 + I, none⟩) hb2).trans Q2.out)
      have B6 := hid (HB1.out.trans (hb6w.mono HB1.out.size))
      refine ⟨_, rfl, hK.out _ _ (fun _ => S6.out) ?_⟩
      clear hK K CA hb6 hb6w HS
      have HS := S6
      try simp only [Act.put, List.getElem_toArray, List.getElem_cons_zero, List.getElem_cons_succ, List.setIfInBounds_toArray, List.set_cons_zero, List.set_cons_succ]
      refine wpAnyL_one (i := 16) (by kernel_rfl) rfl (fun K hK => ?_)
      go_simp
      refine hK.out _ _ (fun e => absurd rfl e) ?_
      clear hK K
      try simp only [Act.put, List.getElem_toArray, List.getElem_cons_zero, List.getElem_cons_succ, List.setIfInBounds_toArray, List.set_cons_zero, List.set_cons_succ]
      refine wpAnyL_done (by kernel_rfl) ?_ _
      go_wp2_with fail
      exact ⟨⟨I + 1, by omega, by go_num, by rw [SU.out], B6⟩, by simp [intOf]; omega⟩
    · have hI' : I = n := by omega
      subst hI'
      go_wp2
      go_ret
      exact ⟨rfl, HB1.out⟩
theorem wanted_litC {P : Program} {ops : Array Oper} {o : Oper} {a : Act} {w w' : World} {K : Act → World → Prop} {Q : Exit → Act → World → Prop} {X : Prop} (hw : Region.wanted o (yielded ops a.tmps) = true) (t : TypeId) (len : Nat) (parts : Array (Nat × Operand)) (ho : o.op = .buildSlice t len parts) (ps : Array (Nat × Value)) (hps : (parts.map fun (i, x) => (i, a.eval x)) = ps) (v : Value)
    (hr : (Instr.buildSlice t len ps).run P w = .ok v w') (h : K (a.put o.dst v) w') : if Region.wanted o (yielded ops a.tmps) = true then Oper.wp P o a w K Q else X := by
  rw [if_pos hw]
  unfold Oper.wp execOp
  simp only [ho, Sem.run_bind, hps, hr, Result.andThen_ok]
  exact h
theorem run_lit_u8 (w : World) (x : Int) : (Instr.buildSlice 22 1 #[(0, .int .u8 x)]).run Try.prog w = .ok (.slice (some ⟨w.heap.size, 0, none⟩) 1 1) (w.alloc (.cells #[.int .u8 x] 5)) := by kernel_rfl
def colP (l : List Int) (c : Nat) : Nat → Nat → List Int
  | 0, _ => []
  | i + 1, j => if i % c = j then colP l c i j ++ [l.getD i 0] else colP l c i j
def colL (l : List Int) (c r j : Nat) : List Int := (List.range r).map fun a => l.getD (a * c + j) 0
theorem colL_len (l : List Int) (c r j : Nat) : (colL l c r j).length = r := by simp [colL]
theorem colL_get (l : List Int) (c r j a : Nat) (h : a < r) : (colL l c r j).getD a 0 = l.getD (a * c + j) 0 := by simp [colL, List.getD, h]
theorem colP_part (l : List Int) (c : Nat) (hc : 0 < c) (a : Nat) : ∀ b, b ≤ c → ∀ j, j < c → colP l c (a * c + b) j = colL l c a j ++ (if j < b then [l.getD (a * c + j) 0] else []) := by
  induction a with
  | zero =>
    intro b
    induction b with
    | zero => intro _ j _; simp [colP, colL]
    | succ b ih =>
      intro hb j hj
      have e : (0 * c + b) % c = b := by rw [Nat.zero_mul, Nat.zero_add]; exact Nat.mod_eq_of_lt (by omega)
      rw [show 0 * c + (b + 1) = (0 * c + b) + 1 by omega, colP, e, ih (by omega) j hj]
      by_cases h : b = j
      · subst h
        rw [if_pos rfl, if_neg (by omega), if_pos (by omega), List.append_nil]
      · rw [if_neg h]
        by_cases h2 : j < b
        · rw [if_pos h2, if_pos (by omega)]
        · rw [if_neg h2, if_neg (by omega)]
  | succ a iha =>
    have h0 : ∀ j, j < c → colP l c ((a + 1) * c) j = colL l c (a + 1) j := by
      intro j hj
      rw [Nat.succ_mul, iha c (Nat.le_refl _) j hj, if_pos hj]
      simp [colL, List.range_succ]
    intro b
    induction b with
    | zero => intro _ j hj; rw [Nat.add_zero, h0 j hj]; simp
    | succ b ih =>
      intro hb j hj
      have e : ((a + 1) * c + b) % c = b := by rw [Nat.mul_comm, Nat.mul_add_mod]; exact Nat.mod_eq_of_lt (by omega)
      rw [show (a + 1) * c + (b + 1) = ((a + 1) * c + b) + 1 by omega, colP, e, ih (by omega) j hj]
      by_cases h : b = j
      · subst h
        rw [if_pos rfl, if_neg (by omega), if_pos (by omega), List.append_nil]
      · rw [if_neg h]
        by_cases h2 : j < b
        · rw [if_pos h2, if_pos (by omega)]
        · rw [if_neg h2, if_neg (by omega)]
theorem colP_all (l : List Int) (c r j : Nat) (hj : j < c) : colP l c (r * c) j = colL l c r j := by
  have := colP_part l c (by omega) r 0 (Nat.zero_le _) j hj
  simpa using this
theorem colP_mem (l : List Int) (c : Nat) : ∀ i j, ∀ x ∈ colP l c i j, x ∈ l ∨ x = 0
  | 0, _, x, h => by simp [colP] at h
  | i + 1, j, x, h => by
    rw [colP] at h
    split at h
    · rcases List.mem_append.1 h with h | h
      · exact colP_mem l c i j x h
      · simp at h
        subst h
        by_cases hi : i < l.length
        · left; simp [hi]
        · right; simp [show l.length ≤ i by omega]
    · exact colP_mem l c i j x h
theorem colP_len (l : List Int) (c : Nat) : ∀ i j, (colP l c i j).length ≤ i
  | 0, _ => by simp [colP]
  | i + 1, j => by
    have := colP_len l c i j
    rw [colP]
    split
    · rw [List.length_append]; simp; omega
    · omega
structure CMx (B : Nat) (w : World) (v : Value) (R : Nat) (rs : Nat → Value) (ls : Nat → List Int) : Prop where
  o : w.ownsRow B 22 1 v R ((List.range R).map rs)
  r : ∀ i, i < R → w.ownsRow B 5 1 (rs i) (ls i).length ((ls i).map (Value.int .u8))
  d : ∀ i j, i < R → j < R → i ≠ j → (rs i).ownBlock = none ∨ (rs i).ownBlock ≠ (rs j).ownBlock
section
variable {B R : Nat} {w w' : World} {v : Value} {rs : Nat → Value} {ls : Nat → List Int}
theorem CMx.below (h : CMx B w v R rs ls) (hb : Below w.heap.size w w') : CMx B w' v R rs ls :=
  ⟨own_blkR h.o fun k e => hb.block _ (h.o.lt k e).2, fun i hi => own_blkR (h.r i hi) fun k e => hb.block _ ((h.r i hi).lt k e).2, h.d⟩
theorem CMx.top (h : CMx B w v R rs ls) (hR : 0 < R) : ∃ g c, v = .slice (some ⟨g, 0, none⟩) R c ∧ B ≤ g ∧ g < w.heap.size ∧ R ≤ c ∧ c ≤ 9223372036854775807 ∧ ∀ i, i < R → w.cell? ⟨g, i, none⟩ = some (rs i) ∧ w.frozen? ⟨g, i, none⟩ = false := by
  rcases h.o.2 with ⟨_, h0⟩ | ⟨g, cap, cur, e, hB, hh, h3, h4, h5, h6⟩
  · omega
  · unfold maxLen at h4
    refine ⟨g, cap, e, hB, (Array.getElem?_eq_some_iff.1 hh).1, h3, h4, fun i hi => ⟨?_, by simp [World.frozen?, hh]⟩⟩
    rw [cell_of_row _ _ _ _ _ _ hh]
    rw [Nat.mul_one] at h5 h6
    have : ((List.range R).map rs)[i]? = cur[i]? := by rw [← h6, List.getElem?_take, if_pos (by omega)]; simp
    rw [← this]
    simp [hi]
theorem CMx.push (h : CMx B w v R rs ls) {j gv cv : Nat} (hj : j < R) (hv : v = .slice (some ⟨gv, 0, none⟩) R cv) {v' : Value} {l' : List Int} (ho : w'.ownsRow B 5 1 v' l'.length (l'.map (Value.int .u8))) (hg : w.grownBy w' (rs j).ownBlock) (hn : v'.ownBlock = (rs j).ownBlock ∨ v'.ownBlock = some w.heap.size) :
    CMx B (w'.setCell ⟨gv, j, none⟩ v') v R (fun i => if i = j then v' else rs i) (fun i => if i = j then l' else ls i) := by
  have hvb : v.ownBlock = some gv := by rw [hv]; rfl
  have ho0 : w'.ownsRow B 22 1 v R ((List.range R).map rs) := h.o.kept hg (by
    by_cases q : (rs j).ownBlock = some gv
    · exact absurd hvb (own_nothR (h.r j hj) h.o (by decide) q)
    · right; rw [hvb]; exact fun e => q e.symm)
  have nb : ∀ k, k ≠ gv → (w'.setCell ⟨gv, j, none⟩ v').heap[k]? = w'.heap[k]? := fun k hk => heap_setCell_other _ _ _ _ (by simpa using hk)
  refine ⟨?_, fun i hi => ?_, fun a b ha hb hab => ?_⟩
  · rw [hv] at ho0 ⊢
    have h2 := (ho0.stored j v').1
    have e : ((List.range R).map rs).set j v' = (List.range R).map fun i => if i = j then v' else rs i := by
      refine List.ext_getElem (by simp) fun i h1 h2 => ?_
      simp [List.getElem_set]
      by_cases q : j = i
      · subst q; simp
      · rw [if_neg q, if_neg (fun x => q x.symm)]
    rw [← e]
    exact h2
  · by_cases e : i = j
    · simp only [if_pos e]
      refine own_blkR ho fun k q => nb k fun z => ?_
      subst z
      exact own_nothR ho ho0 (by decide) q hvb
    · simp only [if_neg e]
      have h1 := (h.r i hi).kept hg (h.d i j hi hj e)
      refine own_blkR h1 fun k q => nb k fun z => ?_
      subst z
      exact own_nothR h1 ho0 (by decide) q hvb
  · by_cases e : a = j
    · have hbj : b ≠ j := fun x => hab (e.trans x.symm)
      simp only [if_pos e, if_neg hbj]
      rcases hn with q | q
      · rw [q]
        exact h.d j b hj hb (fun x => hbj x.symm)
      · right
        rw [q]
        intro z
        have := ((h.r b hb).lt _ z.symm).2
        omega
    · simp only [if_neg e]
      by_cases e2 : b = j
      · simp only [if_pos e2]
        rcases hn with q | q
        · rw [q]
          exact h.d a j ha hj e
        · right
          rw [q]
          intro z
          have := ((h.r a ha).lt _ z).2
          omega
      · simp only [if_neg e2]
        exact h.d a b ha hb hab
theorem CMx.hl (h : CMx B w v R rs ls) (hb : ∀ i, i < R → ∀ x ∈ ls i, 0 ≤ x ∧ x < 256) (hR : 0 < R) : HL w v ((List.range R).map ls) := by
  obtain ⟨g, c, rfl, _, _, h1, h2, h3⟩ := h.top hR
  have hl : ((List.range R).map ls).length = R := by simp
  refine ⟨_, c, by rw [hl], by rw [hl]; exact h1, by unfold maxLen; exact h2, (fun e => by cases e), fun _ => ⟨g, 0, rfl, fun j hj => ?_⟩⟩
  rw [hl] at hj
  refine ⟨rs j, by rw [Nat.zero_add]; exact (h3 j hj).1, ?_⟩
  rw [show ((List.range R).map ls).getD j [] = ls j by simp [List.getD, hj]]
  exact HB.of_own (h.r j hj) (hb j hj)
end
set_option maxRecDepth 100000 in
set_option maxHeartbeats 8000000 in
theorem bcolumns_any (w : World) (g r c : Nat) (l : List Int) (h : HMt w g r c l) (hr1 : 1 ≤ r) (hr : r ≤ 256) (hc1 : 1 ≤ c) (hc : c ≤ 256) :
    Calls Try.prog 44 #[.pointer (some ⟨g, 0, none⟩), gfF] w fun e w' => ∃ v', e = .returned v' ∧ HL w' v' ((List.range c).map (colL l c r)) ∧ Below w.heap.size w w' := by
  obtain ⟨i1, hi1, hy0, hy1, hy2⟩ := info_parts info_bytes
  have hrc : r * c ≤ 65536 := Nat.mul_le_mul hr hc
  obtain ⟨hl, v0, hh, hv0⟩ := h
  have HL0 := hid hl
  have HBY := hid hv0.2
  have hgw := (Array.getElem?_eq_some_iff.1 hh).1
  have C3 : w.cell? ⟨g, 3, none⟩ = some v0 := by rw [cell_of_row _ _ _ _ _ _ hh]; rfl
  have C2 : Hid (w.cell? ⟨g, 2, none⟩ = some (.int .i64 (c : Int))) := hid (by rw [cell_of_row _ _ _ _ _ _ hh]; rfl)
  obtain ⟨p0, c0, rfl, _, _⟩ := hv0.open
  have CT := btaken_any w _ l hv0 (by omega)
  rw [hl] at CT C3
  have CT := hid CT
  obtain ⟨N, HN⟩ : ∃ N, Hid (r * c = N) := ⟨_, rfl⟩
  rw [HN.out] at CT C3 hrc
  have hcN : ¬ (c = 0) := by omega
  unfold gfF at CT ⊢
  clear hh hl hv0
  go_enter Try.func44, Try.ntmps44
  go_wp2_with fail
  refine CT.out.mono ?_
  rintro e w1 ⟨v1, rfl, ho1, hb1⟩
  obtain ⟨w3, hmk, hown, hgr⟩ := run_make_full (P := Try.prog) w1 w1.heap.size 29 22 i1 (.slice none 0 0) 1 Try.underlying29 hi1 hy0 hy1 .i64 .i64 c (by rw [hy2]; omega) (by unfold maxLen; omega) (by omega)
  have hmk2 : (Instr.makeSlice 29 (.int .i64 (c : Int)) (.int .i64 (c : Int))).run Try.prog w1 = .ok (.slice (some ⟨w1.heap.size, 0, none⟩) c c) w3 := hmk
  clear hmk
  have c2 : w1.cell? ⟨g, 2, none⟩ = some (.int .i64 (c : Int)) := (hb1.cell (p := ⟨g, 2, none⟩) hgw).trans C2.out
  have hs1 := hb1.size
  have b3 : Below w1.heap.size w1 w3 := (Below.refl _ w1).grown hgr (by omega) (fun k e => by cases e)
  obtain ⟨p1, c1, e1⟩ := own_slc ho1
  subst e1
  have H1 : Hid (HB w1 (.slice p1 N c1) l) := hid (HB.of_own (by rw [HL0.out, HN.out]; exact ho1) HBY.out)
  have B1 := hid hb1
  obtain ⟨tb, Htb⟩ : ∃ tb, Hid (w1.heap.size = tb) := ⟨_, rfl⟩
  have B3 : Hid (Below tb w1 w3) := hid (by rw [← Htb.out]; exact b3)
  have X3 : Hid (CMx tb w3 (.slice (some ⟨tb, 0, none⟩) c c) c (fun _ => .slice none 0 0) (colP l c 0)) := hid (by
    refine ⟨?_, fun i hi => World.ownsRow_nil _ _ _ _, fun i j _ _ _ => .inl rfl⟩
    have e : (madeCells (Value.slice none 0 0).cells (c * 1)).toList = (List.range c).map fun _ => Value.slice none 0 0 := by
      rw [show (Value.slice none 0 0).cells = #[Value.slice none 0 0] from rfl, toList_madeCells_one, Nat.mul_one]
      refine List.ext_getElem (by simp) fun i h1 h2 => ?_
      simp
    rw [← e, ← Htb.out]
    exact hown)
  clear ho1 hown hgr hb1 CT b3
  go_wp2_with fail
  rw [Htb.out]
  clear hmk2 c2 hs1
  go_loopw [22] (fun i wr => ∃ I : Nat, I ≤ N ∧ i = .int .i64 (I : Int) ∧ (∃ rs, Hid (CMx tb wr (.slice (some ⟨tb, 0, none⟩) c c) c rs (colP l c I))) ∧ Hid (Below tb w1 wr)) (fun i _ => N - (intOf i).toNat)
  case atStart => exact ⟨0, Nat.zero_le _, rfl, ⟨_, X3⟩, B3⟩
  case round =>
    clear X3 B3
    obtain ⟨I, hI, rfl, ⟨rs, X⟩, B⟩ := hrel
    by_cases hlt : I < N
    · have HI := hid (H1.out.below (by rw [Htb.out]; exact B.out))
      obtain ⟨bb, oo, kk, ee, _, _, hcc⟩ := HI.out.ne (by rw [HL0.out, HN.out]; omega)
      simp only [Value.slice.injEq] at ee
      obtain ⟨rfl, -, rfl⟩ := ee
      have q1 := hcc I (by rw [HL0.out, HN.out]; omega)
      obtain ⟨x, HX⟩ : ∃ x : Int, Hid (l.getD I 0 = x) := ⟨_, rfl⟩
      rw [HX.out] at q1
      have HXB : Hid (0 ≤ x ∧ x < 256) := hid (by rw [← HX.out]; exact H1.out.byte I)
      have c2 : wr.cell? ⟨g, 2, none⟩ = some (.int .i64 (c : Int)) := (B.out.cell (p := ⟨g, 2, none⟩) (by rw [← Htb.out]; exact Nat.lt_of_lt_of_le hgw B1.out.size)).trans ((B1.out.cell (p := ⟨g, 2, none⟩) hgw).trans C2.out)
      obtain ⟨j, HJ⟩ : ∃ j, Hid (I % c = j) := ⟨_, rfl⟩
      have hj : j < c := by rw [← HJ.out]; exact Nat.mod_lt _ (by omega)
      have hq : (I : Int).tmod (c : Int) = ((j : Nat) : Int) := by
        rw [Int.tmod_eq_emod_of_nonneg (by omega), ← HJ.out]
        rfl
      obtain ⟨gv, cv, ev, _, hgv, hcv1, hcv2, htop⟩ := X.out.top (by omega)
      simp only [Value.slice.injEq, Option.some.injEq, Addr.mk.injEq, and_true, true_and] at ev
      obtain ⟨rfl, rfl⟩ := ev
      have X1 := (htop j hj).1
      have FZ := hid (htop j hj).2
      obtain ⟨pj, cj, ej⟩ := own_slc (X.out.r j hj)
      obtain ⟨M, HM⟩ : ∃ x, Hid ((colP l c I j).length = x) := ⟨_, rfl⟩
      have hM : M ≤ 65536 := by rw [← HM.out]; have := colP_len l c I j; omega
      rw [HM.out] at ej
      rw [ej] at X1
      have S0 : Hid (wr.drew.cell? ⟨g, 2, none⟩ = some (.int .i64 (c : Int)) ∧ wr.drew.cell? ⟨tb, j, none⟩ = some (.slice pj M cj)) := hid ⟨c2, X1⟩
      have EJ := hid ej
      clear ej htop hcc c2 X1
      go_wp2_with fail
      refine wp_region_last (S := (fun W : World => W.cell? ⟨g, 2, none⟩ = some (.int .i64 (c : Int)) ∧ W.cell? ⟨tb, j, none⟩ = some (.slice pj M cj))) 20 (by kernel_rfl) S0.out (fun hHeld => ?_)
      have HS := hid hHeld
      clear hHeld
      change wpAnyL _ _ _ _ _ _ _ _ _ (World.drew _)
      refine wpAnyL_take (i := 0) (v := ?_) rfl (by kernel_rfl) (by kernel_rfl) (by kernel_rfl) (by kernel_rfl) (by kernel_rfl) (fun _ _ _ h => h) (Or.inl ⟨by rfl, ?q0⟩) HS.out ?_
      case q0 => intro w hSw; obtain ⟨hz0, hz1⟩ := hSw; go_simp; rfl
      simp only [Act.put, List.getElem_toArray, List.getElem_cons_zero, List.getElem_cons_succ, List.setIfInBounds_toArray, List.set_cons_zero, List.set_cons_succ]
      refine wpAnyL_take (i := 1) (v := ?_) rfl (by kernel_rfl) (by kernel_rfl) (by kernel_rfl) (by kernel_rfl) (by kernel_rfl) (fun _ _ _ h => h) (Or.inl ⟨by rfl, ?q1⟩) HS.out ?_
      case q1 => intro w hSw; obtain ⟨hz0, hz1⟩ := hSw; go_simp; rfl
      simp only [Act.put, List.getElem_toArray, List.getElem_cons_zero, List.getElem_cons_succ, List.setIfInBounds_toArray, List.set_cons_zero, List.set_cons_succ]
      refine wpAnyL_take (i := 2) (v := ?_) rfl (by kernel_rfl) (by kernel_rfl) (by kernel_rfl) (by kernel_rfl) (by kernel_rfl) (fun _ _ _ h => h) (Or.inl ⟨by rfl, ?q2⟩) HS.out ?_
      case q2 => intro w hSw; obtain ⟨hz0, hz1⟩ := hSw; go_simp; rfl
      simp only [Act.put, List.getElem_toArray, List.getElem_cons_zero, List.getElem_cons_succ, List.setIfInBounds_toArray, List.set_cons_zero, List.set_cons_succ]
      refine wpAnyL_take (i := 3) (v := ?_) rfl (by kernel_rfl) (by kernel_rfl) (by kernel_rfl) (by kernel_rfl) (by kernel_rfl) (fun _ _ _ h => h) (Or.inl ⟨by rfl, ?q3⟩) HS.out ?_
      case q3 => intro w hSw; obtain ⟨hz0, hz1⟩ := hSw; go_simp; rfl
      simp only [Act.put, List.getElem_toArray, List.getElem_cons_zero, List.getElem_cons_succ, List.setIfInBounds_toArray, List.set_cons_zero, List.set_cons_succ]
      refine wpAnyL_take (i := 4) (v := ?_) rfl (by kernel_rfl) (by kernel_rfl) (by kernel_rfl) (by kernel_rfl) (by kernel_rfl) (fun _ _ _ h => h) (Or.inl ⟨by rfl, ?q4⟩) HS.out ?_
      case q4 => intro w hSw; obtain ⟨hz0, hz1⟩ := hSw; go_simp; rfl
      simp only [Act.put, List.getElem_toArray, List.getElem_cons_zero, List.getElem_cons_succ, List.setIfInBounds_toArray, List.set_cons_zero, List.set_cons_succ]
      refine wpAnyL_take (i := 5) (v := ?_) rfl (by kernel_rfl) (by kernel_rfl) (by kernel_rfl) (by kernel_rfl) (by kernel_rfl) (fun _ _ _ h => h) (Or.inl ⟨by rfl, ?q5⟩) HS.out ?_
      case q5 => intro w hSw; obtain ⟨hz0, hz1⟩ := hSw; go_simp; rfl
      simp only [Act.put, List.getElem_toArray, List.getElem_cons_zero, List.getElem_cons_succ, List.setIfInBounds_toArray, List.set_cons_zero, List.set_cons_succ]
      refine wpAnyL_take (i := 6) (v := ?_) rfl (by kernel_rfl) (by kernel_rfl) (by kernel_rfl) (by kernel_rfl) (by kernel_rfl) (fun _ _ _ h => h) (Or.inl ⟨by rfl, ?q6⟩) HS.out ?_
      case q6 => intro w hSw; obtain ⟨hz0, hz1⟩ := hSw; go_simp; rfl
      simp only [Act.put, List.getElem_toArray, List.getElem_cons_zero, List.getElem_cons_succ, List.setIfInBounds_toArray, List.set_cons_zero, List.set_cons_succ]
      refine wpAnyL_take (i := 7) (v := ?_) rfl (by kernel_rfl) (by kernel_rfl) (by kernel_rfl) (by kernel_rfl) (by kernel_rfl) (fun _ _ _ h => h) (Or.inl ⟨by rfl, ?q7⟩) HS.out ?_
      case q7 => intro w hSw; obtain ⟨hz0, hz1⟩ := hSw; go_simp; rfl
      simp only [Act.put, List.getElem_toArray, List.getElem_cons_zero, List.getElem_cons_succ, List.setIfInBounds_toArray, List.set_cons_zero, List.set_cons_succ]
      refine wpAnyL_take (i := 8) (v := ?_) rfl (by kernel_rfl) (by kernel_rfl) (by kernel_rfl) (by kernel_rfl) (by kernel_rfl) (fun _ _ _ h => h) (Or.inl ⟨by rfl, ?q8⟩) HS.out ?_
      case q8 => intro w hSw; obtain ⟨hz0, hz1⟩ := hSw; go_simp; rfl
      simp only [Act.put, List.getElem_toArray, List.getElem_cons_zero, List.getElem_cons_succ, List.setIfInBounds_toArray, List.set_cons_zero, List.set_cons_succ]
      refine wpAnyL_take (i := 9) (v := ?_) rfl (by kernel_rfl) (by kernel_rfl) (by kernel_rfl) (by kernel_rfl) (by kernel_rfl) (fun _ _ _ h => h) (Or.inl ⟨by rfl, ?q9⟩) HS.out ?_
      case q9 => intro w hSw; obtain ⟨hz0, hz1⟩ := hSw; go_simp; rfl
      simp only [Act.put, List.getElem_toArray, List.getElem_cons_zero, List.getElem_cons_succ, List.setIfInBounds_toArray, List.set_cons_zero, List.set_cons_succ]
      refine wpAnyL_take (i := 10) (v := ?_) rfl (by kernel_rfl) (by kernel_rfl) (by kernel_rfl) (by kernel_rfl) (by kernel_rfl) (fun _ _ _ h => h) (Or.inl ⟨by rfl, ?q10⟩) HS.out ?_
      case q10 => intro w hSw; obtain ⟨hz0, hz1⟩ := hSw; go_simp; rfl
      simp only [Act.put, List.getElem_toArray, List.getElem_cons_zero, List.getElem_cons_succ, List.setIfInBounds_toArray, List.set_cons_zero, List.set_cons_succ]
      refine wpAnyL_take (i := 11) (v := ?_) rfl (by kernel_rfl) (by kernel_rfl) (by kernel_rfl) (by kernel_rfl) (by kernel_rfl) (fun _ _ _ h => h) (Or.inl ⟨by rfl, ?q11⟩) HS.out ?_
      case q11 => intro w hSw; obtain ⟨hz0, hz1⟩ := hSw; go_simp; rfl
      simp only [Act.put, List.getElem_toArray, List.getElem_cons_zero, List.getElem_cons_succ, List.setIfInBounds_toArray, List.set_cons_zero, List.set_cons_succ]
      refine wpAnyL_take (i := 12) (v := ?_) rfl (by kernel_rfl) (by kernel_rfl) (by kernel_rfl) (by kernel_rfl) (by kernel_rfl) (fun _ _ _ h => h) (Or.inl ⟨by rfl, ?q12⟩) HS.out ?_
      case q12 => intro w hSw; obtain ⟨hz0, hz1⟩ := hSw; go_simp; rfl
      simp only [Act.put, List.getElem_toArray, List.getElem_cons_zero, List.getElem_cons_succ, List.setIfInBounds_toArray, List.set_cons_zero, List.set_cons_succ]
      refine wpAnyL_take (i := 13) (v := ?_) rfl (by kernel_rfl) (by kernel_rfl) (by kernel_rfl) (by kernel_rfl) (by kernel_rfl) (fun _ _ _ h => h) (Or.inl ⟨by rfl, ?q13⟩) HS.out ?_
      case q13 => intro w hSw; obtain ⟨hz0, hz1⟩ := hSw; go_simp; rfl
      simp only [Act.put, List.getElem_toArray, List.getElem_cons_zero, List.getElem_cons_succ, List.setIfInBounds_toArray, List.set_cons_zero, List.set_cons_succ]
      refine wpAnyL_take (i := 14) (v := ?_) rfl (by kernel_rfl) (by kernel_rfl) (by kernel_rfl) (by kernel_rfl) (by kernel_rfl) (fun _ _ _ h => h) (Or.inl ⟨by rfl, ?q14⟩) HS.out ?_
      case q14 => intro w hSw; obtain ⟨hz0, hz1⟩ := hSw; go_simp; rfl
      simp only [Act.put, List.getElem_toArray, List.getElem_cons_zero, List.getElem_cons_succ, List.setIfInBounds_toArray, List.set_cons_zero, List.set_cons_succ]
      refine wpAnyL_take (i := 15) (v := ?_) rfl (by kernel_rfl) (by kernel_rfl) (by kernel_rfl) (by kernel_rfl) (by kernel_rfl) (fun _ _ _ h => h) (Or.inl ⟨by rfl, ?q15⟩) HS.out ?_
      case q15 => intro w hSw; obtain ⟨hz0, hz1⟩ := hSw; go_simp; rfl
      simp only [Act.put, List.getElem_toArray, List.getElem_cons_zero, List.getElem_cons_succ, List.setIfInBounds_toArray, List.set_cons_zero, List.set_cons_succ]
      refine wpAnyL_take (i := 16) (v := ?_) rfl (by kernel_rfl) (by kernel_rfl) (by kernel_rfl) (by kernel_rfl) (by kernel_rfl) (fun _ _ _ h => h) (Or.inl ⟨by rfl, ?q16⟩) HS.out ?_
      case q16 => intro w hSw; obtain ⟨hz0, hz1⟩ := hSw; go_simp; rfl
      simp only [Act.put, List.getElem_toArray, List.getElem_cons_zero, List.getElem_cons_succ, List.setIfInBounds_toArray, List.set_cons_zero, List.set_cons_succ]
      refine wpAnyL_one (i := 17) (by kernel_rfl) rfl (fun K hK => ?_)
      refine wanted_litC (by rfl) 22 1 _ rfl #[(0, .int .u8 x)] (by go_simp) _ (run_lit_u8 _ _) ?_
      obtain ⟨w7, HW7⟩ : ∃ y, Hid (wr.drew.alloc (.cells #[.int .u8 x] 5) = y) := ⟨_, hid rfl⟩
      have b7 : Below wr.heap.size wr w7 := by rw [← HW7.out]; exact (Below.refl _ _).drew.alloc (Nat.le_refl _) _
      have C7 : w7.cell? ⟨wr.drew.heap.size, 0, none⟩ = some (.int .u8 x) := by rw [← HW7.out, cell_of_row _ _ _ _ _ _ (heap_alloc_new wr.drew _)]; rfl
      obtain ⟨hs, HHS⟩ : ∃ y, Hid (wr.drew.heap.size = y) := ⟨_, hid rfl⟩
      rw [HHS.out] at C7
      rw [HW7.out, HHS.out]
      have H7 : Hid (HB w7 (.slice (some ⟨hs, 0, none⟩) 1 1) [x]) := hid ⟨⟨some ⟨hs, 0, none⟩, 1, rfl, by simp, by decide, (fun e => by cases e), fun _ => ⟨hs, 0, rfl, fun i hi => (by cases i with | zero => exact C7 | succ i => simp at hi)⟩⟩, fun y hy => (by simp at hy; subst hy; exact HXB.out)⟩
      have X7 := hid (X.out.below b7)
      have S7 : Hid (w7.cell? ⟨g, 2, none⟩ = some (.int .i64 (c : Int)) ∧ w7.cell? ⟨tb, j, none⟩ = some (.slice pj M cj)) := hid ⟨(b7.cell (World.block_lt_of_cell? wr _ S0.out.1)).trans S0.out.1, (b7.cell (World.block_lt_of_cell? wr _ S0.out.2)).trans S0.out.2⟩
      have B7 := hid (B.out.trans (b7.mono (Nat.le_trans (Nat.le_of_eq Htb.out.symm) B.out.size)))
      refine hK.out _ _ (fun _ => S7.out) ?_
      clear hK K HS b7 C7
      have HS := S7
      try simp only [Act.put, List.getElem_toArray, List.getElem_cons_zero, List.getElem_cons_succ, List.setIfInBounds_toArray, List.set_cons_zero, List.set_cons_succ]
      refine wpAnyL_one (i := 18) (by kernel_rfl) rfl (fun K hK => ?_)
      rw [if_pos (by rfl)]
      have O7 := X7.out.r j hj
      rw [EJ.out, HM.out] at O7
      have O7 := hid O7
      have htbs : tb ≤ w7.heap.size := Nat.le_trans (Nat.le_of_eq Htb.out.symm) B7.out.size
      refine wp_append_bytesW _ _ rfl tb _ M _ rfl O7.out _ [x] rfl H7.out (by simp; omega) htbs ?_
      intro v8 w8 ho8 hg8 hn8
      have hg8j : w7.grownBy w8 (rs j).ownBlock := by rw [EJ.out]; exact hg8
      have PU := X7.out.push hj rfl (v' := v8) (l' := colP l c I j ++ [x]) (by rw [List.length_append, HM.out, List.map_append]; exact ho8) hg8j (by rw [EJ.out]; exact hn8)
      have ntb : (rs j).ownBlock ≠ some tb := fun q => own_nothR (X7.out.r j hj) X7.out.o (by decide) q rfl
      have O8 := X7.out.o.kept hg8j (.inr fun q => ntb q.symm)
      have S8 : Hid (w8.cell? ⟨g, 2, none⟩ = some (.int .i64 (c : Int)) ∧ w8.cell? ⟨tb, j, none⟩ = some (.slice pj M cj)) := hid ⟨(World.cell?_of_block (hg8j.block g (World.block_lt_of_cell? w7 _ S7.out.1) fun q => by have h1 := ((X7.out.r j hj).lt g q.symm).1; have h2 := B1.out.size; rw [Htb.out] at h2; omega)).trans S7.out.1, by rw [O8.cellAt j (by omega), List.getElem?_map, List.getElem?_range hj, Option.map_some, EJ.out]⟩
      have F8 := hid (O8.frozenAt j)
      have B8 := hid (B7.out.grown hg8 htbs (fun q e => (O7.out.lt q e).1))
      obtain ⟨p8, c8, e8⟩ := own_slc ho8
      subst e8
      have PU := hid PU
      refine hK.out _ _ (fun _ => S8.out) ?_
      clear hK K HS ho8 hg8 hg8j O8 hn8
      have HS := S8
      try simp only [Act.put, List.getElem_toArray, List.getElem_cons_zero, List.getElem_cons_succ, List.setIfInBounds_toArray, List.set_cons_zero, List.set_cons_succ]
      refine wpAnyL_one (i := 19) (by kernel_rfl) rfl (fun K hK => ?_)
      go_simp
      refine hK.out _ _ (fun _ => S8.out) ?_
      clear hK K
      try simp only [Act.put, List.getElem_toArray, List.getElem_cons_zero, List.getElem_cons_succ, List.setIfInBounds_toArray, List.set_cons_zero, List.set_cons_succ]
      refine wpAnyL_one (i := 20) (by kernel_rfl) rfl (fun K hK => ?_)
      have cu := S8.out.2
      have fu := F8.out
      clear HS
      go_simp
      have PF : Hid (CMx tb (w8.setCell ⟨tb, j, none⟩ (.slice p8 (M + [x].length) c8)) (.slice (some ⟨tb, 0, none⟩) c c) c (fun i => if i = j then .slice p8 (M + [x].length) c8 else rs i) (colP l c (I + 1))) := hid (by
        have e : colP l c (I + 1) = fun i => if i = j then colP l c I j ++ [x] else colP l c I i := by
          funext i
          rw [colP, HJ.out, HX.out]
          by_cases q : j = i
          · subst q; simp
          · rw [if_neg q, if_neg (fun z => q z.symm)]
        rw [e]
        exact PU.out)
      have B9 : Hid (Below tb w1 (w8.setCell ⟨tb, j, none⟩ (.slice p8 (M + [x].length) c8))) := hid (B8.out.setCell (p := ⟨tb, j, none⟩) (Nat.le_refl _) _)
      refine hK.out _ _ (fun e => absurd rfl e) ?_
      clear hK K cu fu
      try simp only [Act.put, List.getElem_toArray, List.getElem_cons_zero, List.getElem_cons_succ, List.setIfInBounds_toArray, List.set_cons_zero, List.set_cons_succ]
      refine wpAnyL_done (by kernel_rfl) ?_ _
      go_wp2_with fail
      exact ⟨⟨I + 1, by omega, by go_num, ⟨_, PF⟩, B9⟩, by simp [intOf]; omega⟩
    · have hI' : I = N := by omega
      subst hI'
      go_wp2_with fail
      go_ret
      refine ⟨_, rfl, ?_, B1.out.trans (B.out.mono ?_)⟩
      · have := X.out.hl (fun i hi x hx => by
          rcases colP_mem l c _ _ x hx with q | q
          · exact HBY.out x q
          · subst q; decide) (by omega)
        rw [← HN.out] at this
        rw [show (List.range c).map (colL l c r) = (List.range c).map (colP l c (r * c)) from List.map_congr_left fun j hj => (colP_all l c r j (List.mem_range.1 hj)).symm]
        exact this
      · rw [← Htb.out]; exact B1.out.size
end Go.Proofs.Ytbiplflejijbeaa
namespace Go.Proofs.Ytbiplflejijbeaa
open Go Go.RowKit
def mulF (l1 l2 : List Int) (c1 c2 i j : Nat) : Nat := dotL (rwL l1 c1 i) (colL l2 c2 c1 j) c1
def mulP (l1 l2 : List Int) (c1 c2 i j : Nat) : List Int := catL (fun i => tbL c2 (mulF l1 l2 c1 c2 i)) i ++ tbL j (mulF l1 l2 c1 c2 i)
def mulL (l1 l2 : List Int) (r1 c1 c2 : Nat) : List Int := catL (fun i => tbL c2 (mulF l1 l2 c1 c2 i)) r1
theorem mulP_row (l1 l2 : List Int) (c1 c2 i : Nat) : mulP l1 l2 c1 c2 i c2 = mulP l1 l2 c1 c2 (i + 1) 0 := by
  unfold mulP
  rw [show catL (fun i => tbL c2 (mulF l1 l2 c1 c2 i)) (i + 1) = catL (fun i => tbL c2 (mulF l1 l2 c1 c2 i)) i ++ tbL c2 (mulF l1 l2 c1 c2 i) from rfl]
  simp [tbL]
theorem mulP_one (l1 l2 : List Int) (c1 c2 i j : Nat) : mulP l1 l2 c1 c2 i (j + 1) = mulP l1 l2 c1 c2 i j ++ [((mulF l1 l2 c1 c2 i j : Nat) : Int)] := by
  unfold mulP
  rw [List.append_assoc]
  congr 1
  simp [tbL, List.range_succ]
theorem mulP_len (l1 l2 : List Int) (c1 c2 i j : Nat) : (mulP l1 l2 c1 c2 i j).length = i * c2 + j := by
  unfold mulP
  rw [List.length_append, catL_len fun i _ => tbL_length _ _, tbL_length]
theorem mulL_len (l1 l2 : List Int) (r1 c1 c2 : Nat) : (mulL l1 l2 r1 c1 c2).length = r1 * c2 := catL_len fun i _ => tbL_length _ _
theorem mulP_end (l1 l2 : List Int) (c1 c2 i : Nat) : mulP l1 l2 c1 c2 i 0 = mulL l1 l2 i c1 c2 := by
  unfold mulP mulL
  simp [tbL]
theorem colL_byt {l : List Int} (h : ∀ x ∈ l, 0 ≤ x ∧ x < 256) (c r j : Nat) : ∀ x ∈ colL l c r j, 0 ≤ x ∧ x < 256 := fun y hy => by
  obtain ⟨a, _, rfl⟩ := List.mem_map.1 hy
  by_cases q : a * c + j < l.length
  · rw [show l.getD (a * c + j) 0 = l[a * c + j] by simp [List.getD, q]]
    exact h _ (List.getElem_mem q)
  · rw [show l.getD (a * c + j) 0 = 0 by simp [List.getD, show l.length ≤ a * c + j by omega]]
    decide
theorem mulF_lt {l1 l2 : List Int} (h1 : ∀ x ∈ l1, 0 ≤ x ∧ x < 256) (h2 : ∀ x ∈ l2, 0 ≤ x ∧ x < 256) (c1 c2 i j : Nat) : mulF l1 l2 c1 c2 i j < 256 :=
  dotL_lt (fun y hy => h1 y (List.mem_of_mem_take (List.mem_of_mem_drop hy))) (colL_byt h2 _ _ _) _
theorem mulL_byt {l1 l2 : List Int} (h1 : ∀ x ∈ l1, 0 ≤ x ∧ x < 256) (h2 : ∀ x ∈ l2, 0 ≤ x ∧ x < 256) (r1 c1 c2 : Nat) : ∀ x ∈ mulL l1 l2 r1 c1 c2, 0 ≤ x ∧ x < 256 := catL_byt fun i _ => tbL_byt _ fun j => mulF_lt h1 h2 _ _ _ _
set_option maxRecDepth 100000 in
set_option maxHeartbeats 8000000 in
theorem bmul_ok (w : World) (g1 r1 c1 : Nat) (l1 : List Int) (g2 c2 : Nat) (l2 : List Int) (h1 : HMt w g1 r1 c1 l1) (h2 : HMt w g2 c1 c2 l2) (hr1 : 1 ≤ r1) (hr : r1 ≤ 256) (hc11 : 1 ≤ c1) (hc12 : c1 ≤ 256) (hc21 : 1 ≤ c2) (hc22 : c2 ≤ 256) :
    Calls Try.prog 25 #[.pointer (some ⟨g1, 0, none⟩), .pointer (some ⟨g2, 0, none⟩)] w fun e w' => ∃ g', e = .returned (.tuple #[.pointer (some ⟨g', 0, none⟩), .int .i64 0]) ∧ HMt w' g' r1 c2 (mulL l1 l2 r1 c1 c2) ∧ Below w.heap.size w w' := by
  obtain ⟨i0, hi0, hz0, hz1, hz2⟩ := info_parts info_u8
  have HM1 := hid h1
  have HM2 := hid h2
  have CM1 := hid (bmade_any w g1 r1 c1 l1 h1)
  have CM2 := hid (bmade_any w g2 c1 c2 l2 h2)
  have CC := hid fun W (hW : Below w.heap.size w W) => bcolumns_any W g2 c1 c2 l2 (h2.below hW) hc11 hc12 hc21 hc22
  obtain ⟨_, v1, hg1, hv1⟩ := h1
  obtain ⟨hl2, v2, hg2, hv2⟩ := h2
  have HBY1 := hid hv1.2
  have HBY2 := hid hv2.2
  have hgw1 := (Array.getElem?_eq_some_iff.1 hg1).1
  have hgw2 := (Array.getElem?_eq_some_iff.1 hg2).1
  have A0 : Hid (w.cell? ⟨g1, 0, none⟩ = some (.iface 47 (.agg #[]))) := hid (by rw [cell_of_row _ _ _ _ _ _ hg1]; rfl)
  have A1 : Hid (w.cell? ⟨g1, 1, none⟩ = some (.int .i64 (r1 : Int))) := hid (by rw [cell_of_row _ _ _ _ _ _ hg1]; rfl)
  have A2 : Hid (w.cell? ⟨g1, 2, none⟩ = some (.int .i64 (c1 : Int))) := hid (by rw [cell_of_row _ _ _ _ _ _ hg1]; rfl)
  have B1 : Hid (w.cell? ⟨g2, 1, none⟩ = some (.int .i64 (c1 : Int))) := hid (by rw [cell_of_row _ _ _ _ _ _ hg2]; rfl)
  have B2 : Hid (w.cell? ⟨g2, 2, none⟩ = some (.int .i64 (c2 : Int))) := hid (by rw [cell_of_row _ _ _ _ _ _ hg2]; rfl)
  have hne : ((c1 : Int) != (c1 : Int)) = false := by simp
  have hmul : (r1 : Int) * (c2 : Int) = ((r1 * c2 : Nat) : Int) := by simp
  have hNb : r1 * c2 ≤ 65536 := Nat.mul_le_mul hr hc22
  obtain ⟨N, HN⟩ : ∃ N, Hid (r1 * c2 = N) := ⟨_, rfl⟩
  rw [HN.out] at hmul hNb
  unfold gfF at CC
  clear hg1 hv1 hg2 hv2 hl2
  go_enter Try.func25, Try.ntmps25
  go_wp2_with fail
  refine CM1.out.mono ?_
  rintro e wq ⟨rfl, hwq⟩
  rw [hwq]
  clear hwq wq CM1
  go_wp2_with fail
  refine CM2.out.mono ?_
  rintro e wq ⟨rfl, hwq⟩
  rw [hwq]
  clear hwq wq CM2
  go_wp2_with fail
  refine wp_region_held_drew (S := (fun W : World => W.cell? ⟨g1, 2, none⟩ = some (.int .i64 (c1 : Int)) ∧ W.cell? ⟨g2, 1, none⟩ = some (.int .i64 (c1 : Int)))) (by kernel_rfl) ⟨A2.out, B1.out⟩ (fun hHeld => ?_)
  have HS := hid hHeld
  clear hHeld
  change wpAnyH _ _ _ _ _ _ _ _ (World.drew _)
  refine wpAnyH_take (i := 0) (v := ?_) rfl (by kernel_rfl) (by kernel_rfl) (by kernel_rfl) (fun _ _ _ h => h) (Or.inl ⟨by rfl, ?q0⟩) HS.out ?_
  case q0 => intro w hSw; obtain ⟨hz0, hz1⟩ := hSw; go_simp; rfl
  simp only [Act.put, List.getElem_toArray, List.getElem_cons_zero, List.getElem_cons_succ, List.setIfInBounds_toArray, List.set_cons_zero, List.set_cons_succ]
  refine wpAnyH_take (i := 1) (v := ?_) rfl (by kernel_rfl) (by kernel_rfl) (by kernel_rfl) (fun _ _ _ h => h) (Or.inl ⟨by rfl, ?q1⟩) HS.out ?_
  case q1 => intro w hSw; obtain ⟨hz0, hz1⟩ := hSw; go_simp; rfl
  simp only [Act.put, List.getElem_toArray, List.getElem_cons_zero, List.getElem_cons_succ, List.setIfInBounds_toArray, List.set_cons_zero, List.set_cons_succ]
  refine wpAnyH_take (i := 2) (v := ?_) rfl (by kernel_rfl) (by kernel_rfl) (by kernel_rfl) (fun _ _ _ h => h) (Or.inl ⟨by rfl, ?q2⟩) HS.out ?_
  case q2 => intro w hSw; obtain ⟨hz0, hz1⟩ := hSw; go_simp; rfl
  simp only [Act.put, List.getElem_toArray, List.getElem_cons_zero, List.getElem_cons_succ, List.setIfInBounds_toArray, List.set_cons_zero, List.set_cons_succ]
  refine wpAnyH_take (i := 3) (v := ?_) rfl (by kernel_rfl) (by kernel_rfl) (by kernel_rfl) (fun _ _ _ h => h) (Or.inl ⟨by rfl, ?q3⟩) HS.out ?_
  case q3 => intro w hSw; obtain ⟨hz0, hz1⟩ := hSw; go_simp; rfl
  simp only [Act.put, List.getElem_toArray, List.getElem_cons_zero, List.getElem_cons_succ, List.setIfInBounds_toArray, List.set_cons_zero, List.set_cons_succ]
  refine wpAnyH_take (i := 4) (v := ?_) rfl (by kernel_rfl) (by kernel_rfl) (by kernel_rfl) (fun _ _ _ h => h) (Or.inl ⟨by rfl, ?q4⟩) HS.out ?_
  case q4 => intro w hSw; obtain ⟨hz0, hz1⟩ := hSw; go_simp; rfl
  simp only [Act.put, List.getElem_toArray, List.getElem_cons_zero, List.getElem_cons_succ, List.setIfInBounds_toArray, List.set_cons_zero, List.set_cons_succ]
  refine wpAnyH_take (i := 5) (v := ?_) rfl (by kernel_rfl) (by kernel_rfl) (by kernel_rfl) (fun _ _ _ h => h) (Or.inl ⟨by rfl, ?q5⟩) HS.out ?_
  case q5 => intro w hSw; obtain ⟨hz0, hz1⟩ := hSw; go_simp; rfl
  simp only [Act.put, List.getElem_toArray, List.getElem_cons_zero, List.getElem_cons_succ, List.setIfInBounds_toArray, List.set_cons_zero, List.set_cons_succ]
  refine wpAnyH_take (i := 6) (v := ?_) rfl (by kernel_rfl) (by kernel_rfl) (by kernel_rfl) (fun _ _ _ h => h) (Or.inl ⟨by rfl, ?q6⟩) HS.out ?_
  case q6 => intro w hSw; obtain ⟨hz0, hz1⟩ := hSw; go_simp; rfl
  simp only [Act.put, List.getElem_toArray, List.getElem_cons_zero, List.getElem_cons_succ, List.setIfInBounds_toArray, List.set_cons_zero, List.set_cons_succ]
  refine wpAnyH_take (i := 7) (v := ?_) rfl (by kernel_rfl) (by kernel_rfl) (by kernel_rfl) (fun _ _ _ h => h) (Or.inl ⟨by rfl, ?q7⟩) HS.out ?_
  case q7 => intro w hSw; obtain ⟨hz0, hz1⟩ := hSw; go_simp; rfl
  simp only [Act.put, List.getElem_toArray, List.getElem_cons_zero, List.getElem_cons_succ, List.setIfInBounds_toArray, List.set_cons_zero, List.set_cons_succ]
  refine wpAnyH_take (i := 8) (v := ?_) rfl (by kernel_rfl) (by kernel_rfl) (by kernel_rfl) (fun _ _ _ h => h) (Or.inl ⟨by rfl, ?q8⟩) HS.out ?_
  case q8 => intro w hSw; obtain ⟨hz0, hz1⟩ := hSw; go_simp; rfl
  simp only [Act.put, List.getElem_toArray, List.getElem_cons_zero, List.getElem_cons_succ, List.setIfInBounds_toArray, List.set_cons_zero, List.set_cons_succ]
  refine wpAnyH_done (by kernel_rfl) ?_ _
  obtain ⟨wd, HWD⟩ : ∃ x, Hid (w.drew = x) := ⟨_, hid rfl⟩
  have BD : Hid (Below w.heap.size w wd) := by rw [← HWD.out]; exact hid (Below.refl _ _).drew
  rw [HWD.out]
  have a0 := (BD.out.cell (p := ⟨g1, 0, none⟩) hgw1).trans A0.out
  have CC := hid (CC.out wd BD.out)
  go_wp2_with fail
  refine CC.out.mono ?_
  rintro e w3 ⟨vc, rfl, hc3, hb3⟩
  have B3 := hid (BD.out.trans (hb3.mono BD.out.size))
  have HC3 := hid hc3
  obtain ⟨bc, oc, kc, ec, hlc, hmc, hcc⟩ := hc3.ne (by simp; omega)
  rw [List.length_map, List.length_range] at ec hlc hcc
  subst ec
  unfold maxLen at hmc
  have HCC := hid hcc
  have HS0 : Hid (w3.cell? ⟨g1, 1, none⟩ = some (.int .i64 (r1 : Int)) ∧ w3.cell? ⟨g2, 2, none⟩ = some (.int .i64 (c2 : Int))) := hid ⟨(B3.out.cell (p := ⟨g1, 1, none⟩) hgw1).trans A1.out, (B3.out.cell (p := ⟨g2, 2, none⟩) hgw2).trans B2.out⟩
  clear hc3 hb3 hcc CC a0
  go_wp2_with fail
  refine wp_region_held_drew (S := (fun W : World => W.cell? ⟨g1, 1, none⟩ = some (.int .i64 (r1 : Int)) ∧ W.cell? ⟨g2, 2, none⟩ = some (.int .i64 (c2 : Int)))) (by kernel_rfl) HS0.out (fun hHeld => ?_)
  have HS := hid hHeld
  clear hHeld
  change wpAnyH _ _ _ _ _ _ _ _ (World.drew _)
  refine wpAnyH_take (i := 0) (v := ?_) rfl (by kernel_rfl) (by kernel_rfl) (by kernel_rfl) (fun _ _ _ h => h) (Or.inl ⟨by rfl, ?q0⟩) HS.out ?_
  case q0 => intro w hSw; obtain ⟨hz0, hz1⟩ := hSw; go_simp; rfl
  simp only [Act.put, List.getElem_toArray, List.getElem_cons_zero, List.getElem_cons_succ, List.setIfInBounds_toArray, List.set_cons_zero, List.set_cons_succ]
  refine wpAnyH_take (i := 1) (v := ?_) rfl (by kernel_rfl) (by kernel_rfl) (by kernel_rfl) (fun _ _ _ h => h) (Or.inl ⟨by rfl, ?q1⟩) HS.out ?_
  case q1 => intro w hSw; obtain ⟨hz0, hz1⟩ := hSw; go_simp; rfl
  simp only [Act.put, List.getElem_toArray, List.getElem_cons_zero, List.getElem_cons_succ, List.setIfInBounds_toArray, List.set_cons_zero, List.set_cons_succ]
  refine wpAnyH_take (i := 2) (v := ?_) rfl (by kernel_rfl) (by kernel_rfl) (by kernel_rfl) (fun _ _ _ h => h) (Or.inl ⟨by rfl, ?q2⟩) HS.out ?_
  case q2 => intro w hSw; obtain ⟨hz0, hz1⟩ := hSw; go_simp; rfl
  simp only [Act.put, List.getElem_toArray, List.getElem_cons_zero, List.getElem_cons_succ, List.setIfInBounds_toArray, List.set_cons_zero, List.set_cons_succ]
  refine wpAnyH_take (i := 3) (v := ?_) rfl (by kernel_rfl) (by kernel_rfl) (by kernel_rfl) (fun _ _ _ h => h) (Or.inl ⟨by rfl, ?q3⟩) HS.out ?_
  case q3 => intro w hSw; obtain ⟨hz0, hz1⟩ := hSw; go_simp; rfl
  simp only [Act.put, List.getElem_toArray, List.getElem_cons_zero, List.getElem_cons_succ, List.setIfInBounds_toArray, List.set_cons_zero, List.set_cons_succ]
  refine wpAnyH_take (i := 4) (v := ?_) rfl (by kernel_rfl) (by kernel_rfl) (by kernel_rfl) (fun _ _ _ h => h) (Or.inl ⟨by rfl, ?q4⟩) HS.out ?_
  case q4 => intro w hSw; obtain ⟨hz0, hz1⟩ := hSw; go_simp; rfl
  simp only [Act.put, List.getElem_toArray, List.getElem_cons_zero, List.getElem_cons_succ, List.setIfInBounds_toArray, List.set_cons_zero, List.set_cons_succ]
  refine wpAnyH_take (i := 5) (v := ?_) rfl (by kernel_rfl) (by kernel_rfl) (by kernel_rfl) (fun _ _ _ h => h) (Or.inl ⟨by rfl, ?q5⟩) HS.out ?_
  case q5 => intro w hSw; obtain ⟨hz0, hz1⟩ := hSw; go_simp; rfl
  simp only [Act.put, List.getElem_toArray, List.getElem_cons_zero, List.getElem_cons_succ, List.setIfInBounds_toArray, List.set_cons_zero, List.set_cons_succ]
  refine wpAnyH_take (i := 6) (v := ?_) rfl (by kernel_rfl) (by kernel_rfl) (by kernel_rfl) (fun _ _ _ h => h) (Or.inl ⟨by rfl, ?q6⟩) HS.out ?_
  case q6 => intro w hSw; obtain ⟨hz0, hz1⟩ := hSw; go_simp; rfl
  simp only [Act.put, List.getElem_toArray, List.getElem_cons_zero, List.getElem_cons_succ, List.setIfInBounds_toArray, List.set_cons_zero, List.set_cons_succ]
  refine wpAnyH_take (i := 7) (v := ?_) rfl (by kernel_rfl) (by kernel_rfl) (by kernel_rfl) (fun _ _ _ h => h) (Or.inl ⟨by rfl, ?q7⟩) HS.out ?_
  case q7 => intro w hSw; obtain ⟨hz0, hz1⟩ := hSw; go_simp; rfl
  simp only [Act.put, List.getElem_toArray, List.getElem_cons_zero, List.getElem_cons_succ, List.setIfInBounds_toArray, List.set_cons_zero, List.set_cons_succ]
  refine wpAnyH_take (i := 8) (v := ?_) rfl (by kernel_rfl) (by kernel_rfl) (by kernel_rfl) (fun _ _ _ h => h) (Or.inl ⟨by rfl, ?q8⟩) HS.out ?_
  case q8 => intro w hSw; obtain ⟨hz0, hz1⟩ := hSw; go_simp; rfl
  simp only [Act.put, List.getElem_toArray, List.getElem_cons_zero, List.getElem_cons_succ, List.setIfInBounds_toArray, List.set_cons_zero, List.set_cons_succ]
  refine wpAnyH_ready (rs := [9]) (by kernel_rfl) (by simp) ?_
  refine AllReadyH.cons rfl (fun K hK => ?_) AllReadyH.nil
  obtain ⟨w4, hmk, hown, hgr⟩ := run_make_own (P := Try.prog) w3.drew w3.heap.size 22 5 i0 (.int .u8 0) 1 Try.underlying22 hi0 hz0 hz1 .i64 .i64 N (by rw [hz2]; omega) (by unfold maxLen; omega) (Nat.le_refl _)
  have hmk2 : (Instr.makeSlice 22 (.int .i64 0) (.int .i64 (N : Int))).run Try.prog w3.drew = .ok (.slice (some ⟨w3.drew.heap.size, 0, none⟩) 0 N) w4 := hmk
  have b4 : Below w3.heap.size w3 w4 := (Below.refl _ w3).drew.grown hgr (Nat.le_refl _) (fun k e => by cases e)
  replace hK := hid hK
  obtain ⟨tb, Htb⟩ : ∃ tb, Hid (w3.heap.size = tb) := ⟨_, hid rfl⟩
  have O4 : Hid (w4.ownsRow tb 5 1 (.slice (some ⟨w3.drew.heap.size, 0, none⟩) 0 N) (0 * c2) ((mulP l1 l2 c1 c2 0 0).map (Value.int .u8))) := hid (by rw [Nat.zero_mul, ← Htb.out]; exact hown)
  have B4 : Hid (Below tb w3 w4) := hid (by rw [← Htb.out]; exact b4)
  have S4 := hid (And.intro ((b4.cell (World.block_lt_of_cell? w3 _ HS0.out.1)).trans HS0.out.1) ((b4.cell (World.block_lt_of_cell? w3 _ HS0.out.2)).trans HS0.out.2))
  obtain ⟨eb, Heb⟩ : ∃ eb, Hid (w3.drew.heap.size = eb) := ⟨_, hid rfl⟩
  rw [Heb.out] at O4 hmk2
  clear hmk hown hgr b4
  have hwN : IntKind.i64.wrap (N : Int) = (N : Int) := by rw [IntKind.wrap_i64]; omega
  rw [hwN]
  go_simp
  refine hK.out _ _ S4.out (fun _ => ?_)
  clear hK K HS hmk2
  have HS := S4
  try simp only [Act.put, List.getElem_toArray, List.getElem_cons_zero, List.getElem_cons_succ, List.setIfInBounds_toArray, List.set_cons_zero, List.set_cons_succ]
  refine wpAnyH_take (i := 10) (v := ?_) rfl (by kernel_rfl) (by kernel_rfl) (by kernel_rfl) (fun _ _ _ h => h) (Or.inl ⟨by rfl, ?q10⟩) HS.out ?_
  case q10 => intro w hSw; obtain ⟨hz0, hz1⟩ := hSw; go_simp; rfl
  simp only [Act.put, List.getElem_toArray, List.getElem_cons_zero, List.getElem_cons_succ, List.setIfInBounds_toArray, List.set_cons_zero, List.set_cons_succ]
  refine wpAnyH_done (by kernel_rfl) ?_ _
  go_wp2_with fail
  go_loopw [7, 48] (fun el i wr => ∃ I : Nat, I ≤ r1 ∧ i = .int .i64 (I : Int) ∧ Hid (wr.ownsRow tb 5 1 el (I * c2) ((mulP l1 l2 c1 c2 I 0).map (Value.int .u8))) ∧ Hid (Below tb w3 wr)) (fun _ i _ => r1 - (intOf i).toNat)
  case atStart => exact ⟨0, Nat.zero_le _, rfl, O4, B4⟩
  case round =>
    clear O4 B4 S4 HS
    obtain ⟨I, hI, rfl, HO, HQ⟩ := hrel
    by_cases hlt : I < r1
    · go_wp2_with fail
      go_loopw [7, 53] (fun el j wr => ∃ J : Nat, J ≤ c2 ∧ j = .int .i64 (J : Int) ∧ Hid (wr.ownsRow tb 5 1 el (I * c2 + J) ((mulP l1 l2 c1 c2 I J).map (Value.int .u8))) ∧ Hid (Below tb w3 wr)) (fun _ j _ => c2 - (intOf j).toNat)
      case atStart => exact ⟨0, Nat.zero_le _, rfl, HO, HQ⟩
      case round =>
        clear HO HQ
        obtain ⟨J, hJ, rfl, HO, HQ⟩ := hrel
        by_cases hlj : J < c2
        · obtain ⟨u, hu, hbu⟩ := HCC.out J hlj
          rw [show ((List.range c2).map (colL l2 c2 c1)).getD J [] = colL l2 c2 c1 J by simp [List.getD, hlj]] at hbu
          have hb3w : Below w3.heap.size w3 wr := by rw [Htb.out]; exact HQ.out
          have q1 := (hb3w.cell (World.block_lt_of_cell? w3 _ hu)).trans hu
          obtain ⟨pu, cu, eu, _, _⟩ := hbu.open
          rw [colL_len] at eu
          subst eu
          have BWr := hid (B3.out.trans (hb3w.mono B3.out.size))
          have HU := hid (hbu.below hb3w)
          have S0 : Hid (wr.drew.cell? ⟨g1, 0, none⟩ = some (.iface 47 (.agg #[]))) := hid ((BWr.out.cell (p := ⟨g1, 0, none⟩) hgw1).trans A0.out)
          obtain ⟨pe, ce, ee⟩ := own_slc HO.out
          subst ee
          obtain ⟨M, HM⟩ : ∃ x, Hid (I * c2 + J = x) := ⟨_, hid rfl⟩
          have hM : M ≤ 66000 := by
            have h1 : I * c2 ≤ 256 * 256 := Nat.mul_le_mul (by omega) hc22
            rw [← HM.out]
            omega
          rw [HM.out] at HO
          rw [HM.out]
          have CR := hid (brow_any wr.drew g1 r1 c1 l1 I (HM1.out.below BWr.out.drew) hlt hr hc11 hc12)
          obtain ⟨x, HX⟩ : ∃ x, Hid (mulF l1 l2 c1 c2 I J = x) := ⟨_, hid rfl⟩
          have CD : Hid (∀ W v, Below wr.heap.size wr W → HB W v (rwL l1 c1 I) → Calls Try.prog 45 #[.iface 47 (.agg #[]), v, .slice pu c1 cu] W fun e w' => e = .returned (.int .u8 (x : Int)) ∧ Below W.heap.size W w') := hid fun W v hW hv => by
            have := bdot_any W v (.slice pu c1 cu) (rwL l1 c1 I) (colL l2 c2 c1 J) hv (HU.out.below hW) (by rw [rwL_length HM1.out.1 hlt, colL_len])
            rw [rwL_length HM1.out.1 hlt] at this
            rw [← HX.out]
            exact this
          have hxb : x < 256 := by
            rw [← HX.out]
            exact mulF_lt HBY1.out HBY2.out _ _ _ _
          clear hu hbu
          go_wp2_with fail
          refine wp_region_held_drew (S := (fun W : World => W.cell? ⟨g1, 0, none⟩ = some (.iface 47 (.agg #[])))) (by kernel_rfl) S0.out (fun hHeld => ?_)
          have HS := hid hHeld
          clear hHeld
          change wpAnyH _ _ _ _ _ _ _ _ (World.drew _)
          refine wpAnyH_take (i := 0) (v := ?_) rfl (by kernel_rfl) (by kernel_rfl) (by kernel_rfl) (fun _ _ _ h => h) (Or.inl ⟨by rfl, ?q0⟩) HS.out ?_
          case q0 => intro w hSw; have hz0 := hSw; go_simp; rfl
          simp only [Act.put, List.getElem_toArray, List.getElem_cons_zero, List.getElem_cons_succ, List.setIfInBounds_toArray, List.set_cons_zero, List.set_cons_succ]
          refine wpAnyH_take (i := 1) (v := ?_) rfl (by kernel_rfl) (by kernel_rfl) (by kernel_rfl) (fun _ _ _ h => h) (Or.inl ⟨by rfl, ?q1⟩) HS.out ?_
          case q1 => intro w hSw; have hz0 := hSw; go_simp; rfl
          simp only [Act.put, List.getElem_toArray, List.getElem_cons_zero, List.getElem_cons_succ, List.setIfInBounds_toArray, List.set_cons_zero, List.set_cons_succ]
          refine wpAnyH_take (i := 2) (v := ?_) rfl (by kernel_rfl) (by kernel_rfl) (by kernel_rfl) (fun _ _ _ h => h) (Or.inl ⟨by rfl, ?q2⟩) HS.out ?_
          case q2 => intro w hSw; have hz0 := hSw; go_simp; rfl
          simp only [Act.put, List.getElem_toArray, List.getElem_cons_zero, List.getElem_cons_succ, List.setIfInBounds_toArray, List.set_cons_zero, List.set_cons_succ]
          refine wpAnyH_take (i := 3) (v := ?_) rfl (by kernel_rfl) (by kernel_rfl) (by kernel_rfl) (fun _ _ _ h => h) (Or.inl ⟨by rfl, ?q3⟩) HS.out ?_
          case q3 => intro w hSw; have hz0 := hSw; go_simp; rfl
          simp only [Act.put, List.getElem_toArray, List.getElem_cons_zero, List.getElem_cons_succ, List.setIfInBounds_toArray, List.set_cons_zero, List.set_cons_succ]
          refine wpAnyH_take (i := 4) (v := ?_) rfl (by kernel_rfl) (by kernel_rfl) (by kernel_rfl) (fun _ _ _ h => h) (Or.inl ⟨by rfl, ?q4⟩) HS.out ?_
          case q4 => intro w hSw; have hz0 := hSw; go_simp; rfl
          simp only [Act.put, List.getElem_toArray, List.getElem_cons_zero, List.getElem_cons_succ, List.setIfInBounds_toArray, List.set_cons_zero, List.set_cons_succ]
          refine wpAnyH_take (i := 5) (v := ?_) rfl (by kernel_rfl) (by kernel_rfl) (by kernel_rfl) (fun _ _ _ h => h) (Or.inl ⟨by rfl, ?q5⟩) HS.out ?_
          case q5 => intro w hSw; have hz0 := hSw; go_simp; rfl
          simp only [Act.put, List.getElem_toArray, List.getElem_cons_zero, List.getElem_cons_succ, List.setIfInBounds_toArray, List.set_cons_zero, List.set_cons_succ]
          refine wpAnyH_take (i := 6) (v := ?_) rfl (by kernel_rfl) (by kernel_rfl) (by kernel_rfl) (fun _ _ _ h => h) (Or.inl ⟨by rfl, ?q6⟩) HS.out ?_
          case q6 => intro w hSw; have hz0 := hSw; go_simp; rfl
          simp only [Act.put, List.getElem_toArray, List.getElem_cons_zero, List.getElem_cons_succ, List.setIfInBounds_toArray, List.set_cons_zero, List.set_cons_succ]
          refine wpAnyH_take (i := 8) (v := ?_) rfl (by kernel_rfl) (by kernel_rfl) (by kernel_rfl) (fun _ _ _ h => h) (Or.inl ⟨by rfl, ?q8⟩) HS.out ?_
          case q8 => intro w hSw; have hz0 := hSw; go_simp; rfl
          simp only [Act.put, List.getElem_toArray, List.getElem_cons_zero, List.getElem_cons_succ, List.setIfInBounds_toArray, List.set_cons_zero, List.set_cons_succ]
          refine wpAnyH_ready (rs := [7]) (by kernel_rfl) (by simp) ?_
          refine AllReadyH.cons rfl (fun K hK => ?_) AllReadyH.nil
          replace hK := hid hK
          go_simp
          refine CR.out.mono ?_
          rintro e w5 ⟨v5, rfl, hb5, hd5⟩
          have S5 : Hid (w5.cell? ⟨g1, 0, none⟩ = some (.iface 47 (.agg #[]))) := hid ((hd5.cell _).trans S0.out)
          have b5 : Below wr.heap.size wr w5 := (Below.refl _ wr).drew.trans (hd5.below _)
          have CD5 := hid (CD.out w5 v5 b5 hb5)
          have B5 := hid b5
          refine hK.out _ _ S5.out (fun _ => ?_)
          clear hK K HS CR b5 hb5 hd5
          have HS := S5
          try simp only [Act.put, List.getElem_toArray, List.getElem_cons_zero, List.getElem_cons_succ, List.setIfInBounds_toArray, List.set_cons_zero, List.set_cons_succ]
          refine wpAnyH_ready (rs := [9]) (by kernel_rfl) (by simp) ?_
          refine AllReadyH.cons rfl (fun K hK => ?_) AllReadyH.nil
          replace hK := hid hK
          go_simp
          refine CD5.out.mono ?_
          rintro e w6 ⟨rfl, hb6⟩
          have B6 := hid (B5.out.trans (hb6.mono B5.out.size))
          have S6 : Hid (w6.cell? ⟨g1, 0, none⟩ = some (.iface 47 (.agg #[]))) := hid ((hb6.cell (World.block_lt_of_cell? w5 _ S5.out)).trans S5.out)
          refine hK.out _ _ S6.out (fun _ => ?_)
          clear hK K HS CD5 hb6
          have HS := S6
          try simp only [Act.put, List.getElem_toArray, List.getElem_cons_zero, List.getElem_cons_succ, List.setIfInBounds_toArray, List.set_cons_zero, List.set_cons_succ]
          refine wpAnyH_ready (rs := [10]) (by kernel_rfl) (by simp) ?_
          refine AllReadyH.cons rfl (fun K hK => ?_) AllReadyH.nil
          replace hK := hid hK
          refine wanted_litC (by rfl) 22 1 _ rfl #[(0, .int .u8 (x : Int))] (by go_simp) _ (run_lit_u8 _ _) ?_
          obtain ⟨w7, HW7⟩ : ∃ y, Hid (w6.alloc (.cells #[.int .u8 (x : Int)] 5) = y) := ⟨_, hid rfl⟩
          have b7 : Below w6.heap.size w6 w7 := by rw [← HW7.out]; exact (Below.refl _ _).alloc (Nat.le_refl _) _
          have C7 : w7.cell? ⟨w6.heap.size, 0, none⟩ = some (.int .u8 (x : Int)) := by rw [← HW7.out, cell_of_row _ _ _ _ _ _ (heap_alloc_new w6 _)]; rfl
          obtain ⟨hs, HHS⟩ : ∃ y, Hid (w6.heap.size = y) := ⟨_, hid rfl⟩
          have B7 := hid (B6.out.trans (b7.mono B6.out.size))
          have S7 : Hid (w7.cell? ⟨g1, 0, none⟩ = some (.iface 47 (.agg #[]))) := hid ((b7.cell (World.block_lt_of_cell? w6 _ S6.out)).trans S6.out)
          rw [HHS.out] at C7
          rw [HW7.out, HHS.out]
          have H7 : Hid (HB w7 (.slice (some ⟨hs, 0, none⟩) 1 1) [(x : Int)]) := hid ⟨⟨some ⟨hs, 0, none⟩, 1, rfl, by simp, by decide, (fun e => by cases e), fun _ => ⟨hs, 0, rfl, fun i hi => (by cases i with | zero => exact C7 | succ i => simp at hi)⟩⟩, fun y hy => (by simp at hy; subst hy; omega)⟩
          refine hK.out _ _ S7.out (fun _ => ?_)
          clear hK K HS C7 b7
          have HS := S7
          try simp only [Act.put, List.getElem_toArray, List.getElem_cons_zero, List.getElem_cons_succ, List.setIfInBounds_toArray, List.set_cons_zero, List.set_cons_succ]
          refine wpAnyH_ready (rs := [11]) (by kernel_rfl) (by simp) ?_
          refine AllReadyH.cons rfl (fun K hK => ?_) AllReadyH.nil
          replace hK := hid hK
          rw [if_pos (by rfl)]
          have O7 := hid (own_below HO.out B7.out)
          have htbs : tb ≤ w7.heap.size := Nat.le_trans (Nat.le_trans (Nat.le_of_eq Htb.out.symm) HQ.out.size) B7.out.size
          refine wp_append_bytesW _ _ rfl tb _ M _ rfl O7.out _ [(x : Int)] rfl H7.out (by simp; omega) htbs ?_
          intro v8 w8 ho8 hg8 hn8
          have O8 : Hid (w8.ownsRow tb 5 1 v8 (I * c2 + (J + 1)) ((mulP l1 l2 c1 c2 I (J + 1)).map (Value.int .u8))) := hid (by
            rw [mulP_one, HX.out, List.map_append, ← Nat.add_assoc, HM.out]
            exact ho8)
          have B8 : Hid (Below tb w3 w8) := hid ((HQ.out.trans (B7.out.mono (Nat.le_trans (Nat.le_of_eq Htb.out.symm) HQ.out.size))).grown hg8 htbs (fun q e => (O7.out.lt q e).1))
          have S8 : Hid (w8.cell? ⟨g1, 0, none⟩ = some (.iface 47 (.agg #[]))) := hid ((World.cell?_of_block (hg8.block g1 (World.block_lt_of_cell? w7 _ S7.out) fun q => by have h1 := (O7.out.lt g1 q.symm).1; have h2 := B3.out.size; rw [Htb.out] at h2; omega)).trans S7.out)
          refine hK.out _ _ S8.out (fun _ => ?_)
          clear hK K HS ho8 hg8 hn8
          have HS := S8
          try simp only [Act.put, List.getElem_toArray, List.getElem_cons_zero, List.getElem_cons_succ, List.setIfInBounds_toArray, List.set_cons_zero, List.set_cons_succ]
          refine wpAnyH_take (i := 12) (v := ?_) rfl (by kernel_rfl) (by kernel_rfl) (by kernel_rfl) (fun _ _ _ h => h) (Or.inl ⟨by rfl, ?q12⟩) HS.out ?_
          case q12 => intro w hSw; have hz0 := hSw; go_simp; rfl
          simp only [Act.put, List.getElem_toArray, List.getElem_cons_zero, List.getElem_cons_succ, List.setIfInBounds_toArray, List.set_cons_zero, List.set_cons_succ]
          refine wpAnyH_done (by kernel_rfl) ?_ _
          go_wp2_with fail
          exact ⟨⟨J + 1, by omega, by go_num, O8, B8⟩, by simp [intOf]; omega⟩
        · have hJ' : J = c2 := by omega
          subst hJ'
          go_wp2_with fail
          exact ⟨⟨I + 1, by omega, by go_num, hid (by rw [← mulP_row, Nat.succ_mul]; exact HO.out), HQ⟩, by simp [intOf]; omega⟩
    · have hI' : I = r1 := by omega
      subst hI'
      obtain ⟨pe, ce, ee⟩ := own_slc HO.out
      subst ee
      rw [HN.out] at HO
      rw [HN.out]
      have BWr := hid (B3.out.trans ((show Below w3.heap.size w3 wr by rw [Htb.out]; exact HQ.out).mono B3.out.size))
      have S9 : Hid (wr.drew.cell? ⟨g1, 0, none⟩ = some (.iface 47 (.agg #[])) ∧ wr.drew.cell? ⟨g1, 1, none⟩ = some (.int .i64 (I : Int)) ∧ wr.drew.cell? ⟨g2, 2, none⟩ = some (.int .i64 (c2 : Int))) := hid ⟨(BWr.out.cell (p := ⟨g1, 0, none⟩) hgw1).trans A0.out, (BWr.out.cell (p := ⟨g1, 1, none⟩) hgw1).trans A1.out, (BWr.out.cell (p := ⟨g2, 2, none⟩) hgw2).trans B2.out⟩
      go_wp2_with fail
      refine wp_region_held_drew (S := (fun W : World => W.cell? ⟨g1, 0, none⟩ = some (.iface 47 (.agg #[])) ∧ W.cell? ⟨g1, 1, none⟩ = some (.int .i64 (I : Int)) ∧ W.cell? ⟨g2, 2, none⟩ = some (.int .i64 (c2 : Int)))) (by kernel_rfl) S9.out (fun hHeld => ?_)
      have HS := hid hHeld
      clear hHeld
      change wpAnyH _ _ _ _ _ _ _ _ (World.drew _)
      refine wpAnyH_take (i := 0) (v := ?_) rfl (by kernel_rfl) (by kernel_rfl) (by kernel_rfl) (fun _ _ _ h => h) (Or.inl ⟨by rfl, ?q0⟩) HS.out ?_
      case q0 => intro w hSw; obtain ⟨hz0, hz1, hz2⟩ := hSw; go_simp; rfl
      simp only [Act.put, List.getElem_toArray, List.getElem_cons_zero, List.getElem_cons_succ, List.setIfInBounds_toArray, List.set_cons_zero, List.set_cons_succ]
      refine wpAnyH_take (i := 1) (v := ?_) rfl (by kernel_rfl) (by kernel_rfl) (by kernel_rfl) (fun _ _ _ h => h) (Or.inl ⟨by rfl, ?q1⟩) HS.out ?_
      case q1 => intro w hSw; obtain ⟨hz0, hz1, hz2⟩ := hSw; go_simp; rfl
      simp only [Act.put, List.getElem_toArray, List.getElem_cons_zero, List.getElem_cons_succ, List.setIfInBounds_toArray, List.set_cons_zero, List.set_cons_succ]
      refine wpAnyH_take (i := 2) (v := ?_) rfl (by kernel_rfl) (by kernel_rfl) (by kernel_rfl) (fun _ _ _ h => h) (Or.inl ⟨by rfl, ?q2⟩) HS.out ?_
      case q2 => intro w hSw; obtain ⟨hz0, hz1, hz2⟩ := hSw; go_simp; rfl
      simp only [Act.put, List.getElem_toArray, List.getElem_cons_zero, List.getElem_cons_succ, List.setIfInBounds_toArray, List.set_cons_zero, List.set_cons_succ]
      refine wpAnyH_take (i := 3) (v := ?_) rfl (by kernel_rfl) (by kernel_rfl) (by kernel_rfl) (fun _ _ _ h => h) (Or.inl ⟨by rfl, ?q3⟩) HS.out ?_
      case q3 => intro w hSw; obtain ⟨hz0, hz1, hz2⟩ := hSw; go_simp; rfl
      simp only [Act.put, List.getElem_toArray, List.getElem_cons_zero, List.getElem_cons_succ, List.setIfInBounds_toArray, List.set_cons_zero, List.set_cons_succ]
      refine wpAnyH_take (i := 4) (v := ?_) rfl (by kernel_rfl) (by kernel_rfl) (by kernel_rfl) (fun _ _ _ h => h) (Or.inl ⟨by rfl, ?q4⟩) HS.out ?_
      case q4 => intro w hSw; obtain ⟨hz0, hz1, hz2⟩ := hSw; go_simp; rfl
      simp only [Act.put, List.getElem_toArray, List.getElem_cons_zero, List.getElem_cons_succ, List.setIfInBounds_toArray, List.set_cons_zero, List.set_cons_succ]
      refine wpAnyH_take (i := 5) (v := ?_) rfl (by kernel_rfl) (by kernel_rfl) (by kernel_rfl) (fun _ _ _ h => h) (Or.inl ⟨by rfl, ?q5⟩) HS.out ?_
      case q5 => intro w hSw; obtain ⟨hz0, hz1, hz2⟩ := hSw; go_simp; rfl
      simp only [Act.put, List.getElem_toArray, List.getElem_cons_zero, List.getElem_cons_succ, List.setIfInBounds_toArray, List.set_cons_zero, List.set_cons_succ]
      refine wpAnyH_take (i := 6) (v := ?_) rfl (by kernel_rfl) (by kernel_rfl) (by kernel_rfl) (fun _ _ _ h => h) (Or.inl ⟨by rfl, ?q6⟩) HS.out ?_
      case q6 => intro w hSw; obtain ⟨hz0, hz1, hz2⟩ := hSw; go_simp; rfl
      simp only [Act.put, List.getElem_toArray, List.getElem_cons_zero, List.getElem_cons_succ, List.setIfInBounds_toArray, List.set_cons_zero, List.set_cons_succ]
      refine wpAnyH_take (i := 7) (v := ?_) rfl (by kernel_rfl) (by kernel_rfl) (by kernel_rfl) (fun _ _ _ h => h) (Or.inl ⟨by rfl, ?q7⟩) HS.out ?_
      case q7 => intro w hSw; obtain ⟨hz0, hz1, hz2⟩ := hSw; go_simp; rfl
      simp only [Act.put, List.getElem_toArray, List.getElem_cons_zero, List.getElem_cons_succ, List.setIfInBounds_toArray, List.set_cons_zero, List.set_cons_succ]
      refine wpAnyH_take (i := 8) (v := ?_) rfl (by kernel_rfl) (by kernel_rfl) (by kernel_rfl) (fun _ _ _ h => h) (Or.inl ⟨by rfl, ?q8⟩) HS.out ?_
      case q8 => intro w hSw; obtain ⟨hz0, hz1, hz2⟩ := hSw; go_simp; rfl
      simp only [Act.put, List.getElem_toArray, List.getElem_cons_zero, List.getElem_cons_succ, List.setIfInBounds_toArray, List.set_cons_zero, List.set_cons_succ]
      refine wpAnyH_take (i := 9) (v := ?_) rfl (by kernel_rfl) (by kernel_rfl) (by kernel_rfl) (fun _ _ _ h => h) (Or.inl ⟨by rfl, ?q9⟩) HS.out ?_
      case q9 => intro w hSw; obtain ⟨hz0, hz1, hz2⟩ := hSw; go_simp; rfl
      simp only [Act.put, List.getElem_toArray, List.getElem_cons_zero, List.getElem_cons_succ, List.setIfInBounds_toArray, List.set_cons_zero, List.set_cons_succ]
      refine wpAnyH_take (i := 10) (v := ?_) rfl (by kernel_rfl) (by kernel_rfl) (by kernel_rfl) (fun _ _ _ h => h) (Or.inl ⟨by rfl, ?q10⟩) HS.out ?_
      case q10 => intro w hSw; obtain ⟨hz0, hz1, hz2⟩ := hSw; go_simp; rfl
      simp only [Act.put, List.getElem_toArray, List.getElem_cons_zero, List.getElem_cons_succ, List.setIfInBounds_toArray, List.set_cons_zero, List.set_cons_succ]
      refine wpAnyH_take (i := 11) (v := ?_) rfl (by kernel_rfl) (by kernel_rfl) (by kernel_rfl) (fun _ _ _ h => h) (Or.inl ⟨by rfl, ?q11⟩) HS.out ?_
      case q11 => intro w hSw; obtain ⟨hz0, hz1, hz2⟩ := hSw; go_simp; rfl
      simp only [Act.put, List.getElem_toArray, List.getElem_cons_zero, List.getElem_cons_succ, List.setIfInBounds_toArray, List.set_cons_zero, List.set_cons_succ]
      refine wpAnyH_take (i := 12) (v := ?_) rfl (by kernel_rfl) (by kernel_rfl) (by kernel_rfl) (fun _ _ _ h => h) (Or.inl ⟨by rfl, ?q12⟩) HS.out ?_
      case q12 => intro w hSw; obtain ⟨hz0, hz1, hz2⟩ := hSw; go_simp; rfl
      simp only [Act.put, List.getElem_toArray, List.getElem_cons_zero, List.getElem_cons_succ, List.setIfInBounds_toArray, List.set_cons_zero, List.set_cons_succ]
      refine wpAnyH_take (i := 13) (v := ?_) rfl (by kernel_rfl) (by kernel_rfl) (by kernel_rfl) (fun _ _ _ h => h) (Or.inl ⟨by rfl, ?q13⟩) HS.out ?_
      case q13 => intro w hSw; obtain ⟨hz0, hz1, hz2⟩ := hSw; go_simp; rfl
      simp only [Act.put, List.getElem_toArray, List.getElem_cons_zero, List.getElem_cons_succ, List.setIfInBounds_toArray, List.set_cons_zero, List.set_cons_succ]
      refine wpAnyH_ready (rs := [14]) (by kernel_rfl) (by simp) ?_
      refine AllReadyH.cons rfl (fun K hK => ?_) AllReadyH.nil
      replace hK := hid hK
      go_simp
      obtain ⟨w9, HW9⟩ : ∃ y, Hid ((wr.alloc (.cells #[.iface 47 (.agg #[]), .int .i64 (I : Int), .int .i64 (c2 : Int), .slice pe N ce] 71)).drew = y) := ⟨_, hid rfl⟩
      have b9 : Below wr.heap.size wr w9 := by rw [← HW9.out]; exact ((Below.refl _ wr).alloc (Nat.le_refl _) _).drew
      have P9 : Hid (w9.heap[wr.heap.size]? = some (.cells #[.iface 47 (.agg #[]), .int .i64 (I : Int), .int .i64 (c2 : Int), .slice pe N ce] 71 (0, 0))) := by rw [← HW9.out]; exact hid (heap_alloc_new wr _)
      have M9 : Hid (HMt w9 wr.heap.size I c2 (mulL l1 l2 I c1 c2)) := hid (by
        refine ⟨mulL_len _ _ _ _ _, _, P9.out, ?_⟩
        have := HO.out
        rw [mulP_end] at this
        rw [← HN.out, ← mulL_len l1 l2 I c1 c2] at this ⊢
        exact (HB.of_own this (mulL_byt HBY1.out HBY2.out _ _ _)).below b9)
      have B9 := hid (BWr.out.trans (b9.mono BWr.out.size))
      have S9b := hid (And.intro ((b9.cell (World.block_lt_of_cell? wr _ S9.out.1)).trans S9.out.1) (And.intro ((b9.cell (World.block_lt_of_cell? wr _ S9.out.2.1)).trans S9.out.2.1) ((b9.cell (World.block_lt_of_cell? wr _ S9.out.2.2)).trans S9.out.2.2)))
      rw [HW9.out]
      obtain ⟨gp, HGP⟩ : ∃ y, Hid (wr.heap.size = y) := ⟨_, hid rfl⟩
      rw [HGP.out] at M9 ⊢
      refine hK.out _ _ S9b.out (fun _ => ?_)
      clear hK K HS b9 P9
      have HS := S9b
      try simp only [Act.put, List.getElem_toArray, List.getElem_cons_zero, List.getElem_cons_succ, List.setIfInBounds_toArray, List.set_cons_zero, List.set_cons_succ]
      refine wpAnyH_take (i := 15) (v := ?_) rfl (by kernel_rfl) (by kernel_rfl) (by kernel_rfl) (fun _ _ _ h => h) (Or.inl ⟨by rfl, ?q15⟩) HS.out ?_
      case q15 => intro w hSw; obtain ⟨hz0, hz1, hz2⟩ := hSw; go_simp; rfl
      simp only [Act.put, List.getElem_toArray, List.getElem_cons_zero, List.getElem_cons_succ, List.setIfInBounds_toArray, List.set_cons_zero, List.set_cons_succ]
      refine wpAnyH_take (i := 16) (v := ?_) rfl (by kernel_rfl) (by kernel_rfl) (by kernel_rfl) (fun _ _ _ h => h) (Or.inl ⟨by rfl, ?q16⟩) HS.out ?_
      case q16 => intro w hSw; obtain ⟨hz0, hz1, hz2⟩ := hSw; go_simp; rfl
      simp only [Act.put, List.getElem_toArray, List.getElem_cons_zero, List.getElem_cons_succ, List.setIfInBounds_toArray, List.set_cons_zero, List.set_cons_succ]
      refine wpAnyH_done (by kernel_rfl) ?_ _
      go_wp2_with fail
      go_ret2
      exact ⟨gp, rfl, M9.out, B9.out⟩
set_option maxRecDepth 100000 in
set_option maxHeartbeats 4000000 in
theorem bat_ok (w : World) (g r c : Nat) (l : List Int) (i j : Nat) (h : HMt w g r c l) (hi : i < r) (hj : j < c) (hr : r ≤ 256) (hc : c ≤ 256) :
    Calls Try.prog 47 #[.pointer (some ⟨g, 0, none⟩), .int .i64 (i : Int), .int .i64 (j : Int)] w fun e w' => e = .returned (.tuple #[.int .u8 ((rwL l c i).getD j 0), .int .i64 0]) ∧ Dr w w' := by
  have CM := hid (bmade_any w g r c l h)
  have CW1 := hid (within_ok w i r hi)
  have CW2 := hid (within_ok w j c hj)
  have CR := hid (brow_any w g r c l i h hi hr (by omega) hc)
  have hlr := hid (rwL_length h.1 hi)
  obtain ⟨_, v, hg, _⟩ := h
  have h1 : w.cell? ⟨g, 1, none⟩ = some (.int .i64 (r : Int)) := (cell_of_row w g 1 _ _ _ hg).trans rfl
  have h2 : w.cell? ⟨g, 2, none⟩ = some (.int .i64 (c : Int)) := (cell_of_row w g 2 _ _ _ hg).trans rfl
  clear hg
  go_enter Try.func47, Try.ntmps47
  go_wp2_with fail
  refine CM.out.mono ?_
  rintro e wq ⟨rfl, hwq⟩
  rw [hwq]
  clear hwq wq
  go_wp2_with fail
  refine CW1.out.mono ?_
  rintro e wq ⟨rfl, hwq⟩
  rw [hwq]
  clear hwq wq
  go_wp2_with fail
  refine CW2.out.mono ?_
  rintro e wq ⟨rfl, hwq⟩
  rw [hwq]
  clear hwq wq
  go_wp2_with fail
  refine CR.out.mono ?_
  rintro e w1 ⟨v1, rfl, hb1, hd1⟩
  have D1 := hid hd1
  obtain ⟨b1, o1, c1, e1, hlc, hm1, hcc⟩ := hb1.ne (by rw [hlr.out]; omega)
  rw [hlr.out] at e1 hlc
  subst e1
  have q1 := hcc j (by rw [hlr.out]; omega)
  unfold maxLen at hm1
  clear hcc hb1 hd1 CR
  go_wp2_with fail
  go_ret2
  exact ⟨rfl, D1.out⟩
set_option maxRecDepth 100000 in
set_option maxHeartbeats 4000000 in
theorem brsrow_ok (w : World) (g r c : Nat) (l : List Int) (i : Nat) (h : HMt w g r c l) (hi : i < r) (hr : r ≤ 256) (hc1 : 1 ≤ c) (hc : c ≤ 256) :
    Calls Try.prog 27 #[.pointer (some ⟨g, 0, none⟩), .int .i64 (i : Int)] w fun e w' => ∃ v', e = .returned v' ∧ w'.ownsRow w.heap.size 5 1 v' c ((rwL l c i).map (Value.int .u8)) ∧ Below w.heap.size w w' := by
  obtain ⟨i0, hi0, hz0, hz1, hz2⟩ := info_parts info_u8
  have H := hid h
  have CC := hid (bcols_any w g r c l h)
  have HLR := hid (rwL_length h.1 hi)
  have HBY : Hid (∀ x ∈ rwL l c i, 0 ≤ x ∧ x < 256) := hid fun x hx => by
    obtain ⟨_, v, _, hb⟩ := h
    exact hb.2 x (List.mem_of_mem_take (List.mem_of_mem_drop hx))
  obtain ⟨R, HR⟩ : ∃ R, Hid (rwL l c i = R) := ⟨_, rfl⟩
  rw [HR.out] at HLR HBY
  rw [HR.out]
  clear h
  go_enter Try.func27, Try.ntmps27
  go_wp2_with fail
  refine CC.out.mono ?_
  rintro e wq ⟨rfl, hwq⟩
  rw [hwq]
  clear hwq wq
  obtain ⟨w3, hmk, hown, hgr⟩ := run_make_full (P := Try.prog) w w.heap.size 22 5 i0 (.int .u8 0) 1 Try.underlying22 hi0 hz0 hz1 .i64 .i64 c (by rw [hz2]; omega) (by unfold maxLen; omega) (by omega)
  have hmk2 : (Instr.makeSlice 22 (.int .i64 (c : Int)) (.int .i64 (c : Int))).run Try.prog w = .ok (.slice (some ⟨w.heap.size, 0, none⟩) c c) w3 := hmk
  clear hmk
  have B3 : Hid (Below w.heap.size w w3) := ((Below.refl _ w).grown hgr (by omega) (fun k e => by cases e))
  have HO3 : Hid (w3.ownsRow w.heap.size 5 1 (.slice (some ⟨w.heap.size, 0, none⟩) c c) c ((partTo R 0).map (Value.int .u8))) := by
    have e : (madeCells (Value.int IntKind.u8 0).cells (c * 1)).toList = (partTo R 0).map (Value.int .u8) := by
      rw [show (Value.int IntKind.u8 0).cells = #[Value.int .u8 0] from rfl, toList_madeCells_one, partTo_none, List.map_replicate, Nat.mul_one, HLR.out]
    rw [← e]
    exact hown
  clear hown hgr
  go_wp2
  clear hmk2
  obtain ⟨tb, Htb⟩ : ∃ tb, Hid (w.heap.size = tb) := ⟨_, rfl⟩
  rw [Htb.out] at HO3 B3
  rw [Htb.out]
  go_loopw [12] (fun i wr => ∃ I : Nat, I ≤ c ∧ i = .int .i64 (I : Int) ∧ Hid (wr.ownsRow tb 5 1 (.slice (some ⟨tb, 0, none⟩) c c) c ((partTo R I).map (Value.int .u8))) ∧ Hid (Below tb w wr)) (fun i _ => c - (intOf i).toNat)
  case atStart => exact ⟨0, Nat.zero_le _, rfl, HO3, B3⟩
  case round =>
    clear HO3 B3
    obtain ⟨I, hI, rfl, HO, B⟩ := hrel
    by_cases hlt : I < c
    · have AD := hid (bat_ok wr g r c l i I (H.out.below (by rw [Htb.out]; exact B.out)) hi hlt hr hc)
      have g1 : 0 ≤ R.getD I 0 ∧ R.getD I 0 < 256 := HBY.out _ (by
        rw [show R.getD I 0 = R[I]'(by rw [HLR.out]; exact hlt) by simp [List.getD, HLR.out, hlt]]
        exact List.getElem_mem _)
      rw [HR.out] at AD
      obtain ⟨x, HX⟩ : ∃ x : Int, Hid (R.getD I 0 = x) := ⟨_, hid rfl⟩
      rw [HX.out] at AD
      clear g1
      go_wp2_with fail
      refine AD.out.mono ?_
      rintro e w5 ⟨rfl, hd5⟩
      have hb5 := hd5.below wr.heap.size
      have HO5 := hid (own_below HO.out hb5)
      have B5 := hid (B.out.trans (hd5.below tb))
      have hcx := HO5.out.cellAt I (by omega)
      have hfz := HO5.out.frozenAt I
      obtain ⟨zz, hzz⟩ : ∃ zz, ((partTo R I).map (Value.int .u8))[I]? = some zz := ⟨_, List.getElem?_eq_getElem (by rw [List.length_map, partTo_length R I (by rw [HLR.out]; omega), HLR.out]; exact hlt)⟩
      rw [hzz] at hcx
      have HO2 : Hid ((w5.setCell ⟨tb, I, none⟩ (.int .u8 x)).ownsRow tb 5 1 (.slice (some ⟨tb, 0, none⟩) c c) c ((partTo R (I + 1)).map (Value.int .u8))) := by
        have h := (HO5.out.stored I (.int .u8 x)).1
        rw [← List.map_set, ← HX.out, partTo_step R I (by rw [HLR.out]; omega)] at h
        rw [← HX.out]
        exact h
      have B2 : Hid (Below tb w (w5.setCell ⟨tb, I, none⟩ (.int .u8 x))) := B5.out.setCell (p := ⟨tb, I, none⟩) (Nat.le_refl _) _
      clear hzz HO B AD hb5 hd5
      go_wp2
      exact ⟨⟨I + 1, by omega, by go_num, HO2, B2⟩, by simp [intOf]; omega⟩
    · have hI' : I = c := by omega
      have HF : Hid (wr.ownsRow tb 5 1 (.slice (some ⟨tb, 0, none⟩) c c) c (R.map (Value.int .u8))) := by
        have := HO.out
        rw [hI', ← HLR.out, partTo_all] at this
        rw [← HLR.out]
        exact this
      clear hI' HO
      go_wp2
      go_ret
      exact ⟨_, rfl, by rw [Htb.out]; exact HF.out, by rw [Htb.out]; exact B.out⟩
theorem rw_len {l : List Int} {L i : Nat} (h : i * L + L ≤ l.length) : (rwL l L i).length = L := by
  unfold rwL
  rw [List.length_drop, List.length_take]
  omega
theorem rw_get {l : List Int} {L i j : Nat} (h : i * L + L ≤ l.length) (hj : j < L) : (rwL l L i).getD j 0 = l.getD (i * L + j) 0 := by
  unfold rwL
  simp only [List.getD, List.getElem?_drop, List.getElem?_take]
  rw [if_pos (by omega)]
theorem slice_lh (w : World) (p : Option Addr) (n c a b : Nat) (h1 : a ≤ b) (h2 : b ≤ c) (hb : b ≤ 9223372036854775807) :
    (Instr.slice 22 (.slice p n c) (some (.int .i64 (a : Int))) (some (.int .i64 (b : Int))) none).run Try.prog w = .ok (.slice (if c = a then p else p.map (·.add a)) (b - a) (c - a)) w := by
  have hs : (sizeOf 5).run Try.prog w = .ok 1 w := size_u8 w
  have hel : Try.prog.elem 22 = 5 := by kernel_rfl
  have h3 := run_slice_lh (P := Try.prog) w 22 p n c (by rw [hel]; exact Try.underlying22) .i64 .i64 (a : Int) (b : Int) (by omega) (by omega) (by omega)
  rw [h3, hel, hs]
  simp only [Result.andThen_ok, sliced]
  by_cases hc : c = a
  · simp [hc]
  · simp [hc]
def evD (l : List Int) (L m : Nat) : List (List Int) := (List.range m).map fun i => rwL l L i
theorem evD_length (l : List Int) (L m : Nat) : (evD l L m).length = m := by simp [evD]
theorem evD_succ (l : List Int) (L m : Nat) : evD l L (m + 1) = evD l L m ++ [rwL l L m] := by simp [evD, List.range_succ]
theorem evD_get (l : List Int) (L m i : Nat) (h : i < m) : (evD l L m).getD i [] = rwL l L i := by simp [evD, List.getD, h]
theorem ev_le {n k i : Nat} (hi : i < k) : i * (n / k) + n / k ≤ n := by
  have h1 : (i + 1) * (n / k) ≤ k * (n / k) := Nat.mul_le_mul_right _ hi
  have h2 := Nat.mul_div_le n k
  rw [Nat.succ_mul] at h1
  omega
set_option maxRecDepth 100000 in
set_option maxHeartbeats 4000000 in
theorem even_any (w : World) (k : Nat) (v : Value) (l : List Int) (h : HB w v l) (h1 : 1 ≤ k) (hk : k ≤ 255) (hl : l.length ≤ 140737488355328) :
    Calls Try.prog 6 #[.int .i64 (k : Int), v] w fun e w' => ∃ v', e = .returned v' ∧ HL w' v' (evD l (l.length / k) k) ∧ Below w.heap.size w w' := by
  have HA := hid h
  obtain ⟨p, c, rfl, hlc, hcm⟩ := h.open
  unfold maxLen at hcm
  have hk0 : ¬ ((k : Int) = 0) := by omega
  have hq : (l.length : Int).tdiv (k : Int) = ((l.length / k : Nat) : Int) := by
    rw [Int.tdiv_eq_ediv_of_nonneg (by omega)]
    rfl
  have HLE : Hid (∀ i, i < k → i * (l.length / k) + l.length / k ≤ l.length) := hid fun i hi => ev_le hi
  obtain ⟨L, HL0⟩ : ∃ L, Hid (l.length / k = L) := ⟨_, rfl⟩
  obtain ⟨N, HN⟩ : ∃ N, Hid (l.length = N) := ⟨_, rfl⟩
  rw [HL0.out] at hq HLE
  rw [HN.out] at hq HLE hlc hl
  rw [HL0.out, HN.out]
  have hLN : L ≤ N := by rw [← HL0.out, ← HN.out]; exact Nat.div_le_self _ _
  have sz := size_u8
  clear h
  go_enter Try.func6, Try.ntmps6
  go_wp2
  go_loopw [5, 7] (fun o i wr => ∃ I : Nat, I ≤ k ∧ i = .int .i64 (I : Int) ∧ Hid (OWL w wr o (evD l L I)) ∧ Hid (Below w.heap.size w wr)) (fun _ i _ => k - (intOf i).toNat)
  case atStart => exact ⟨0, Nat.zero_le _, rfl, OWL.nil _ _, Below.refl _ _⟩
  case round =>
    obtain ⟨I, hI, rfl, HO, B⟩ := hrel
    by_cases hlt : I < k
    · have hle := HLE.out I hlt
      have hm1 : (I : Int) * (L : Int) = ((I * L : Nat) : Int) := by simp
      obtain ⟨Q, HQ⟩ : ∃ x, Hid (I * L = x) := ⟨_, rfl⟩
      rw [HQ.out] at hm1 hle
      have HSL : Hid (∃ p', (Instr.slice 22 (.slice p N c) (some (.int .i64 (Q : Int))) (some (.int .i64 ((Q : Int) + (L : Int)))) none).run Try.prog wr = .ok (.slice p' L (c - Q)) wr ∧ HB w (.slice p' L (c - Q)) (rwL l L I)) := by
        have e1 := slice_lh wr p N c Q (Q + L) (by omega) (by omega) (by omega)
        rw [Nat.add_sub_cancel_left] at e1
        have e2 := HA.out.sliced Q (Q + L) c (by omega) (by rw [HN.out]; omega) (by omega) (Nat.le_refl _)
        rw [Nat.add_sub_cancel_left] at e2
        refine hid ⟨_, by simpa using e1, ?_⟩
        unfold rwL
        rw [HQ.out]
        exact e2
      obtain ⟨p', hsl, hbs⟩ := HSL.out
      have HBS := hid hbs
      obtain ⟨xs, hrow, _⟩ := HO.out
      obtain ⟨po, co, eo⟩ := own_slc hrow
      subst eo
      rw [evD_length]
      have hsz := B.out.size
      have HES := hid (evD_succ l L I)
      have HO3 : Hid (OWL w (wr.alloc (.cells #[.slice p' L (c - Q)] 22)) (.slice po I co) (evD l L I)) := by
        have h2 := HO.out
        rw [evD_length] at h2
        exact h2.below ((Below.refl _ _).alloc (Nat.le_refl _) _)
      clear hbs hrow HSL
      go_wp2_with (at_builtin; refine wpList_append_OWL (w0 := w) rfl _ _ rfl _ _ rfl HO3.out ⟨wr.heap.size, 0, none⟩ 1 1 [_] [rwL l L I] rfl rfl rfl (cell_one_new _ _ _) ?q1 ?q2 ?q3 ?q4 ?_)
      case q1 =>
        intro j hj
        match j, hj with
        | 0, _ => exact .inr HBS.out
      case q2 => intro u hu; simp at hu; subst hu; rfl
      case q3 => rw [evD_length]; omega
      case q4 => simp; omega
      intro v' w2 ho2 hg2 hblk
      rw [← HES.out] at ho2
      have O2 := hid ho2
      have B2 : Hid (Below w.heap.size w w2) := ((B.out.alloc hsz _).grown hg2 (by simp; omega) (fun g e => (hblk g e).1))
      clear ho2 hg2 hblk hsl
      go_wp2
      exact ⟨⟨I + 1, by omega, by go_num, O2, B2⟩, by simp [intOf]; omega⟩
    · have hI' : I = k := by omega
      subst hI'
      obtain ⟨xs, hrow, _⟩ := HO.out
      obtain ⟨po, co, eo⟩ := own_slc hrow
      subst eo
      clear hrow
      go_wp2
      go_ret
      exact ⟨_, rfl, HO.out.hl B.out, B.out⟩
end Go.Proofs.Ytbiplflejijbeaa
