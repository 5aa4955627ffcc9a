/- Of the road to octetFramesUpto_holds: FramesWalk. -/
import Derived.Test.YtjmihehihjbgpaaG01
import Derived.Test.YtjmihehihjbgpaaG02
import Derived.Test.YtjmihehihjbgpaaG03
import Derived.Deep.RegionHeld
set_option linter.unusedVariables false
set_option linter.unusedSimpArgs false
namespace Go.Proofs.Ytjmihehihjbgpaa
open Go Go.RowKit
theorem below_then {a b c : World} (h1 : Below a.heap.size a b) (h2 : Below b.heap.size b c) : Below a.heap.size a c := h1.trans (h2.mono h1.size)
theorem PX.hl {B : Nat} {w : World} {v : Value} {xs : List Value} {ls : List (List Int)} (h : PX B w v xs ls) : HL w v ls := by
  obtain ⟨h1, h2, h3⟩ := h
  have h4 : PW B w v ls := ⟨xs, h1, fun j hj => ⟨h2.2.1 j (by rw [h2.1]; exact hj), h3 j hj⟩⟩
  exact h4.hl
theorem flat_geF {ls : List (List Int)} (j : Nat) : (ls.getD j []).length ≤ ls.flatten.length := by
  by_cases hj : j < ls.length
  · have h1 := flat_take_le ls (j + 1)
    rw [flat_snoc ls j hj, List.length_append] at h1
    omega
  · simp [List.getD, List.getElem?_eq_none (by omega : ls.length ≤ j)]
theorem HL.bytesF {w : World} {v : Value} {ls : List (List Int)} (h : HL w v ls) : ∀ j, ∀ x ∈ ls.getD j [], 0 ≤ x ∧ x < 256 := by
  intro j x hx
  by_cases hj : j < ls.length
  · obtain ⟨b, off, c, _, _, _, hh⟩ := h.ne (by omega)
    obtain ⟨u, _, hb⟩ := hh j hj
    exact hb.2 x hx
  · rw [show ls.getD j [] = [] by simp [List.getD, List.getElem?_eq_none (by omega : ls.length ≤ j)]] at hx
    simp at hx
theorem byt_flat {ls : List (List Int)} (h : ∀ j, ∀ x ∈ ls.getD j [], 0 ≤ x ∧ x < 256) : ∀ x ∈ ls.flatten, 0 ≤ x ∧ x < 256 := by
  intro x hx
  obtain ⟨l, hl, hxl⟩ := List.mem_flatten.1 hx
  obtain ⟨j, hj, e⟩ := List.getElem_of_mem hl
  exact h j x (by simp [List.getD, List.getElem?_eq_getElem hj, e, hxl])
theorem byt_framed {ls : List (List Int)} (h : ∀ j, ∀ x ∈ ls.getD j [], 0 ≤ x ∧ x < 256) : ∀ x ∈ framed ls, 0 ≤ x ∧ x < 256 := by
  intro x hx
  unfold framed pcs at hx
  simp only [List.mem_flatten] at hx
  obtain ⟨l, hl, hxl⟩ := hx
  simp only [List.mem_flatMap, List.mem_cons, List.not_mem_nil, or_false] at hl
  obtain ⟨m, hm, rfl | rfl⟩ := hl
  · exact bigL_byt _ _ x hxl
  · obtain ⟨j, hj, e⟩ := List.getElem_of_mem hm
    exact h j x (by simp [List.getD, List.getElem?_eq_getElem hj, e, hxl])
theorem unf_both (l : List Int) (hl : l.length ≤ 40000000000000) : ∃ (L : List (List Int)) (E : Int), L.flatten.length + 8 * L.length ≤ l.length ∧
    (∀ W u, HB W u l → Calls Try.prog 9 #[u] W fun e w' => ∃ v' xs, e = .returned (.tuple #[v', .int .i64 E]) ∧ PX W.heap.size w' v' xs L ∧ Below W.heap.size W w') ∧
    (∀ W u, HB W u l → Calls Try.prog 16 #[u] W fun e w' => ∃ v', e = .returned (.tuple #[v', .int .i64 E]) ∧ HL w' v' L ∧ Below W.heap.size W w') := by
  by_cases hx : ∃ L, Ok L ∧ framed L = l
  · obtain ⟨L, hok, hfr⟩ := hx
    refine ⟨L, 0, by rw [← framed_length, hfr]; exact Nat.le_refl _, fun W u hu => ?_, fun W u hu => ?_⟩
    · refine (unframed_apt W u l hu hl).mono ?_
      rintro e w' ⟨v', n, rfl, h, hb⟩
      rcases h with ⟨rfl, xs, ls, hp, ho, hf⟩ | ⟨rfl, rfl, hno⟩
      · have : ls = L := (framed_inj ho hok).1 (hf.trans hfr.symm)
        subst this
        exact ⟨v', xs, rfl, hp, hb⟩
      · exact absurd hfr (hno L hok)
    · refine (runframed_any W u l hu hl).mono ?_
      rintro e w' ⟨v', n, rfl, h, hb⟩
      rcases h with ⟨rfl, ls, hp, ho, hf⟩ | ⟨rfl, rfl, hno⟩
      · have : ls = L := (framed_inj ho hok).1 (hf.trans hfr.symm)
        subst this
        exact ⟨v', rfl, hp.hl hb, hb⟩
      · exact absurd hfr (hno L hok)
  · refine ⟨[], 13, by simp, fun W u hu => ?_, fun W u hu => ?_⟩
    · refine (unframed_apt W u l hu hl).mono ?_
      rintro e w' ⟨v', n, rfl, h, hb⟩
      rcases h with ⟨rfl, xs, ls, hp, ho, hf⟩ | ⟨rfl, rfl, hno⟩
      · exact absurd ⟨ls, ho, hf⟩ hx
      · exact ⟨_, [], rfl, PX.nil _ _, hb⟩
    · refine (runframed_any W u l hu hl).mono ?_
      rintro e w' ⟨v', n, rfl, h, hb⟩
      rcases h with ⟨rfl, ls, hp, ho, hf⟩ | ⟨rfl, rfl, hno⟩
      · exact absurd ⟨ls, ho, hf⟩ hx
      · exact ⟨_, rfl, (OWL.nil W w').hl hb, hb⟩
theorem slice_hC (W : World) (b n c hi : Nat) (h1 : hi ≤ c) (h2 : 0 < c) : (Instr.slice 23 (.slice (some ⟨b, 0, none⟩) n c) none (some (.int .i64 (hi : Int))) none).run Try.prog W = .ok (.slice (some ⟨b, 0, none⟩) hi c) W := by
  have elm : Try.prog.elem 23 = 5 := by kernel_rfl
  have h := run_slice_h (P := Try.prog) W 23 (some ⟨b, 0, none⟩) n c (by rw [elm]; exact Try.underlying23) .i64 (hi : Int) (by omega) (by omega)
  rw [h, elm, size_u8, Result.andThen_ok, Int.toNat_natCast]
  unfold sliced
  rw [if_neg (by omega)]
  simp [Go.WideShapes.add_plain]
theorem own_belF {a b : World} {B n : Nat} {e : TypeId} {v : Value} {xs : List Value} (h : a.ownsRow B e 1 v n xs) (hb : Below a.heap.size a b) : b.ownsRow B e 1 v n xs := own_ofL h (fun k q => hb.block k (own_atL h q).1)
theorem own_kpF {a b : World} {B C n : Nat} {e : TypeId} {v : Value} {xs : List Value} (hk : ∀ k, C ≤ k → k < a.heap.size → b.heap[k]? = a.heap[k]?) (h : a.ownsRow B e 1 v n xs) (hB : C ≤ B) : b.ownsRow B e 1 v n xs := own_ofL h (fun k q => hk k (Nat.le_trans hB (own_atL h q).2.1) (own_atL h q).1)
theorem far_ne {u v : Value} {n : Nat} (hu : ∀ g, u.ownBlock = some g → n ≤ g) (hv : ∀ g, v.ownBlock = some g → g < n) : (u.ownBlock = none ∨ u.ownBlock ≠ v.ownBlock) ∧ (v.ownBlock = none ∨ v.ownBlock ≠ u.ownBlock) := by
  cases e1 : u.ownBlock with
  | none => cases e2 : v.ownBlock <;> simp
  | some q1 =>
    cases e2 : v.ownBlock with
    | none => simp
    | some q2 =>
      have := hu q1 e1
      have := hv q2 e2
      exact ⟨.inr (by simp; omega), .inr (by simp; omega)⟩
theorem apt4 {B n1 n2 n3 : Nat} {w : World} {a b c d : Value} {la lb lc ld : List Int} (ha : w.ownsRow B 5 1 a la.length (la.map (Value.int .u8))) (hb : w.ownsRow B 5 1 b lb.length (lb.map (Value.int .u8))) (hc : w.ownsRow B 5 1 c lc.length (lc.map (Value.int .u8))) (hd : w.ownsRow B 5 1 d ld.length (ld.map (Value.int .u8)))
    (h12 : n1 ≤ n2) (h23 : n2 ≤ n3) (a1 : ∀ g, a.ownBlock = some g → g < n1) (b0 : ∀ g, b.ownBlock = some g → n1 ≤ g ∧ g < n2) (c0 : ∀ g, c.ownBlock = some g → n2 ≤ g ∧ g < n3) (d0 : ∀ g, d.ownBlock = some g → n3 ≤ g) : Apt B w [a, b, c, d] [la, lb, lc, ld] := by
  refine ⟨rfl, fun k hk => ?_, fun i j hi hj hij => ?_⟩
  · match k, hk with
    | 0, _ => exact ha
    | 1, _ => exact hb
    | 2, _ => exact hc
    | 3, _ => exact hd
  · have key : ∀ {u v : Value}, (∀ g, u.ownBlock = some g → v.ownBlock ≠ some g) → (u.ownBlock = none ∨ u.ownBlock ≠ v.ownBlock) := fun {u v} h => by
      cases e : u.ownBlock with
      | none => exact .inl rfl
      | some g => exact .inr fun x => h g e x.symm
    match i, j, hi, hj with
    | 0, 0, _, _ => exact absurd rfl hij
    | 0, 1, _, _ => exact key fun g p q => by have := a1 g p; have := b0 g q; omega
    | 0, 2, _, _ => exact key fun g p q => by have := a1 g p; have := c0 g q; omega
    | 0, 3, _, _ => exact key fun g p q => by have := a1 g p; have := d0 g q; omega
    | 1, 0, _, _ => exact key fun g p q => by have := b0 g p; have := a1 g q; omega
    | 1, 1, _, _ => exact absurd rfl hij
    | 1, 2, _, _ => exact key fun g p q => by have := b0 g p; have := c0 g q; omega
    | 1, 3, _, _ => exact key fun g p q => by have := b0 g p; have := d0 g q; omega
    | 2, 0, _, _ => exact key fun g p q => by have := c0 g p; have := a1 g q; omega
    | 2, 1, _, _ => exact key fun g p q => by have := c0 g p; have := b0 g q; omega
    | 2, 2, _, _ => exact absurd rfl hij
    | 2, 3, _, _ => exact key fun g p q => by have := c0 g p; have := d0 g q; omega
    | 3, 0, _, _ => exact key fun g p q => by have := d0 g p; have := a1 g q; omega
    | 3, 1, _, _ => exact key fun g p q => by have := d0 g p; have := b0 g q; omega
    | 3, 2, _, _ => exact key fun g p q => by have := d0 g p; have := c0 g q; omega
    | 3, 3, _, _ => exact absurd rfl hij
theorem wpList_litW {P : Program} {ops : Array Oper} {rest : List Oper} {o : Oper} {a : Act} {w w' : World} {Q : Exit → Act → World → Prop} (hw : Region.wanted o (yielded ops a.tmps) = true) (t : TypeId) (len : Nat) (parts : Array (Nat × Operand)) (ho : o.op = .buildSlice t len parts) (ps : Array (Nat × Value)) (hps : (parts.map fun (i, x) => (i, a.eval x)) = ps) (v : Value)
    (hr : (Instr.buildSlice t len ps).run P w = .ok v w') (h : wpList P ops Q rest (a.put o.dst v) w') : wpList P ops Q (o :: rest) a w := by
  refine wpList_step fun K hK => ?_
  simp only [hw, if_true]
  unfold Oper.wp execOp
  simp only [ho, Sem.run_bind, hps, hr, Result.andThen_ok]
  exact hK _ _ h
set_option maxRecDepth 100000 in
theorem run_lit22 (w : World) (a b : Option Addr) (n m i j : Nat) : (Instr.buildSlice 40 2 #[(0, .slice a n i), (1, .slice b m j)]).run Try.prog w = .ok (.slice (some ⟨w.heap.size, 0, none⟩) 2 2) (w.alloc (.cells #[.slice a n i, .slice b m j] 22)) := by kernel_rfl
set_option maxRecDepth 100000 in
theorem run_lit4 (w : World) (a b c d : Option Addr) (n m k l i j x y : Nat) : (Instr.buildSlice 22 4 #[(0, .slice a n i), (1, .slice b m j), (2, .slice c k x), (3, .slice d l y)]).run Try.prog w = .ok (.slice (some ⟨w.heap.size, 0, none⟩) 4 4) (w.alloc (.cells #[.slice a n i, .slice b m j, .slice c k x, .slice d l y] 23)) := by kernel_rfl
set_option maxRecDepth 100000 in
set_option maxHeartbeats 16000000 in
theorem frames_walk (w : World) (v u : Value) (ls : List (List Int)) (l : List Int) (h : HL w v ls) (hu : HB w u l) (h1 : ls.flatten.length + ls.length ≤ 1048576) (h2 : l.length ≤ 1048576) :
    Calls Try.prog 3 #[v, u] w fun e w' => e = .returned (.bool true) ∧ Below w.heap.size w w' := by
  have HVV := hid h
  have HUU := hid hu
  have hlb : ∀ j, (ls.getD j []).length ≤ 1048576 := fun j => Nat.le_trans (flat_geF j) (by omega)
  have HLB := hid hlb
  have HBY := hid h.bytesF
  obtain ⟨L, E, HLn, HCU, HCR⟩ : ∃ (L : List (List Int)) (E : Int), Hid _ ∧ Hid _ ∧ Hid _ := unf_both l (by omega)
  obtain ⟨p, c, e, hlc, hm⟩ := h.open
  subst e
  obtain ⟨pu, cu, e, hluc, hum⟩ := hu.open
  subst e
  clear h hu hlb
  have HFJ : Hid (ls.flatten.length ≤ 1048576) := by show _ ≤ _; omega
  have HFF : Hid ((framed ls).length ≤ 9437184) := by show _ ≤ _; rw [framed_length]; omega
  have HYJ := hid (byt_flat HBY.out)
  have HYF := hid (byt_framed HBY.out)
  obtain ⟨J, HJ⟩ : ∃ J, Hid (ls.flatten = J) := ⟨_, rfl⟩
  obtain ⟨F, HF⟩ : ∃ F, Hid (framed ls = F) := ⟨_, rfl⟩
  have CJ : Hid (∀ W v, HL W v ls → Calls Try.prog 7 #[v] W fun e w' => ∃ v', e = .returned v' ∧ w'.ownsRow W.heap.size 5 1 v' J.length (J.map (Value.int .u8)) ∧ Below W.heap.size W w') := fun W v hv => by
    have := join_any W v ls hv (by omega)
    rw [HJ.out] at this
    exact this
  have CF : Hid (∀ W v, HL W v ls → Calls Try.prog 8 #[v] W fun e w' => ∃ v', e = .returned v' ∧ w'.ownsRow W.heap.size 5 1 v' F.length (F.map (Value.int .u8)) ∧ Below W.heap.size W w') := fun W v hv => by
    have := framed_any W v ls hv (by omega)
    rw [HF.out] at this
    exact this.mono fun e w' ⟨v', q1, q2, _, q3⟩ => ⟨v', q1, q2, q3⟩
  have RJ : Hid (∀ W v, HL W v ls → Calls Try.prog 14 #[v] W fun e w' => ∃ v', e = .returned v' ∧ w'.ownsRow W.heap.size 5 1 v' J.length (J.map (Value.int .u8)) ∧ Below W.heap.size W w') := fun W v hv => by
    have := rjoin_any W v ls hv (by omega)
    rw [HJ.out] at this
    exact this
  have RF : Hid (∀ W v, HL W v ls → Calls Try.prog 15 #[v] W fun e w' => ∃ v', e = .returned v' ∧ w'.ownsRow W.heap.size 5 1 v' F.length (F.map (Value.int .u8)) ∧ Below W.heap.size W w') := fun W v hv => by
    have := rframed_any W v ls hv (by omega)
    rw [HF.out] at this
    exact this
  rw [HJ.out] at HYJ HFJ
  rw [HF.out] at HYF HFF
  have hn : ls.length ≤ 1048576 := by omega
  go_enter Try.func3, Try.ntmps3
  go_wp2_with fail
  refine (lentLists_any w _ ls HVV.out hn HLB.out).mono ?_
  rintro e1 w1 ⟨vL, vF, vE, fU, eU, rfl, hxl, hB1⟩
  have XL1 := hid hxl
  have B1 := hid hB1
  obtain ⟨pF, cF, eF, eL⟩ := hxl.2.2.2.2.2.2
  obtain ⟨pE, cE, eE⟩ := own_slice hxl.2.1
  subst eF eL eE
  have HFn : Hid (∀ k, (Value.slice pF (ls.length + 70) cF).ownBlock = some k → k < w1.heap.size) := fun k e => (hxl.1.lt k e).2
  have HEn : Hid (∀ j, j < ls.length → ∀ k, (eU.getD j undef).ownBlock = some k → k < w1.heap.size) := fun j hj k e => ((hxl.2.2.2.1.2.1 j (by have := hxl.2.2.2.1.1; simp at this; omega)).lt k e).2
  clear hxl hB1
  obtain ⟨W2, HW2⟩ : ∃ W2, Hid (w1.alloc (.cells #[.slice pF ls.length cF, .slice pF (ls.length + 70) cF, .slice pE ls.length cE] 25) = W2) := ⟨_, rfl⟩
  have K2 : Hid (W2.heap[w1.heap.size]? = some (.cells #[.slice pF ls.length cF, .slice pF (ls.length + 70) cF, .slice pE ls.length cE] 25 (0, 0))) := by rw [← HW2.out]; exact heap_alloc_new w1 _
  have HS2 : Hid (W2.heap.size = w1.heap.size + 1) := by rw [← HW2.out]; simp [Hid]
  have B2 : Hid (Below w.heap.size w W2) := by rw [← HW2.out]; exact B1.out.alloc B1.out.size _
  have XL2 : Hid (XL w.heap.size W2 (.slice pF ls.length cF) (.slice pF (ls.length + 70) cF) (.slice pE ls.length cE) fU eU ls) := by rw [← HW2.out]; exact XL1.out.away (World.grownBy_alloc w1 _ none) (fun k e => by cases e)
  have C3 := hid (lent_any W2 _ l (HUU.out.below B2.out) (by omega))
  go_wp2_with fail
  rw [HW2.out]
  refine C3.out.mono ?_
  rintro e w3 ⟨vx, rfl, hox, hB3⟩
  obtain ⟨gx, cx, ex, hgx, hgx1, hcx, hcx2, hx0, hfx⟩ := lent_part hox HUU.out.2
  subst ex
  have OX := hid hox
  have B23 := hid hB3
  have hsl := fun W => slice_hC W gx (l.length + 70) cx l.length (by omega) (by omega)
  have HX0 := hid hx0
  have HFX := hid hfx
  have K3 : Hid (w3.heap[w1.heap.size]? = some (.cells #[.slice pF ls.length cF, .slice pF (ls.length + 70) cF, .slice pE ls.length cE] 25 (0, 0))) := (hB3.block _ (by have := HS2.out; omega)).trans K2.out
  have XL3 := hid (XL2.out.away (grown_below (r := none) hB3) (fun k e => by cases e))
  have HLX3 := hid (XL3.out.hl HBY.out)
  have CC : Hid (w3.cell? ⟨w1.heap.size, 0, none⟩ = some (.slice pF ls.length cF)) := by show _ = _; rw [cell_of_row _ _ _ _ _ _ K3.out]; rfl
  have HSZ : Hid (w1.heap.size < w3.heap.size) := by have := HS2.out; have := hB3.size; show _ < _; omega
  clear hox hB3 hx0 hfx C3
  go_wp2_with fail
  refine wp_region_held_drew (S := (fun W : World => Below w3.heap.size w3 W ∧ W.cell? ⟨w1.heap.size, 0, none⟩ = some (.slice pF ls.length cF))) (by kernel_rfl) ⟨(Below.refl _ _).drew, CC.out⟩ (fun hHeld => ?_)
  have HS := hid hHeld
  clear hHeld
  change wpAnyH _ _ _ _ _ _ _ _ (World.drew _)
  refine wpAnyH_take (i := 0) (v := ?_) rfl (by kernel_rfl) (by kernel_rfl) (by kernel_rfl) (fun _ _ _ h => h) (Or.inl ⟨by rfl, ?q0⟩) HS.out ?_
  case q0 => intro w hSw; obtain ⟨_, hc0⟩ := hSw; go_simp; rfl
  simp only [Act.put, List.getElem_toArray, List.getElem_cons_zero, List.getElem_cons_succ, List.setIfInBounds_toArray, List.set_cons_zero, List.set_cons_succ]
  refine wpAnyH_take (i := 1) (v := ?_) rfl (by kernel_rfl) (by kernel_rfl) (by kernel_rfl) (fun _ _ _ h => h) (Or.inl ⟨by rfl, ?q1⟩) HS.out ?_
  case q1 => intro w hSw; obtain ⟨_, hc0⟩ := hSw; go_simp; rfl
  simp only [Act.put, List.getElem_toArray, List.getElem_cons_zero, List.getElem_cons_succ, List.setIfInBounds_toArray, List.set_cons_zero, List.set_cons_succ]
  refine wpAnyH_take (i := 3) (v := ?_) rfl (by kernel_rfl) (by kernel_rfl) (by kernel_rfl) (fun _ _ _ h => h) (Or.inl ⟨by rfl, ?q3⟩) HS.out ?_
  case q3 => intro w hSw; obtain ⟨_, hc0⟩ := hSw; go_simp; rfl
  simp only [Act.put, List.getElem_toArray, List.getElem_cons_zero, List.getElem_cons_succ, List.setIfInBounds_toArray, List.set_cons_zero, List.set_cons_succ]
  refine wpAnyH_take (i := 4) (v := ?_) rfl (by kernel_rfl) (by kernel_rfl) (by kernel_rfl) (fun _ _ _ h => h) (Or.inl ⟨by rfl, ?q4⟩) HS.out ?_
  case q4 => intro w hSw; obtain ⟨_, hc0⟩ := hSw; go_simp; rfl
  simp only [Act.put, List.getElem_toArray, List.getElem_cons_zero, List.getElem_cons_succ, List.setIfInBounds_toArray, List.set_cons_zero, List.set_cons_succ]
  refine wpAnyH_ready (rs := [2]) (by kernel_rfl) (by simp) ?_
  refine AllReadyH.cons rfl (fun K hK => ?_) AllReadyH.nil
  replace hK := hid hK
  go_simp
  refine (CJ.out _ _ (HLX3.out.below HS.out.1)).mono ?_
  rintro e w4 ⟨vj, rfl, hovj, hBw4⟩
  have Ovj := hid hovj
  have BBw4 := hid hBw4
  obtain ⟨pvj, cvj, evj⟩ := own_slcL hovj
  subst evj
  have HS2 : Hid (Below w3.heap.size w3 w4 ∧ w4.cell? ⟨w1.heap.size, 0, none⟩ = some (.slice pF ls.length cF)) := ⟨HS.out.1.trans (hBw4.mono HS.out.1.size), (hBw4.cell (p := ⟨w1.heap.size, 0, none⟩) (by have := HSZ.out; have := HS.out.1.size; simp at this ⊢; omega)).trans HS.out.2⟩
  have HSw4 := hid HS.out.1.size
  clear hovj hBw4
  refine hK.out _ _ HS2.out (fun _ => ?_)
  clear hK K
  clear HS
  have HS := HS2
  clear HS2
  try (simp only [Act.put, List.getElem_toArray, List.getElem_cons_zero, List.getElem_cons_succ, List.setIfInBounds_toArray, List.set_cons_zero, List.set_cons_succ])
  refine wpAnyH_ready (rs := [5]) (by kernel_rfl) (by simp) ?_
  refine AllReadyH.cons rfl (fun K hK => ?_) AllReadyH.nil
  replace hK := hid hK
  go_simp
  refine (CJ.out _ _ (HLX3.out.below HS.out.1)).mono ?_
  rintro e w5 ⟨vk, rfl, hovk, hBw5⟩
  have Ovk := hid hovk
  have BBw5 := hid hBw5
  obtain ⟨pvk, cvk, evk⟩ := own_slcL hovk
  subst evk
  have HS2 : Hid (Below w3.heap.size w3 w5 ∧ w5.cell? ⟨w1.heap.size, 0, none⟩ = some (.slice pF ls.length cF)) := ⟨HS.out.1.trans (hBw5.mono HS.out.1.size), (hBw5.cell (p := ⟨w1.heap.size, 0, none⟩) (by have := HSZ.out; have := HS.out.1.size; simp at this ⊢; omega)).trans HS.out.2⟩
  have HSw5 := hid HS.out.1.size
  clear hovk hBw5
  refine hK.out _ _ HS2.out (fun _ => ?_)
  clear hK K
  clear HS
  have HS := HS2
  clear HS2
  try (simp only [Act.put, List.getElem_toArray, List.getElem_cons_zero, List.getElem_cons_succ, List.setIfInBounds_toArray, List.set_cons_zero, List.set_cons_succ])
  refine wpAnyH_take (i := 6) (v := ?_) rfl (by kernel_rfl) (by kernel_rfl) (by kernel_rfl) (fun _ _ _ h => h) (Or.inl ⟨by rfl, ?q6⟩) HS.out ?_
  case q6 => intro w hSw; obtain ⟨_, hc0⟩ := hSw; go_simp; rfl
  simp only [Act.put, List.getElem_toArray, List.getElem_cons_zero, List.getElem_cons_succ, List.setIfInBounds_toArray, List.set_cons_zero, List.set_cons_succ]
  refine wpAnyH_take (i := 7) (v := ?_) rfl (by kernel_rfl) (by kernel_rfl) (by kernel_rfl) (fun _ _ _ h => h) (Or.inl ⟨by rfl, ?q7⟩) HS.out ?_
  case q7 => intro w hSw; obtain ⟨_, hc0⟩ := hSw; go_simp; rfl
  simp only [Act.put, List.getElem_toArray, List.getElem_cons_zero, List.getElem_cons_succ, List.setIfInBounds_toArray, List.set_cons_zero, List.set_cons_succ]
  refine wpAnyH_done (by kernel_rfl) ?_ _
  have B35 := hid HS.out.1
  have CC5 := hid HS.out.2
  have HSZ5 : Hid (w1.heap.size < w5.heap.size) := by have := HSZ.out; have := B35.out.size; show _ < _; omega
  have HLX5 := hid (HLX3.out.below B35.out)
  clear HS CC
  have CC := CC5
  clear CC5 HSZ
  have HSZ := HSZ5
  clear HSZ5
  go_wp2_with fail
  refine wp_region_held_drew (S := (fun W : World => Below w5.heap.size w5 W ∧ W.cell? ⟨w1.heap.size, 0, none⟩ = some (.slice pF ls.length cF))) (by kernel_rfl) ⟨(Below.refl _ _).drew, CC.out⟩ (fun hHeld => ?_)
  have HS := hid hHeld
  clear hHeld
  change wpAnyH _ _ _ _ _ _ _ _ (World.drew _)
  refine wpAnyH_take (i := 0) (v := ?_) rfl (by kernel_rfl) (by kernel_rfl) (by kernel_rfl) (fun _ _ _ h => h) (Or.inl ⟨by rfl, ?q0⟩) HS.out ?_
  case q0 => intro w hSw; obtain ⟨_, hc0⟩ := hSw; go_simp; rfl
  simp only [Act.put, List.getElem_toArray, List.getElem_cons_zero, List.getElem_cons_succ, List.setIfInBounds_toArray, List.set_cons_zero, List.set_cons_succ]
  refine wpAnyH_take (i := 1) (v := ?_) rfl (by kernel_rfl) (by kernel_rfl) (by kernel_rfl) (fun _ _ _ h => h) (Or.inl ⟨by rfl, ?q1⟩) HS.out ?_
  case q1 => intro w hSw; obtain ⟨_, hc0⟩ := hSw; go_simp; rfl
  simp only [Act.put, List.getElem_toArray, List.getElem_cons_zero, List.getElem_cons_succ, List.setIfInBounds_toArray, List.set_cons_zero, List.set_cons_succ]
  refine wpAnyH_take (i := 3) (v := ?_) rfl (by kernel_rfl) (by kernel_rfl) (by kernel_rfl) (fun _ _ _ h => h) (Or.inl ⟨by rfl, ?q3⟩) HS.out ?_
  case q3 => intro w hSw; obtain ⟨_, hc0⟩ := hSw; go_simp; rfl
  simp only [Act.put, List.getElem_toArray, List.getElem_cons_zero, List.getElem_cons_succ, List.setIfInBounds_toArray, List.set_cons_zero, List.set_cons_succ]
  refine wpAnyH_take (i := 4) (v := ?_) rfl (by kernel_rfl) (by kernel_rfl) (by kernel_rfl) (fun _ _ _ h => h) (Or.inl ⟨by rfl, ?q4⟩) HS.out ?_
  case q4 => intro w hSw; obtain ⟨_, hc0⟩ := hSw; go_simp; rfl
  simp only [Act.put, List.getElem_toArray, List.getElem_cons_zero, List.getElem_cons_succ, List.setIfInBounds_toArray, List.set_cons_zero, List.set_cons_succ]
  refine wpAnyH_ready (rs := [2]) (by kernel_rfl) (by simp) ?_
  refine AllReadyH.cons rfl (fun K hK => ?_) AllReadyH.nil
  replace hK := hid hK
  go_simp
  refine (CF.out _ _ (HLX5.out.below HS.out.1)).mono ?_
  rintro e w6 ⟨vf, rfl, hovf, hBw6⟩
  have Ovf := hid hovf
  have BBw6 := hid hBw6
  obtain ⟨pvf, cvf, evf⟩ := own_slcL hovf
  subst evf
  have HS2 : Hid (Below w5.heap.size w5 w6 ∧ w6.cell? ⟨w1.heap.size, 0, none⟩ = some (.slice pF ls.length cF)) := ⟨HS.out.1.trans (hBw6.mono HS.out.1.size), (hBw6.cell (p := ⟨w1.heap.size, 0, none⟩) (by have := HSZ.out; have := HS.out.1.size; simp at this ⊢; omega)).trans HS.out.2⟩
  have HSw6 := hid HS.out.1.size
  clear hovf hBw6
  refine hK.out _ _ HS2.out (fun _ => ?_)
  clear hK K
  clear HS
  have HS := HS2
  clear HS2
  try (simp only [Act.put, List.getElem_toArray, List.getElem_cons_zero, List.getElem_cons_succ, List.setIfInBounds_toArray, List.set_cons_zero, List.set_cons_succ])
  refine wpAnyH_ready (rs := [5]) (by kernel_rfl) (by simp) ?_
  refine AllReadyH.cons rfl (fun K hK => ?_) AllReadyH.nil
  replace hK := hid hK
  go_simp
  refine (CF.out _ _ (HLX5.out.below HS.out.1)).mono ?_
  rintro e w7 ⟨vg, rfl, hovg, hBw7⟩
  have Ovg := hid hovg
  have BBw7 := hid hBw7
  obtain ⟨pvg, cvg, evg⟩ := own_slcL hovg
  subst evg
  have HS2 : Hid (Below w5.heap.size w5 w7 ∧ w7.cell? ⟨w1.heap.size, 0, none⟩ = some (.slice pF ls.length cF)) := ⟨HS.out.1.trans (hBw7.mono HS.out.1.size), (hBw7.cell (p := ⟨w1.heap.size, 0, none⟩) (by have := HSZ.out; have := HS.out.1.size; simp at this ⊢; omega)).trans HS.out.2⟩
  have HSw7 := hid HS.out.1.size
  clear hovg hBw7
  refine hK.out _ _ HS2.out (fun _ => ?_)
  clear hK K
  clear HS
  have HS := HS2
  clear HS2
  try (simp only [Act.put, List.getElem_toArray, List.getElem_cons_zero, List.getElem_cons_succ, List.setIfInBounds_toArray, List.set_cons_zero, List.set_cons_succ])
  refine wpAnyH_take (i := 6) (v := ?_) rfl (by kernel_rfl) (by kernel_rfl) (by kernel_rfl) (fun _ _ _ h => h) (Or.inl ⟨by rfl, ?q6⟩) HS.out ?_
  case q6 => intro w hSw; obtain ⟨_, hc0⟩ := hSw; go_simp; rfl
  simp only [Act.put, List.getElem_toArray, List.getElem_cons_zero, List.getElem_cons_succ, List.setIfInBounds_toArray, List.set_cons_zero, List.set_cons_succ]
  refine wpAnyH_take (i := 7) (v := ?_) rfl (by kernel_rfl) (by kernel_rfl) (by kernel_rfl) (fun _ _ _ h => h) (Or.inl ⟨by rfl, ?q7⟩) HS.out ?_
  case q7 => intro w hSw; obtain ⟨_, hc0⟩ := hSw; go_simp; rfl
  simp only [Act.put, List.getElem_toArray, List.getElem_cons_zero, List.getElem_cons_succ, List.setIfInBounds_toArray, List.set_cons_zero, List.set_cons_succ]
  refine wpAnyH_done (by kernel_rfl) ?_ _
  have B57 := hid HS.out.1
  clear HS CC
  have B37 := hid (below_then B35.out B57.out)
  have C8 := hid (HCU.out w7 _ (HX0.out.below B37.out))
  go_wp2_with fail
  refine C8.out.mono ?_
  rintro e w8 ⟨vl, xl, rfl, px, hb8⟩
  obtain ⟨al, bl, el⟩ := own_slcL px.row
  subst el
  have PX8 := hid px
  have B78 := hid hb8
  have B38 := hid (below_then B37.out hb8)
  have C9 := hid (HCU.out w8 _ (HX0.out.below B38.out))
  clear px hb8 C8
  go_wp2_with fail
  refine C9.out.mono ?_
  rintro e w9 ⟨vm, xm, rfl, py, hb9⟩
  obtain ⟨am, bm, em⟩ := own_slcL py.row
  subst em
  have PX9 := hid py
  have B89 := hid hb9
  have B39 := hid (below_then B38.out hb9)
  have B29 := hid (below_then B23.out B39.out)
  have Bw9 := hid (B2.out.trans (B29.out.mono B2.out.size))
  have K9 : Hid (w9.heap[w1.heap.size]? = some (.cells #[.slice pF ls.length cF, .slice pF (ls.length + 70) cF, .slice pE ls.length cE] 25 (0, 0))) := (B39.out.block _ (Array.getElem?_eq_some_iff.1 K3.out).1).trans K3.out
  have XL9 := hid (XL3.out.away (grown_below (r := none) B39.out) (fun k e => by cases e))
  clear py hb9 C9
  obtain ⟨k0, k1, k2, _, _, _⟩ := three_cells K9.out
  go_wp2_with fail
  clear k0 k1 k2
  refine (keptLists_any w.heap.size w9 _ _ _ _ fU eU ls XL9.out (HVV.out.below Bw9.out) hn (fun j => ⟨HLB.out j, HBY.out j⟩)).mono ?_
  rintro e1 w10 ⟨rfl, hB10⟩
  have B9a := hid hB10
  have B3a := hid (below_then B39.out hB10)
  have Bwa := hid (Bw9.out.trans (hB10.mono Bw9.out.size))
  have C11 := hid (kept_any w10 _ _ (lent l) l (HFX.out.below B3a.out) (HUU.out.below Bwa.out) (by omega))
  rw [decide_eq_true rfl] at C11
  clear hB10
  go_wp2_with fail
  refine C11.out.mono ?_
  rintro e1 w11 ⟨rfl, hB11⟩
  have B9b := hid (below_then B9a.out hB11)
  have B3b := hid (below_then B39.out B9b.out)
  have Bwb := hid (Bw9.out.trans (B9b.out.mono Bw9.out.size))
  have K11 : Hid (w11.heap[w1.heap.size]? = some (.cells #[.slice pF ls.length cF, .slice pF (ls.length + 70) cF, .slice pE ls.length cE] 25 (0, 0))) := (B9b.out.block _ (Array.getElem?_eq_some_iff.1 K9.out).1).trans K9.out
  have XL11 := hid (XL9.out.away (grown_below (r := none) B9b.out) (fun k e => by cases e))
  clear hB11 C11 XL9 K9 B9a B3a Bwa
  obtain ⟨k0, k1, k2, _, _, _⟩ := three_cells K11.out
  go_wp2_with fail
  clear k0 k1 k2
  refine (overLists_any3 w.heap.size w1.heap.size w11 _ _ _ fU eU ls XL11.out (by have := HS2.out; have := B23.out.size; have := B3b.out.size; omega) HFn.out HEn.out hn HLB.out).mono ?_
  rintro e1 w12 ⟨rfl, hfr, _⟩
  have FR := hid hfr
  have HGX : Hid (W2.heap.size ≤ gx ∧ gx < w3.heap.size) := ⟨hgx, hgx1⟩
  have OX12 : w12.ownsRow W2.heap.size 5 1 (.slice (some ⟨gx, 0, none⟩) (l.length + 70) cx) (lent l).length ((lent l).map (Value.int .u8)) := own_ofL OX.out (fun b e => by
    have q1 := own_atL OX.out e
    exact (hfr.block b (Nat.lt_of_lt_of_le q1.1 B3b.out.size) (fun s => by have := HS2.out; omega)).trans (B3b.out.block b q1.1))
  have C13 := hid (over_byt w12 _ _ (lent l) OX12 (lent_byt HUU.out.2) (by rw [lent_length]; omega))
  clear hfr OX12
  go_wp2_with fail
  refine C13.out.mono ?_
  rintro e w13 ⟨rfl, _, hg13⟩
  have hg13' : w12.grownBy w13 (some gx) := hg13
  have KP : Hid (∀ b, w3.heap.size ≤ b → b < w11.heap.size → w13.heap[b]? = w11.heap[b]?) := fun b q1 q2 => by
    have e1 := FR.out.block b q2 (fun s => by have := HS2.out; have := B23.out.size; omega)
    rw [← e1]
    exact hg13'.block b (Nat.lt_of_lt_of_le q2 FR.out.size) (fun e => by cases e; have := HGX.out; omega)
  have Bwd : Hid (Below w.heap.size w w13) := by
    obtain ⟨q1, q2, q3, q4, q5⟩ := Bwb.out
    have B12 : Below w.heap.size w w12 := ⟨FR.out.os.trans q1, FR.out.tape.trans q2, FR.out.output.trans q3, Nat.le_trans q4 FR.out.size, fun i hi => (FR.out.block i (by omega) (fun s => by omega)).trans (q5 i hi)⟩
    exact B12.grown hg13' B12.size (fun b e => by cases e; have := HGX.out; have := B2.out.size; omega)
  have HS1113 : Hid (w11.heap.size ≤ w13.heap.size) := Nat.le_trans FR.out.size hg13'.size
  have C14 := hid (RJ.out w13 _ (HVV.out.below Bwd.out))
  clear hg13 hg13' FR C13
  have b7b := below_then (below_then B78.out B89.out) B9b.out
  have b5b := below_then B57.out b7b
  have b4b := below_then BBw5.out b5b
  have b6b := below_then BBw7.out b7b
  have b8b := below_then B89.out B9b.out
  have s3 : w3.heap.size ≤ w4.heap.size := BBw4.out.size
  have s4 : w4.heap.size ≤ w5.heap.size := BBw5.out.size
  have s5 : w5.heap.size ≤ w6.heap.size := BBw6.out.size
  have s6 : w6.heap.size ≤ w7.heap.size := BBw7.out.size
  have s7 : w7.heap.size ≤ w8.heap.size := B78.out.size
  have s8 : w8.heap.size ≤ w9.heap.size := B89.out.size
  have s9 : w9.heap.size ≤ w11.heap.size := B9b.out.size
  have HSZ2 : Hid (w.heap.size ≤ w3.heap.size ∧ w3.heap.size ≤ w4.heap.size ∧ w4.heap.size ≤ w5.heap.size ∧ w5.heap.size ≤ w6.heap.size ∧ w6.heap.size ≤ w7.heap.size ∧ w7.heap.size ≤ w8.heap.size ∧ w8.heap.size ≤ w9.heap.size ∧ w9.heap.size ≤ w11.heap.size) := ⟨Nat.le_trans B2.out.size B23.out.size, s3, s4, s5, s6, s7, s8, s9⟩
  have LJ : Hid (∀ b, (Value.slice pvj J.length cvj).ownBlock = some b → w3.heap.size ≤ b ∧ b < w4.heap.size) := fun b e => ⟨(own_atL Ovj.out e).2.1, (own_atL Ovj.out e).1⟩
  have LK : Hid (∀ b, (Value.slice pvk J.length cvk).ownBlock = some b → w4.heap.size ≤ b ∧ b < w5.heap.size) := fun b e => ⟨(own_atL Ovk.out e).2.1, (own_atL Ovk.out e).1⟩
  have LF : Hid (∀ b, (Value.slice pvf F.length cvf).ownBlock = some b → w5.heap.size ≤ b ∧ b < w6.heap.size) := fun b e => ⟨(own_atL Ovf.out e).2.1, (own_atL Ovf.out e).1⟩
  have LG : Hid (∀ b, (Value.slice pvg F.length cvg).ownBlock = some b → w6.heap.size ≤ b ∧ b < w7.heap.size) := fun b e => ⟨(own_atL Ovg.out e).2.1, (own_atL Ovg.out e).1⟩
  have LL := hid PX8.out.lies
  have LM := hid PX9.out.lies
  have OJ : Hid (w13.ownsRow w3.heap.size 5 1 (.slice pvj J.length cvj) J.length (J.map (Value.int .u8))) := own_kpF KP.out (own_belF Ovj.out b4b) (Nat.le_refl _)
  have OK : Hid (w13.ownsRow w4.heap.size 5 1 (.slice pvk J.length cvk) J.length (J.map (Value.int .u8))) := own_kpF KP.out (own_belF Ovk.out b5b) (by omega)
  have OF : Hid (w13.ownsRow w5.heap.size 5 1 (.slice pvf F.length cvf) F.length (F.map (Value.int .u8))) := own_kpF KP.out (own_belF Ovf.out b6b) (by show w3.heap.size ≤ w5.heap.size; omega)
  have OG : Hid (w13.ownsRow w6.heap.size 5 1 (.slice pvg F.length cvg) F.length (F.map (Value.int .u8))) := own_kpF KP.out (own_belF Ovg.out b7b) (by omega)
  have PL : Hid (PX w7.heap.size w13 (.slice al L.length bl) xl L) := (PX8.out.below b8b).keep (fun b q1 q2 => KP.out b (by omega) q2)
  have PM : Hid (PX w8.heap.size w13 (.slice am L.length bm) xm L) := (PX9.out.below B9b.out).keep (fun b q1 q2 => KP.out b (by omega) q2)
  have HS13 : Hid (w11.heap.size ≤ w13.heap.size) := HS1113
  clear b7b b5b b4b b6b b8b s3 s4 s5 s6 s7 s8 s9 KP Ovj Ovk Ovf Ovg PX8 PX9 BBw4 BBw5 BBw6 BBw7 B35 B57 B37 B78 B89 B9b B38 B39 B29 B3b Bw9 Bwb K11 XL11 K2 K3 XL1 XL2 XL3 HLX3 HLX5 HFX HX0 OX hsl CJ CF HCU HS1113
  go_wp2_with fail
  refine C14.out.mono ?_
  rintro e w14 ⟨vJ, rfl, hoJ, hb14⟩
  obtain ⟨pJ, cJ, eJ⟩ := own_slcL hoJ
  subst eJ
  have B14 := hid hb14
  have RJ14 := hid hoJ
  have Bwe := hid (Bwd.out.trans (hb14.mono Bwd.out.size))
  have C15 := hid (RF.out w14 _ (HVV.out.below Bwe.out))
  clear hoJ hb14 C14
  go_wp2_with fail
  refine C15.out.mono ?_
  rintro e w15 ⟨vQ, rfl, hoF, hb15⟩
  obtain ⟨pQ, cQ, eQ⟩ := own_slcL hoF
  subst eQ
  have B15 := hid hb15
  have RF15 := hid hoF
  have Bwf := hid (Bwe.out.trans (hb15.mono Bwe.out.size))
  have C16 := hid (HCR.out w15 _ (HUU.out.below Bwf.out))
  clear hoF hb15 C15
  go_wp2_with fail
  refine C16.out.mono ?_
  rintro e w16 ⟨vW, rfl, hW, hb16⟩
  obtain ⟨aw, bw, ew, _, _⟩ := hW.open
  subst ew
  have b13e := below_then (below_then B14.out B15.out) hb16
  have b14e := below_then B15.out hb16
  have Bwg := hid (Bwf.out.trans (hb16.mono Bwf.out.size))
  have OJ6 := hid (own_belF OJ.out b13e)
  have OK6 := hid (own_belF OK.out b13e)
  have OF6 := hid (own_belF OF.out b13e)
  have OG6 := hid (own_belF OG.out b13e)
  have PL6 := hid (PL.out.below b13e)
  have PM6 := hid (PM.out.below b13e)
  have RJ6 := hid (own_belF RJ14.out b14e)
  have RF6 := hid (own_belF RF15.out hb16)
  have HW6 := hid hW
  have HS16 : Hid (w11.heap.size ≤ w16.heap.size) := Nat.le_trans HS13.out b13e.size
  clear hW hb16 b13e b14e OJ OK OF OG PL PM RJ14 RF15 B14 B15 C16 RJ RF HCR Bwd Bwe Bwf HS13
  have CSL : Hid (∀ W, Below w16.heap.size w16 W → Calls Try.prog 17 #[.slice al L.length bl, .slice aw L.length bw] W fun e w' => e = .returned (.bool true) ∧ Dr W w') := fun W hW => (sameLists_any W _ _ L L (PL6.out.below hW).hl (HW6.out.below hW)).mono fun e w' ⟨q1, q2⟩ => ⟨by rw [q1, decide_eq_true rfl], q2⟩
  have CSM : Hid (∀ W, Below w16.heap.size w16 W → Calls Try.prog 17 #[.slice am L.length bm, .slice aw L.length bw] W fun e w' => e = .returned (.bool true) ∧ Dr W w') := fun W hW => (sameLists_any W _ _ L L (PM6.out.below hW).hl (HW6.out.below hW)).mono fun e w' ⟨q1, q2⟩ => ⟨by rw [q1, decide_eq_true rfl], q2⟩
  have CSB : Hid (∀ (N : List Int) (B1 B2 : Nat) (va vb : Value), (∀ x ∈ N, 0 ≤ x ∧ x < 256) → w16.ownsRow B1 5 1 va N.length (N.map (Value.int .u8)) → w16.ownsRow B2 5 1 vb N.length (N.map (Value.int .u8)) → ∀ W, Below w16.heap.size w16 W → Calls Try.prog 18 #[va, vb] W fun e w' => e = .returned (.bool true) ∧ Dr W w') := fun N B1 B2 va vb hN h1 h2 W hW => (sameBytes_any W va vb N N (HB.of_own (own_belF h1 hW) hN) (HB.of_own (own_belF h2 hW) hN)).mono fun e w' ⟨q1, q2⟩ => ⟨by rw [q1, decide_eq_true rfl], q2⟩
  have CBJ := hid (CSB.out J _ _ _ _ HYJ.out OJ6.out RJ6.out)
  have CBK := hid (CSB.out J _ _ _ _ HYJ.out OK6.out RJ6.out)
  have CBF := hid (CSB.out F _ _ _ _ HYF.out OF6.out RF6.out)
  have CBG := hid (CSB.out F _ _ _ _ HYF.out OG6.out RF6.out)
  go_wp2_with fail
  refine (CSL.out _ (Below.refl _ _)).mono ?_
  rintro e w17 ⟨rfl, hd⟩
  have D17 := hid (hd.below w16.heap.size)
  clear hd
  go_wp2_with fail
  refine (CSM.out _ D17.out).mono ?_
  rintro e w18 ⟨rfl, hd⟩
  have D18 := hid (D17.out.trans (hd.below w16.heap.size))
  clear hd
  go_wp2_with fail
  refine (CBJ.out _ D18.out).mono ?_
  rintro e w19 ⟨rfl, hd⟩
  have D19 := hid (D18.out.trans (hd.below w16.heap.size))
  clear hd
  go_wp2_with fail
  refine (CBK.out _ D19.out).mono ?_
  rintro e w20 ⟨rfl, hd⟩
  have D20 := hid (D19.out.trans (hd.below w16.heap.size))
  clear hd
  go_wp2_with fail
  refine (CBF.out _ D20.out).mono ?_
  rintro e w21 ⟨rfl, hd⟩
  have D21 := hid (D20.out.trans (hd.below w16.heap.size))
  clear hd
  go_wp2_with fail
  refine (CBG.out _ D21.out).mono ?_
  rintro e w22 ⟨rfl, hd⟩
  have D22 := hid (D21.out.trans (hd.below w16.heap.size))
  clear hd
  obtain ⟨WA, HWA⟩ : ∃ W : World, Hid (w22.alloc (.cells #[.slice pvj J.length cvj, .slice pvk J.length cvk, .slice pvf F.length cvf, .slice pvg F.length cvg] 23) = W) := ⟨_, rfl⟩
  have bA : Below w16.heap.size w16 WA := by rw [← HWA.out]; exact D22.out.alloc D22.out.size _
  have sz := HSZ2.out
  have s16 := HS16.out
  have HVA : HV WA (.slice (some ⟨w22.heap.size, 0, none⟩) 4 4) [.slice pvj J.length cvj, .slice pvk J.length cvk, .slice pvf F.length cvf, .slice pvg F.length cvg] := by
    have hblk : WA.heap[w22.heap.size]? = some (.cells #[.slice pvj J.length cvj, .slice pvk J.length cvk, .slice pvf F.length cvf, .slice pvg F.length cvg] 23 (0, 0)) := by rw [← HWA.out]; exact heap_alloc_new _ _
    refine ⟨_, 4, rfl, Nat.le_refl _, by unfold maxLen; omega, fun _ => ⟨w22.heap.size, 0, rfl, ⟨_, _, hblk⟩, fun j hj => ?_⟩⟩
    rw [cell_of_row _ _ _ _ _ _ hblk]
    match j, hj with
    | 0, _ => rfl
    | 1, _ => rfl
    | 2, _ => rfl
    | 3, _ => rfl
  have hAp : Apt w3.heap.size WA [.slice pvj J.length cvj, .slice pvk J.length cvk, .slice pvf F.length cvf, .slice pvg F.length cvg] [J, J, F, F] :=
    apt4 (own_belF OJ6.out bA) (own_lowL (own_belF OK6.out bA) (by omega)) (own_lowL (own_belF OF6.out bA) (by omega)) (own_lowL (own_belF OG6.out bA) (by omega)) (n1 := w4.heap.size) (n2 := w5.heap.size) (n3 := w6.heap.size) (by omega) (by omega) (fun g e => (LJ.out g e).2) (fun g e => LK.out g e) (fun g e => LF.out g e) (fun g e => (LG.out g e).1)
  have CA := hid (apart_anyG w3.heap.size WA _ _ _ HVA hAp (by have := bA.size; omega) (by simp) (fun j => by
    have q1 := HFJ.out
    have q2 := HFF.out
    match j with
    | 0 => show J.length ≤ _; omega
    | 1 => show J.length ≤ _; omega
    | 2 => show F.length ≤ _; omega
    | 3 => show F.length ≤ _; omega
    | j + 4 => simp))
  have NIN : Hid (∀ b, w7.heap.size ≤ b → ¬ InU [.slice pvj J.length cvj, .slice pvk J.length cvk, .slice pvf F.length cvf, .slice pvg F.length cvg] b) := fun b hb ⟨j, hj, e⟩ => by
    match j, hj with
    | 0, _ => have := LJ.out b e; omega
    | 1, _ => have := LK.out b e; omega
    | 2, _ => have := LF.out b e; omega
    | 3, _ => have := LG.out b e; omega
  have BA := hid bA
  have BWA : Hid (Below w.heap.size w WA) := Bwg.out.trans (bA.mono Bwg.out.size)
  clear HVA hAp sz s16 bA CSL CSM CSB CBJ CBK CBF CBG D17 D18 D19 D20 D21
  go_wp2_with (first | (refine wpList_litW (by rfl) 22 4 _ rfl #[(0, .slice pvj J.length cvj), (1, .slice pvk J.length cvk), (2, .slice pvf F.length cvf), (3, .slice pvg F.length cvg)] (by go_simp) _ (run_lit4 _ _ _ _ _ _ _ _ _ _ _ _ _) ?_) | rw [HWA.out] | fail)
  refine CA.out.mono ?_
  rintro e w23 ⟨rfl, hg23⟩
  obtain ⟨WB, HWB⟩ : ∃ W : World, Hid (w23.alloc (.cells #[.slice al L.length bl, .slice am L.length bm] 22) = W) := ⟨_, rfl⟩
  have sz := HSZ2.out
  have s16 := HS16.out
  have sA := BA.out.size
  have s23 := hg23.size
  have bB : Below w23.heap.size w23 WB := by rw [← HWB.out]; exact (Below.refl _ _).alloc (Nat.le_refl _) _
  have hkp : ∀ b, w7.heap.size ≤ b → b < w16.heap.size → WB.heap[b]? = w16.heap[b]? := fun b q1 q2 => by
    rw [bB.block b (by omega), hg23.loc b (by omega) (NIN.out b q1), BA.out.block b q2]
  have pl := PL6.out.keep hkp
  have pm := PM6.out.keep (fun b q1 q2 => hkp b (by omega) q2)
  have pm' := pm.low (B' := w7.heap.size) (by omega)
  have HVB : HVL WB (.slice (some ⟨w23.heap.size, 0, none⟩) 2 2) [.slice al L.length bl, .slice am L.length bm] := by
    have hblk : WB.heap[w23.heap.size]? = some (.cells #[.slice al L.length bl, .slice am L.length bm] 22 (0, 0)) := by rw [← HWB.out]; exact heap_alloc_new _ _
    refine ⟨_, 2, rfl, Nat.le_refl _, by unfold maxLen; omega, fun _ => ⟨w23.heap.size, 0, rfl, ⟨_, hblk⟩, fun j hj => ?_⟩⟩
    rw [cell_of_row _ _ _ _ _ _ hblk]
    match j, hj with
    | 0, _ => rfl
    | 1, _ => rfl
  have ll := LL.out
  have lm := LM.out
  have hD : DisU [Value.slice al L.length bl, .slice am L.length bm] := fun i j hi hj hne => by
    match i, j, hi, hj with
    | 0, 0, _, _ => exact absurd rfl hne
    | 0, 1, _, _ => exact (far_ne (n := w8.heap.size) (fun q e => (lm.1 q e).1) (fun q e => (ll.1 q e).2)).2
    | 1, 0, _, _ => exact (far_ne (n := w8.heap.size) (fun q e => (lm.1 q e).1) (fun q e => (ll.1 q e).2)).1
    | 1, 1, _, _ => exact absurd rfl hne
  have hApt : Apt w7.heap.size WB [xl, xm].flatten (L ++ L) := by
    have e : [xl, xm].flatten = xl ++ xm := by simp
    rw [e]
    refine apt_app pl.apt pm'.apt fun i j b hi hj e1 e2 => ?_
    have q1 := (ll.2 i hi b e1).2
    have q2 := (lm.2 j hj b e2).1
    omega
  have n1 : xl.length = L.length := pl.apt.1
  have n2 : xm.length = L.length := pm.apt.1
  have nL := HLn.out
  have CB := hid (apartLists_any w7.heap.size WB (.slice (some ⟨w23.heap.size, 0, none⟩) 2 2) [.slice al L.length bl, .slice am L.length bm] [xl, xm] (L ++ L) HVB rfl (fun j hj => by
      match j, hj with
      | 0, _ => show WB.ownsRow _ _ _ (.slice al L.length bl) xl.length xl; rw [n1]; exact pl.row
      | 1, _ => show WB.ownsRow _ _ _ (.slice am L.length bm) xm.length xm; rw [n2]; exact pm'.row) hD hApt (by have := bB.size; omega) (by simp) (fun j => by
      match j with
      | 0 => show xl.length ≤ _; omega
      | 1 => show xm.length ≤ _; omega
      | j + 2 => simp) (by simp; omega) (fun j => by
      rw [getD_app]
      split
      · have := flat_geF (ls := L) j; omega
      · have := flat_geF (ls := L) (j - L.length); omega))
  have BWB : Hid (Below w.heap.size w WB) := (BWA.out.trans (hg23.bel.mono (by omega))).trans (bB.mono (by have := BWA.out.size; omega))
  have G7 : Hid (w.heap.size ≤ w7.heap.size) := by show _ ≤ _; omega
  clear HVB hD hApt pl pm pm' ll lm n1 n2 nL sz s16 sA s23 bB hkp hg23 CA
  go_wp2_with (first | (refine wpList_litW (by rfl) 40 2 _ rfl #[(0, .slice al L.length bl), (1, .slice am L.length bm)] (by go_simp) _ (run_lit22 _ _ _ _ _ _ _) ?_) | rw [HWB.out] | fail)
  refine CB.out.mono ?_
  rintro e w24 ⟨rfl, hb24⟩
  have FIN := BWB.out.trans (hb24.mono G7.out)
  go_wp2
  go_ret
  exact ⟨rfl, FIN⟩
end Go.Proofs.Ytjmihehihjbgpaa
