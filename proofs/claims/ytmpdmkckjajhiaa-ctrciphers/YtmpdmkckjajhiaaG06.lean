/- Of the road to ctrCiphers_holds: CtrNext, AesLit, EvRange, EvMarks, CtrKnownLaw, SameBytes, CtrBackW, AesRef, AesRefFun, AesKeysNm, AesKeysLaw. -/
import Derived.Test.YtmpdmkckjajhiaaG05
import Derived.Deep.RegionHeld
import Derived.Test.YtmpdmkckjajhiaaG03
import Derived.Test.YtmpdmkckjajhiaaG04
import Derived.RangeFuncLeaves
import Derived.RangeFuncNested
import Derived.Test.YtmpdmkckjajhiaaG00
import Derived.Test.YtmpdmkckjajhiaaChecked
set_option linter.unusedVariables false
set_option linter.unusedSimpArgs false
namespace Go.Proofs.Ytmpdmkckjajhiaa
open Go Go.RowKit Ev
structure HCt (w : World) (g : Nat) (k : List Nat) (p : Int) : Prop where
  lt : g < w.heap.size
  made : w.cell? ⟨g, 0, none⟩ = some (.bool true)
  key : ∀ i, i < 16 → w.cell? ⟨g, 1 + i, none⟩ = some (.int .u8 ((at8 k i : Nat) : Int))
  place : w.cell? ⟨g, 17, none⟩ = some (.int .i64 p)
  free : w.frozen? ⟨g, 17, none⟩ = false
theorem HCt.kept {w w' : World} {g : Nat} {k : List Nat} {p : Int} (h : HCt w g k p) (hs : w.heap.size ≤ w'.heap.size) (hb : w'.heap[g]? = w.heap[g]?) : HCt w' g k p := by
  have e : ∀ o, w'.cell? ⟨g, o, none⟩ = w.cell? ⟨g, o, none⟩ := fun o => by simp [World.cell?, hb]
  exact ⟨Nat.lt_of_lt_of_le h.lt hs, (e 0).trans h.made, fun i hi => (e _).trans (h.key i hi), (e 17).trans h.place, by rw [← h.free]; simp [World.frozen?, hb]⟩
theorem HCt.below {w w' : World} {g : Nat} {k : List Nat} {p : Int} (h : HCt w g k p) (hb : Below w.heap.size w w') : HCt w' g k p := h.kept hb.size (hb.block g h.lt)
def ctBlk : Blk := ⟨true, true, 0, [.bool true] ++ vars 0 16 ++ [.int .i64 (.var 500)]⟩
theorem ctBlk_plain : ctBlk.cells.all SV.plain = true := by decide +kernel
theorem holds_ct {w : World} {g : Nat} {k : List Nat} {p : Int} (h : HCt w g k p) : Holds (envC (at8 k) p) [g] [ctBlk] w.heap.size w := by
  refine ⟨rfl, fun g hg => absurd hg (Nat.not_lt_zero _), ?_, ?_, ?_, Nat.le_refl _, ?_, ?_, ?_⟩
  · intro i j b' kk k' hi hj _ _ _ _
    rw [(one_get hi).1, (one_get hj).1]
  · intro i b' kk hi hk hr
    rw [(one_get hk).2] at hr; cases hr
  · intro i b' kk hi hk _
    rw [(one_get hi).2]; exact h.lt
  · intro i kk hk _
    rw [(one_get hk).2]; exact ctBlk_plain
  · intro i b' kk hi hk j s hs
    rw [(one_get hi).2]
    rw [(one_get hk).2] at hs ⊢
    have hj : j < 18 := by
      have := (List.getElem?_eq_some_iff.1 hs).1
      simpa [ctBlk, vars] using this
    by_cases h0 : j = 0
    · subst h0
      have : s = .bool true := (Option.some.inj hs).symm
      subst this
      exact ⟨_, rfl, h.made, fun hr => by cases hr⟩
    · by_cases h1 : j = 17
      · subst h1
        have : s = .int .i64 (.var 500) := (Option.some.inj hs).symm
        subst this
        exact ⟨_, rfl, h.place, fun hr => by cases hr⟩
      · obtain ⟨i, rfl⟩ : ∃ i, j = 1 + i := ⟨j - 1, by omega⟩
        have hi16 : i < 16 := by omega
        have : s = .int .u8 (.var i) := by
          have e : ctBlk.cells[1 + i]? = some (.int .u8 (.var i)) := by
            simp only [ctBlk, List.cons_append, List.nil_append, Nat.add_comm 1 i, List.getElem?_cons_succ]
            rw [List.getElem?_append_left (by simp [vars, hi16])]
            exact vars_get 16 i hi16
          rw [e] at hs
          exact (Option.some.inj hs).symm
        subst this
        refine ⟨_, rfl, ?_, fun hr => by cases hr⟩
        rw [h.key i hi16]
        simp only [Ex.den, envC]
        rw [if_neg (by omega)]
  · intro i b' c k0 kk hi hc
    obtain ⟨rfl, rfl⟩ := one_get hi
    simp at hc
theorem ldc_ev : evLoad Try.prog (tmL 1 [(0, .tv (.sc (.ptr 0 1)))]) [ctBlk] 23 (.tmp 0) = some (V 0 16) := by kernel_rfl
theorem run_ldc {w : World} {g : Nat} {k : List Nat} {p : Int} (h : HCt w g k p) (hl : k.length = 16) : (Instr.loadAt 23 (.pointer (some ⟨g, 1, none⟩))).run Try.prog w = .ok (.agg (cells8 k)) w := by
  have hT : RelT (envC (at8 k) p) [g] (tmL 1 [(0, .tv (.sc (.ptr 0 1)))]) (({ tmps := #[.pointer (some ⟨g, 1, none⟩)], defers := [] } : Act)).tmps := RelT.ofL (n := 1) rfl (by decide) (fun g hg => absurd hg (Nat.not_lt_zero _)) _ fun q hq => by
    simp only [List.mem_cons, List.not_mem_nil, or_false] at hq
    subst hq
    exact ⟨_, rfl, rfl⟩
  obtain ⟨u, e1, e2⟩ := evLoad_ok hT (fun n _ _ => ((holds_ct h).sees n).at _ _) ldc_ev
  rw [VC _ _ 0 16 (by decide), at8_vars hl (fun i hi => by rw [Nat.zero_add])] at e1
  rw [← Option.some.inj e1] at e2
  exact e2
theorem ldc_exec {w : World} {g : Nat} {k : List Nat} {p : Int} {o : Oper} {a : Act} {x : Operand} (h : HCt w g k p) (hl : k.length = 16) (ho : o.op = .load 23 x) (hx : a.eval x = .pointer (some ⟨g, 1, none⟩)) :
    (execOp a.eval o).run Try.prog w = .ok (.value (.agg (cells8 k))) w := by
  have hr := run_ldc h hl
  simp only [execOp, ho, hx, Sem.run_bind, hr, Result.andThen_ok, Sem.run_pure]
theorem cnew_ev : evCallF Try.prog noLore noCon 100 4 [V 0 16] [] = some (.tv (.sc (.ptr 1 0)), [newBlk (vars 0 16), newBlk ([.bool true] ++ vars 0 16 ++ [.int .i64 (.lit 0)])]) := by kernel_rfl
theorem cnew_any (w : World) (k : List Nat) (hk : Byt k) (hl : k.length = 16) : Calls Try.prog 4 #[.agg (cells8 k)] w fun e w' => ∃ g, e = .returned (.pointer (some ⟨g, 0, none⟩)) ∧ HCt w' g k 0 ∧ w.heap.size ≤ g ∧ Below w.heap.size w w' := by
  have n1 : named (at8 k) 0 16 = k := at8_vars hl fun i hi => by rw [Nat.zero_add]
  refine (calls_of_evF (noLore_ok (envC (at8 k) 0)) (noCon_ok _ _) mixedOrders 100 cnew_ev (args := #[.agg (cells8 k)]) w ?_).mono ?_
  · simp only [List.map_cons, List.map_nil, VC _ _ 0 16 (by decide), n1]
  · rintro e w' ⟨ms, u, rfl, h1, h2, h3⟩
    have hlen : ms.length = 2 := h2.len
    match ms, hlen with
    | [m0, m1], _ =>
      have h1' : some (Value.pointer (some ⟨m1, 0, none⟩)) = some u := h1
      cases h1'
      have hc : ∀ j s, (newBlk ([.bool true] ++ vars 0 16 ++ [.int .i64 (.lit 0)])).cells[j]? = some s → ∃ v, s.inst (envC (at8 k) 0) [m0, m1] = some v ∧ w'.cell? ⟨m1, j, none⟩ = some v ∧ w'.frozen? ⟨m1, j, none⟩ = false := fun j s hs => by
        obtain ⟨v, q1, q2, q3⟩ := h2.cell 1 m1 _ rfl rfl j s hs
        exact ⟨v, q1, q2, q3 rfl⟩
      refine ⟨m1, rfl, ⟨h2.bnd 1 m1 _ rfl rfl (by simp [newBlk]), ?_, fun i hi => ?_, ?_, ?_⟩, h2.low 1 m1 _ rfl rfl rfl, h3⟩
      · obtain ⟨v, q1, q2, _⟩ := hc 0 (.bool true) rfl
        rw [q2, ← q1]; rfl
      · obtain ⟨v, q1, q2, _⟩ := hc (1 + i) (.int .u8 (.var i)) (by
          simp only [newBlk, List.cons_append, List.nil_append, Nat.add_comm 1 i, List.getElem?_cons_succ]
          rw [List.getElem?_append_left (by simp [vars, hi])]
          exact vars_get 16 i hi)
        rw [q2, ← q1]
        simp only [SV.inst, Ex.den, envC]
        rw [if_neg (by omega)]
      · obtain ⟨v, q1, q2, _⟩ := hc 17 (.int .i64 (.lit 0)) rfl
        rw [q2, ← q1]; rfl
      · exact (hc 17 (.int .i64 (.lit 0)) rfl).choose_spec.2.2
set_option maxHeartbeats 1000000 in
theorem cat_any (w : World) (g : Nat) (k : List Nat) (p : Int) (h : HCt w g k p) : Calls Try.prog 7 #[.pointer (some ⟨g, 0, none⟩)] w fun e w' => e = .returned (.int .i64 p) ∧ w' = w := by
  have c1 := h.place
  clear h
  go_enter Try.func7, Try.ntmps7
  go_wp2
  go_ret
  exact ⟨rfl, rfl⟩
theorem HCt.set {w : World} {g : Nat} {k : List Nat} {p : Int} (h : HCt w g k p) (q : Int) : HCt (w.setCell ⟨g, 17, none⟩ (.int .i64 q)) g k q := by
  have e : ∀ o, o ≠ 17 → (w.setCell ⟨g, 17, none⟩ (.int .i64 q)).cell? ⟨g, o, none⟩ = w.cell? ⟨g, o, none⟩ := fun o ho => World.cell?_setCell_other _ _ _ _ (by intro e; cases e; exact ho rfl)
  refine ⟨by simpa [World.setCell] using h.lt, (e 0 (by decide)).trans h.made, fun i hi => (e _ (by omega)).trans (h.key i hi), ?_, ?_⟩
  · exact World.cell?_setCell_same _ _ _ h.place
  · rw [World.frozen?_setCell]
    exact h.free
set_option maxRecDepth 100000 in
set_option maxHeartbeats 2000000 in
theorem cseek_ok (w : World) (g : Nat) (k : List Nat) (p : Int) (at' : Nat) (h : HCt w g k p) (hp : at' ≤ 4611686018427387904) : Calls Try.prog 6 #[.pointer (some ⟨g, 0, none⟩), .int .i64 (at' : Int)] w fun e w' => e = .returned (.int .i64 0) ∧ w' = w.setCell ⟨g, 17, none⟩ (.int .i64 (at' : Int)) := by
  have c0 := h.made
  have c1 := h.place
  have f1 := h.free
  clear h
  have h1 : (0 : Int) ≤ (at' : Int) := by omega
  have h2 : (at' : Int) ≤ 4611686018427387904 := by omega
  go_enter Try.func6, Try.ntmps6
  go_wp2
  go_ret
  exact ⟨rfl, rfl⟩
set_option maxRecDepth 100000 in
set_option maxHeartbeats 2000000 in
theorem cnext_ok (w : World) (g : Nat) (k : List Nat) (at' : Nat) (v : Value) (l : List Int) (hk : Byt k) (hl : k.length = 16) (h : HCt w g k (at' : Int)) (hv : HB w v l) (hpl : at' + l.length ≤ 4611686018427387904) (hn : l.length ≤ 140737488351232) :
    Calls Try.prog 9 #[.pointer (some ⟨g, 0, none⟩), v] w fun e w' => ∃ v' w1, e = .returned (.tuple #[v', .int .i64 0]) ∧ w1.ownsRow w.heap.size 5 1 v' l.length ((xorL l (strL k at' l.length)).map (Value.int .u8)) ∧ Below w.heap.size w w1 ∧ w' = w1.setCell ⟨g, 17, none⟩ (.int .i64 ((at' + l.length : Nat) : Int)) := by
  have HT := hid h
  have c0 := h.made
  obtain ⟨pa, ca, rfl, hca, hcm⟩ := hv.open
  have HD : Hid (HB w.drew (.slice pa l.length ca) l) := hv.below (Below.refl _ w).drew
  have C2 := hid (apply_ok w.drew k at' _ l hk hl HD.out hpl hn)
  clear h hv
  go_enter Try.func9, Try.ntmps9
  go_wp2
  clear c0
  refine wp_region_held_drew (S := fun V : World => HCt V g k (at' : Int)) mixedOrders (HT.out.below (Below.refl _ w).drew) (fun hHeld => ?_)
  have HS := hid hHeld
  clear hHeld
  change wpAnyH _ _ _ _ _ _ _ _ (World.drew _)
  refine wpAnyH_take (i := 0) (v := ?_) rfl (by kernel_rfl) (by kernel_rfl) (by kernel_rfl) (fun _ _ _ h => h) (Or.inl ⟨by rfl, ?q0⟩) HS.out ?_
  case q0 => intro w hSw; have hs1 := hSw.place; have hs2 := hSw.made; clear hSw; go_simp; rfl
  simp only [Act.put, List.getElem_toArray, List.getElem_cons_zero, List.getElem_cons_succ, List.setIfInBounds_toArray, List.set_cons_zero, List.set_cons_succ]
  refine wpAnyH_take (i := 1) (v := ?_) rfl (by kernel_rfl) (by kernel_rfl) (by kernel_rfl) (fun _ _ _ h => h) (Or.inl ⟨by rfl, ?q1⟩) HS.out ?_
  case q1 => intro w hSw; have hs1 := hSw.place; have hs2 := hSw.made; clear hSw; go_simp; rfl
  simp only [Act.put, List.getElem_toArray, List.getElem_cons_zero, List.getElem_cons_succ, List.setIfInBounds_toArray, List.set_cons_zero, List.set_cons_succ]
  refine wpAnyH_take (i := 2) (v := ?_) rfl (by kernel_rfl) (by kernel_rfl) (by kernel_rfl) (fun _ _ _ h => h) (Or.inl ⟨by rfl, ?q2⟩) HS.out ?_
  case q2 => intro w hSw; have hs1 := hSw.place; have hs2 := hSw.made; clear hSw; go_simp; rfl
  simp only [Act.put, List.getElem_toArray, List.getElem_cons_zero, List.getElem_cons_succ, List.setIfInBounds_toArray, List.set_cons_zero, List.set_cons_succ]
  refine wpAnyH_take (i := 3) (v := .agg (cells8 k)) rfl (by kernel_rfl) (by kernel_rfl) (by kernel_rfl) (fun _ _ _ h => h) (Or.inl ⟨by rfl, fun w hSw => ldc_exec hSw hl rfl rfl⟩) HS.out ?_
  simp only [Act.put, List.getElem_toArray, List.getElem_cons_zero, List.getElem_cons_succ, List.setIfInBounds_toArray, List.set_cons_zero, List.set_cons_succ]
  refine wpAnyH_take (i := 4) (v := ?_) rfl (by kernel_rfl) (by kernel_rfl) (by kernel_rfl) (fun _ _ _ h => h) (Or.inl ⟨by rfl, ?q4⟩) HS.out ?_
  case q4 => intro w hSw; have hs1 := hSw.place; have hs2 := hSw.made; clear hSw; go_simp; rfl
  simp only [Act.put, List.getElem_toArray, List.getElem_cons_zero, List.getElem_cons_succ, List.setIfInBounds_toArray, List.set_cons_zero, List.set_cons_succ]
  refine wpAnyH_take (i := 5) (v := ?_) rfl (by kernel_rfl) (by kernel_rfl) (by kernel_rfl) (fun _ _ _ h => h) (Or.inl ⟨by rfl, ?q5⟩) HS.out ?_
  case q5 => intro w hSw; have hs1 := hSw.place; have hs2 := hSw.made; clear hSw; go_simp; rfl
  simp only [Act.put, List.getElem_toArray, List.getElem_cons_zero, List.getElem_cons_succ, List.setIfInBounds_toArray, List.set_cons_zero, List.set_cons_succ]
  refine wpAnyH_take (i := 6) (v := ?_) rfl (by kernel_rfl) (by kernel_rfl) (by kernel_rfl) (fun _ _ _ h => h) (Or.inl ⟨by rfl, ?q6⟩) HS.out ?_
  case q6 => intro w hSw; have hs1 := hSw.place; have hs2 := hSw.made; clear hSw; go_simp; rfl
  simp only [Act.put, List.getElem_toArray, List.getElem_cons_zero, List.getElem_cons_succ, List.setIfInBounds_toArray, List.set_cons_zero, List.set_cons_succ]
  refine wpAnyH_take (i := 7) (v := ?_) rfl (by kernel_rfl) (by kernel_rfl) (by kernel_rfl) (fun _ _ _ h => h) (Or.inl ⟨by rfl, ?q7⟩) HS.out ?_
  case q7 => intro w hSw; have hs1 := hSw.place; have hs2 := hSw.made; clear hSw; go_simp; rfl
  simp only [Act.put, List.getElem_toArray, List.getElem_cons_zero, List.getElem_cons_succ, List.setIfInBounds_toArray, List.set_cons_zero, List.set_cons_succ]
  refine wpAnyH_take (i := 8) (v := ?_) rfl (by kernel_rfl) (by kernel_rfl) (by kernel_rfl) (fun _ _ _ h => h) (Or.inl ⟨by rfl, ?q8⟩) HS.out ?_
  case q8 => intro w hSw; have hs1 := hSw.place; have hs2 := hSw.made; clear hSw; go_simp; rfl
  simp only [Act.put, List.getElem_toArray, List.getElem_cons_zero, List.getElem_cons_succ, List.setIfInBounds_toArray, List.set_cons_zero, List.set_cons_succ]
  refine wpAnyH_ready (rs := [9]) (by kernel_rfl) (by simp) ?_
  refine AllReadyH.cons rfl (fun K hK => ?_) AllReadyH.nil
  go_simp
  refine C2.out.mono ?_
  rintro e w1 ⟨v1, rfl, ho1, hB1⟩
  have O1 := hid ho1
  have B1 : Hid (Below w.heap.size w w1) := (Below.refl _ w).drew.trans hB1
  have H1 := hid (HT.out.below B1.out)
  clear ho1 hB1 C2
  refine hK.out _ _ H1.out (fun _ => ?_)
  clear hK K
  refine wpAnyH_take (i := 10) (v := ?_) rfl (by kernel_rfl) (by kernel_rfl) (by kernel_rfl) (fun _ _ _ h => h) (Or.inl ⟨by rfl, ?q10⟩) H1.out ?_
  case q10 => intro w hSw; have hs1 := hSw.place; have hs2 := hSw.made; clear hSw; go_simp; rfl
  simp only [Act.put, List.getElem_toArray, List.getElem_cons_zero, List.getElem_cons_succ, List.setIfInBounds_toArray, List.set_cons_zero, List.set_cons_succ]
  refine wpAnyH_take (i := 11) (v := ?_) rfl (by kernel_rfl) (by kernel_rfl) (by kernel_rfl) (fun _ _ _ h => h) (Or.inl ⟨by rfl, ?q11⟩) H1.out ?_
  case q11 => intro w hSw; have hs1 := hSw.place; have hs2 := hSw.made; clear hSw; go_simp; rfl
  simp only [Act.put, List.getElem_toArray, List.getElem_cons_zero, List.getElem_cons_succ, List.setIfInBounds_toArray, List.set_cons_zero, List.set_cons_succ]
  refine wpAnyH_take (i := 12) (v := ?_) rfl (by kernel_rfl) (by kernel_rfl) (by kernel_rfl) (fun _ _ _ h => h) (Or.inl ⟨by rfl, ?q12⟩) H1.out ?_
  case q12 => intro w hSw; have hs1 := hSw.place; have hs2 := hSw.made; clear hSw; go_simp; rfl
  simp only [Act.put, List.getElem_toArray, List.getElem_cons_zero, List.getElem_cons_succ, List.setIfInBounds_toArray, List.set_cons_zero, List.set_cons_succ]
  refine wpAnyH_take (i := 13) (v := ?_) rfl (by kernel_rfl) (by kernel_rfl) (by kernel_rfl) (fun _ _ _ h => h) (Or.inl ⟨by rfl, ?q13⟩) H1.out ?_
  case q13 => intro w hSw; have hs1 := hSw.place; have hs2 := hSw.made; clear hSw; go_simp; rfl
  simp only [Act.put, List.getElem_toArray, List.getElem_cons_zero, List.getElem_cons_succ, List.setIfInBounds_toArray, List.set_cons_zero, List.set_cons_succ]
  refine wpAnyH_take (i := 14) (v := ?_) rfl (by kernel_rfl) (by kernel_rfl) (by kernel_rfl) (fun _ _ _ h => h) (Or.inl ⟨by rfl, ?q14⟩) H1.out ?_
  case q14 => intro w hSw; have hs1 := hSw.place; have hs2 := hSw.made; clear hSw; go_simp; rfl
  simp only [Act.put, List.getElem_toArray, List.getElem_cons_zero, List.getElem_cons_succ, List.setIfInBounds_toArray, List.set_cons_zero, List.set_cons_succ]
  refine wpAnyH_done (by kernel_rfl) ?_ _
  have c1 := H1.out.place
  have f1 := H1.out.free
  obtain ⟨N, HN⟩ : ∃ N, Hid (at' + l.length = N) := ⟨_, rfl⟩
  have hN1 : (at' : Int) + (l.length : Int) = (N : Int) := by have := HN.out; omega
  have hN2 : IntKind.i64.wrap (N : Int) = (N : Int) := by have := HN.out; rw [IntKind.wrap_i64]; omega
  go_wp2
  go_ret2
  exact ⟨_, w1, rfl, O1.out, B1.out, by rw [HN.out]⟩
def litsOf : List SV → Option (List Nat)
  | [] => some []
  | .int .u8 (.lit (.ofNat n)) :: r => if n < 256 then (litsOf r).map (n :: ·) else none
  | _ => none
theorem litsOf_ok : ∀ (l : List SV) (k : List Nat), litsOf l = some k → l = lits k ∧ Byt k
  | [], k, h => by simp [litsOf] at h; subst h; exact ⟨rfl, fun x hx => by simp at hx⟩
  | s :: r, k, h => by
    unfold litsOf at h
    split at h
    · rename_i h0; cases h0
    · rename_i n r' h0
      cases h0
      split at h
      case isFalse => cases h
      rename_i hn
      rw [Option.map_eq_some_iff] at h
      obtain ⟨k', h1, rfl⟩ := h
      obtain ⟨h2, h3⟩ := litsOf_ok r k' h1
      refine ⟨by rw [h2]; rfl, fun x hx => ?_⟩
      rcases List.mem_cons.1 hx with rfl | hx
      · exact hn
      · exact h3 x hx
    · cases h
def conLit : ConF := fun g xs _ =>
  if g = 35 then
    match xs with
    | [.tv (.agg l)] => match litsOf l with | some k => if k.length = 16 then some (.tv (.agg (lits (schedL k)))) else none | none => none
    | _ => none
  else if g = 37 then
    match xs with
    | [.tv (.agg l), .tv (.agg m), .tv (.sc (.int .i64 (.lit (.ofNat r))))] =>
      match litsOf l, litsOf m with
      | some k, some b => if k.length = 176 ∧ b.length = 16 ∧ r ≤ 10 then some (.tv (.agg (lits (forthL k b r)))) else none
      | _, _ => none
    | _ => none
  else none
theorem conLit_ok (ρ : Env) : ConOk Try.prog ρ conLit := by
  intro g xs H v h ms B w args ha hH
  unfold conLit at h
  split at h
  · rename_i hg
    subst hg
    split at h
    case h_2 => cases h
    rename_i l
    split at h
    case h_2 => cases h
    rename_i k hk
    split at h
    case isFalse => cases h
    rename_i hlen
    simp only [Option.some.injEq] at h
    subst h
    obtain ⟨rfl, hb⟩ := litsOf_ok _ _ hk
    have ea : args = #[.agg (cells8 k)] := by
      obtain ⟨al⟩ := args
      have hl : al.length = 1 := by have := congrArg List.length ha; simpa using this.symm
      match al, hl, ha with
      | [u], _, ha =>
        simp only [List.map_cons, List.map_nil, List.cons.injEq, and_true, AV.inst, lits_inst, Option.some.injEq] at ha
        subst ha
        rfl
    subst ea
    refine (sched_any w k hb hlen).mono fun e w' ⟨q1, q2⟩ => ⟨_, q1, ?_, q2⟩
    simp only [AV.inst, lits_inst]
  · split at h
    case isFalse => cases h
    rename_i hg
    subst hg
    split at h
    case h_2 => cases h
    rename_i l m r
    split at h
    case h_2 => cases h
    rename_i k b hk hb
    split at h
    case isFalse => cases h
    rename_i hc
    obtain ⟨h1, h2, h3⟩ := hc
    simp only [Option.some.injEq] at h
    subst h
    obtain ⟨rfl, hkb⟩ := litsOf_ok _ _ hk
    obtain ⟨rfl, hbb⟩ := litsOf_ok _ _ hb
    have ea : args = #[.agg (cells8 k), .agg (cells8 b), .int .i64 (r : Int)] := by
      obtain ⟨al⟩ := args
      have hl : al.length = 3 := by have := congrArg List.length ha; simpa using this.symm
      match al, hl, ha with
      | [u, u', u''], _, ha =>
        simp only [List.map_cons, List.map_nil, List.cons.injEq, and_true, AV.inst, lits_inst, Option.some.injEq] at ha
        obtain ⟨rfl, rfl, ha⟩ := ha
        simp only [TV.inst, SV.inst, Ex.den, Option.some.injEq] at ha
        subst ha
        rfl
    subst ea
    refine (forth_any w k b hkb h1 hbb h2 r h3).mono fun e w' ⟨q1, q2⟩ => ⟨_, q1, ?_, q2⟩
    simp only [AV.inst, lits_inst]
end Go.Proofs.Ytmpdmkckjajhiaa
namespace Go.Proofs.Ytmpdmkckjajhiaa.Ev
open Go Go.RowKit
theorem cells_of_cell {w : World} {b j : Nat} {v : Value} (h : (w.cell? ⟨b, j, none⟩) = some v) {o : Obj} (ho : w.heap[b]? = some o) : o.isCells = true := by
  unfold World.cell? at h
  rw [ho] at h
  cases o <;> simp_all [Obj.isCells]
theorem Holds.put {ρ : Env} {ms : List Nat} {H : List Blk} {B : Nat} {w : World} (h : Holds ρ ms H B w) {l : Nat} {o : Obj} (ho : w.heap[l]? = some o) (hc : o.isCells = false) (o' : Obj) : Holds ρ ms H B (w.putObj l o') where
  len := h.len
  gl := h.gl
  inj := h.inj
  low := h.low
  bnd := fun i b k hi hk hne => by simpa using h.bnd i b k hi hk hne
  big := by simpa using h.big
  plain := h.plain
  cell := fun i b k hi hk j s hs => by
    obtain ⟨v, h1, h2, h3⟩ := h.cell i b k hi hk j s hs
    have hbl : b ≠ l := fun e => by
      subst e
      have := cells_of_cell h2 ho
      rw [this] at hc; cases hc
    refine ⟨v, h1, ?_, fun hr => ?_⟩
    · rw [← h2]; unfold World.cell?; rw [World.putObj_heap_other hbl]
    · rw [← h3 hr]; unfold World.frozen?; rw [World.putObj_heap_other hbl]
  room := fun i b c k0 k hi hc' hk0 hr0 hn0 hk hcap j hj => by
    obtain ⟨e1, e2⟩ := h.room i b c k0 k hi hc' hk0 hr0 hn0 hk hcap j hj
    have hbl : b ≠ l := fun e => by
      subst e
      cases hx : w.cell? ⟨b, j, none⟩ with
      | none => rw [hx] at e1; simp at e1
      | some x =>
        have := cells_of_cell hx ho
        rw [this] at hc; cases hc
    refine ⟨?_, ?_⟩
    · rw [← e1]; unfold World.cell?; rw [World.putObj_heap_other hbl]
    · rw [← e2]; unfold World.frozen?; rw [World.putObj_heap_other hbl]
structure BelX (l B : Nat) (w w' : World) : Prop extends Below B w w' where
  kept : ∀ (i : Nat) (o : Obj), i ≠ l → w.heap[i]? = some o → o.isCells = false → w'.heap[i]? = some o
theorem BelX.refl (l B : Nat) (w : World) : BelX l B w w := ⟨Below.refl B w, fun _ _ _ h _ => h⟩
theorem BelX.trans {l B : Nat} {a b c : World} (h : BelX l B a b) (k : BelX l B b c) : BelX l B a c := ⟨h.toBelow.trans k.toBelow, fun i o hl hi hc => k.kept i o hl (h.kept i o hl hi hc) hc⟩
theorem Bel.x {l B : Nat} {w w' : World} (h : Bel B w w') : BelX l B w w' := ⟨h.toBelow, fun i o _ hi hc => h.kept i o hi hc⟩
theorem BelX.put {l B : Nat} (hl : B ≤ l) (w : World) (o : Obj) : BelX l B w (w.putObj l o) :=
  ⟨⟨rfl, rfl, rfl, by simp, fun k hk => World.putObj_heap_other (by omega)⟩, fun i o' hi h _ => (World.putObj_heap_other hi).trans h⟩
def Out.code : Out → Code
  | .normal => .skip
  | .exit i => .exit i
  | .ret => .ret
def pendOf : Out → Option Out
  | .normal => none
  | o => some o
def isN : Out → Bool
  | .normal => true
  | _ => false
def RecP (mkL : LoopState → Option Code → Loop) (l : Nat) (p : Option Out) (w : World) : Prop := w.heap[l]? = some (.loop (match p with | none => mkL .ready none | some o => mkL .done (some o.code)))
theorem RecP.bel {mkL : LoopState → Option Code → Loop} {l : Nat} {p : Option Out} {B : Nat} {w w' : World} (h : RecP mkL l p w) (hb : Bel B w w') : RecP mkL l p w' := hb.kept l _ h rfl
abbrev YF := List AV → List Blk → Option (Out × List Blk)
def yv (l : Nat) : Value := .func (.yield l) #[] #[]
def YOk (P : Program) (ρ : Env) (m0 : List Nat) (l B : Nat) (mkL : LoopState → Option Code → Loop) (yh : YF) : Prop :=
  ∀ aas H o H', yh aas H = some (o, H') → ∀ (n : Nat) (ms : List Nat) (w : World) (args : Array Value), m0 <+: ms → aas.map (AV.inst ρ ms) = args.toList.map some → Holds ρ ms H B w → RecP mkL l none w → ∀ (R : Ending → World → Prop),
    (∀ ms' w', ms <+: ms' → Holds ρ ms' H' B w' → RecP mkL l (pendOf o) w' → BelX l B w w' → R (.returned (.bool (isN o))) w') → YieldAt Fence.wide n P l args w R
def setL : List (Nat × AV) → Tm → Tm
  | [], t => t
  | p :: r, t => setL r (t.set p.1 p.2)
theorem relT_zip {ρ : Env} {ms : List Nat} : ∀ (ps : List Nat) (aas : List AV) (args : List Value) (t : Tm) (tmps : Array Value), aas.map (AV.inst ρ ms) = args.map some → RelT ρ ms t tmps →
    RelT ρ ms (setL (ps.zip aas) t) ((ps.zip args).foldl (fun (tm : Array Value) (p : Nat × Value) => tm.setIfInBounds p.1 p.2) tmps)
  | [], _, _, _, _, _, h => by simpa [setL] using h
  | p :: ps, [], [], t, tmps, _, h => by simpa [setL] using h
  | p :: ps, [], _ :: _, _, _, e, _ => by simp at e
  | p :: ps, _ :: _, [], _, _, e, _ => by simp at e
  | p :: ps, x :: aas, v :: args, t, tmps, e, h => by
    simp only [List.map_cons, List.cons.injEq] at e
    simp only [List.zip_cons_cons, setL, List.foldl_cons]
    exact relT_zip ps aas args _ _ e.2 (RelT.put (a := { tmps := tmps, defers := [] }) h p e.1)
def yhOf (self : CodeF) (ps : Array Tmp) (assign body : Code) (t0 : Tm) : YF := fun aas H =>
  match Nat.beq aas.length ps.size with
  | true =>
    match self assign (setL (ps.toList.zip aas) t0) H with
    | some (.normal, t2, H2) =>
      match self body t2 H2 with
      | some (o, _, H3) => some (o, H3)
      | none => none
    | _ => none
  | false => none
theorem yh_ok {P : Program} {ρ : Env} {self : CodeF} (hs : CodeOkG P ρ self) {fnn : FuncId} {tmps0 : Array Value} {ps : Array Tmp} {assign body : Code} {dd l B : Nat} (ha : calm assign = true) (hb : calm body = true) {m0 : List Nat} {t0 : Tm} (hT0 : RelT ρ m0 t0 tmps0) (hBl : B ≤ l) :
    YOk P ρ m0 l B (fun st pe => { state := st, pending := pe, fn := fnn, tmps := tmps0, params := ps, assign, body, defers := dd }) (yhOf self ps assign body t0) := by
  intro aas H o H' h n ms w args hms hargs hH hR R hK
  unfold yhOf at h
  split at h
  case h_2 => cases h
  rename_i hlen
  split at h
  case h_2 => cases h
  rename_i t2 H2 h1
  split at h
  case h_2 => cases h
  rename_i o' t3 H3 h2
  simp only [Option.some.injEq, Prod.mk.injEq] at h
  obtain ⟨rfl, rfl⟩ := h
  have hsz : args.size = ps.size := by
    have e1 := congrArg List.length hargs
    have e2 := Nat.eq_of_beq_eq_true hlen
    simp at e1
    omega
  unfold RecP at hR
  simp only at hR
  refine ⟨fnn, _, assign, body, run_yield (P := P) hR hsz, roundIn_of_wpIn (F := Fence.wide) trivial ?_⟩
  have hRel : RelT ρ ms (setL (ps.toList.zip aas) t0) ((ps.zip args).foldl (fun (tm : Array Value) (p : Nat × Value) => tm.setIfInBounds p.1 p.2) tmps0) := by
    have := relT_zip ps.toList aas args.toList t0 tmps0 hargs (hT0.mono hms)
    rw [← Array.foldl_toList, Array.toList_zip]
    exact this
  refine hs assign _ H .normal t2 H2 h1 (some l) (.inr ha) n ms B _ w _ hRel hH fun ms1 a1 w1 q1 q2 q3 q4 q5 => ?_
  have hR1 := q5.kept l _ hR rfl
  refine ⟨_, run_beginRound hR1 rfl, ?_⟩
  have hR2 := World.putObj_heap_same (o := Obj.loop { state := .busy, pending := none, fn := fnn, tmps := tmps0, params := ps, assign := assign, body := body, defers := dd }) (Array.getElem?_eq_some_iff.1 hR1).1
  refine hs body t2 H2 o' t3 H3 h2 (some l) (.inr hb) n ms1 B a1 _ _ q2 (q4.put hR1 rfl _) fun ms3 a3 w3 r1 r2 r3 r4 r5 => ?_
  have hR3 := r5.kept l _ hR2 rfl
  have hlt := (Array.getElem?_eq_some_iff.1 hR3).1
  have hB : ∀ o4, BelX l B w (w3.putObj l o4) := fun o4 => ((q5.x.trans (BelX.put hBl _ _)).trans r5.x).trans (BelX.put hBl _ _)
  cases o' with
  | normal => exact ⟨_, _, run_endRound (P := P) none hR3, hK ms3 _ (q1.trans r1) (r4.put hR3 rfl _) (World.putObj_heap_same hlt) (hB _)⟩
  | exit i => exact ⟨_, _, run_endRound (P := P) (some (.exit i)) hR3, hK ms3 _ (q1.trans r1) (r4.put hR3 rfl _) (World.putObj_heap_same hlt) (hB _)⟩
  | ret => exact ⟨_, _, run_endRound (P := P) (some .ret) hR3, hK ms3 _ (q1.trans r1) (r4.put hR3 rfl _) (World.putObj_heap_same hlt) (hB _)⟩
def yCall (Y : List Nat) (o : Oper) : Option (List Operand) :=
  match o.guard with
  | none =>
    match o.op with
    | .call c =>
      match c.callee with
      | .value (.tmp y) => if Y.contains y then some c.args.toList else none
      | _ => none
    | _ => none
  | some _ => none
def yMove (Y : List Nat) (t : Tm) (o : Oper) : Option Nat :=
  match o.guard with
  | none =>
    match o.op with
    | .move (.tmp y) =>
      match o.dst with
      | some d => if Y.contains y && (t.get d).isNone && Nat.blt d t.n then some d else none
      | none => none
    | _ => none
  | some _ => none
noncomputable def evIOps (yh : YF) (call : CallF) (P : Program) (L : Lore) (ops : Array Oper) : List Oper → List Nat → Tm → Option Out → List Blk → Option (Tm × Option Out × List Blk)
  | [], _, t, p, H => some (t, p, H)
  | o :: r, Y, t, p, H =>
    match yCall Y o with
    | some xs =>
      match p with
      | none =>
        match seqO (xs.map (evGet t)) with
        | some aas =>
          match dstFree Y o with
          | true =>
            match yh aas H with
            | some (out, H') => evIOps yh call P L ops r Y (putA t o.dst (.tv (.sc (.bool (isN out))))) (pendOf out) H'
            | none => none
          | false => none
        | none => none
      | some _ => none
    | none =>
      match yMove Y t o with
      | some d => evIOps yh call P L ops r (d :: Y) t p H
      | none =>
        match calmO o && dstFree Y o with
        | true =>
          match opsF call P L ops [o] t H with
          | some (t', H') => evIOps yh call P L ops r Y t' p H'
          | none => none
        | false => none
theorem wanted_none {o : Oper} (h : o.guard = none) (ops : Array Oper) (tm : Array Value) : Region.wanted o (yielded ops tm) = true := by
  unfold Region.wanted
  rw [h]
theorem evIOps_ok {P : Program} {ρ : Env} {L : Lore} (hL : LoreOk ρ L) {call : CallF} (hc : CallOk P ρ call) {m0 : List Nat} {l B : Nat} {mkL : LoopState → Option Code → Loop} {yh : YF} (hy : YOk P ρ m0 l B mkL yh) {ops : Array Oper} {n : Nat} {Q : Exit → Act → World → Prop} :
    ∀ (lst : List Oper) (Y : List Nat) (t : Tm) (p : Option Out) (H : List Blk) (t' : Tm) (p' : Option Out) (H' : List Blk), evIOps yh call P L ops lst Y t p H = some (t', p', H') →
    ∀ (ms : List Nat) (a : Act) (w : World), m0 <+: ms → RelT ρ ms t a.tmps → Ys Y (yv l) a.tmps → 0 ∈ Y → Holds ρ ms H B w → RecP mkL l p w →
    (∀ ms' a' w', ms <+: ms' → RelT ρ ms' t' a'.tmps → a'.tmps[0]? = some (yv l) → a'.defers = a.defers → Holds ρ ms' H' B w' → RecP mkL l p' w' → BelX l B w w' → Q .normal a' w') → wpListIn Fence.wide n P ops Q lst a w
  | [], Y, t, p, H, t', p', H', h, ms, a, w, hms, hT, hY, h0, hH, hR, hQ => by
    simp only [evIOps, Option.some.injEq, Prod.mk.injEq] at h
    obtain ⟨rfl, rfl, rfl⟩ := h
    exact hQ ms a w (List.prefix_refl _) hT (hY 0 h0) rfl hH hR (BelX.refl _ _ _)
  | o :: r, Y, t, p, H, t', p', H', h, ms, a, w, hms, hT, hY, h0, hH, hR, hQ => by
    simp only [evIOps] at h
    unfold wpListIn
    split at h
    · -- the yield
      rename_i xs hx
      unfold yCall at hx
      split at hx
      case h_2 => cases hx
      rename_i hg
      split at hx
      case h_2 => cases hx
      rename_i c hop
      split at hx
      case h_2 => cases hx
      rename_i y hcal
      split at hx
      case isFalse => cases hx
      rename_i hyY
      simp only [Option.some.injEq] at hx
      subst hx
      split at h
      case h_2 => cases h
      split at h
      case h_2 => cases h
      rename_i aas has
      split at h
      case h_2 => cases h
      rename_i hdf
      split at h
      case h_2 => cases h
      rename_i out H1 hyh
      rw [wanted_none hg, if_pos rfl]
      have hyv : a.eval (.tmp y) = yv l := by
        have := hY y (by simpa using hyY)
        simp [Act.eval, Array.getD_eq_getD_getElem?, this]
      have hargs : aas.map (AV.inst ρ ms) = (c.args.map a.eval).toList.map some := by
        rw [seqO_iff] at has
        have key : ∀ (xs : List Operand) (aas : List AV), xs.map (evGet t) = aas.map some → aas.map (AV.inst ρ ms) = (xs.map a.eval).map some := by
          intro xs
          induction xs with
          | nil => intro aas h; cases aas <;> simp at h ⊢
          | cons x xs ih =>
            intro aas h
            cases aas with
            | nil => simp at h
            | cons p aas =>
              simp only [List.map_cons, List.cons.injEq] at h ⊢
              exact ⟨evGet_ok hT h.1, ih aas h.2⟩
        have := key _ _ has
        rw [this]; simp
      obtain ⟨fnn, tm, as1, bd, hrun, hround⟩ := hy aas H out H1 hyh (n - 1) ms w (c.args.map a.eval) hms hargs hH hR (fun e w'' => match e with
        | .returned v => wpListIn Fence.wide n P ops Q r (a.put o.dst v) w''
        | .panicked chain => Q (.panic chain) a w''
        | .outgrown => LetsOut Q) (by
          intro ms1 w1 q1 q2 q3 q4
          have hT1 := (hT.mono q1).putA o.dst (x := .tv (.sc (.bool (isN out)))) (v := .bool (isN out)) rfl
          refine evIOps_ok hL hc hy r Y _ _ H1 t' p' H' h ms1 _ w1 (hms.trans q1) hT1 (hY.put hdf _) h0 q2 q3 fun ms2 a2 w2 r1 r2 r3 r4 r5 r6 r7 => ?_
          exact hQ ms2 a2 w2 (q1.trans r1) r2 r3 (r4.trans (put_defers _ _ _)) r5 r6 (q4.trans r7))
      refine ⟨fun f _ => trivial, ?_⟩
      rw [Oper.semAt_eq _ _ _ (fun c' e => by rw [hop] at e; cases e)]
      have hex : (execOp a.eval o).run P w = .ok (.round l fnn tm as1 bd) w := by
        simp only [execOp, hop, resolve, hcal, hyv, yv, Deferred.ofValue, Sem.run_bind, Sem.run_pure, Result.andThen_ok, invoke]
        simpa using hrun
      rw [hex]
      exact ⟨(fun e => by cases e), hround.mono fun e w1 he => by cases e <;> exact he⟩
    · split at h
      · -- the yield moved
        rename_i d hx
        unfold yMove at hx
        split at hx
        case h_2 => cases hx
        rename_i hg
        split at hx
        case h_2 => cases hx
        rename_i y hop
        split at hx
        case h_2 => cases hx
        rename_i d' hdst
        split at hx
        case isFalse => cases hx
        rename_i hcond
        simp only [Option.some.injEq] at hx
        subst hx
        simp only [Bool.and_eq_true] at hcond
        obtain ⟨⟨hyY, hnone⟩, hlt⟩ := hcond
        rw [wanted_none hg, if_pos rfl]
        have hyv : a.eval (.tmp y) = yv l := by
          have := hY y (by simpa using hyY)
          simp [Act.eval, Array.getD_eq_getD_getElem?, this]
        refine ⟨fun f _ => trivial, ?_⟩
        rw [Oper.semAt_eq _ _ _ (fun c' e => by rw [hop] at e; cases e)]
        have hex : (execOp a.eval o).run P w = .ok (.value (yv l)) w := by
          simp only [execOp, hop, hyv, Sem.run_pure]
        rw [hex]
        show wpListIn Fence.wide n P ops Q r (a.put o.dst (yv l)) w
        rw [hdst]
        have hdlt : d' < a.tmps.size := by rw [← hT.sz]; exact Nat.le_of_ble_eq_true hlt
        refine evIOps_ok hL hc hy r (d' :: Y) t p H t' p' H' h ms _ w hms ⟨?_, hT.le, fun i x hi => ?_, hT.gl⟩ ?_ (List.mem_cons_of_mem _ h0) hH hR fun ms2 a2 w2 r1 r2 r3 r4 r5 r6 r7 => hQ ms2 a2 w2 r1 r2 r3 r4 r5 r6 r7
        · simp [Act.put, hT.sz]
        · obtain ⟨v, h1, h2⟩ := hT.val i x hi
          refine ⟨v, ?_, h2⟩
          simp only [Act.put]
          rw [Array.getElem?_setIfInBounds, if_neg (fun e => by subst e; rw [hi] at hnone; cases hnone)]
          exact h1
        · intro z hz
          simp only [Act.put]
          rw [Array.getElem?_setIfInBounds]
          rcases List.mem_cons.1 hz with rfl | hz
          · rw [if_pos rfl, if_pos hdlt]
          · by_cases e : d' = z
            · rw [if_pos e, if_pos hdlt]
            · rw [if_neg e]; exact hY z hz
      · split at h
        case h_2 => cases h
        rename_i hcd
        rw [Bool.and_eq_true] at hcd
        split at h
        case h_2 => cases h
        rename_i t1 H1 h1
        rw [opsF_eq] at h1
        have key : wpList P ops (fun e a' w' => e = .normal ∧ ∃ ms', ms <+: ms' ∧ RelT ρ ms' t1 a'.tmps ∧ a'.defers = a.defers ∧ Holds ρ ms' H1 B w' ∧ Bel B w w') [o] a w :=
          evOps_ok hL hc [o] ms t H a w t1 H1 hT hH h1 fun ms' a' w' q1 q2 q3 q4 q5 => ⟨rfl, ms', q1, q2, q3, q4, q5⟩
        have go : ∀ a' w', (∃ ms', ms <+: ms' ∧ RelT ρ ms' t1 a'.tmps ∧ a'.defers = a.defers ∧ Holds ρ ms' H1 B w' ∧ Bel B w w') → (∃ v, a'.tmps = (a.put o.dst v).tmps) → wpListIn Fence.wide n P ops Q r a' w' := by
          rintro a' w' ⟨ms', q1, q2, q3, q4, q5⟩ ⟨v, hv⟩
          refine evIOps_ok hL hc hy r Y t1 p H1 t' p' H' h ms' a' w' (hms.trans q1) q2 (by rw [hv]; exact hY.put hcd.2 v) h0 q4 (hR.bel q5) fun ms2 a2 w2 r1 r2 r3 r4 r5 r6 r7 => ?_
          exact hQ ms2 a2 w2 (q1.trans r1) r2 r3 (r4.trans q3) r5 r6 (q5.x.trans r7)
        unfold wpList at key
        split at key
        · rename_i hw
          rw [if_pos hw]
          rcases key with key | ⟨_, a0, w0, q⟩
          · exact op_in (ro := none) key hcd.1 (fun e a w q => q.1) fun a' w' hk hv => go a' w' hk.2 hv
          · cases q.1
        · rename_i hw
          rw [if_neg hw]
          exact ⟨fun _ _ => trivial, go _ _ key.2 ⟨undef, rfl⟩⟩
noncomputable def evI (yh : YF) (call : CallF) (P : Program) (L : Lore) : Nat → Code → Tm → Option Out → List Blk → Option (Out × Tm × Option Out × List Blk)
  | 0, _, _, _, _ => none
  | n + 1, c, t, p, H =>
    match c with
    | .skip => some (.normal, t, p, H)
    | .region _ ops false => (evIOps yh call P L ops ops.toList [0] t p H).map fun r => (.normal, r.1, r.2.1, r.2.2)
    | .region _ ops true =>
      match ops.all fun o => calmO o && dstFree [0] o with
      | true => (evPlanF call P L ops t H).map fun r => (.normal, r.1, p, r.2)
      | false => none
    | .seq x y =>
      match evI yh call P L n x t p H with
      | some (.normal, t', p', H') => evI yh call P L n y t' p' H'
      | r => r
    | .cond c x y =>
      match evGet t c with
      | some (.tv (.sc (.bool true))) => evI yh call P L n x t p H
      | some (.tv (.sc (.bool false))) => evI yh call P L n y t p H
      | _ => none
    | .block id c =>
      match evI yh call P L n c t p H with
      | some (.exit i, t', p', H') => if i = id then some (.normal, t', p', H') else some (.exit i, t', p', H')
      | r => r
    | .loop c =>
      match evI yh call P L n c t p H with
      | some (.normal, t', p', H') => evI yh call P L n (.loop c) t' p' H'
      | r => r
    | .exit id => some (.exit id, t, p, H)
    | .ret => some (.ret, t, p, H)
    | .label _ => some (.normal, t, p, H)
    | _ => none
theorem evI_ok {P : Program} {ρ : Env} {L : Lore} (hL : LoreOk ρ L) (hm : P.follows .mixedOrders = true) {call : CallF} (hc : CallOk P ρ call) {m0 : List Nat} {l B : Nat} {mkL : LoopState → Option Code → Loop} {yh : YF} (hy : YOk P ρ m0 l B mkL yh) (nn : Nat) :
    ∀ (n : Nat) (c : Code) (t : Tm) (p : Option Out) (H : List Blk) (o : Out) (t' : Tm) (p' : Option Out) (H' : List Blk), evI yh call P L n c t p H = some (o, t', p', H') →
    ∀ (ms : List Nat) (a : Act) (w : World) (Q : Exit → Act → World → Prop), m0 <+: ms → RelT ρ ms t a.tmps → a.tmps[0]? = some (yv l) → Holds ρ ms H B w → RecP mkL l p w →
    (∀ ms' a' w', ms <+: ms' → RelT ρ ms' t' a'.tmps → a'.tmps[0]? = some (yv l) → a'.defers = a.defers → Holds ρ ms' H' B w' → RecP mkL l p' w' → BelX l B w w' → Q o.to a' w') → c.wpIn Fence.wide nn P Q a w := by
  intro n
  induction n using Nat.strongRecOn with
  | _ n ih =>
    cases n with
    | zero => intro c t p H o t' p' H' h; simp [evI] at h
    | succ n =>
      have ihn := ih n (by omega)
      intro c t p H o t' p' H' h ms a w Q hms hT h0 hH hR hQ
      have hstart := h
      unfold evI at h
      split at h
      · simp only [Option.some.injEq, Prod.mk.injEq] at h
        obtain ⟨rfl, rfl, rfl, rfl⟩ := h
        exact wpIn_skip (hQ ms a w (List.prefix_refl _) hT h0 rfl hH hR (BelX.refl _ _ _))
      · rw [Option.map_eq_some_iff] at h
        obtain ⟨r, h1, h2⟩ := h
        simp only [Prod.mk.injEq] at h2
        obtain ⟨rfl, rfl, rfl, rfl⟩ := h2
        exact wpIn_region_list (evIOps_ok hL hc hy _ [0] t p H r.1 r.2.1 r.2.2 h1 ms a w hms hT (fun y hy => by simp at hy; subst hy; exact h0) (by simp) hH hR hQ)
      · rename_i id ops
        split at h
        case h_2 => cases h
        rename_i hcm
        rw [Option.map_eq_some_iff] at h
        obtain ⟨r, h1, h2⟩ := h
        simp only [Prod.mk.injEq] at h2
        obtain ⟨rfl, rfl, rfl, rfl⟩ := h2
        rw [evPlanF_eq] at h1
        have key := evPlan_any (Q := fun e a' w' => ∃ ms', ms <+: ms' ∧ RelT ρ ms' r.1 a'.tmps ∧ a'.defers = a.defers ∧ Holds ρ ms' r.2 B w' ∧ Bel B w w') hL hc hT hH h1 fun ms' a' w' q1 q2 q3 q4 q5 => ⟨ms', q1, q2, q3, q4, q5⟩
        refine wpIn_mono (wpIn_region_any hm (any_in (ro := none) (Y := [0]) (yv := yv l) (fun e a w q => q.1) hcm _ _ a _ key (fun y hy => by simp at hy; subst hy; exact h0))) fun e a1 w1 q => ?_
        obtain ⟨⟨rfl, ms', q1, q2, q3, q4, q5⟩, q6⟩ := q
        exact hQ ms' a1 w1 q1 q2 (q6 0 (by simp)) q3 q4 (hR.bel q5) q5.x
      · rename_i x y
        split at h
        · rename_i t1 p1 H1 h1
          refine wpIn_seq (ihn x t p H .normal t1 p1 H1 h1 ms a w _ hms hT h0 hH hR fun ms1 a1 w1 q1 q2 q3 q4 q5 q6 q7 => ?_)
          exact ihn y t1 p1 H1 o t' p' H' h ms1 a1 w1 Q (hms.trans q1) q2 q3 q5 q6 fun ms2 a2 w2 r1 r2 r3 r4 r5 r6 r7 => hQ ms2 a2 w2 (q1.trans r1) r2 r3 (r4.trans q4) r5 r6 (q7.trans r7)
        · rename_i hne
          have hno : o ≠ .normal := fun e => by subst e; exact hne t' p' H' h
          refine wpIn_seq (ihn x t p H o t' p' H' h ms a w _ hms hT h0 hH hR fun ms1 a1 w1 q1 q2 q3 q4 q5 q6 q7 => ?_)
          have := hQ ms1 a1 w1 q1 q2 q3 q4 q5 q6 q7
          cases o with
          | normal => exact absurd rfl hno
          | exit i => exact this
          | ret => exact this
      · rename_i cc x y
        split at h
        · rename_i hcc
          have e := evGet_ok hT hcc
          simp only [AV.inst, TV.inst, SV.inst, Option.some.injEq] at e
          exact wpIn_cond_true e.symm (ihn x t p H o t' p' H' h ms a w Q hms hT h0 hH hR hQ)
        · rename_i hcc
          have e := evGet_ok hT hcc
          simp only [AV.inst, TV.inst, SV.inst, Option.some.injEq] at e
          exact wpIn_cond_false e.symm (ihn y t p H o t' p' H' h ms a w Q hms hT h0 hH hR hQ)
        · cases h
      · rename_i id x
        split at h
        · rename_i i t1 p1 H1 h1
          refine wpIn_block (ihn x t p H (.exit i) t1 p1 H1 h1 ms a w _ hms hT h0 hH hR fun ms1 a1 w1 q1 q2 q3 q4 q5 q6 q7 => ?_)
          simp only [Out.to, Exit.inBlock]
          split at h
          · rename_i e
            rw [if_pos e]
            simp only [Option.some.injEq, Prod.mk.injEq] at h
            obtain ⟨rfl, rfl, rfl, rfl⟩ := h
            exact hQ ms1 a1 w1 q1 q2 q3 q4 q5 q6 q7
          · rename_i e
            rw [if_neg e]
            simp only [Option.some.injEq, Prod.mk.injEq] at h
            obtain ⟨rfl, rfl, rfl, rfl⟩ := h
            exact hQ ms1 a1 w1 q1 q2 q3 q4 q5 q6 q7
        · rename_i hne
          refine wpIn_block (ihn x t p H o t' p' H' h ms a w _ hms hT h0 hH hR fun ms1 a1 w1 q1 q2 q3 q4 q5 q6 q7 => ?_)
          have := hQ ms1 a1 w1 q1 q2 q3 q4 q5 q6 q7
          cases o with
          | normal => exact this
          | exit i => exact absurd h (hne i t' p' H')
          | ret => exact this
      · rename_i x
        let R : Nat → Act → World → Prop := fun k a1 w1 => k ≤ n + 1 ∧ ∃ ms1 t1 p1 H1, evI yh call P L k (.loop x) t1 p1 H1 = some (o, t', p', H') ∧ ms <+: ms1 ∧ RelT ρ ms1 t1 a1.tmps ∧ a1.tmps[0]? = some (yv l) ∧ a1.defers = a.defers ∧ Holds ρ ms1 H1 B w1 ∧ RecP mkL l p1 w1 ∧ BelX l B w w1
        classical
        refine wpIn_loop (fun a1 w1 => ∃ k, R k a1 w1) (fun a1 w1 => if hx : ∃ k, R k a1 w1 then Classical.choose (has_least hx) else 0) ⟨n + 1, Nat.le_refl _, ms, t, p, H, hstart, List.prefix_refl _, hT, h0, rfl, hH, hR, BelX.refl _ _ _⟩ ?_
        intro a1 w1 hI
        have hmin := (Classical.choose_spec (has_least hI)).1
        have hall := (Classical.choose_spec (has_least hI)).2
        generalize hk : Classical.choose (has_least hI) = k at hmin hall
        obtain ⟨hle, ms1, t1, p1, H1, hev, s1, s2, s3, s4, s5, s6, s7⟩ := hmin
        cases k with
        | zero => simp [evI] at hev
        | succ k =>
          have ihk := ih k (by omega)
          simp only [evI] at hev
          split at hev
          · rename_i t2 p2 H2 h2
            refine ihk x t1 p1 H1 .normal t2 p2 H2 h2 ms1 a1 w1 _ (hms.trans s1) s2 s3 s5 s6 fun ms2 a2 w2 q1 q2 q3 q4 q5 q6 q7 => ?_
            have hRk : R k a2 w2 := ⟨by omega, ms2, t2, p2, H2, hev, s1.trans q1, q2, q3, q4.trans s4, q5, q6, s7.trans q7⟩
            have hE : ∃ j, R j a2 w2 := ⟨k, hRk⟩
            refine ⟨hE, ?_⟩
            rw [dif_pos hE, dif_pos hI, hk]
            exact Nat.lt_succ_of_le ((Classical.choose_spec (has_least hE)).2 k hRk)
          · rename_i hne
            refine ihk x t1 p1 H1 o t' p' H' hev ms1 a1 w1 _ (hms.trans s1) s2 s3 s5 s6 fun ms2 a2 w2 q1 q2 q3 q4 q5 q6 q7 => ?_
            have := hQ ms2 a2 w2 (s1.trans q1) q2 q3 (q4.trans s4) q5 q6 (s7.trans q7)
            cases o with
            | normal => exact absurd hev (hne t' p' H')
            | exit i => exact this
            | ret => exact this
      · simp only [Option.some.injEq, Prod.mk.injEq] at h
        obtain ⟨rfl, rfl, rfl, rfl⟩ := h
        exact wpIn_exit (hQ ms a w (List.prefix_refl _) hT h0 rfl hH hR (BelX.refl _ _ _))
      · simp only [Option.some.injEq, Prod.mk.injEq] at h
        obtain ⟨rfl, rfl, rfl, rfl⟩ := h
        exact wpIn_ret (hQ ms a w (List.prefix_refl _) hT h0 rfl hH hR (BelX.refl _ _ _))
      · simp only [Option.some.injEq, Prod.mk.injEq] at h
        obtain ⟨rfl, rfl, rfl, rfl⟩ := h
        exact wpIn_label (hQ ms a w (List.prefix_refl _) hT h0 rfl hH hR (BelX.refl _ _ _))
      · cases h
def markD (d : Nat) : Deferred := { target := .collected d, args := #[] }
def Out.ends : Out → Bool
  | .exit _ => false
  | _ => true
noncomputable def evRg (P : Program) (L : Lore) (call : CallF) (self : CodeF) (n : Nat) (g : Operand) (ps : Array Tmp) (assign body : Code) (t : Tm) (H : List Blk) : Option (Out × Tm × List Blk) :=
  match evGet t g with
  | some (.tv (.sc (.clo gi caps))) =>
    match canCall P gi && (calm assign && calm body) with
    | true =>
      match P.funcs[gi]? with
      | some fn =>
        match fn.body with
        | some c =>
          match Nat.ble fn.ntmps 512 && Nat.ble (caps.length + 1) fn.ntmps with
          | true =>
            match evI (yhOf self ps assign body t) call P L n c (Tm.fill 1 (ptrs caps) ⟨fn.ntmps, .emp⟩) none H with
            | some (o, t1, p1, H1) =>
              match o.ends with
              | true =>
                match evResults P fn t1 H1 with
                | some _ => some (match p1 with | none => .normal | some out => out, t, H1)
                | none => none
              | false => none
            | none => none
          | false => none
        | none => none
      | none => none
    | false => none
  | _ => none
theorem relT_iter {ρ : Env} {ms : List Nat} {caps : List (Nat × Nat)} {cvs : List Value} (e2 : caps.map (addr ms) = cvs.map some) {n : Nat} (hn : n ≤ 512) (hx : caps.length + 1 ≤ n) (hg : Gl ms) (y : Value) :
    RelT ρ ms (Tm.fill 1 (ptrs caps) ⟨n, .emp⟩) ((#[y] ++ cvs.toArray) ++ Array.replicate (n - (#[y] ++ cvs.toArray).size) undef) := by
  have hl : caps.length = cvs.length := by have := congrArg List.length e2; simpa using this
  refine ⟨by rw [Tm.fill_n]; simp; omega, by rw [Tm.fill_n]; exact hn, fun j x hj => ?_, hg⟩
  rcases Tm.get_fill (ptrs caps) 1 ⟨n, .emp⟩ hn j x hj with ⟨h1, h2⟩ | h1
  · unfold ptrs at h2
    rw [List.getElem?_map, Option.map_eq_some_iff] at h2
    obtain ⟨p, hp, rfl⟩ := h2
    have h3 := congrArg (fun l => l[j - 1]?) e2
    simp only [List.getElem?_map, hp, Option.map_some] at h3
    obtain ⟨v, hv, hv2⟩ := Option.map_eq_some_iff.1 h3.symm
    have hlt := (List.getElem?_eq_some_iff.1 hv).1
    refine ⟨v, ?_, ?_⟩
    · rw [Array.getElem?_append_left (by simp; omega), Array.getElem?_append_right (by simp; omega)]
      simpa using hv
    · simp only [AV.inst, TV.inst, SV.inst]
      rw [← hv2]
  · unfold Tm.get at h1
    split at h1
    · rw [Tr.law3.emp] at h1; cases h1
    · cases h1
theorem evRg_ok {P : Program} {ρ : Env} {L : Lore} (hL : LoreOk ρ L) (hm : P.follows .mixedOrders = true) {call : CallF} (hc : CallOk P ρ call) {self : CodeF} (hs : CodeOkG P ρ self) {n : Nat} {g : Operand} {ps : Array Tmp} {assign body : Code} {t t' : Tm} {H H' : List Blk} {o : Out}
    (h : evRg P L call self n g ps assign body t H = some (o, t', H')) {ms : List Nat} {B : Nat} {a : Act} {w : World} {Q : Exit → Act → World → Prop} (hT : RelT ρ ms t a.tmps) (hH : Holds ρ ms H B w)
    (hQ : ∀ ms' a' w' d, ms <+: ms' → RelT ρ ms' t' a'.tmps → a'.defers = markD d :: a.defers → w'.heap[d]? = some (.deferred (some [])) → w.heap.size ≤ d → Holds ρ ms' H' B w' → Bel B w w' → Q o.to a' w') : (Code.rangeFunc g ps assign body).wp P Q a w := by
  unfold evRg at h
  split at h
  case h_2 => cases h
  rename_i gi caps hgv
  split at h
  case h_2 => cases h
  rename_i hcan
  simp only [Bool.and_eq_true] at hcan
  obtain ⟨hcan, hca, hcb⟩ := hcan
  split at h
  case h_2 => cases h
  rename_i fn hfn
  split at h
  case h_2 => cases h
  rename_i c hb
  split at h
  case h_2 => cases h
  rename_i hbd
  rw [Bool.and_eq_true] at hbd
  split at h
  case h_2 => cases h
  rename_i o1 t1 p1 H1 hev
  split at h
  case h_2 => cases h
  rename_i hends
  split at h
  case h_2 => cases h
  rename_i v1 hres
  simp only [Option.some.injEq, Prod.mk.injEq] at h
  obtain ⟨rfl, rfl, rfl⟩ := h
  have e0 := evGet_ok hT hgv
  simp only [AV.inst, TV.inst, SV.inst, Option.map_eq_some_iff] at e0
  obtain ⟨cvs, e2, e3⟩ := e0
  rw [seqO_iff] at e2
  unfold canCall at hcan
  rw [hfn] at hcan
  simp only [Bool.and_eq_true, bne_iff_ne, ne_eq] at hcan
  have eg : ∀ args w, (callFunc gi args).run P w = .ok (.enter gi args) w := fun args w => by
    have hn : (fn.name == "runtime.NumGoroutine") = false := by simpa using hcan.1
    simp [callFunc, program, Sem.run, hfn, hn, hb, go_sem]
    exact hcan.1
  refine (wpIn_wide (n := 1)).1 (wpIn_rangeFunc fun fnn hfnn => ?_)
  let R : LoopState → Option Code → Loop := fun st pe => { state := st, pending := pe, fn := fnn, tmps := a.tmps, params := ps, assign, body, defers := w.heap.size }
  obtain ⟨W1, hW1⟩ : ∃ W1, (w.alloc (.deferred (some []))).alloc (.loop (R .ready none)) = W1 := ⟨_, rfl⟩
  have hg1 : Bel w.heap.size w W1 := by
    rw [← hW1]
    exact ((Bel.refl _ w).alloc (Nat.le_refl _) _).alloc (by simp) _
  have hl : RecP R (w.heap.size + 1) none W1 := by
    rw [← hW1]
    have := World.alloc_heap_new (w.alloc (.deferred (some []))) (.loop (R .ready none))
    rwa [World.size_alloc] at this
  have hd : W1.heap[w.heap.size]? = some (.deferred (some [])) := by
    rw [← hW1]
    exact (Below.heap_alloc _ _ _ (by simp)).trans (World.alloc_heap_new w _)
  have hBl : B ≤ w.heap.size + 1 := Nat.le_succ_of_le hH.big
  refine ⟨w.heap.size + 1, [markD w.heap.size], W1, { target := .fn (.func gi) cvs.toArray, args := #[yv (w.heap.size + 1)] }, W1, gi, #[yv (w.heap.size + 1)] ++ cvs.toArray, W1, ?_, ?_, ?_, ?_, fun _ => Nat.le_refl _, ?_⟩
  · rw [← hW1]; exact run_enterLoop_outer _ _ _ _ _
  · simp only [resolve, ← e3]; simp [go_sem, yv]
  · intro f' hf'; trivial
  · simp [invoke, go_sem, eg, yv]
  · refine callsIn_wide.2 (calls_of_wp hfn hb ((wpIn_wide (n := 0)).1 ?_))
    refine evI_ok hL hm hc (yh_ok hs hca hcb hT hBl) 0 n c _ none H o1 t1 p1 H1 hev ms _ W1 _ (List.prefix_refl _) (relT_iter e2 (Nat.le_of_ble_eq_true hbd.1) (Nat.le_of_ble_eq_true hbd.2) hT.gl _) ?_ (hH.below hg1.toBelow) hl fun ms' a' w' q1 q2 q3 q4 q5 q6 q7 => ?_
    · simp [Array.getElem?_append]
    obtain ⟨u, e4, e5⟩ := evResults_ok q2 q5 hres
    have hBel : ∀ o4, Bel B w (w'.putObj (w.heap.size + 1) o4) := fun o4 => by
      have h1 := q7.trans (BelX.put hBl w' o4)
      refine ⟨(hg1.toBelow.mono hH.big).trans h1.toBelow, fun i o hi hcl => h1.kept i o ?_ (hg1.kept i o hi hcl) hcl⟩
      have := (Array.getElem?_eq_some_iff.1 hi).1
      omega
    have hmk : ∀ o4, (w'.putObj (w.heap.size + 1) o4).heap[w.heap.size]? = some (.deferred (some [])) := fun o4 => (World.putObj_heap_other (by omega)).trans (q7.kept _ _ (by omega) hd rfl)
    have fin : rangePost Fence.wide 1 P (w.heap.size + 1) Q { a with defers := [markD w.heap.size] ++ a.defers } (.returned u) w' := by
      unfold RecP at q6
      cases p1 with
      | none =>
        refine ⟨none, _, run_endLoop (P := P) q6 (by simp [R]), ?_⟩
        exact hQ ms' _ _ w.heap.size q1 (hT.mono q1) rfl (hmk _) (Nat.le_refl _) (q5.put q6 rfl _) (hBel _)
      | some out =>
        refine ⟨some out.code, _, run_endLoop (P := P) q6 (by simp [R]), ?_⟩
        have := hQ ms' { a with defers := [markD w.heap.size] ++ a.defers } _ w.heap.size q1 (hT.mono q1) rfl (hmk (.loop { R .done (some out.code) with state := .exhausted })) (Nat.le_refl _) (q5.put q6 rfl _) (hBel _)
        cases out with
        | normal => exact wpIn_skip this
        | exit i => exact wpIn_exit this
        | ret => exact wpIn_ret this
    cases o1 with
    | normal => exact ⟨q4, u, e5, fin⟩
    | exit i => cases hends
    | ret => exact ⟨q4, u, e5, fin⟩
def hasRange : Code → Bool
  | .rangeFunc _ _ _ _ => true
  | .seq a b => hasRange a || hasRange b
  | .cond _ x y => hasRange x || hasRange y
  | .block _ c => hasRange c
  | .loop c => hasRange c
  | _ => false
noncomputable def evR (P : Program) (L : Lore) (call : CallF) (self : CodeF) : Nat → CodeF
  | 0, _, _, _ => none
  | n + 1, c, t, H =>
    match hasRange c with
    | false => self c t H
    | true =>
      match c with
      | .seq x y =>
        match evR P L call self n x t H with
        | some (.normal, t', H') => evR P L call self n y t' H'
        | r => r
      | .cond c x y =>
        match evGet t c with
        | some (.tv (.sc (.bool true))) => evR P L call self n x t H
        | some (.tv (.sc (.bool false))) => evR P L call self n y t H
        | _ => none
      | .block id c =>
        match evR P L call self n c t H with
        | some (.exit i, t', H') => if i = id then some (.normal, t', H') else some (.exit i, t', H')
        | r => r
      | .loop c =>
        match evR P L call self n c t H with
        | some (.normal, t', H') => evR P L call self n (.loop c) t' H'
        | r => r
      | .rangeFunc g ps assign body => evRg P L call self n g ps assign body t H
      | _ => none
structure Marks (b : Nat) (ds : List Nat) (w : World) : Prop where
  nodup : ds.Nodup
  ok : ∀ d ∈ ds, w.heap[d]? = some (.deferred (some [])) ∧ b ≤ d
theorem Marks.nil (b : Nat) (w : World) : Marks b [] w := ⟨List.nodup_nil, fun d hd => by cases hd⟩
theorem Marks.add {b B : Nat} {ds es : List Nat} {w1 w2 : World} (h : Marks b ds w1) (hb : b ≤ w1.heap.size) (hl : Bel B w1 w2) (k : Marks w1.heap.size es w2) : Marks b (es ++ ds) w2 := by
  refine ⟨List.nodup_append.2 ⟨k.nodup, h.nodup, fun x hx y hy e => ?_⟩, fun d hd => ?_⟩
  · subst e
    have h1 := (k.ok x hx).2
    have h2 := (Array.getElem?_eq_some_iff.1 (h.ok x hy).1).1
    omega
  · rcases List.mem_append.1 hd with hd | hd
    · exact ⟨(k.ok d hd).1, Nat.le_trans hb (k.ok d hd).2⟩
    · exact ⟨hl.kept d _ (h.ok d hd).1 rfl, (h.ok d hd).2⟩
theorem evR_ok {P : Program} {ρ : Env} {L : Lore} (hL : LoreOk ρ L) (hm : P.follows .mixedOrders = true) {call : CallF} (hc : CallOk P ρ call) {self : CodeF} (hs : CodeOkG P ρ self) :
    ∀ (n : Nat) (c : Code) (t : Tm) (H : List Blk) (o : Out) (t' : Tm) (H' : List Blk), evR P L call self n c t H = some (o, t', H') →
    ∀ (ms : List Nat) (B : Nat) (a : Act) (w : World) (Q : Exit → Act → World → Prop), RelT ρ ms t a.tmps → Holds ρ ms H B w →
    (∀ ms' a' w' ds, ms <+: ms' → RelT ρ ms' t' a'.tmps → a'.defers = ds.map markD ++ a.defers → Marks w.heap.size ds w' → Holds ρ ms' H' B w' → Bel B w w' → Q o.to a' w') → c.wp P Q a w := by
  intro n
  induction n using Nat.strongRecOn with
  | _ n ih =>
    cases n with
    | zero => intro c t H o t' H' h; simp [evR] at h
    | succ n =>
      have ihn := ih n (by omega)
      intro c t H o t' H' h ms B a w Q hT hH hQ
      have hstart := h
      unfold evR at h
      split at h
      · exact hs.plain c t H o t' H' h ms B a w Q hT hH fun ms' a' w' q1 q2 q3 q4 q5 => hQ ms' a' w' [] q1 q2 q3 (Marks.nil _ _) q4 q5
      rename_i hhas
      split at h
      · rename_i x y
        split at h
        · rename_i t1 H1 h1
          refine wp_seq (ihn x t H .normal t1 H1 h1 ms B a w _ hT hH fun ms1 a1 w1 ds1 q1 q2 q3 q4 q5 q6 => ?_)
          refine ihn y t1 H1 o t' H' h ms1 B a1 w1 Q q2 q5 fun ms2 a2 w2 ds2 r1 r2 r3 r4 r5 r6 => ?_
          exact hQ ms2 a2 w2 (ds2 ++ ds1) (q1.trans r1) r2 (by rw [r3, q3]; simp) (q4.add q6.size r6 r4) r5 (q6.trans r6)
        · rename_i hne
          have hno : o ≠ .normal := fun e => by subst e; exact hne t' H' h
          refine wp_seq (ihn x t H o t' H' h ms B a w _ hT hH fun ms1 a1 w1 ds1 q1 q2 q3 q4 q5 q6 => ?_)
          have := hQ ms1 a1 w1 ds1 q1 q2 q3 q4 q5 q6
          cases o with
          | normal => exact absurd rfl hno
          | exit i => exact this
          | ret => exact this
      · rename_i cc x y
        split at h
        · rename_i hcc
          have e := evGet_ok hT hcc
          simp only [AV.inst, TV.inst, SV.inst, Option.some.injEq] at e
          exact wp_cond_true e.symm (ihn x t H o t' H' h ms B a w Q hT hH hQ)
        · rename_i hcc
          have e := evGet_ok hT hcc
          simp only [AV.inst, TV.inst, SV.inst, Option.some.injEq] at e
          exact wp_cond_false e.symm (ihn y t H o t' H' h ms B a w Q hT hH hQ)
        · cases h
      · rename_i id x
        split at h
        · rename_i i t1 H1 h1
          refine wp_block (ihn x t H (.exit i) t1 H1 h1 ms B a w _ hT hH fun ms1 a1 w1 ds1 q1 q2 q3 q4 q5 q6 => ?_)
          simp only [Out.to, Exit.inBlock]
          split at h
          · rename_i e
            rw [if_pos e]
            simp only [Option.some.injEq, Prod.mk.injEq] at h
            obtain ⟨rfl, rfl, rfl⟩ := h
            exact hQ ms1 a1 w1 ds1 q1 q2 q3 q4 q5 q6
          · rename_i e
            rw [if_neg e]
            simp only [Option.some.injEq, Prod.mk.injEq] at h
            obtain ⟨rfl, rfl, rfl⟩ := h
            exact hQ ms1 a1 w1 ds1 q1 q2 q3 q4 q5 q6
        · rename_i hne
          refine wp_block (ihn x t H o t' H' h ms B a w _ hT hH fun ms1 a1 w1 ds1 q1 q2 q3 q4 q5 q6 => ?_)
          have := hQ ms1 a1 w1 ds1 q1 q2 q3 q4 q5 q6
          cases o with
          | normal => exact this
          | exit i => exact absurd h (hne i t' H')
          | ret => exact this
      · rename_i x
        let R : Nat → Act → World → Prop := fun k a1 w1 => k ≤ n + 1 ∧ ∃ ms1 t1 H1 ds, evR P L call self k (.loop x) t1 H1 = some (o, t', H') ∧ ms <+: ms1 ∧ RelT ρ ms1 t1 a1.tmps ∧ a1.defers = ds.map markD ++ a.defers ∧ Marks w.heap.size ds w1 ∧ Holds ρ ms1 H1 B w1 ∧ Bel B w w1
        classical
        refine wp_loop (fun a1 w1 => ∃ k, R k a1 w1) (fun a1 w1 => if hx : ∃ k, R k a1 w1 then Classical.choose (has_least hx) else 0) ⟨n + 1, Nat.le_refl _, ms, t, H, [], hstart, List.prefix_refl _, hT, rfl, Marks.nil _ _, hH, Bel.refl _ _⟩ ?_
        intro a1 w1 hI
        have hmin := (Classical.choose_spec (has_least hI)).1
        have hall := (Classical.choose_spec (has_least hI)).2
        generalize hk : Classical.choose (has_least hI) = k at hmin hall
        obtain ⟨hle, ms1, t1, H1, ds, hev, s1, s2, s3, s4, s5, s6⟩ := hmin
        cases k with
        | zero => simp [evR] at hev
        | succ k =>
          have ihk := ih k (by omega)
          unfold evR at hev
          rw [hhas] at hev
          simp only at hev
          split at hev
          · rename_i t2 H2 h2
            refine ihk x t1 H1 .normal t2 H2 h2 ms1 B a1 w1 _ s2 s5 fun ms2 a2 w2 ds2 q1 q2 q3 q4 q5 q6 => ?_
            have hRk : R k a2 w2 := ⟨by omega, ms2, t2, H2, ds2 ++ ds, hev, s1.trans q1, q2, by rw [q3, s3]; simp, s4.add s6.size q6 q4, q5, s6.trans q6⟩
            have hE : ∃ j, R j a2 w2 := ⟨k, hRk⟩
            refine ⟨hE, ?_⟩
            rw [dif_pos hE, dif_pos hI, hk]
            exact Nat.lt_succ_of_le ((Classical.choose_spec (has_least hE)).2 k hRk)
          · rename_i hne
            refine ihk x t1 H1 o t' H' hev ms1 B a1 w1 _ s2 s5 fun ms2 a2 w2 ds2 q1 q2 q3 q4 q5 q6 => ?_
            have := hQ ms2 a2 w2 (ds2 ++ ds) (s1.trans q1) q2 (by rw [q3, s3]; simp) (s4.add s6.size q6 q4) q5 (s6.trans q6)
            cases o with
            | normal => exact absurd hev (hne t' H')
            | exit i => exact this
            | ret => exact this
      · exact evRg_ok hL hm hc hs h hT hH fun ms' a' w' d q1 q2 q3 q4 q5 q6 q7 => hQ ms' a' w' [d] q1 q2 q3 ⟨by simp, fun e he => by simp at he; subst he; exact ⟨q4, q5⟩⟩ q6 q7
      · cases h
theorem leave_all {P : Program} {ρ : Env} {fn : Func} {tmps : Array Value} {R : Ending → World → Prop} {ms : List Nat} {H : List Blk} {B : Nat} {w0 : World} (hB : B ≤ w0.heap.size) (hfin : ∀ w, Holds ρ ms H B w → Bel B w0 w → ∃ v, (results fn tmps).run P w = .ok v w ∧ R (.returned v) w) :
    ∀ (ds : List Nat) (w : World), Marks w0.heap.size ds w → Holds ρ ms H B w → Bel B w0 w → LeavesInM Fence.wide 1 P fn tmps R (ds.map markD) .returning w
  | [], w, _, hH, hb => hfin w hH hb
  | d :: ds, w, hm, hH, hb => by
    obtain ⟨h1, h2⟩ := hm.ok d (List.mem_cons_self ..)
    obtain ⟨n1, n2⟩ := List.nodup_cons.1 hm.nodup
    refine ⟨by simp, .inl ⟨d, _, rfl, run_takeDeferred h1, ?_⟩⟩
    refine leave_all hB hfin ds _ ⟨n2, fun e he => ?_⟩ (hH.put h1 rfl _) ?_
    · obtain ⟨q1, q2⟩ := hm.ok e (List.mem_cons_of_mem _ he)
      exact ⟨(World.putObj_heap_other (show e ≠ d from fun h => n1 (h ▸ he))).trans q1, q2⟩
    · refine ⟨⟨hb.os, hb.tape, hb.output, by simpa using hb.size, fun k hk => (World.putObj_heap_other (by omega)).trans (hb.block k hk)⟩, fun i o hi hc => ?_⟩
      have := (Array.getElem?_eq_some_iff.1 hi).1
      exact (World.putObj_heap_other (by omega)).trans (hb.kept i o hi hc)
noncomputable def callR (P : Program) (L : Lore) (base : CodeF → CallF) (N : Nat) (self : CodeF) : CallF := fun g aas H =>
  match P.funcs[g]? with
  | some fn =>
    match fn.body with
    | some c =>
      match hasRange c with
      | true =>
        match Nat.ble fn.ntmps 512 && Nat.ble aas.length fn.ntmps with
        | true =>
          match evR P L (base self) self N c (Tm.make fn.ntmps aas) H with
          | some (o, t, H') =>
            match o.ends with
            | true => (evResults P fn t H').map fun v => (v, trim H.length v H')
            | false => none
          | none => none
        | false => none
      | false => base self g aas H
    | none => base self g aas H
  | none => none
theorem callR_ok {P : Program} {ρ : Env} {L : Lore} (hL : LoreOk ρ L) (hm : P.follows .mixedOrders = true) {base : CodeF → CallF} (hbase : ∀ self, CodeOk P ρ self → CallOk P ρ (base self)) (N : Nat) (self : CodeF) (hs : CodeOkG P ρ self) : CallOk P ρ (callR P L base N self) := by
  intro g aas H v H' h ms B w args hargs hH
  unfold callR at h
  split at h
  case h_2 => cases h
  rename_i fn hfn
  split at h
  case h_2 => exact hbase self hs.plain g aas H v H' h ms B w args hargs hH
  rename_i c hb
  split at h
  case h_2 => exact hbase self hs.plain g aas H v H' h ms B w args hargs hH
  split at h
  case h_2 => cases h
  rename_i hbd
  rw [Bool.and_eq_true] at hbd
  split at h
  case h_2 => cases h
  rename_i o t H1 hev
  split at h
  case h_2 => cases h
  rename_i hends
  rw [Option.map_eq_some_iff] at h
  obtain ⟨v', hr, hv⟩ := h
  simp only [Prod.mk.injEq] at hv
  obtain ⟨rfl, rfl⟩ := hv
  have hT : RelT ρ ms (Tm.make fn.ntmps aas) (args ++ Array.replicate (fn.ntmps - args.size) undef) := RelT.make hargs (Nat.le_of_ble_eq_true hbd.1) (Nat.le_of_ble_eq_true hbd.2) hH.gl
  refine (callsIn_wide (n := 1)).1 (callsIn_of_wp_marks hfn hb trivial (wpIn_wide.2 ?_) rfl)
  refine evR_ok hL hm (hbase self hs.plain) hs N c _ H o t H1 hev ms B _ w _ hT hH fun ms' a' w' ds q1 q2 q3 q4 q5 q6 => ?_
  have key : LeavesInM Fence.wide 1 P fn a'.tmps (fun e w' => ∃ ms' u, e = .returned u ∧ ms <+: ms' ∧ v'.inst ρ ms' = some u ∧ Holds ρ ms' (trim H.length v' H1) B w' ∧ Bel B w w') a'.defers .returning w' := by
    rw [q3, List.append_nil]
    refine leave_all hH.big (fun w2 hH2 hb2 => ?_) ds w' q4 q5 q6
    obtain ⟨u, e1, e2⟩ := evResults_ok q2 hH2 hr
    obtain ⟨ms2, r1, r2, r3⟩ := trim_ok q1 hH.gl hH.len e1 hH2
    exact ⟨u, e2, ms2, u, rfl, r1, r2, r3, hb2⟩
  cases o with
  | normal => exact key
  | exit i => cases hends
  | ret => exact key
noncomputable def evCallR (P : Program) (L : Lore) (base : CodeF → CallF) (N n : Nat) : CallF := callR P L base N (evGF P L (callR P L base N) n)
theorem evCallR_ok {P : Program} {ρ : Env} {L : Lore} (hL : LoreOk ρ L) (hm : P.follows .mixedOrders = true) {base : CodeF → CallF} (hbase : ∀ self, CodeOk P ρ self → CallOk P ρ (base self)) (N n : Nat) : CallOk P ρ (evCallR P L base N n) := by
  unfold evCallR
  rw [evGF_eq]
  exact callR_ok hL hm hbase N _ (evG_both hL (callR_ok hL hm hbase N) hm n)
end Go.Proofs.Ytmpdmkckjajhiaa.Ev
namespace Go.Proofs.Ytmpdmkckjajhiaa
open Go Go.RowKit Ev
noncomputable def evKn (n : Nat) : CallF := evCallR Try.prog noLore (callStep Try.prog conLit) 1000 n
theorem evKn_ok (ρ : Env) (n : Nat) : CallOk Try.prog ρ (evKn n) := evCallR_ok (noLore_ok ρ) mixedOrders (fun self hs => callStep_ok (conLit_ok ρ) hs) 1000 n
theorem ret_evK {ρ : Env} {g n : Nat} {xs : List AV} (h : (evKn n g xs []).map (·.1) = some (.tv (.sc (.bool true)))) {args : Array Value} (w : World) (ha : xs.map (AV.inst ρ []) = args.toList.map some) : Calls Try.prog g args w fun e w' => e = .returned (.bool true) ∧ Below w.heap.size w w' := by
  have hx : ∃ H', evKn n g xs [] = some (.tv (.sc (.bool true)), H') := by
    cases hr : evKn n g xs [] with
    | none => rw [hr] at h; cases h
    | some p => rw [hr] at h; simp only [Option.map_some, Option.some.injEq] at h; exact ⟨p.2, by rw [← h]⟩
  obtain ⟨H', h1⟩ := hx
  refine (evKn_ok ρ n g xs [] _ H' h1 [] w.heap.size w args ha (holds_nil ρ w)).mono ?_
  rintro e w' ⟨ms', u, rfl, _, h2, _, h4⟩
  simp only [AV.inst, TV.inst, SV.inst, Option.some.injEq] at h2
  exact ⟨by rw [← h2], h4.toBelow⟩
end Go.Proofs.Ytmpdmkckjajhiaa
namespace Go.Proofs.Ytmpdmkckjajhiaa
open Go.RowKit
theorem take_eq_step (la lb : List Int) (k : Nat) (ha : k < la.length) (hb : k < lb.length) (h : la.take k = lb.take k) (e : la.getD k 0 = lb.getD k 0) : la.take (k + 1) = lb.take (k + 1) := by
  rw [List.take_succ_eq_append_getElem ha, List.take_succ_eq_append_getElem hb, h]
  have e1 : la.getD k 0 = la[k] := by simp [List.getD, List.getElem?_eq_getElem ha]
  have e2 : lb.getD k 0 = lb[k] := by simp [List.getD, List.getElem?_eq_getElem hb]
  rw [e1, e2] at e
  rw [e]
theorem take_ne (la lb : List Int) (k : Nat) (e : la.getD k 0 ≠ lb.getD k 0) : la ≠ lb := fun h => e (by rw [h])
set_option maxHeartbeats 400000 in
theorem sameBytes_any (w : World) (va vb : Value) (la lb : List Int) (ha : HB w va la) (hb : HB w vb lb) :
    Calls Try.prog 18 #[va, vb] w fun e w' => e = .returned (.bool (decide (la = lb))) ∧ Dr w w' := by
  by_cases hlen : la.length = lb.length
  · by_cases h0 : 0 < la.length
    · obtain ⟨b1, o1, c1, rfl, hc1, hm1, hk1⟩ := ha.ne h0
      obtain ⟨b2, o2, c2, rfl, hc2, hm2, hk2⟩ := hb.ne (by omega)
      unfold maxLen at hm1 hm2
      have hm : la.length ≤ 9223372036854775807 := by omega
      have HL : Hid (la.length = lb.length) := hlen
      rw [← hlen]
      have hcd : ∀ j, j < la.length → w.cell? ⟨b2, o2 + j, none⟩ = some (.int .u8 (lb.getD j 0)) := fun j hj => hk2 j (by omega)
      clear hlen hk2
      go_enter Try.func18, Try.ntmps18
      go_wp2
      go_loopw [5] (fun i wr => ∃ k : Nat, k ≤ la.length ∧ i = .int .i64 k ∧ la.take k = lb.take k ∧ Dr w wr) (fun i _ => la.length - (intOf i).toNat)
      case atStart => exact ⟨0, Nat.zero_le _, rfl, rfl, Dr.refl _⟩
      case round =>
        obtain ⟨k, hk, rfl, ht, q, rfl⟩ := hrel
        by_cases hlt : k < la.length
        · have g1 := hk1 k hlt
          have g2 := hcd k hlt
          obtain ⟨x, hx⟩ : ∃ x, la.getD k 0 = x := ⟨_, rfl⟩
          obtain ⟨y, hy⟩ : ∃ y, lb.getD k 0 = y := ⟨_, rfl⟩
          rw [hx] at g1
          rw [hy] at g2
          have HX := hid hx
          have HY := hid hy
          clear hx hy hk1 hcd
          by_cases he : x = y
          · have hne : (x != y) = false := by simpa using he
            have HE := hid he
            clear he
            go_wp2
            go_quiet (fail)
            go_wp2
            exact ⟨⟨k + 1, by omega, by go_num, take_eq_step la lb k hlt (by have := HL.out; omega) ht (by rw [HX.out, HY.out, HE.out]), Dr.one _ _⟩, by simp [intOf]; omega⟩
          · have hne : (x != y) = true := by simpa using he
            go_wp2
            go_quiet (fail)
            go_wp2
            go_ret
            exact ⟨by simp [take_ne la lb k (by rw [HX.out, HY.out]; exact he)], (Dr.one _ _).drewN _⟩
        · go_wp2
          go_ret
          have e : la = lb := by
            have h1 := List.take_of_length_le (show la.length ≤ k by omega)
            have h2 := List.take_of_length_le (show lb.length ≤ k by have := HL.out; omega)
            rw [← h1, ← h2, ht]
          exact ⟨by simp [e], Dr.one _ _⟩
    · obtain ⟨p1, c1, rfl, _, _⟩ := ha.open
      obtain ⟨p2, c2, rfl, _, _⟩ := hb.open
      have e1 : la = [] := List.length_eq_zero_iff.1 (by omega)
      have e2 : lb = [] := List.length_eq_zero_iff.1 (by omega)
      subst e1 e2
      go_enter Try.func18, Try.ntmps18
      go_wp2
      go_loop [5] (fun i => i = .int .i64 0) (fun _ => 0)
      case atStart => rfl
      case round =>
        subst hrel
        go_wp2
        go_ret
        exact ⟨rfl, Dr.refl _⟩
  · obtain ⟨p1, c1, rfl, _, _⟩ := ha.open
    obtain ⟨p2, c2, rfl, _, _⟩ := hb.open
    have hne : ((la.length : Int) != (lb.length : Int)) = true := by rw [bne_iff_ne]; omega
    go_enter Try.func18, Try.ntmps18
    go_wp2
    go_ret
    exact ⟨by simp [show la ≠ lb from fun e => hlen (by rw [e])], Dr.refl _⟩
end Go.Proofs.Ytmpdmkckjajhiaa
namespace Go.Proofs.Ytmpdmkckjajhiaa
open Go Go.RowKit Ev
theorem ldk_exec {w : World} {b : Nat} {k : List Nat} {o : Oper} {a : Act} {x : Operand} (h : KeyIn w b k) (hl : k.length = 16) (ho : o.op = .load 23 x) (hx : a.eval x = .pointer (some ⟨b, 0, none⟩)) :
    (execOp a.eval o).run Try.prog w = .ok (.value (.agg (cells8 k))) w := by
  have hr := run_ldk h hl
  simp only [execOp, ho, hx, Sem.run_bind, hr, Result.andThen_ok, Sem.run_pure]
theorem xorB_twice {x y : Int} (hx : 0 ≤ x ∧ x < 256) (hy : 0 ≤ y ∧ y < 256) : xorB (xorB x y) y = x := by
  have h1 := xorB_byt hx hy
  unfold xorB at h1 ⊢
  rw [u8_xor x y hx.1 hx.2 hy.1 hy.2] at h1 ⊢
  rw [u8_xor _ y h1.1 h1.2 hy.1 hy.2, Int.toNat_natCast, Nat.xor_assoc, Nat.xor_self, Nat.xor_zero]
  omega
theorem xorB_zero {y : Int} (hy : 0 ≤ y ∧ y < 256) : xorB 0 y = y := by
  unfold xorB
  rw [u8_xor 0 y (by omega) (by omega) hy.1 hy.2]
  simp
  omega
theorem xorL_twice {l s : List Int} (h : l.length = s.length) (hl : ∀ x ∈ l, 0 ≤ x ∧ x < 256) (hs : ∀ x ∈ s, 0 ≤ x ∧ x < 256) : xorL (xorL l s) s = l := by
  refine List.ext_getElem (by simp [xorL]; omega) fun i h1 h2 => ?_
  simp only [xorL, List.getElem_zipWith]
  exact xorB_twice (hl _ (List.getElem_mem _)) (hs _ (List.getElem_mem _))
theorem xorL_zero {s : List Int} (hs : ∀ x ∈ s, 0 ≤ x ∧ x < 256) : xorL (List.replicate s.length 0) s = s := by
  refine List.ext_getElem (by simp [xorL]) fun i h1 h2 => ?_
  simp only [xorL, List.getElem_zipWith, List.getElem_replicate]
  exact xorB_zero (hs _ (List.getElem_mem _))
end Go.Proofs.Ytmpdmkckjajhiaa
namespace Go.Proofs.Ytmpdmkckjajhiaa
open Go.RowKit
set_option maxHeartbeats 1000000 in
theorem rinverse_any (w : World) (a : Nat) (ha : a < 256) : Calls Try.prog 67 #[.int .u8 (a : Int)] w fun e w' => e = .returned (.int .u8 ((rinv a : Nat) : Int)) ∧ w' = w := by
  obtain ⟨R, HR⟩ : ∃ R, Hid (rinv a = R) := ⟨_, rfl⟩
  rw [HR.out]
  go_enter Try.func67, Try.ntmps67
  go_wp2
  go_loopw [0, 3, 4] (fun x p i wr => ∃ I X P : Nat, I ≤ 7 ∧ X < 256 ∧ P < 256 ∧ x = .int .u8 (X : Int) ∧ p = .int .u8 (P : Int) ∧ i = .int .i64 (I : Int) ∧ Hid (powF (7 - I) X P = R) ∧ wr = w) (fun _ _ i _ => 7 - (intOf i).toNat)
  case atStart => exact ⟨0, a, 1, by decide, ha, by decide, rfl, rfl, rfl, HR, rfl⟩
  case round =>
    obtain ⟨I, X, P, hI, hX, hP, rfl, rfl, rfl, HF, hw⟩ := hrel
    subst hw
    by_cases hlt : I < 7
    · have C1 := hid (rproduct_any wr X X hX hX)
      have C2 := hid (rproduct_any wr P (prod X X) hP (prod_lt _ hX))
      have HQ : Hid (powF (7 - (I + 1)) (prod X X) (prod P (prod X X)) = R) := by
        have := HF.out
        rw [show 7 - I = (7 - (I + 1)) + 1 by omega, powF] at this
        exact this
      have L1 := hid (prod_lt X hX)
      have L2 := hid (prod_lt (prod X X) hP)
      clear HF
      go_wp2_with fail
      refine C1.out.mono ?_
      rintro e w1 ⟨rfl, hw⟩
      subst hw
      go_wp2_with fail
      refine C2.out.mono ?_
      rintro e w1 ⟨rfl, hw⟩
      subst hw
      go_wp2_with fail
      exact ⟨⟨I + 1, prod X X, prod P (prod X X), by omega, L1.out, L2.out, rfl, rfl, by go_num, HQ, by trivial⟩, by simp [intOf]; omega⟩
    · have HE : Hid (P = R) := by rw [← HF.out, show 7 - I = 0 by omega]; exact rfl
      clear HF
      go_wp2
      go_ret
      rw [← HE.out]
      exact ⟨rfl, rfl⟩
theorem rbit_bits (b n : Nat) (h : b < 256) : bits .and .u8 ((b : Int) / 2 ^ n) 1 = ((b / 2 ^ n % 2 : Nat) : Int) := by
  rw [show (b : Int) / 2 ^ n = ((b / 2 ^ n : Nat) : Int) by rw [Int.natCast_ediv, Int.natCast_pow]; rfl]
  exact and_one _ (Nat.lt_of_le_of_lt (Nat.div_le_self _ _) h)
set_option maxRecDepth 100000 in
set_option maxHeartbeats 1000000 in
theorem rbit_0 (w : World) (b : Nat) (h : b < 256) : Calls Try.prog 68 #[.int .u8 (b : Int), .int .i64 0] w fun e w' => e = .returned (.int .u8 ((rbit b 0 : Nat) : Int)) ∧ w' = w := by
  have HR := hid (rbit_bits b 0 h)
  go_enter Try.func68, Try.ntmps68
  go_wp2
  go_ret
  refine ⟨?_, rfl⟩
  have e : (rbit b 0 : Nat) = b / 2 ^ 0 % 2 := rfl
  rw [e, ← HR.out]
  first | rfl | (simp; done) | (simp; rfl)
set_option maxRecDepth 100000 in
set_option maxHeartbeats 1000000 in
theorem rbit_1 (w : World) (b : Nat) (h : b < 256) : Calls Try.prog 68 #[.int .u8 (b : Int), .int .i64 1] w fun e w' => e = .returned (.int .u8 ((rbit b 1 : Nat) : Int)) ∧ w' = w := by
  have HR := hid (rbit_bits b 1 h)
  go_enter Try.func68, Try.ntmps68
  go_wp2
  go_ret
  refine ⟨?_, rfl⟩
  have e : (rbit b 1 : Nat) = b / 2 ^ 1 % 2 := rfl
  rw [e, ← HR.out]
  first | rfl | (simp; done) | (simp; rfl)
set_option maxRecDepth 100000 in
set_option maxHeartbeats 1000000 in
theorem rbit_2 (w : World) (b : Nat) (h : b < 256) : Calls Try.prog 68 #[.int .u8 (b : Int), .int .i64 2] w fun e w' => e = .returned (.int .u8 ((rbit b 2 : Nat) : Int)) ∧ w' = w := by
  have HR := hid (rbit_bits b 2 h)
  go_enter Try.func68, Try.ntmps68
  go_wp2
  go_ret
  refine ⟨?_, rfl⟩
  have e : (rbit b 2 : Nat) = b / 2 ^ 2 % 2 := rfl
  rw [e, ← HR.out]
  first | rfl | (simp; done) | (simp; rfl)
set_option maxRecDepth 100000 in
set_option maxHeartbeats 1000000 in
theorem rbit_3 (w : World) (b : Nat) (h : b < 256) : Calls Try.prog 68 #[.int .u8 (b : Int), .int .i64 3] w fun e w' => e = .returned (.int .u8 ((rbit b 3 : Nat) : Int)) ∧ w' = w := by
  have HR := hid (rbit_bits b 3 h)
  go_enter Try.func68, Try.ntmps68
  go_wp2
  go_ret
  refine ⟨?_, rfl⟩
  have e : (rbit b 3 : Nat) = b / 2 ^ 3 % 2 := rfl
  rw [e, ← HR.out]
  first | rfl | (simp; done) | (simp; rfl)
set_option maxRecDepth 100000 in
set_option maxHeartbeats 1000000 in
theorem rbit_4 (w : World) (b : Nat) (h : b < 256) : Calls Try.prog 68 #[.int .u8 (b : Int), .int .i64 4] w fun e w' => e = .returned (.int .u8 ((rbit b 4 : Nat) : Int)) ∧ w' = w := by
  have HR := hid (rbit_bits b 4 h)
  go_enter Try.func68, Try.ntmps68
  go_wp2
  go_ret
  refine ⟨?_, rfl⟩
  have e : (rbit b 4 : Nat) = b / 2 ^ 4 % 2 := rfl
  rw [e, ← HR.out]
  first | rfl | (simp; done) | (simp; rfl)
set_option maxRecDepth 100000 in
set_option maxHeartbeats 1000000 in
theorem rbit_5 (w : World) (b : Nat) (h : b < 256) : Calls Try.prog 68 #[.int .u8 (b : Int), .int .i64 5] w fun e w' => e = .returned (.int .u8 ((rbit b 5 : Nat) : Int)) ∧ w' = w := by
  have HR := hid (rbit_bits b 5 h)
  go_enter Try.func68, Try.ntmps68
  go_wp2
  go_ret
  refine ⟨?_, rfl⟩
  have e : (rbit b 5 : Nat) = b / 2 ^ 5 % 2 := rfl
  rw [e, ← HR.out]
  first | rfl | (simp; done) | (simp; rfl)
set_option maxRecDepth 100000 in
set_option maxHeartbeats 1000000 in
theorem rbit_6 (w : World) (b : Nat) (h : b < 256) : Calls Try.prog 68 #[.int .u8 (b : Int), .int .i64 6] w fun e w' => e = .returned (.int .u8 ((rbit b 6 : Nat) : Int)) ∧ w' = w := by
  have HR := hid (rbit_bits b 6 h)
  go_enter Try.func68, Try.ntmps68
  go_wp2
  go_ret
  refine ⟨?_, rfl⟩
  have e : (rbit b 6 : Nat) = b / 2 ^ 6 % 2 := rfl
  rw [e, ← HR.out]
  first | rfl | (simp; done) | (simp; rfl)
set_option maxRecDepth 100000 in
set_option maxHeartbeats 1000000 in
theorem rbit_7 (w : World) (b : Nat) (h : b < 256) : Calls Try.prog 68 #[.int .u8 (b : Int), .int .i64 7] w fun e w' => e = .returned (.int .u8 ((rbit b 7 : Nat) : Int)) ∧ w' = w := by
  have HR := hid (rbit_bits b 7 h)
  go_enter Try.func68, Try.ntmps68
  go_wp2
  go_ret
  refine ⟨?_, rfl⟩
  have e : (rbit b 7 : Nat) = b / 2 ^ 7 % 2 := rfl
  rw [e, ← HR.out]
  first | rfl | (simp; done) | (simp; rfl)
set_option maxRecDepth 100000 in
set_option maxHeartbeats 1000000 in
theorem rbit_8 (w : World) (b : Nat) (h : b < 256) : Calls Try.prog 68 #[.int .u8 (b : Int), .int .i64 8] w fun e w' => e = .returned (.int .u8 ((rbit b 8 : Nat) : Int)) ∧ w' = w := by
  have HR := hid (rbit_bits b 0 h)
  go_enter Try.func68, Try.ntmps68
  go_wp2
  go_ret
  refine ⟨?_, rfl⟩
  have e : (rbit b 8 : Nat) = b / 2 ^ 0 % 2 := rfl
  rw [e, ← HR.out]
  first | rfl | (simp; done) | (simp; rfl)
set_option maxRecDepth 100000 in
set_option maxHeartbeats 1000000 in
theorem rbit_9 (w : World) (b : Nat) (h : b < 256) : Calls Try.prog 68 #[.int .u8 (b : Int), .int .i64 9] w fun e w' => e = .returned (.int .u8 ((rbit b 9 : Nat) : Int)) ∧ w' = w := by
  have HR := hid (rbit_bits b 1 h)
  go_enter Try.func68, Try.ntmps68
  go_wp2
  go_ret
  refine ⟨?_, rfl⟩
  have e : (rbit b 9 : Nat) = b / 2 ^ 1 % 2 := rfl
  rw [e, ← HR.out]
  first | rfl | (simp; done) | (simp; rfl)
set_option maxRecDepth 100000 in
set_option maxHeartbeats 1000000 in
theorem rbit_10 (w : World) (b : Nat) (h : b < 256) : Calls Try.prog 68 #[.int .u8 (b : Int), .int .i64 10] w fun e w' => e = .returned (.int .u8 ((rbit b 10 : Nat) : Int)) ∧ w' = w := by
  have HR := hid (rbit_bits b 2 h)
  go_enter Try.func68, Try.ntmps68
  go_wp2
  go_ret
  refine ⟨?_, rfl⟩
  have e : (rbit b 10 : Nat) = b / 2 ^ 2 % 2 := rfl
  rw [e, ← HR.out]
  first | rfl | (simp; done) | (simp; rfl)
set_option maxRecDepth 100000 in
set_option maxHeartbeats 1000000 in
theorem rbit_11 (w : World) (b : Nat) (h : b < 256) : Calls Try.prog 68 #[.int .u8 (b : Int), .int .i64 11] w fun e w' => e = .returned (.int .u8 ((rbit b 11 : Nat) : Int)) ∧ w' = w := by
  have HR := hid (rbit_bits b 3 h)
  go_enter Try.func68, Try.ntmps68
  go_wp2
  go_ret
  refine ⟨?_, rfl⟩
  have e : (rbit b 11 : Nat) = b / 2 ^ 3 % 2 := rfl
  rw [e, ← HR.out]
  first | rfl | (simp; done) | (simp; rfl)
set_option maxRecDepth 100000 in
set_option maxHeartbeats 1000000 in
theorem rbit_12 (w : World) (b : Nat) (h : b < 256) : Calls Try.prog 68 #[.int .u8 (b : Int), .int .i64 12] w fun e w' => e = .returned (.int .u8 ((rbit b 12 : Nat) : Int)) ∧ w' = w := by
  have HR := hid (rbit_bits b 4 h)
  go_enter Try.func68, Try.ntmps68
  go_wp2
  go_ret
  refine ⟨?_, rfl⟩
  have e : (rbit b 12 : Nat) = b / 2 ^ 4 % 2 := rfl
  rw [e, ← HR.out]
  first | rfl | (simp; done) | (simp; rfl)
set_option maxRecDepth 100000 in
set_option maxHeartbeats 1000000 in
theorem rbit_13 (w : World) (b : Nat) (h : b < 256) : Calls Try.prog 68 #[.int .u8 (b : Int), .int .i64 13] w fun e w' => e = .returned (.int .u8 ((rbit b 13 : Nat) : Int)) ∧ w' = w := by
  have HR := hid (rbit_bits b 5 h)
  go_enter Try.func68, Try.ntmps68
  go_wp2
  go_ret
  refine ⟨?_, rfl⟩
  have e : (rbit b 13 : Nat) = b / 2 ^ 5 % 2 := rfl
  rw [e, ← HR.out]
  first | rfl | (simp; done) | (simp; rfl)
set_option maxRecDepth 100000 in
set_option maxHeartbeats 1000000 in
theorem rbit_14 (w : World) (b : Nat) (h : b < 256) : Calls Try.prog 68 #[.int .u8 (b : Int), .int .i64 14] w fun e w' => e = .returned (.int .u8 ((rbit b 14 : Nat) : Int)) ∧ w' = w := by
  have HR := hid (rbit_bits b 6 h)
  go_enter Try.func68, Try.ntmps68
  go_wp2
  go_ret
  refine ⟨?_, rfl⟩
  have e : (rbit b 14 : Nat) = b / 2 ^ 6 % 2 := rfl
  rw [e, ← HR.out]
  first | rfl | (simp; done) | (simp; rfl)
theorem rbit_any (w : World) (b i : Nat) (h : b < 256) (hi : i < 15) : Calls Try.prog 68 #[.int .u8 (b : Int), .int .i64 (i : Int)] w fun e w' => e = .returned (.int .u8 ((rbit b i : Nat) : Int)) ∧ w' = w := by
  have c : i = 0 ∨ i = 1 ∨ i = 2 ∨ i = 3 ∨ i = 4 ∨ i = 5 ∨ i = 6 ∨ i = 7 ∨ i = 8 ∨ i = 9 ∨ i = 10 ∨ i = 11 ∨ i = 12 ∨ i = 13 ∨ i = 14 := by omega
  rcases c with rfl | rfl | rfl | rfl | rfl | rfl | rfl | rfl | rfl | rfl | rfl | rfl | rfl | rfl | rfl
  · exact rbit_0 w b h
  · exact rbit_1 w b h
  · exact rbit_2 w b h
  · exact rbit_3 w b h
  · exact rbit_4 w b h
  · exact rbit_5 w b h
  · exact rbit_6 w b h
  · exact rbit_7 w b h
  · exact rbit_8 w b h
  · exact rbit_9 w b h
  · exact rbit_10 w b h
  · exact rbit_11 w b h
  · exact rbit_12 w b h
  · exact rbit_13 w b h
  · exact rbit_14 w b h
theorem rsubF_lt (b : Nat) : ∀ i, i ≤ 8 → rsubF b i < 256
  | 0, _ => by show 0 < 256; decide
  | i + 1, h => by
    refine or8 (rsubF_lt b i (by omega)) ?_
    have h1 := xbit_lt b i
    have h2 : 2 ^ i ≤ 2 ^ 7 := Nat.pow_le_pow_right (by decide) (by omega)
    have h3 : xbit b i * 2 ^ i ≤ 1 * 2 ^ 7 := Nat.mul_le_mul (by omega) h2
    omega
set_option maxRecDepth 100000 in
set_option maxHeartbeats 4000000 in
theorem rsub_any (w : World) (a : Nat) (ha : a < 256) : Calls Try.prog 57 #[.int .u8 (a : Int)] w fun e w' => e = .returned (.int .u8 ((rsub a : Nat) : Int)) ∧ w' = w := by
  have CI := hid (rinverse_any w a ha)
  have HBL : rinv a < 256 := by rw [← inv_rinv a ha]; exact inv_lt a
  have HRS : Hid (rsubF (rinv a) 8 = rsub a) := rfl
  obtain ⟨b, HB⟩ : ∃ b, Hid (rinv a = b) := ⟨_, rfl⟩
  rw [HB.out] at CI HBL HRS
  rw [← HRS.out]
  go_enter Try.func57, Try.ntmps57
  go_wp2_with fail
  refine CI.out.mono ?_
  rintro e w1 ⟨rfl, hw⟩
  subst hw
  go_wp2
  go_loopw [4, 5] (fun o i wr => ∃ I O : Nat, I ≤ 8 ∧ O < 256 ∧ Hid (O = rsubF b I) ∧ o = .int .u8 (O : Int) ∧ i = .int .i64 (I : Int) ∧ wr = w1) (fun _ i _ => 8 - (intOf i).toNat)
  case atStart => exact ⟨0, 0, by decide, by decide, rfl, rfl, rfl, rfl⟩
  case round =>
    obtain ⟨I, O, hI, hO, HO, rfl, rfl, hw⟩ := hrel
    subst hw
    by_cases hlt : I < 8
    · have C0 := hid (rbit_any wr b I HBL (by omega))
      have C4 : Hid (Calls Try.prog 68 #[.int .u8 (b : Int), .int .i64 ((I : Int) + 4)] wr fun e w' => e = .returned (.int .u8 ((rbit b (I + 4) : Nat) : Int)) ∧ w' = wr) := rbit_any wr b (I + 4) HBL (by omega)
      have C5 : Hid (Calls Try.prog 68 #[.int .u8 (b : Int), .int .i64 ((I : Int) + 5)] wr fun e w' => e = .returned (.int .u8 ((rbit b (I + 5) : Nat) : Int)) ∧ w' = wr) := rbit_any wr b (I + 5) HBL (by omega)
      have C6 : Hid (Calls Try.prog 68 #[.int .u8 (b : Int), .int .i64 ((I : Int) + 6)] wr fun e w' => e = .returned (.int .u8 ((rbit b (I + 6) : Nat) : Int)) ∧ w' = wr) := rbit_any wr b (I + 6) HBL (by omega)
      have C7 : Hid (Calls Try.prog 68 #[.int .u8 (b : Int), .int .i64 ((I : Int) + 7)] wr fun e w' => e = .returned (.int .u8 ((rbit b (I + 7) : Nat) : Int)) ∧ w' = wr) := rbit_any wr b (I + 7) HBL (by omega)
      have C9 := hid (rbit_any wr 99 I (by decide) (by omega))
      have HXB : Hid (rbit b I ^^^ rbit b (I + 4) ^^^ rbit b (I + 5) ^^^ rbit b (I + 6) ^^^ rbit b (I + 7) ^^^ rbit 99 I = xbit b I) := rfl
      obtain ⟨x0, X0⟩ : ∃ x, Hid (rbit b I = x) := ⟨_, rfl⟩
      obtain ⟨x4, X4⟩ : ∃ x, Hid (rbit b (I + 4) = x) := ⟨_, rfl⟩
      obtain ⟨x5, X5⟩ : ∃ x, Hid (rbit b (I + 5) = x) := ⟨_, rfl⟩
      obtain ⟨x6, X6⟩ : ∃ x, Hid (rbit b (I + 6) = x) := ⟨_, rfl⟩
      obtain ⟨x7, X7⟩ : ∃ x, Hid (rbit b (I + 7) = x) := ⟨_, rfl⟩
      obtain ⟨x9, X9⟩ : ∃ x, Hid (rbit 99 I = x) := ⟨_, rfl⟩
      have b0 : x0 < 2 := by rw [← X0.out]; exact rbit_lt _ _
      have b4 : x4 < 2 := by rw [← X4.out]; exact rbit_lt _ _
      have b5 : x5 < 2 := by rw [← X5.out]; exact rbit_lt _ _
      have b6 : x6 < 2 := by rw [← X6.out]; exact rbit_lt _ _
      have b7 : x7 < 2 := by rw [← X7.out]; exact rbit_lt _ _
      have b9 : x9 < 2 := by rw [← X9.out]; exact rbit_lt _ _
      rw [X0.out] at C0 HXB
      rw [X4.out] at C4 HXB
      rw [X5.out] at C5 HXB
      rw [X6.out] at C6 HXB
      rw [X7.out] at C7 HXB
      rw [X9.out] at C9 HXB
      have q1 := xor1 b0 b4
      have q2 := xor1 q1 b5
      have q3 := xor1 q2 b6
      have q4 := xor1 q3 b7
      have q5 := xor1 q4 b9
      have e1 := u8_xor_nat x0 x4 (by omega) (by omega)
      have e2 := u8_xor_nat _ x5 (show x0 ^^^ x4 < 256 by omega) (by omega)
      have e3 := u8_xor_nat _ x6 (show x0 ^^^ x4 ^^^ x5 < 256 by omega) (by omega)
      have e4 := u8_xor_nat _ x7 (show x0 ^^^ x4 ^^^ x5 ^^^ x6 < 256 by omega) (by omega)
      have e5 := u8_xor_nat _ x9 (show x0 ^^^ x4 ^^^ x5 ^^^ x6 ^^^ x7 < 256 by omega) (by omega)
      obtain ⟨x, HX⟩ : ∃ x, Hid (x0 ^^^ x4 ^^^ x5 ^^^ x6 ^^^ x7 ^^^ x9 = x) := ⟨_, rfl⟩
      rw [HX.out] at e5 q5 HXB
      clear q1 q2 q3 q4 X0 X4 X5 X6 X7 X9
      go_wp2_with fail
      refine C0.out.mono ?_
      rintro e w2 ⟨rfl, hw⟩
      subst hw
      go_wp2_with fail
      refine C4.out.mono ?_
      rintro e w2 ⟨rfl, hw⟩
      subst hw
      go_wp2_with fail
      refine C5.out.mono ?_
      rintro e w2 ⟨rfl, hw⟩
      subst hw
      go_wp2_with fail
      refine C6.out.mono ?_
      rintro e w2 ⟨rfl, hw⟩
      subst hw
      go_wp2_with fail
      refine C7.out.mono ?_
      rintro e w2 ⟨rfl, hw⟩
      subst hw
      go_wp2_with fail
      refine C9.out.mono ?_
      rintro e w2 ⟨rfl, hw⟩
      subst hw
      go_wp2_with fail
      have hp : 2 ^ I ≤ 2 ^ 7 := Nat.pow_le_pow_right (by decide) (by omega)
      have hm : x * 2 ^ I ≤ 1 * 2 ^ 7 := Nat.mul_le_mul (by omega) hp
      have ho : bits .or .u8 (O : Int) ((x : Int) * 2 ^ I % 256) = ((O ||| x * 2 ^ I : Nat) : Int) := by
        rw [show (x : Int) * 2 ^ I % 256 = ((x * 2 ^ I : Nat) : Int) by
          rw [show (x : Int) * 2 ^ I = ((x * 2 ^ I : Nat) : Int) by rw [Int.natCast_mul, Int.natCast_pow]; rfl]
          omega]
        exact u8_or_nat _ _ hO (by omega)
      refine ⟨⟨I + 1, O ||| x * 2 ^ I, by omega, or8 hO (by omega), ?_, by rw [ho], by go_num, trivial⟩, by simp [intOf]; omega⟩
      show _ = _
      rw [rsubF, ← HO.out, ← HXB.out]
    · have HE : Hid (O = rsubF b 8) := by rw [HO.out, show I = 8 by omega]; exact rfl
      clear HO HRS
      go_wp2
      go_ret
      rw [← HE.out]
      exact ⟨rfl, rfl⟩
end Go.Proofs.Ytmpdmkckjajhiaa
namespace Go.Proofs.Ytmpdmkckjajhiaa
open Go Go.RowKit Ev
def conR : ConF := conOr (conOne 57 1) (conTwo 58 0)
theorem below_rfl {P : Program} {g : Nat} {args : Array Value} {w : World} {v : Value} (h : Calls P g args w fun e w' => e = .returned v ∧ w' = w) : Calls P g args w fun e w' => e = .returned v ∧ Below w.heap.size w w' :=
  h.mono fun e w' ⟨h1, h2⟩ => ⟨h1, h2 ▸ Below.refl _ _⟩
theorem conR_ok {f : Nat → Nat} (hf : ∀ i, f i < 256) : ConOk Try.prog (envB f) conR :=
  conOr_ok (conOne_ok hf fun w a ha => by
    have := below_rfl (rsub_any w a ha)
    rw [sub_rsub a ha] at this
    exact this) (conTwo_ok hf fun w a b ha hb => below_rfl (rproduct_any w a b ha hb))
theorem funR {g fuel n : Nat} {out : List Ex} (h : evCall Try.prog noLore conR fuel g [.tv (.agg (vars 0 n))] [] = some (.tv (.agg (bytesE out)), [])) (hok : out.all okB = true) (w : World) (s : List Nat) (hl : s.length = n) (hb : Byt s) :
    Calls Try.prog g #[.agg (cells8 s)] w fun e w' => e = .returned (.agg (cells8 (out.map (nden (at8 s))))) ∧ Below w.heap.size w w' := by
  have hs := byt_get hb
  refine (calls_of_ev (noLore_ok (envB (at8 s))) (conR_ok hs) mixedOrders fuel h (args := #[.agg (cells8 s)]) w ?_).mono ?_
  · simp only [List.map_cons, List.map_nil, AV.inst]
    rw [vars_inst hs [] 0 n s hl (fun i _ => by rw [Nat.zero_add]; rfl)]
  · rintro e w' ⟨ms, u, rfl, h1, h2, h3⟩
    simp only [AV.inst, bytesE_inst hs ms hok, Option.some.injEq] at h1
    rw [← h1]
    exact ⟨rfl, h3⟩
def rmixOf (fs : Nat → Int) : List Ex := row fun r c => xorE (xorE (xorE (xorE (.lit 0) (.app 0 (.lit (fs ((4 - r) % 4))) (.var c))) (.app 0 (.lit (fs ((5 - r) % 4))) (.var (4 + c)))) (.app 0 (.lit (fs ((6 - r) % 4))) (.var (8 + c)))) (.app 0 (.lit (fs ((7 - r) % 4))) (.var (12 + c)))
def fac (l : List Int) (i : Nat) : Int := l.getD i 0
def rmixE : List Ex := rmixOf (fac [2, 3, 1, 1])
def runmixE : List Ex := rmixOf (fac [14, 11, 13, 9])
theorem rspread_ev : evCall Try.prog noLore conR 100 42 [.tv (.agg (vars 0 16))] [] = some (.tv (.agg (bytesE spreadE)), []) := by kernel_rfl
theorem rgather_ev : evCall Try.prog noLore conR 100 45 [.tv (.agg (vars 0 16))] [] = some (.tv (.agg (bytesE gatherE)), []) := by kernel_rfl
theorem rshift_ev : evCall Try.prog noLore conR 100 43 [.tv (.agg (vars 0 16))] [] = some (.tv (.agg (bytesE shiftE)), []) := by kernel_rfl
theorem rsubAll_ev : evCall Try.prog noLore conR 100 41 [.tv (.agg (vars 0 16))] [] = some (.tv (.agg (bytesE subE)), []) := by kernel_rfl
theorem rmix_ev : evCall Try.prog noLore conR 100 44 [.tv (.agg (vars 0 16))] [] = some (.tv (.agg (bytesE rmixE)), []) := by kernel_rfl
theorem prod_by {c : Nat} {g : Nat → Nat} (h : (List.range 256).all (fun x => prod c x == g x) = true) (x : Nat) (hx : x < 256) : prod c x = g x := by simpa using byte_all h x hx
theorem p1 (x : Nat) (hx : x < 256) : prod 1 x = x := prod_by (g := id) (by decide +kernel) x hx
theorem p2 (x : Nat) (hx : x < 256) : prod 2 x = dbl x := prod_by (by decide +kernel) x hx
theorem p3 (x : Nat) (hx : x < 256) : prod 3 x = dbl x ^^^ x := prod_by (g := fun x => dbl x ^^^ x) (by decide +kernel) x hx
theorem p9 (x : Nat) (hx : x < 256) : prod 9 x = dbl (dbl (dbl x)) ^^^ x := prod_by (g := fun x => dbl (dbl (dbl x)) ^^^ x) (by decide +kernel) x hx
theorem p11 (x : Nat) (hx : x < 256) : prod 11 x = dbl (dbl (dbl x)) ^^^ (dbl x ^^^ x) := prod_by (g := fun x => dbl (dbl (dbl x)) ^^^ (dbl x ^^^ x)) (by decide +kernel) x hx
theorem p13 (x : Nat) (hx : x < 256) : prod 13 x = dbl (dbl (dbl x)) ^^^ (dbl (dbl x) ^^^ x) := prod_by (g := fun x => dbl (dbl (dbl x)) ^^^ (dbl (dbl x) ^^^ x)) (by decide +kernel) x hx
theorem p14 (x : Nat) (hx : x < 256) : prod 14 x = dbl (dbl (dbl x)) ^^^ (dbl (dbl x) ^^^ dbl x) := prod_by (g := fun x => dbl (dbl (dbl x)) ^^^ (dbl (dbl x) ^^^ dbl x)) (by decide +kernel) x hx
theorem rmixOf_get (f : Nat → Nat) (fs : Nat → Int) (r c : Nat) (hr : r < 4) (hc : c < 4) : at8 ((rmixOf fs).map (nden f)) (4 * r + c) = prod (fs ((4 - r) % 4)).toNat (f c) ^^^ prod (fs ((5 - r) % 4)).toNat (f (4 + c)) ^^^ prod (fs ((6 - r) % 4)).toNat (f (8 + c)) ^^^ prod (fs ((7 - r) % 4)).toNat (f (12 + c)) := by
  have h : 4 * r + c < 16 := by omega
  simp only [at8, rmixOf, row, List.getD, List.getElem?_map, List.getElem?_range h, Option.map_some, Option.getD_some]
  rw [show (4 * r + c) / 4 = r by omega, show (4 * r + c) % 4 = c by omega]
  show 0 ^^^ _ ^^^ _ ^^^ _ ^^^ _ = _
  rw [Nat.zero_xor]
  rfl
theorem rmix_mix {s : List Nat} (hs : Byt s) : rmixE.map (nden (at8 s)) = St.mix.ap [] s := by
  have hn : Byt ([] : List Nat) := fun y hy => by simp at hy
  refine ext16 (by simp [rmixE, rmixOf, row]) (St.ap_ok hn hs .mix).1 fun r c hr hc => ?_
  rw [mixL_get hs r c hr hc]
  refine (rmixOf_get (at8 s) _ r c hr hc).trans ?_
  have ha := byt_at hs c
  have hb := byt_at hs (4 + c)
  have hcc := byt_at hs (8 + c)
  have hd := byt_at hs (12 + c)
  have hcase : r = 0 ∨ r = 1 ∨ r = 2 ∨ r = 3 := by omega
  rcases hcase with rfl | rfl | rfl | rfl
  · show prod 2 _ ^^^ prod 3 _ ^^^ prod 1 _ ^^^ prod 1 _ = mixB (at8 s (4 * 0 + c)) (at8 s (4 * 1 + c)) _
    simp only [Nat.mul_zero, Nat.zero_add, Nat.mul_one, p1 _ hcc, p1 _ hd, p2 _ ha, p3 _ hb, mixB, dbl_xor _ _ ha hb]
    simp only [Nat.xor_assoc, Nat.xor_comm, xlc, xor_left_self, Nat.xor_self, Nat.xor_zero, Nat.zero_xor]
  · show prod 1 _ ^^^ prod 2 _ ^^^ prod 3 _ ^^^ prod 1 _ = mixB (at8 s (4 * 1 + c)) (at8 s (4 * 2 + c)) _
    simp only [Nat.mul_zero, Nat.zero_add, Nat.mul_one, show 4 * 2 = 8 from rfl, p1 _ ha, p1 _ hd, p2 _ hb, p3 _ hcc, mixB, dbl_xor _ _ hb hcc]
    simp only [Nat.xor_assoc, Nat.xor_comm, xlc, xor_left_self, Nat.xor_self, Nat.xor_zero, Nat.zero_xor]
  · show prod 1 _ ^^^ prod 1 _ ^^^ prod 2 _ ^^^ prod 3 _ = mixB (at8 s (4 * 2 + c)) (at8 s (4 * 3 + c)) _
    simp only [Nat.mul_zero, Nat.zero_add, Nat.mul_one, show 4 * 2 = 8 from rfl, show 4 * 3 = 12 from rfl, p1 _ ha, p1 _ hb, p2 _ hcc, p3 _ hd, mixB, dbl_xor _ _ hcc hd]
    simp only [Nat.xor_assoc, Nat.xor_comm, xlc, xor_left_self, Nat.xor_self, Nat.xor_zero, Nat.zero_xor]
  · show prod 3 _ ^^^ prod 1 _ ^^^ prod 1 _ ^^^ prod 2 _ = mixB (at8 s (4 * 3 + c)) (at8 s (4 * 0 + c)) _
    simp only [Nat.mul_zero, Nat.zero_add, Nat.mul_one, show 4 * 3 = 12 from rfl, p1 _ hb, p1 _ hcc, p2 _ hd, p3 _ ha, mixB, dbl_xor _ _ hd ha]
    simp only [Nat.xor_assoc, Nat.xor_comm, xlc, xor_left_self, Nat.xor_self, Nat.xor_zero, Nat.zero_xor]
theorem un4 (a b c d : Nat) (ha : a < 256) (hb : b < 256) (hc : c < 256) (hd : d < 256) : mixB (pre a c) (pre b d) (pre a c ^^^ pre b d ^^^ pre c a ^^^ pre d b) = prod 14 a ^^^ prod 11 b ^^^ prod 13 c ^^^ prod 9 d := by
  have lac := xor8 ha hc
  have lbd := xor8 hb hd
  have da := dbl_lt ha
  have db := dbl_lt hb
  have dc := dbl_lt hc
  have dd := dbl_lt hd
  have da2 := dbl_lt da
  have db2 := dbl_lt db
  have dc2 := dbl_lt dc
  have dd2 := dbl_lt dd
  have pA : pre a c = a ^^^ (dbl (dbl a) ^^^ dbl (dbl c)) := by unfold pre; rw [dbl_xor _ _ ha hc, dbl_xor _ _ da dc]
  have pB : pre b d = b ^^^ (dbl (dbl b) ^^^ dbl (dbl d)) := by unfold pre; rw [dbl_xor _ _ hb hd, dbl_xor _ _ db dd]
  have pC : pre c a = c ^^^ (dbl (dbl c) ^^^ dbl (dbl a)) := by unfold pre; rw [dbl_xor _ _ hc ha, dbl_xor _ _ dc da]
  have pD : pre d b = d ^^^ (dbl (dbl d) ^^^ dbl (dbl b)) := by unfold pre; rw [dbl_xor _ _ hd hb, dbl_xor _ _ dd db]
  have eD : dbl (pre a c ^^^ pre b d) = dbl a ^^^ (dbl (dbl (dbl a)) ^^^ dbl (dbl (dbl c))) ^^^ (dbl b ^^^ (dbl (dbl (dbl b)) ^^^ dbl (dbl (dbl d)))) := by
    rw [pA, pB, dbl_xor _ _ (xor8 ha (xor8 da2 dc2)) (xor8 hb (xor8 db2 dd2)), dbl_xor _ _ ha (xor8 da2 dc2), dbl_xor _ _ da2 dc2, dbl_xor _ _ hb (xor8 db2 dd2), dbl_xor _ _ db2 dd2]
  show dbl (pre a c ^^^ pre b d) ^^^ pre a c ^^^ _ = _
  rw [eD, pA, pB, pC, pD, p14 _ ha, p11 _ hb, p13 _ hc, p9 _ hd]
  simp only [Nat.xor_assoc, Nat.xor_comm, xlc, xor_left_self, Nat.xor_self, Nat.xor_zero, Nat.zero_xor]
theorem runmix_unmix {s : List Nat} (hs : Byt s) : runmixE.map (nden (at8 s)) = St.unmix.ap [] s := by
  have hn : Byt ([] : List Nat) := fun y hy => by simp at hy
  refine ext16 (by simp [runmixE, rmixOf, row]) (St.ap_ok hn hs .unmix).1 fun r c hr hc => ?_
  rw [unmix_mixpre hs hn, mixL_get (preL_byt hs) r c hr hc]
  refine (rmixOf_get (at8 s) _ r c hr hc).trans ?_
  have q := fun r hr => preL_get s r c hr hc
  have q0 := q 0 (by decide)
  have q1 := q 1 (by decide)
  have q2 := q 2 (by decide)
  have q3 := q 3 (by decide)
  simp only [Nat.mul_zero, Nat.zero_add, Nat.mul_one, show 4 * 2 = 8 from rfl, show 4 * 3 = 12 from rfl, show (0 + 2) % 4 = 2 from rfl, show (1 + 2) % 4 = 3 from rfl, show (2 + 2) % 4 = 0 from rfl, show (3 + 2) % 4 = 1 from rfl] at q0 q1 q2 q3
  have ha := byt_at hs c
  have hb := byt_at hs (4 + c)
  have hcc := byt_at hs (8 + c)
  have hd := byt_at hs (12 + c)
  have hcase : r = 0 ∨ r = 1 ∨ r = 2 ∨ r = 3 := by omega
  rcases hcase with rfl | rfl | rfl | rfl <;> simp only [Nat.mul_zero, Nat.zero_add, Nat.mul_one, show 4 * 2 = 8 from rfl, show 4 * 3 = 12 from rfl, show (0 + 1) % 4 = 1 from rfl, show (1 + 1) % 4 = 2 from rfl, show (2 + 1) % 4 = 3 from rfl, show (3 + 1) % 4 = 0 from rfl, q0, q1, q2, q3]
  · show prod 14 _ ^^^ prod 11 _ ^^^ prod 13 _ ^^^ prod 9 _ = _
    rw [un4 _ _ _ _ ha hb hcc hd]
  · show prod 9 _ ^^^ prod 14 _ ^^^ prod 11 _ ^^^ prod 13 _ = _
    have := un4 _ _ _ _ hb hcc hd ha
    rw [show pre (at8 s c) (at8 s (8 + c)) ^^^ pre (at8 s (4 + c)) (at8 s (12 + c)) ^^^ pre (at8 s (8 + c)) (at8 s c) ^^^ pre (at8 s (12 + c)) (at8 s (4 + c)) = pre (at8 s (4 + c)) (at8 s (12 + c)) ^^^ pre (at8 s (8 + c)) (at8 s c) ^^^ pre (at8 s (12 + c)) (at8 s (4 + c)) ^^^ pre (at8 s c) (at8 s (8 + c)) by simp only [Nat.xor_assoc, Nat.xor_comm, xlc], this]
    simp only [Nat.xor_assoc, Nat.xor_comm, xlc]
  · show prod 13 _ ^^^ prod 9 _ ^^^ prod 14 _ ^^^ prod 11 _ = _
    have := un4 _ _ _ _ hcc hd ha hb
    rw [show pre (at8 s c) (at8 s (8 + c)) ^^^ pre (at8 s (4 + c)) (at8 s (12 + c)) ^^^ pre (at8 s (8 + c)) (at8 s c) ^^^ pre (at8 s (12 + c)) (at8 s (4 + c)) = pre (at8 s (8 + c)) (at8 s c) ^^^ pre (at8 s (12 + c)) (at8 s (4 + c)) ^^^ pre (at8 s c) (at8 s (8 + c)) ^^^ pre (at8 s (4 + c)) (at8 s (12 + c)) by simp only [Nat.xor_assoc, Nat.xor_comm, xlc], this]
    simp only [Nat.xor_assoc, Nat.xor_comm, xlc]
  · show prod 11 _ ^^^ prod 13 _ ^^^ prod 9 _ ^^^ prod 14 _ = _
    have := un4 _ _ _ _ hd ha hb hcc
    rw [show pre (at8 s c) (at8 s (8 + c)) ^^^ pre (at8 s (4 + c)) (at8 s (12 + c)) ^^^ pre (at8 s (8 + c)) (at8 s c) ^^^ pre (at8 s (12 + c)) (at8 s (4 + c)) = pre (at8 s (12 + c)) (at8 s (4 + c)) ^^^ pre (at8 s c) (at8 s (8 + c)) ^^^ pre (at8 s (4 + c)) (at8 s (12 + c)) ^^^ pre (at8 s (8 + c)) (at8 s c) by simp only [Nat.xor_assoc, Nat.xor_comm, xlc], this]
    simp only [Nat.xor_assoc, Nat.xor_comm, xlc]
def nmR : Ex → Ex
  | .bit .xor .u8 (.var q) (.var p) => if p = q + 12 ∧ 4 ≤ q % 16 then .var (q + 16) else .bit .xor .u8 (.var q) (.var p)
  | .bit .xor .u8 (.var q) (.app 1 (.var x) (.lit 0)) => if 1 ≤ q % 16 ∧ q % 16 < 4 ∧ x = q / 16 * 16 + (12 + (q % 16 + 1) % 4) then .var (q + 16) else .bit .xor .u8 (.var q) (.app 1 (.var x) (.lit 0))
  | .bit .xor .u8 (.var q) (.bit .xor .u8 (.app 1 (.var x) (.lit 0)) (.lit p)) =>
    if q % 16 = 0 ∧ x = q + 13 ∧ p = ((pwr (q / 16) : Nat) : Int) then .var (q + 16) else .bit .xor .u8 (.var q) (.bit .xor .u8 (.app 1 (.var x) (.lit 0)) (.lit p))
  | e => e
theorem nmR_ok {k : List Nat} (hl : k.length = 16) (hk : Byt k) (e : Ex) : (nmR e).den (envB (schedF k)) = e.den (envB (schedF k)) := by
  have hs := schedF_lt hl hk
  unfold nmR
  split
  · rename_i q p
    split
    · rename_i h
      have := nmS_ok hl hk (.bit .xor .u8 (.var p) (.var q))
      rw [show nmS (.bit .xor .u8 (.var p) (.var q)) = .var (q + 16) by simp only [nmS]; rw [if_pos h]] at this
      rw [this, (nden_ok hs _ (by rfl)).1, (nden_ok hs _ (by rfl)).1]
      congr 1
      exact Nat.xor_comm _ _
    · rfl
  · rename_i q x
    split
    · rename_i h
      have := nmS_ok hl hk (.bit .xor .u8 (.app 1 (.var x) (.lit 0)) (.var q))
      rw [show nmS (.bit .xor .u8 (.app 1 (.var x) (.lit 0)) (.var q)) = .var (q + 16) by simp only [nmS]; rw [if_pos h]] at this
      rw [this, (nden_ok hs _ (by rfl)).1, (nden_ok hs _ (by rfl)).1]
      congr 1
      exact Nat.xor_comm _ _
    · rfl
  · rename_i q x p
    split
    · rename_i h
      have := nmS_ok hl hk (.bit .xor .u8 (.bit .xor .u8 (.app 1 (.var x) (.lit 0)) (.lit p)) (.var q))
      rw [show nmS (.bit .xor .u8 (.bit .xor .u8 (.app 1 (.var x) (.lit 0)) (.lit p)) (.var q)) = .var (q + 16) by simp only [nmS]; rw [if_pos h]] at this
      obtain ⟨_, _, rfl⟩ := h
      have hp := pwr_lt (q / 16)
      rw [this, (nden_ok hs _ (by simp [okB]; omega)).1, (nden_ok hs _ (by simp [okB]; omega)).1]
      congr 1
      exact Nat.xor_comm _ _
    · rfl
  · rfl
def loreR : Lore := ⟨fun _ _ _ => none, nmR, fun _ _ => none⟩
theorem loreR_ok {k : List Nat} (hl : k.length = 16) (hk : Byt k) : LoreOk (envB (schedF k)) loreR := ⟨fun _ _ _ _ h => by simp [loreR] at h, nmR_ok hl hk, fun _ _ _ h => by simp [loreR] at h⟩
theorem rsched_ev : evCallF Try.prog loreR conR 250 39 [.tv (.agg (vars 0 16))] [] = some (.tv (.agg (vars 0 176)), []) := by kernel_rfl
theorem rsched_any (w : World) (k : List Nat) (hk : Byt k) (hl : k.length = 16) : Calls Try.prog 39 #[.agg (cells8 k)] w fun e w' => e = .returned (.agg (cells8 (schedL k))) ∧ Below w.heap.size w w' := by
  refine (calls_of_evF (loreR_ok hl hk) (conR_ok (schedF_lt hl hk)) mixedOrders 250 rsched_ev (args := #[.agg (cells8 k)]) w ?_).mono ?_
  · have e1 : (AV.tv (.agg (vars 0 16))).inst (envB (schedF k)) [] = some (.agg (cells8 k)) := by
      simp only [AV.inst]
      refine vars_inst (schedF_lt hl hk) [] 0 16 k hl fun i hi => ?_
      unfold schedF
      rw [show (0 + i) / 16 = 0 by omega, show (0 + i) % 16 = i by omega]
      rfl
    simp only [List.map_cons, List.map_nil, e1]
  · rintro e w' ⟨ms, u, rfl, h1, h2, h3⟩
    simp only [AV.inst, sched_inst hl hk, Option.some.injEq] at h1
    rw [← h1]
    exact ⟨rfl, h3⟩
theorem sched_named {k : List Nat} (hl : k.length = 16) (hk : Byt k) : named (schedF k) 0 16 = k ∧ named (schedF k) 0 176 = schedL k := by
  obtain ⟨s1, s2, s3⟩ := schedL_ok hl hk
  constructor
  · refine List.ext_getElem (by rw [named_length, hl]) fun i h1 h2 => ?_
    have hi : i < 16 := by simpa [named_length] using h1
    simp only [named, List.getElem_map, List.getElem_range, Nat.zero_add]
    unfold schedF
    rw [show i / 16 = 0 by omega, show i % 16 = i by omega]
    simp [blk, at8, List.getD, List.getElem?_eq_getElem h2]
  · refine List.ext_getElem (by rw [named_length, s1]) fun i h1 h2 => ?_
    have hi : i < 176 := by simpa [named_length] using h1
    simp only [named, List.getElem_map, List.getElem_range, Nat.zero_add]
    rw [s3 i hi]
    simp [at8, List.getD, List.getElem?_eq_getElem h2]
end Go.Proofs.Ytmpdmkckjajhiaa
