/- Of the road to wireCallsUpto_holds: WrPRead, WrRpl, WrMayP. -/
import Derived.Test.YtgjadpidoaianaaG06
import Derived.Test.YtgjadpidoaianaaG04
set_option linter.unusedVariables false
set_option linter.unusedSimpArgs false
namespace Go.Proofs.Ytgjadpidoaianaa
open Go Go.RowKit
def pd1 (n : Nat) (s : PS) : Int × Bool := tkP n [kindP] s
def pt1 (s : PS) : PS := sqP [kindP] s 1
def pd2 (n : Nat) (s : PS) : Int × Bool := tkP n (flPS (pt1 s).k) (pt1 s)
def pt2 (s : PS) : PS := sqP (flPS (pt1 s).k) (pt1 s) (flPS (pt1 s).k).length
def herP (s : PS) : Nat := min (pt2 s).many.toNat (pt2 s).l.length
def pd3 (n : Nat) (s : PS) : Int × Bool := tkP n (List.replicate (herP s) numberP) (pt2 s)
def pt3 (s : PS) : PS := sqP (List.replicate (herP s) numberP) (pt2 s) (herP s)
def lackP (s : PS) : Int := (pt3 s).many - herP s + (pt3 s).sz
def RdP (w : World) (R g n : Nat) (s : PS) (e : Ending) (w' : World) : Prop :=
  ((pd1 n s).2 = false ∧ e = .returned (.tuple #[.int .i64 (pd1 n s).1, .bool false])) ∨
  ((pd1 n s).2 = true ∧ (pd2 n s).2 = false ∧ e = .returned (.tuple #[.int .i64 (pd2 n s).1, .bool false])) ∨
  ((pd1 n s).2 = true ∧ (pd2 n s).2 = true ∧ (pd3 n s).2 = false ∧ e = .returned (.tuple #[.int .i64 (pd3 n s).1, .bool false])) ∨
  ((pd1 n s).2 = true ∧ (pd2 n s).2 = true ∧ (pd3 n s).2 = true ∧ ((pt3 s).l.length : Int) ≠ lackP s ∧ e = .returned (.tuple #[.int .i64 (edA n (pt3 s).l (lackP s)), .bool false])) ∨
  ((pd1 n s).2 = true ∧ (pd2 n s).2 = true ∧ (pd3 n s).2 = true ∧ ((pt3 s).l.length : Int) = lackP s ∧ e = .returned (.tuple #[.int .i64 0, .bool true]) ∧
    ∃ vn v B B', w'.heap[R]? = some (.cells (prL g n (pt3 s).k vn v (pt3 s).many (pt3 s).sz).toArray TP (0, 0)) ∧ w'.ownsRow B' 3 1 vn (pt3 s).ns.length ((pt3 s).ns.map (Value.int .i64)) ∧ w.heap.size ≤ B' ∧ w'.ownsRow B 5 1 v (taken (pt3 s).l (pt3 s).sz).length ((taken (pt3 s).l (pt3 s).sz).map (Value.int .u8)) ∧ w.heap.size ≤ B ∧ (∀ x ∈ taken (pt3 s).l (pt3 s).sz, 0 ≤ x ∧ x < 256) ∧ OkP (pt3 s))
theorem rangeP {B : Nat} {w : World} {R g n : Nat} {s : PS} (h : PR B w R g n s) : w.rangeAt R 0 [.pointer (some ⟨g, 0, none⟩), .int .i64 (n : Int)] := fun j v hv => by
  obtain ⟨vn, h1, _⟩ := h
  have := h1.cell (i := j) (v := v)
  rw [Nat.zero_add]
  apply this
  have hj : j < 2 := by have := (List.getElem?_eq_some_iff.1 hv).1; simpa using this
  rcases (by omega : j = 0 ∨ j = 1) with rfl | rfl <;> simpa [prL] using hv
theorem cellsP {B : Nat} {w : World} {R g n : Nat} {s : PS} (h : PR B w R g n s) : w.cell? ⟨R, 0, none⟩ = some (.pointer (some ⟨g, 0, none⟩)) ∧ w.cell? ⟨R, 2, none⟩ = some (.int .u8 s.k) ∧ w.cell? ⟨R, 5, none⟩ = some (.int .i64 s.many) ∧ w.cell? ⟨R, 6, none⟩ = some (.int .i64 s.sz) := by
  obtain ⟨vn, h1, _⟩ := h
  exact ⟨h1.cell rfl, h1.cell rfl, h1.cell rfl, h1.cell rfl⟩
theorem pt1_ns {s : PS} (h : s.ns = []) : (pt1 s).ns = [] := h
theorem pt2_ns {s : PS} (h : s.ns = []) : (pt2 s).ns = [] := by
  unfold pt2
  generalize (pt1 s).k = k
  have h1 := pt1_ns h
  unfold flPS
  split
  · exact h1
  · split
    · exact h1
    · exact h1
theorem wanted_litP {P : Program} {ops : Array Oper} {o : Oper} {a : Act} {w w' : World} {K : Act → World → Prop} {Q : Exit → Act → World → Prop} {X : Prop} (hw : Region.wanted o (yielded ops a.tmps) = true) (t : TypeId) (len : Nat) (parts : Array (Nat × Operand)) (ho : o.op = .buildSlice t len parts) (ps : Array (Nat × Value)) (hps : (parts.map fun (i, x) => (i, a.eval x)) = ps) (v : Value)
    (hr : (Instr.buildSlice t len ps).run P w = .ok v w') (h : K (a.put o.dst v) w') : if Region.wanted o (yielded ops a.tmps) = true then Oper.wp P o a w K Q else X := by
  rw [if_pos hw]
  unfold Oper.wp execOp
  simp only [ho, Sem.run_bind, hps, hr, Result.andThen_ok]
  exact h
theorem sqP_many (m : Nat) (s : PS) : ∀ k, (sqP (List.replicate m numberP) s k).many = s.many ∧ (sqP (List.replicate m numberP) s k).sz = s.sz ∧ (sqP (List.replicate m numberP) s k).k = s.k
  | 0 => ⟨rfl, rfl, rfl⟩
  | k + 1 => by
    unfold sqP
    have ih := sqP_many m s k
    by_cases hk : k < m
    · have e : (List.replicate m numberP).getD k (fun s => (s, true)) = numberP := by simp [List.getD, hk]
      rw [e]
      exact ih
    · have e : (List.replicate m numberP).getD k (fun s => (s, true)) = (fun s => (s, true)) := by simp [List.getD, hk]
      rw [e]
      exact ih
theorem pt3_many (s : PS) : (pt3 s).many = (pt2 s).many := (sqP_many _ _ _).1
set_option maxRecDepth 100000 in
theorem run_litF (w : World) (v : Nat) (R : Nat) : (Instr.buildSlice 100 1 #[(0, .func (.func v) #[.pointer (some ⟨R, 0, none⟩)] #[])]).run Try.prog w = .ok (.slice (some ⟨w.heap.size, 0, none⟩) 1 1) (w.alloc (.cells #[.func (.func v) #[.pointer (some ⟨R, 0, none⟩)] #[]] TF)) := by kernel_rfl
set_option maxRecDepth 100000 in
set_option maxHeartbeats 16000000 in
theorem readP_any (w : World) (B0 R g n : Nat) (s : PS) (h : PR B0 w R g n s) (h0 : s.ns = []) (hn : n ≤ 140737488355328) (hs : s.l.length ≤ n) :
    Calls Try.prog 45 #[.pointer (some ⟨R, 0, none⟩)] w fun e w' => RdP w R g n s e w' ∧ Ex (RG R g) w w' := by
  have hlt := h.lt
  obtain ⟨W1, HW1⟩ : ∃ W : World, Hid (w.alloc (.cells #[cl R 68] TF) = W) := ⟨_, hid rfl⟩
  have HW1' : w.alloc (.cells #[.func (.func 68) #[.pointer (some ⟨R, 0, none⟩)] #[]] TF) = W1 := HW1.out
  have B1 : Hid (Below w.heap.size w W1) := by rw [← HW1.out]; exact hid ((Below.refl _ w).alloc (Nat.le_refl _) _)
  have hb1 : W1.heap[w.heap.size]? = some (.cells #[cl R 68] TF (0, 0)) := by rw [← HW1.out]; exact heap_alloc_new w _
  have A1 : AllP [68] [kindP] := .cons runsP_kind .nil
  have C1 := hid (takeP_any A1 (by decide) W1 B0 R g n s (h.below B1.out) h0 hn hs (some ⟨w.heap.size, 0, none⟩) 1 w.heap.size (fun _ => rfl) (by decide) (by decide) (fun _ => ⟨(Array.getElem?_eq_some_iff.1 hb1).1, by omega, by omega⟩) (fun k hk => by
    have hk0 : k = 0 := by simpa using hk
    subst hk0
    simp [World.cell?, hb1]))
  have RQ0 := hid (rangeP h)
  have E1 : Hid (Ex (RG R g) w W1) := hid (Ex.of_below B1.out)
  have SZ : Hid ((Try.prog.info? 80).map (·.size) = some ([.pointer (some ⟨g, 0, none⟩), .int .i64 (n : Int)] : List Value).length) := hid size_src
  have hs1 : Hid ((pt1 s).l.length ≤ n) := hid (Nat.le_trans (sqP_le A1 s 1).1 hs)
  have HLT := hid hlt
  have H0 := hid h0
  clear h hlt A1 hb1
  rw [show tkP n [kindP] s = pd1 n s from rfl, show sqP [kindP] s [kindP].length = pt1 s from rfl] at C1
  obtain ⟨t1, HT1⟩ : ∃ x, Hid (pd1 n s = x) := ⟨_, hid rfl⟩
  rw [HT1.out] at C1
  obtain ⟨at1, ok1⟩ := t1
  simp only [List.length_cons, List.length_nil, Nat.zero_add] at C1
  go_enter Try.func45, Try.ntmps45
  go_wp2_with (first | rw [HW1'] | (refine wpList_load_mid rfl 80 _ rfl R 0 rfl _ _ RQ0.out Try.underlying80 rfl SZ.out ?_) | fail)
  refine C1.out.mono ?_
  rintro e w2 ⟨rfl, hq2, he2⟩
  have E2 := hid (E1.out.trans he2 (fun _ q => .inl q))
  have Q2 := hid hq2
  clear hq2 he2 C1
  cases ok1 with
  | false =>
    go_wp2_with fail
    go_ret2
    exact ⟨.inl ⟨by rw [HT1.out], by rw [HT1.out]; rfl⟩, E2.out⟩
  | true =>
    obtain ⟨kd, HKD⟩ : ∃ x, Hid ((pt1 s).k = x) := ⟨_, hid rfl⟩
    have C2 : Hid (∀ q, Calls Try.prog 69 #[.pointer (some ⟨R, 0, none⟩)] (w2.drewN q) fun e w' => ∃ p, e = .returned (.slice p (flPF kd).length (flPF kd).length) ∧ (0 < (flPF kd).length → p = some ⟨w2.heap.size, 0, none⟩ ∧ w2.heap.size < w'.heap.size) ∧ (∀ j (hj : j < (flPF kd).length), w'.cell? ⟨w2.heap.size, 0 + j, none⟩ = some (cl R (flPF kd)[j])) ∧ Below w2.heap.size w2 w') := hid (fun q => by
      have hc : (w2.drewN q).cell? ⟨R, 2, none⟩ = some (.int .u8 kd) := by rw [← HKD.out]; exact (cellsP Q2.out).2.1
      refine (fieldsP_any (w2.drewN q) R kd hc).mono ?_
      rintro e w' ⟨p, q1, q2, q3, q4⟩
      exact ⟨p, q1, q2, q3, (bel_drewN (Below.refl _ w2) q).trans q4⟩)
    have hlt2 := hid Q2.out.lt
    have C3 : Hid (∀ w3 p, Below w2.heap.size w2 w3 → (0 < (flPF kd).length → p = some ⟨w2.heap.size, 0, none⟩ ∧ w2.heap.size < w3.heap.size) → (∀ j (hj : j < (flPF kd).length), w3.cell? ⟨w2.heap.size, 0 + j, none⟩ = some (cl R (flPF kd)[j])) → Calls Try.prog 61 #[.agg #[.pointer (some ⟨g, 0, none⟩), .int .i64 (n : Int)], .slice p (flPF kd).length (flPF kd).length] w3 fun e w' => e = .returned (.tuple #[.int .i64 (pd2 n s).1, .bool (pd2 n s).2]) ∧ PR (w3.heap.size + 1) w' R g n (pt2 s) ∧ Ex (RG R g) w3 w') := hid (fun w3 p hb hp hc => by
      have := takeP_any (flP_runs kd) (by have := flP_len kd; omega) w3 _ R g n (pt1 s) (Q2.out.below hb) (pt1_ns H0.out) hn hs1.out p (flPF kd).length w2.heap.size (fun q => (hp q).1) (Nat.le_refl _) (by have := flP_len kd; unfold maxLen; omega) (fun q => ⟨(hp q).2, by have := hlt2.out; omega, by have := hlt2.out; omega⟩) hc
      have e1 : pd2 n s = tkP n (flPS kd) (pt1 s) := by rw [← HKD.out]; rfl
      have e2 : pt2 s = sqP (flPS kd) (pt1 s) (flPS kd).length := by rw [← HKD.out]; rfl
      rw [e1, e2]
      exact this)
    obtain ⟨t2, HT2⟩ : ∃ x, Hid (pd2 n s = x) := ⟨_, hid rfl⟩
    rw [HT2.out] at C3
    obtain ⟨at2, ok2⟩ := t2
    simp only at C3
    have hs2 : Hid ((pt2 s).l.length ≤ n) := hid (by
      have := (sqP_le (flP_runs kd) (pt1 s) (flPS kd).length).1
      rw [show pt2 s = sqP (flPS kd) (pt1 s) (flPS kd).length by rw [← HKD.out]; rfl]
      exact Nat.le_trans this hs1.out)
    clear RQ0 HW1' B1 E1
    go_wp2_with fail
    refine wp_region_held_drew (S := (fun W : World => W.rangeAt R 0 [.pointer (some ⟨g, 0, none⟩), .int .i64 (n : Int)])) (by kernel_rfl) (rangeP (Q2.out.below (bel_drewN (Below.refl _ w2) 1))) (fun hHeld => ?_)
    have HS := hid hHeld
    clear hHeld
    change wpAnyH _ _ _ _ _ _ _ _ (World.drew _)
    refine wpAnyH_take (i := 0) (v := ?_) rfl (by kernel_rfl) (by kernel_rfl) (by kernel_rfl) (fun _ _ _ h => h) (Or.inl ⟨by rfl, ?q0⟩) HS.out ?_
    case q0 => intro w hSw; go_simp; rfl
    simp only [Act.put, List.getElem_toArray, List.getElem_cons_zero, List.getElem_cons_succ, List.setIfInBounds_toArray, List.set_cons_zero, List.set_cons_succ]
    refine wpAnyH_take (i := 1) (v := ?_) rfl (by kernel_rfl) (by kernel_rfl) (by kernel_rfl) (fun _ _ _ h => h) (Or.inl ⟨by rfl, ?q1⟩) HS.out ?_
    case q1 => intro w hSw; go_simp; rfl
    simp only [Act.put, List.getElem_toArray, List.getElem_cons_zero, List.getElem_cons_succ, List.setIfInBounds_toArray, List.set_cons_zero, List.set_cons_succ]
    refine wpAnyH_take (i := 2) (v := ?_) rfl (by kernel_rfl) (by kernel_rfl) (by kernel_rfl) (fun _ _ _ h => h) (Or.inl ⟨by rfl, ?q2⟩) HS.out ?_
    case q2 => intro w hSw; go_simp; rfl
    simp only [Act.put, List.getElem_toArray, List.getElem_cons_zero, List.getElem_cons_succ, List.setIfInBounds_toArray, List.set_cons_zero, List.set_cons_succ]
    refine wpAnyH_take (i := 3) rfl (by kernel_rfl) (by kernel_rfl) (by kernel_rfl) (fun _ _ _ h => h) (yieldsIf_load_mid (by rfl) 80 _ rfl R 0 rfl [.pointer (some ⟨g, 0, none⟩), .int .i64 (n : Int)] _ (fun W hW => hW) Try.underlying80 rfl SZ.out) HS.out ?_
    simp only [Act.put, List.getElem_toArray, List.getElem_cons_zero, List.getElem_cons_succ, List.setIfInBounds_toArray, List.set_cons_zero, List.set_cons_succ]
    refine wpAnyH_take (i := 4) (v := ?_) rfl (by kernel_rfl) (by kernel_rfl) (by kernel_rfl) (fun _ _ _ h => h) (Or.inl ⟨by rfl, ?q4⟩) HS.out ?_
    case q4 => intro w hSw; go_simp; rfl
    simp only [Act.put, List.getElem_toArray, List.getElem_cons_zero, List.getElem_cons_succ, List.setIfInBounds_toArray, List.set_cons_zero, List.set_cons_succ]
    refine wpAnyH_ready (rs := [5]) (by kernel_rfl) (by simp) ?_
    refine AllReadyH.cons rfl (fun K hK => ?_) AllReadyH.nil
    replace hK := hid hK
    go_simp
    refine (C2.out _).mono ?_
    rintro e w3 ⟨p3, rfl, ho3, hc3, hb3⟩
    have B3 := hid hb3
    have C3' := hid (C3.out w3 p3 hb3 ho3 hc3)
    clear ho3 hc3 hb3 C3 C2 HS
    have HS := rangeP (Q2.out.below B3.out)
    refine hK.out _ _ HS (fun _ => ?_)
    clear hK K
    refine wpAnyH_ready (rs := [6]) (by kernel_rfl) (by simp) ?_
    refine AllReadyH.cons rfl (fun K hK => ?_) AllReadyH.nil
    replace hK := hid hK
    go_simp
    refine C3'.out.mono ?_
    rintro e w4 ⟨rfl, hq4, he4⟩
    have E4 : Hid (Ex (RG R g) w w4) := hid ((E2.out.trans (Ex.of_below (S := RG R g) B3.out) (fun _ q => .inl q)).trans he4 (fun _ q => .inl q))
    have Q4 := hid hq4
    clear hq4 he4 C3' HS B3
    have HS := hid (rangeP Q4.out)
    refine hK.out _ _ HS.out (fun _ => ?_)
    clear hK K
    refine wpAnyH_take (i := 7) (v := ?_) rfl (by kernel_rfl) (by kernel_rfl) (by kernel_rfl) (fun _ _ _ h => h) (Or.inl ⟨by rfl, ?q7⟩) HS.out ?_
    case q7 => intro w hSw; go_simp; rfl
    simp only [Act.put, List.getElem_toArray, List.getElem_cons_zero, List.getElem_cons_succ, List.setIfInBounds_toArray, List.set_cons_zero, List.set_cons_succ]
    refine wpAnyH_take (i := 8) (v := ?_) rfl (by kernel_rfl) (by kernel_rfl) (by kernel_rfl) (fun _ _ _ h => h) (Or.inl ⟨by rfl, ?q8⟩) HS.out ?_
    case q8 => intro w hSw; go_simp; rfl
    simp only [Act.put, List.getElem_toArray, List.getElem_cons_zero, List.getElem_cons_succ, List.setIfInBounds_toArray, List.set_cons_zero, List.set_cons_succ]
    refine wpAnyH_take (i := 9) (v := ?_) rfl (by kernel_rfl) (by kernel_rfl) (by kernel_rfl) (fun _ _ _ h => h) (Or.inl ⟨by rfl, ?q9⟩) HS.out ?_
    case q9 => intro w hSw; go_simp; rfl
    simp only [Act.put, List.getElem_toArray, List.getElem_cons_zero, List.getElem_cons_succ, List.setIfInBounds_toArray, List.set_cons_zero, List.set_cons_succ]
    refine wpAnyH_take (i := 10) (v := ?_) rfl (by kernel_rfl) (by kernel_rfl) (by kernel_rfl) (fun _ _ _ h => h) (Or.inl ⟨by rfl, ?q10⟩) HS.out ?_
    case q10 => intro w hSw; go_simp; rfl
    simp only [Act.put, List.getElem_toArray, List.getElem_cons_zero, List.getElem_cons_succ, List.setIfInBounds_toArray, List.set_cons_zero, List.set_cons_succ]
    refine wpAnyH_take (i := 11) (v := ?_) rfl (by kernel_rfl) (by kernel_rfl) (by kernel_rfl) (fun _ _ _ h => h) (Or.inl ⟨by rfl, ?q11⟩) HS.out ?_
    case q11 => intro w hSw; go_simp; rfl
    simp only [Act.put, List.getElem_toArray, List.getElem_cons_zero, List.getElem_cons_succ, List.setIfInBounds_toArray, List.set_cons_zero, List.set_cons_succ]
    refine wpAnyH_done (by kernel_rfl) ?_ _
    cases ok2 with
    | false =>
      go_wp2_with fail
      go_ret2
      exact ⟨.inr (.inl ⟨by rw [HT1.out], by rw [HT2.out], by rw [HT2.out]; rfl⟩), E4.out⟩
    | true =>
      have CK : Hid (∀ q, (w4.drewN q).cell? ⟨R, 0, none⟩ = some (.pointer (some ⟨g, 0, none⟩)) ∧ (w4.drewN q).cell? ⟨R, 5, none⟩ = some (.int .i64 (pt2 s).many)) := hid (fun q => ⟨(cellsP Q4.out).1, (cellsP Q4.out).2.2.1⟩)
      have CL : Hid (∀ q, Calls Try.prog 70 #[.pointer (some ⟨g, 0, none⟩)] (w4.drewN q) fun e w' => e = .returned (.int .i64 ((pt2 s).l.length : Int)) ∧ w' = w4.drewN q) := hid (fun q => left_any _ g true _ _ (Q4.out.below (bel_drewN (Below.refl _ w4) q)).rd)
      have hok2 := Q4.out.ok.1
      obtain ⟨my, hmy⟩ := Int.eq_ofNat_of_zero_le hok2.1
      have hmyl : my < 256 := by omega
      have HHP : Hid (herP s = min my (pt2 s).l.length) := hid (by unfold herP; rw [hmy]; rfl)
      rw [hmy] at CK
      generalize hll : (pt2 s).l.length = ll at CL HHP hs2
      have hmn : Hid ((if (ll : Int) < (my : Int) then (ll : Int) else (my : Int)) = (herP s : Int)) := hid (by rw [HHP.out]; split <;> omega)
      have hher : Hid (herP s ≤ my ∧ herP s < 256 ∧ herP s ≤ ll) := hid (by rw [HHP.out]; omega)
      clear HS
      go_wp2_with fail
      refine wp_region_held_drew (S := (fun W : World => W.cell? ⟨R, 0, none⟩ = some (.pointer (some ⟨g, 0, none⟩)) ∧ W.cell? ⟨R, 5, none⟩ = some (.int .i64 (my : Int)))) (by kernel_rfl) (CK.out _) (fun hHeld => ?_)
      have HS := hid hHeld
      clear hHeld
      change wpAnyH _ _ _ _ _ _ _ _ (World.drew _)
      refine wpAnyH_take (i := 0) (v := ?_) rfl (by kernel_rfl) (by kernel_rfl) (by kernel_rfl) (fun _ _ _ h => h) (Or.inl ⟨by rfl, ?q0⟩) HS.out ?_
      case q0 => intro w hSw; obtain ⟨y0, y1⟩ := hSw; go_simp; rfl
      simp only [Act.put, List.getElem_toArray, List.getElem_cons_zero, List.getElem_cons_succ, List.setIfInBounds_toArray, List.set_cons_zero, List.set_cons_succ]
      refine wpAnyH_take (i := 1) (v := ?_) rfl (by kernel_rfl) (by kernel_rfl) (by kernel_rfl) (fun _ _ _ h => h) (Or.inl ⟨by rfl, ?q1⟩) HS.out ?_
      case q1 => intro w hSw; obtain ⟨y0, y1⟩ := hSw; go_simp; rfl
      simp only [Act.put, List.getElem_toArray, List.getElem_cons_zero, List.getElem_cons_succ, List.setIfInBounds_toArray, List.set_cons_zero, List.set_cons_succ]
      refine wpAnyH_take (i := 2) (v := ?_) rfl (by kernel_rfl) (by kernel_rfl) (by kernel_rfl) (fun _ _ _ h => h) (Or.inl ⟨by rfl, ?q2⟩) HS.out ?_
      case q2 => intro w hSw; obtain ⟨y0, y1⟩ := hSw; go_simp; rfl
      simp only [Act.put, List.getElem_toArray, List.getElem_cons_zero, List.getElem_cons_succ, List.setIfInBounds_toArray, List.set_cons_zero, List.set_cons_succ]
      refine wpAnyH_take (i := 3) (v := ?_) rfl (by kernel_rfl) (by kernel_rfl) (by kernel_rfl) (fun _ _ _ h => h) (Or.inl ⟨by rfl, ?q3⟩) HS.out ?_
      case q3 => intro w hSw; obtain ⟨y0, y1⟩ := hSw; go_simp; rfl
      simp only [Act.put, List.getElem_toArray, List.getElem_cons_zero, List.getElem_cons_succ, List.setIfInBounds_toArray, List.set_cons_zero, List.set_cons_succ]
      refine wpAnyH_take (i := 4) (v := ?_) rfl (by kernel_rfl) (by kernel_rfl) (by kernel_rfl) (fun _ _ _ h => h) (Or.inl ⟨by rfl, ?q4⟩) HS.out ?_
      case q4 => intro w hSw; obtain ⟨y0, y1⟩ := hSw; go_simp; rfl
      simp only [Act.put, List.getElem_toArray, List.getElem_cons_zero, List.getElem_cons_succ, List.setIfInBounds_toArray, List.set_cons_zero, List.set_cons_succ]
      refine wpAnyH_take (i := 5) (v := ?_) rfl (by kernel_rfl) (by kernel_rfl) (by kernel_rfl) (fun _ _ _ h => h) (Or.inl ⟨by rfl, ?q5⟩) HS.out ?_
      case q5 => intro w hSw; obtain ⟨y0, y1⟩ := hSw; go_simp; rfl
      simp only [Act.put, List.getElem_toArray, List.getElem_cons_zero, List.getElem_cons_succ, List.setIfInBounds_toArray, List.set_cons_zero, List.set_cons_succ]
      refine wpAnyH_take (i := 6) (v := ?_) rfl (by kernel_rfl) (by kernel_rfl) (by kernel_rfl) (fun _ _ _ h => h) (Or.inl ⟨by rfl, ?q6⟩) HS.out ?_
      case q6 => intro w hSw; obtain ⟨y0, y1⟩ := hSw; go_simp; rfl
      simp only [Act.put, List.getElem_toArray, List.getElem_cons_zero, List.getElem_cons_succ, List.setIfInBounds_toArray, List.set_cons_zero, List.set_cons_succ]
      refine wpAnyH_take (i := 7) (v := ?_) rfl (by kernel_rfl) (by kernel_rfl) (by kernel_rfl) (fun _ _ _ h => h) (Or.inl ⟨by rfl, ?q7⟩) HS.out ?_
      case q7 => intro w hSw; obtain ⟨y0, y1⟩ := hSw; go_simp; rfl
      simp only [Act.put, List.getElem_toArray, List.getElem_cons_zero, List.getElem_cons_succ, List.setIfInBounds_toArray, List.set_cons_zero, List.set_cons_succ]
      refine wpAnyH_take (i := 8) (v := ?_) rfl (by kernel_rfl) (by kernel_rfl) (by kernel_rfl) (fun _ _ _ h => h) (Or.inl ⟨by rfl, ?q8⟩) HS.out ?_
      case q8 => intro w hSw; obtain ⟨y0, y1⟩ := hSw; go_simp; rfl
      simp only [Act.put, List.getElem_toArray, List.getElem_cons_zero, List.getElem_cons_succ, List.setIfInBounds_toArray, List.set_cons_zero, List.set_cons_succ]
      refine wpAnyH_ready (rs := [9]) (by kernel_rfl) (by simp) ?_
      refine AllReadyH.cons rfl (fun K hK => ?_) AllReadyH.nil
      replace hK := hid hK
      go_simp
      refine (CL.out _).mono ?_
      rintro e w5 ⟨rfl, hw5⟩
      subst hw5
      refine hK.out _ _ (CK.out _) (fun _ => ?_)
      clear hK K
      refine wpAnyH_take (i := 10) (v := (.int .i64 (herP s : Int))) rfl (by kernel_rfl) (by kernel_rfl) (by kernel_rfl) (fun _ _ _ h => h) (Or.inl ⟨by rfl, ?q10⟩) HS.out ?_
      case q10 => intro w hSw; obtain ⟨y0, y1⟩ := hSw; go_simp; rw [HHP.out]; split <;> omega
      simp only [Act.put, List.getElem_toArray, List.getElem_cons_zero, List.getElem_cons_succ, List.setIfInBounds_toArray, List.set_cons_zero, List.set_cons_succ]
      refine wpAnyH_take (i := 11) (v := ?_) rfl (by kernel_rfl) (by kernel_rfl) (by kernel_rfl) (fun _ _ _ h => h) (Or.inl ⟨by rfl, ?q11⟩) HS.out ?_
      case q11 => intro w hSw; obtain ⟨y0, y1⟩ := hSw; go_simp; rfl
      simp only [Act.put, List.getElem_toArray, List.getElem_cons_zero, List.getElem_cons_succ, List.setIfInBounds_toArray, List.set_cons_zero, List.set_cons_succ]
      refine wpAnyH_done (by kernel_rfl) ?_ _
      obtain ⟨w5, HW5⟩ : ∃ W, Hid (w4.drewN 1 = W) := ⟨_, hid rfl⟩
      rw [HW5.out]
      have Q5 : Hid (PR (w5.heap.size + 1) w5 R g n (pt2 s)) := hid (by
        have h1 := Q4.out.below (bel_drewN (Below.refl _ w4) 1)
        rw [HW5.out] at h1
        exact h1.rebase (pt2_ns H0.out) (by have := h1.lt; omega) (by have := h1.lt; omega))
      have E5 : Hid (Ex (RG R g) w w5) := hid (by rw [← HW5.out]; exact E4.out.drewN 1)
      have hlt5 := hid Q5.out.lt
      obtain ⟨hh, HHH⟩ : ∃ x, Hid (herP s = x) := ⟨_, hid rfl⟩
      rw [HHH.out] at hher
      rw [HHH.out]
      obtain ⟨W6, HW6⟩ : ∃ W : World, Hid (w5.drew.alloc (.cells #[cl R 72] TF) = W) := ⟨_, hid rfl⟩
      have hlit : (Instr.buildSlice 100 1 #[(0, .func (.func 72) #[.pointer (some ⟨R, 0, none⟩)] #[])]).run Try.prog w5.drew = .ok (.slice (some ⟨w5.heap.size, 0, none⟩) 1 1) W6 := by rw [← HW6.out]; exact run_litF w5.drew 72 R
      have B6 : Hid (Below w5.heap.size w5 W6) := hid (by rw [← HW6.out]; exact (bel_drewN (Below.refl _ w5) 1).alloc (Nat.le_refl _) _)
      have Z6 : Hid (W6.heap.size = w5.heap.size + 1) := hid (by rw [← HW6.out]; show (w5.heap.push _).size = _; rw [Array.size_push])
      have hb6 : Hid (W6.heap[w5.heap.size]? = some (.cells #[cl R 72] TF (0, 0))) := hid (by rw [← HW6.out]; exact heap_alloc_new w5.drew _)
      have C7 := hid (repeat_any W6 w5.heap.size hh (by have := hher.out; omega) (cl R 72) hb6.out rfl)
      have C8 : Hid (∀ w7, Below W6.heap.size W6 w7 → w7.heap[W6.heap.size]? = some (.cells (List.replicate hh (cl R 72)).toArray TF (0, 0)) → Calls Try.prog 61 #[.agg #[.pointer (some ⟨g, 0, none⟩), .int .i64 (n : Int)], .slice (some ⟨W6.heap.size, 0, none⟩) hh hh] w7 fun e w' => e = .returned (.tuple #[.int .i64 (pd3 n s).1, .bool (pd3 n s).2]) ∧ PR (w7.heap.size + 1) w' R g n (pt3 s) ∧ Ex (RG R g) w7 w') := hid (fun w7 hb hc => by
        have h6 := Q5.out.below (B6.out.trans (hb.mono B6.out.size))
        have := takeP_any (AllP.rep runsP_number hh) (by simp; have := hher.out; omega) w7 _ R g n (pt2 s) h6 (pt2_ns H0.out) hn (by rw [hll]; exact hs2.out) (some ⟨W6.heap.size, 0, none⟩) hh W6.heap.size (fun _ => rfl) (by simp) (by have := hher.out; unfold maxLen; omega) (fun _ => ⟨(Array.getElem?_eq_some_iff.1 hc).1, by have := hlt5.out; have := Z6.out; omega, by have := hlt5.out; have := Z6.out; omega⟩) (fun k hk => by
          have hk' : k < hh := by simpa using hk
          simp [World.cell?, hc, hk'])
        have e1 : pd3 n s = tkP n (List.replicate hh numberP) (pt2 s) := by rw [← HHH.out]; rfl
        have e2 : pt3 s = sqP (List.replicate hh numberP) (pt2 s) (List.replicate hh numberP).length := by rw [List.length_replicate, ← HHH.out]; rfl
        rw [e1, e2]
        rw [List.length_replicate] at this
        exact this)
      obtain ⟨t3, HT3⟩ : ∃ x, Hid (pd3 n s = x) := ⟨_, hid rfl⟩
      rw [HT3.out] at C8
      obtain ⟨at3, ok3⟩ := t3
      simp only at C8
      have RS6 : Hid (∀ W, Below w5.heap.size w5 W → W.rangeAt R 0 [.pointer (some ⟨g, 0, none⟩), .int .i64 (n : Int)]) := hid (fun W hb => rangeP (Q5.out.below hb))
      clear CK CL HS
      go_wp2_with fail
      refine wp_region_held_drew (S := (fun W : World => W.rangeAt R 0 [.pointer (some ⟨g, 0, none⟩), .int .i64 (n : Int)])) (by kernel_rfl) (RS6.out _ (by repeat' first | exact Below.refl _ _ | apply bel_drewN)) (fun hHeld => ?_)
      have HS := hid hHeld
      clear hHeld
      change wpAnyH _ _ _ _ _ _ _ _ (World.drew _)
      refine wpAnyH_take (i := 0) (v := ?_) rfl (by kernel_rfl) (by kernel_rfl) (by kernel_rfl) (fun _ _ _ h => h) (Or.inl ⟨by rfl, ?q0⟩) HS.out ?_
      case q0 => intro w hSw; go_simp; rfl
      simp only [Act.put, List.getElem_toArray, List.getElem_cons_zero, List.getElem_cons_succ, List.setIfInBounds_toArray, List.set_cons_zero, List.set_cons_succ]
      refine wpAnyH_take (i := 1) (v := ?_) rfl (by kernel_rfl) (by kernel_rfl) (by kernel_rfl) (fun _ _ _ h => h) (Or.inl ⟨by rfl, ?q1⟩) HS.out ?_
      case q1 => intro w hSw; go_simp; rfl
      simp only [Act.put, List.getElem_toArray, List.getElem_cons_zero, List.getElem_cons_succ, List.setIfInBounds_toArray, List.set_cons_zero, List.set_cons_succ]
      refine wpAnyH_take (i := 2) (v := ?_) rfl (by kernel_rfl) (by kernel_rfl) (by kernel_rfl) (fun _ _ _ h => h) (Or.inl ⟨by rfl, ?q2⟩) HS.out ?_
      case q2 => intro w hSw; go_simp; rfl
      simp only [Act.put, List.getElem_toArray, List.getElem_cons_zero, List.getElem_cons_succ, List.setIfInBounds_toArray, List.set_cons_zero, List.set_cons_succ]
      refine wpAnyH_take (i := 3) rfl (by kernel_rfl) (by kernel_rfl) (by kernel_rfl) (fun _ _ _ h => h) (yieldsIf_load_mid (by rfl) 80 _ rfl R 0 rfl [.pointer (some ⟨g, 0, none⟩), .int .i64 (n : Int)] _ (fun W hW => hW) Try.underlying80 rfl SZ.out) HS.out ?_
      simp only [Act.put, List.getElem_toArray, List.getElem_cons_zero, List.getElem_cons_succ, List.setIfInBounds_toArray, List.set_cons_zero, List.set_cons_succ]
      refine wpAnyH_take (i := 4) (v := ?_) rfl (by kernel_rfl) (by kernel_rfl) (by kernel_rfl) (fun _ _ _ h => h) (Or.inl ⟨by rfl, ?q4⟩) HS.out ?_
      case q4 => intro w hSw; go_simp; rfl
      simp only [Act.put, List.getElem_toArray, List.getElem_cons_zero, List.getElem_cons_succ, List.setIfInBounds_toArray, List.set_cons_zero, List.set_cons_succ]
      refine wpAnyH_take (i := 5) (v := ?_) rfl (by kernel_rfl) (by kernel_rfl) (by kernel_rfl) (fun _ _ _ h => h) (Or.inl ⟨by rfl, ?q5⟩) HS.out ?_
      case q5 => intro w hSw; go_simp; rfl
      simp only [Act.put, List.getElem_toArray, List.getElem_cons_zero, List.getElem_cons_succ, List.setIfInBounds_toArray, List.set_cons_zero, List.set_cons_succ]
      refine wpAnyH_take (i := 7) (v := ?_) rfl (by kernel_rfl) (by kernel_rfl) (by kernel_rfl) (fun _ _ _ h => h) (Or.inl ⟨by rfl, ?q7⟩) HS.out ?_
      case q7 => intro w hSw; go_simp; rfl
      simp only [Act.put, List.getElem_toArray, List.getElem_cons_zero, List.getElem_cons_succ, List.setIfInBounds_toArray, List.set_cons_zero, List.set_cons_succ]
      refine wpAnyH_ready (rs := [6]) (by kernel_rfl) (by simp) ?_
      refine AllReadyH.cons rfl (fun K hK => ?_) AllReadyH.nil
      replace hK := hid hK
      refine wanted_litP (by rfl) 100 1 _ rfl #[(0, .func (.func 72) #[.pointer (some ⟨R, 0, none⟩)] #[])] (by go_simp) _ hlit ?_
      simp only [Act.put, List.getElem_toArray, List.getElem_cons_zero, List.getElem_cons_succ, List.setIfInBounds_toArray, List.set_cons_zero, List.set_cons_succ]
      refine hK.out _ _ (RS6.out _ B6.out) (fun _ => ?_)
      clear hK K hlit
      refine wpAnyH_ready (rs := [8]) (by kernel_rfl) (by simp) ?_
      refine AllReadyH.cons rfl (fun K hK => ?_) AllReadyH.nil
      replace hK := hid hK
      go_simp
      refine C7.out.mono ?_
      rintro e w7 ⟨rfl, hc7, hb7⟩
      have B7 : Hid (Below w5.heap.size w5 w7) := hid (B6.out.trans (hb7.mono B6.out.size))
      have C8' := hid (C8.out w7 hb7 hc7)
      clear hc7 hb7 C7 C8 HS
      have HS := RS6.out w7 B7.out
      refine hK.out _ _ HS (fun _ => ?_)
      clear hK K
      refine wpAnyH_ready (rs := [9]) (by kernel_rfl) (by simp) ?_
      refine AllReadyH.cons rfl (fun K hK => ?_) AllReadyH.nil
      replace hK := hid hK
      go_simp
      refine C8'.out.mono ?_
      rintro e w8 ⟨rfl, hq8, he8⟩
      have E8 : Hid (Ex (RG R g) w w8) := hid ((E5.out.trans (Ex.of_below (S := RG R g) B7.out) (fun _ q => .inl q)).trans he8 (fun _ q => .inl q))
      have Q8 := hid hq8
      have HB8 : Hid (w.heap.size ≤ w7.heap.size + 1) := hid (by have := E5.out.size; have := B7.out.size; omega)
      clear hq8 he8 C8' HS B7 RS6
      have HS := hid (rangeP Q8.out)
      refine hK.out _ _ HS.out (fun _ => ?_)
      clear hK K
      refine wpAnyH_take (i := 10) (v := ?_) rfl (by kernel_rfl) (by kernel_rfl) (by kernel_rfl) (fun _ _ _ h => h) (Or.inl ⟨by rfl, ?q10⟩) HS.out ?_
      case q10 => intro w hSw; go_simp; rfl
      simp only [Act.put, List.getElem_toArray, List.getElem_cons_zero, List.getElem_cons_succ, List.setIfInBounds_toArray, List.set_cons_zero, List.set_cons_succ]
      refine wpAnyH_take (i := 11) (v := ?_) rfl (by kernel_rfl) (by kernel_rfl) (by kernel_rfl) (fun _ _ _ h => h) (Or.inl ⟨by rfl, ?q11⟩) HS.out ?_
      case q11 => intro w hSw; go_simp; rfl
      simp only [Act.put, List.getElem_toArray, List.getElem_cons_zero, List.getElem_cons_succ, List.setIfInBounds_toArray, List.set_cons_zero, List.set_cons_succ]
      refine wpAnyH_take (i := 12) (v := ?_) rfl (by kernel_rfl) (by kernel_rfl) (by kernel_rfl) (fun _ _ _ h => h) (Or.inl ⟨by rfl, ?q12⟩) HS.out ?_
      case q12 => intro w hSw; go_simp; rfl
      simp only [Act.put, List.getElem_toArray, List.getElem_cons_zero, List.getElem_cons_succ, List.setIfInBounds_toArray, List.set_cons_zero, List.set_cons_succ]
      refine wpAnyH_take (i := 13) (v := ?_) rfl (by kernel_rfl) (by kernel_rfl) (by kernel_rfl) (fun _ _ _ h => h) (Or.inl ⟨by rfl, ?q13⟩) HS.out ?_
      case q13 => intro w hSw; go_simp; rfl
      simp only [Act.put, List.getElem_toArray, List.getElem_cons_zero, List.getElem_cons_succ, List.setIfInBounds_toArray, List.set_cons_zero, List.set_cons_succ]
      refine wpAnyH_take (i := 14) (v := ?_) rfl (by kernel_rfl) (by kernel_rfl) (by kernel_rfl) (fun _ _ _ h => h) (Or.inl ⟨by rfl, ?q14⟩) HS.out ?_
      case q14 => intro w hSw; go_simp; rfl
      simp only [Act.put, List.getElem_toArray, List.getElem_cons_zero, List.getElem_cons_succ, List.setIfInBounds_toArray, List.set_cons_zero, List.set_cons_succ]
      refine wpAnyH_done (by kernel_rfl) ?_ _
      cases ok3 with
      | false =>
        go_wp2_with fail
        go_ret2
        exact ⟨.inr (.inr (.inl ⟨by rw [HT1.out], by rw [HT2.out], by rw [HT3.out], by rw [HT3.out]; rfl⟩)), E8.out⟩
      | true =>
        have hs3 : Hid ((pt3 s).l.length ≤ n) := hid (by
          have := (sqP_le (AllP.rep runsP_number (herP s)) (pt2 s) (herP s)).1
          exact Nat.le_trans this (by rw [hll]; exact hs2.out))
        have hok8 := Q8.out.ok
        have hlk : Hid (lackP s = (pt3 s).many - (hh : Int) + (pt3 s).sz) := hid (by unfold lackP; rw [HHH.out])
        have hlb : Hid (0 ≤ lackP s ∧ lackP s ≤ 140737488355328) := hid (by
          have h1 := hok8.1
          have h2 := hok8.2.1
          have h3 : (pt3 s).many = (pt2 s).many := pt3_many s
          rw [hlk.out]
          have := hher.out
          omega)
        have C9 : Hid (∀ q, Calls Try.prog 64 #[.agg #[.pointer (some ⟨g, 0, none⟩), .int .i64 (n : Int)], .int .i64 (lackP s)] (w8.drewN q) fun e w' => e = .returned (.tuple #[.int .i64 (edA n (pt3 s).l (lackP s)), .bool (decide (((pt3 s).l.length : Int) = lackP s))]) ∧ Below w8.heap.size w8 w') := hid (fun q => (ends_any (w8.drewN q) g n (pt3 s).f (pt3 s).l (Q8.out.below (bel_drewN (Below.refl _ w8) q)).rd (lackP s) hn (Nat.le_trans hs3.out hn) hlb.out).mono (fun e w' ⟨q1, q2⟩ => ⟨q1, (bel_drewN (Below.refl _ w8) q).trans q2⟩))
        have RC : Hid (∀ W, Below w8.heap.size w8 W → W.rangeAt R 0 [.pointer (some ⟨g, 0, none⟩), .int .i64 (n : Int)] ∧ W.cell? ⟨R, 5, none⟩ = some (.int .i64 (pt3 s).many) ∧ W.cell? ⟨R, 6, none⟩ = some (.int .i64 (pt3 s).sz)) := hid (fun W hb => ⟨rangeP (Q8.out.below hb), (cellsP (Q8.out.below hb)).2.2⟩)
        have hwa : IntKind.i64.wrap ((pt3 s).many - (hh : Int)) = (pt3 s).many - (hh : Int) := by have := hok8.1; have := hher.out; rw [IntKind.wrap_i64]; omega
        have hwb : IntKind.i64.wrap ((pt3 s).many - (hh : Int) + (pt3 s).sz) = lackP s := by have := hok8.1; have := hok8.2.1; have := hher.out; rw [hlk.out, IntKind.wrap_i64]; omega
        clear HS
        obtain ⟨dq, HDQ⟩ : ∃ x, Hid (decide (((pt3 s).l.length : Int) = lackP s) = x) := ⟨_, hid rfl⟩
        rw [HDQ.out] at C9
        go_wp2_with fail
        refine wp_region_held_drew (S := (fun W : World => W.rangeAt R 0 [.pointer (some ⟨g, 0, none⟩), .int .i64 (n : Int)] ∧ W.cell? ⟨R, 5, none⟩ = some (.int .i64 (pt3 s).many) ∧ W.cell? ⟨R, 6, none⟩ = some (.int .i64 (pt3 s).sz))) (by kernel_rfl) (RC.out _ (by repeat' first | exact Below.refl _ _ | apply bel_drewN)) (fun hHeld => ?_)
        have HS := hid hHeld
        clear hHeld
        change wpAnyH _ _ _ _ _ _ _ _ (World.drew _)
        refine wpAnyH_take (i := 0) (v := ?_) rfl (by kernel_rfl) (by kernel_rfl) (by kernel_rfl) (fun _ _ _ h => h) (Or.inl ⟨by rfl, ?q0⟩) HS.out ?_
        case q0 => intro w hSw; obtain ⟨y0, y1, y2⟩ := hSw; go_simp; rfl
        simp only [Act.put, List.getElem_toArray, List.getElem_cons_zero, List.getElem_cons_succ, List.setIfInBounds_toArray, List.set_cons_zero, List.set_cons_succ]
        refine wpAnyH_take (i := 1) (v := ?_) rfl (by kernel_rfl) (by kernel_rfl) (by kernel_rfl) (fun _ _ _ h => h) (Or.inl ⟨by rfl, ?q1⟩) HS.out ?_
        case q1 => intro w hSw; obtain ⟨y0, y1, y2⟩ := hSw; go_simp; rfl
        simp only [Act.put, List.getElem_toArray, List.getElem_cons_zero, List.getElem_cons_succ, List.setIfInBounds_toArray, List.set_cons_zero, List.set_cons_succ]
        refine wpAnyH_take (i := 2) (v := ?_) rfl (by kernel_rfl) (by kernel_rfl) (by kernel_rfl) (fun _ _ _ h => h) (Or.inl ⟨by rfl, ?q2⟩) HS.out ?_
        case q2 => intro w hSw; obtain ⟨y0, y1, y2⟩ := hSw; go_simp; rfl
        simp only [Act.put, List.getElem_toArray, List.getElem_cons_zero, List.getElem_cons_succ, List.setIfInBounds_toArray, List.set_cons_zero, List.set_cons_succ]
        refine wpAnyH_take (i := 3) rfl (by kernel_rfl) (by kernel_rfl) (by kernel_rfl) (fun _ _ _ h => h) (yieldsIf_load_mid (by rfl) 80 _ rfl R 0 rfl [.pointer (some ⟨g, 0, none⟩), .int .i64 (n : Int)] _ (fun W hW => hW.1) Try.underlying80 rfl SZ.out) HS.out ?_
        simp only [Act.put, List.getElem_toArray, List.getElem_cons_zero, List.getElem_cons_succ, List.setIfInBounds_toArray, List.set_cons_zero, List.set_cons_succ]
        refine wpAnyH_take (i := 4) (v := ?_) rfl (by kernel_rfl) (by kernel_rfl) (by kernel_rfl) (fun _ _ _ h => h) (Or.inl ⟨by rfl, ?q4⟩) HS.out ?_
        case q4 => intro w hSw; obtain ⟨y0, y1, y2⟩ := hSw; go_simp; rfl
        simp only [Act.put, List.getElem_toArray, List.getElem_cons_zero, List.getElem_cons_succ, List.setIfInBounds_toArray, List.set_cons_zero, List.set_cons_succ]
        refine wpAnyH_take (i := 5) (v := ?_) rfl (by kernel_rfl) (by kernel_rfl) (by kernel_rfl) (fun _ _ _ h => h) (Or.inl ⟨by rfl, ?q5⟩) HS.out ?_
        case q5 => intro w hSw; obtain ⟨y0, y1, y2⟩ := hSw; go_simp; rfl
        simp only [Act.put, List.getElem_toArray, List.getElem_cons_zero, List.getElem_cons_succ, List.setIfInBounds_toArray, List.set_cons_zero, List.set_cons_succ]
        refine wpAnyH_take (i := 6) (v := ?_) rfl (by kernel_rfl) (by kernel_rfl) (by kernel_rfl) (fun _ _ _ h => h) (Or.inl ⟨by rfl, ?q6⟩) HS.out ?_
        case q6 => intro w hSw; obtain ⟨y0, y1, y2⟩ := hSw; go_simp; rfl
        simp only [Act.put, List.getElem_toArray, List.getElem_cons_zero, List.getElem_cons_succ, List.setIfInBounds_toArray, List.set_cons_zero, List.set_cons_succ]
        refine wpAnyH_take (i := 7) (v := ?_) rfl (by kernel_rfl) (by kernel_rfl) (by kernel_rfl) (fun _ _ _ h => h) (Or.inl ⟨by rfl, ?q7⟩) HS.out ?_
        case q7 => intro w hSw; obtain ⟨y0, y1, y2⟩ := hSw; go_simp; rfl
        simp only [Act.put, List.getElem_toArray, List.getElem_cons_zero, List.getElem_cons_succ, List.setIfInBounds_toArray, List.set_cons_zero, List.set_cons_succ]
        refine wpAnyH_take (i := 8) (v := ?_) rfl (by kernel_rfl) (by kernel_rfl) (by kernel_rfl) (fun _ _ _ h => h) (Or.inl ⟨by rfl, ?q8⟩) HS.out ?_
        case q8 => intro w hSw; obtain ⟨y0, y1, y2⟩ := hSw; go_simp; rfl
        simp only [Act.put, List.getElem_toArray, List.getElem_cons_zero, List.getElem_cons_succ, List.setIfInBounds_toArray, List.set_cons_zero, List.set_cons_succ]
        refine wpAnyH_take (i := 9) (v := ?_) rfl (by kernel_rfl) (by kernel_rfl) (by kernel_rfl) (fun _ _ _ h => h) (Or.inl ⟨by rfl, ?q9⟩) HS.out ?_
        case q9 => intro w hSw; obtain ⟨y0, y1, y2⟩ := hSw; go_simp; rfl
        simp only [Act.put, List.getElem_toArray, List.getElem_cons_zero, List.getElem_cons_succ, List.setIfInBounds_toArray, List.set_cons_zero, List.set_cons_succ]
        refine wpAnyH_take (i := 10) (v := ?_) rfl (by kernel_rfl) (by kernel_rfl) (by kernel_rfl) (fun _ _ _ h => h) (Or.inl ⟨by rfl, ?q10⟩) HS.out ?_
        case q10 => intro w hSw; obtain ⟨y0, y1, y2⟩ := hSw; go_simp; rfl
        simp only [Act.put, List.getElem_toArray, List.getElem_cons_zero, List.getElem_cons_succ, List.setIfInBounds_toArray, List.set_cons_zero, List.set_cons_succ]
        refine wpAnyH_take (i := 11) (v := ?_) rfl (by kernel_rfl) (by kernel_rfl) (by kernel_rfl) (fun _ _ _ h => h) (Or.inl ⟨by rfl, ?q11⟩) HS.out ?_
        case q11 => intro w hSw; obtain ⟨y0, y1, y2⟩ := hSw; go_simp; rfl
        simp only [Act.put, List.getElem_toArray, List.getElem_cons_zero, List.getElem_cons_succ, List.setIfInBounds_toArray, List.set_cons_zero, List.set_cons_succ]
        refine wpAnyH_take (i := 12) (v := ?_) rfl (by kernel_rfl) (by kernel_rfl) (by kernel_rfl) (fun _ _ _ h => h) (Or.inl ⟨by rfl, ?q12⟩) HS.out ?_
        case q12 => intro w hSw; obtain ⟨y0, y1, y2⟩ := hSw; go_simp; rfl
        simp only [Act.put, List.getElem_toArray, List.getElem_cons_zero, List.getElem_cons_succ, List.setIfInBounds_toArray, List.set_cons_zero, List.set_cons_succ]
        refine wpAnyH_take (i := 13) (v := ?_) rfl (by kernel_rfl) (by kernel_rfl) (by kernel_rfl) (fun _ _ _ h => h) (Or.inl ⟨by rfl, ?q13⟩) HS.out ?_
        case q13 => intro w hSw; obtain ⟨y0, y1, y2⟩ := hSw; go_simp; rfl
        simp only [Act.put, List.getElem_toArray, List.getElem_cons_zero, List.getElem_cons_succ, List.setIfInBounds_toArray, List.set_cons_zero, List.set_cons_succ]
        refine wpAnyH_take (i := 14) (v := ?_) rfl (by kernel_rfl) (by kernel_rfl) (by kernel_rfl) (fun _ _ _ h => h) (Or.inl ⟨by rfl, ?q14⟩) HS.out ?_
        case q14 => intro w hSw; obtain ⟨y0, y1, y2⟩ := hSw; go_simp; rfl
        simp only [Act.put, List.getElem_toArray, List.getElem_cons_zero, List.getElem_cons_succ, List.setIfInBounds_toArray, List.set_cons_zero, List.set_cons_succ]
        refine wpAnyH_ready (rs := [15]) (by kernel_rfl) (by simp) ?_
        refine AllReadyH.cons rfl (fun K hK => ?_) AllReadyH.nil
        replace hK := hid hK
        go_simp
        refine (C9.out _).mono ?_
        rintro e w9 ⟨rfl, hb9⟩
        have B9 := hid hb9
        clear hb9 C9 HS
        have HS := hid (RC.out w9 B9.out)
        have Q9 := hid (Q8.out.below B9.out)
        have E9 : Hid (Ex (RG R g) w w9) := hid (E8.out.trans (Ex.of_below (S := RG R g) B9.out) (fun _ q => .inl q))
        refine hK.out _ _ HS.out (fun _ => ?_)
        clear hK K
        refine wpAnyH_take (i := 16) (v := ?_) rfl (by kernel_rfl) (by kernel_rfl) (by kernel_rfl) (fun _ _ _ h => h) (Or.inl ⟨by rfl, ?q16⟩) HS.out ?_
        case q16 => intro w hSw; obtain ⟨y0, y1, y2⟩ := hSw; go_simp; rfl
        simp only [Act.put, List.getElem_toArray, List.getElem_cons_zero, List.getElem_cons_succ, List.setIfInBounds_toArray, List.set_cons_zero, List.set_cons_succ]
        refine wpAnyH_take (i := 17) (v := ?_) rfl (by kernel_rfl) (by kernel_rfl) (by kernel_rfl) (fun _ _ _ h => h) (Or.inl ⟨by rfl, ?q17⟩) HS.out ?_
        case q17 => intro w hSw; obtain ⟨y0, y1, y2⟩ := hSw; go_simp; rfl
        simp only [Act.put, List.getElem_toArray, List.getElem_cons_zero, List.getElem_cons_succ, List.setIfInBounds_toArray, List.set_cons_zero, List.set_cons_succ]
        refine wpAnyH_take (i := 18) (v := ?_) rfl (by kernel_rfl) (by kernel_rfl) (by kernel_rfl) (fun _ _ _ h => h) (Or.inl ⟨by rfl, ?q18⟩) HS.out ?_
        case q18 => intro w hSw; obtain ⟨y0, y1, y2⟩ := hSw; go_simp; rfl
        simp only [Act.put, List.getElem_toArray, List.getElem_cons_zero, List.getElem_cons_succ, List.setIfInBounds_toArray, List.set_cons_zero, List.set_cons_succ]
        refine wpAnyH_take (i := 19) (v := ?_) rfl (by kernel_rfl) (by kernel_rfl) (by kernel_rfl) (fun _ _ _ h => h) (Or.inl ⟨by rfl, ?q19⟩) HS.out ?_
        case q19 => intro w hSw; obtain ⟨y0, y1, y2⟩ := hSw; go_simp; rfl
        simp only [Act.put, List.getElem_toArray, List.getElem_cons_zero, List.getElem_cons_succ, List.setIfInBounds_toArray, List.set_cons_zero, List.set_cons_succ]
        refine wpAnyH_take (i := 20) (v := ?_) rfl (by kernel_rfl) (by kernel_rfl) (by kernel_rfl) (fun _ _ _ h => h) (Or.inl ⟨by rfl, ?q20⟩) HS.out ?_
        case q20 => intro w hSw; obtain ⟨y0, y1, y2⟩ := hSw; go_simp; rfl
        simp only [Act.put, List.getElem_toArray, List.getElem_cons_zero, List.getElem_cons_succ, List.setIfInBounds_toArray, List.set_cons_zero, List.set_cons_succ]
        refine wpAnyH_done (by kernel_rfl) ?_ _
        cases dq with
        | false =>
          go_wp2_with fail
          go_ret2
          exact ⟨.inr (.inr (.inr (.inl ⟨by rw [HT1.out], by rw [HT2.out], by rw [HT3.out], by simpa using HDQ.out, rfl⟩))), E9.out⟩
        | true =>
          obtain ⟨vn, hbr, hown9, hok9, hR9, hg9, _⟩ := Q9.out
          have C10 : Hid (∀ q, Calls Try.prog 65 #[.pointer (some ⟨g, 0, none⟩), .int .i64 (pt3 s).sz] (w9.drewN q) fun e w' => ∃ v' B, e = .returned v' ∧ w'.ownsRow B 5 1 v' (taken (pt3 s).l (pt3 s).sz).length ((taken (pt3 s).l (pt3 s).sz).map (Value.int .u8)) ∧ w9.heap.size ≤ B ∧ HB w' v' (taken (pt3 s).l (pt3 s).sz) ∧ RD w' g true ((pt3 s).f || !okTake (pt3 s).l (pt3 s).sz) (leftAt (pt3 s).l (pt3 s).sz) ∧ (w9.drewN q).grownBy w' (some g)) := hid (fun q => bytes_any (w9.drewN q) g _ _ _ (hbr.dr q).rd (Nat.le_trans hs3.out hn))
          have HBR := hid hbr
          have HOW9 := hid hown9
          have HRG9 := hid (And.intro hR9 hg9)
          have HOK9 := hid hok9
          have R9 : Hid (∀ q, (w9.drewN q).cell? ⟨R, 0, none⟩ = some (.pointer (some ⟨g, 0, none⟩)) ∧ (w9.drewN q).cell? ⟨R, 6, none⟩ = some (.int .i64 (pt3 s).sz)) := hid (fun q => ⟨(hbr.dr q).cell rfl, (hbr.dr q).cell rfl⟩)
          clear HS RC hbr hown9 hR9 hg9 hok9
          go_wp2_with fail
          refine wp_region_held_drew (S := (fun W : World => W.cell? ⟨R, 0, none⟩ = some (.pointer (some ⟨g, 0, none⟩)) ∧ W.cell? ⟨R, 6, none⟩ = some (.int .i64 (pt3 s).sz))) (by kernel_rfl) (R9.out _) (fun hHeld => ?_)
          have HS := hid hHeld
          clear hHeld
          change wpAnyH _ _ _ _ _ _ _ _ (World.drew _)
          refine wpAnyH_take (i := 0) (v := ?_) rfl (by kernel_rfl) (by kernel_rfl) (by kernel_rfl) (fun _ _ _ h => h) (Or.inl ⟨by rfl, ?q0⟩) HS.out ?_
          case q0 => intro w hSw; obtain ⟨y0, y1⟩ := hSw; go_simp; rfl
          simp only [Act.put, List.getElem_toArray, List.getElem_cons_zero, List.getElem_cons_succ, List.setIfInBounds_toArray, List.set_cons_zero, List.set_cons_succ]
          refine wpAnyH_take (i := 1) (v := ?_) rfl (by kernel_rfl) (by kernel_rfl) (by kernel_rfl) (fun _ _ _ h => h) (Or.inl ⟨by rfl, ?q1⟩) HS.out ?_
          case q1 => intro w hSw; obtain ⟨y0, y1⟩ := hSw; go_simp; rfl
          simp only [Act.put, List.getElem_toArray, List.getElem_cons_zero, List.getElem_cons_succ, List.setIfInBounds_toArray, List.set_cons_zero, List.set_cons_succ]
          refine wpAnyH_take (i := 2) (v := ?_) rfl (by kernel_rfl) (by kernel_rfl) (by kernel_rfl) (fun _ _ _ h => h) (Or.inl ⟨by rfl, ?q2⟩) HS.out ?_
          case q2 => intro w hSw; obtain ⟨y0, y1⟩ := hSw; go_simp; rfl
          simp only [Act.put, List.getElem_toArray, List.getElem_cons_zero, List.getElem_cons_succ, List.setIfInBounds_toArray, List.set_cons_zero, List.set_cons_succ]
          refine wpAnyH_take (i := 3) (v := ?_) rfl (by kernel_rfl) (by kernel_rfl) (by kernel_rfl) (fun _ _ _ h => h) (Or.inl ⟨by rfl, ?q3⟩) HS.out ?_
          case q3 => intro w hSw; obtain ⟨y0, y1⟩ := hSw; go_simp; rfl
          simp only [Act.put, List.getElem_toArray, List.getElem_cons_zero, List.getElem_cons_succ, List.setIfInBounds_toArray, List.set_cons_zero, List.set_cons_succ]
          refine wpAnyH_take (i := 4) (v := ?_) rfl (by kernel_rfl) (by kernel_rfl) (by kernel_rfl) (fun _ _ _ h => h) (Or.inl ⟨by rfl, ?q4⟩) HS.out ?_
          case q4 => intro w hSw; obtain ⟨y0, y1⟩ := hSw; go_simp; rfl
          simp only [Act.put, List.getElem_toArray, List.getElem_cons_zero, List.getElem_cons_succ, List.setIfInBounds_toArray, List.set_cons_zero, List.set_cons_succ]
          refine wpAnyH_take (i := 5) (v := ?_) rfl (by kernel_rfl) (by kernel_rfl) (by kernel_rfl) (fun _ _ _ h => h) (Or.inl ⟨by rfl, ?q5⟩) HS.out ?_
          case q5 => intro w hSw; obtain ⟨y0, y1⟩ := hSw; go_simp; rfl
          simp only [Act.put, List.getElem_toArray, List.getElem_cons_zero, List.getElem_cons_succ, List.setIfInBounds_toArray, List.set_cons_zero, List.set_cons_succ]
          refine wpAnyH_take (i := 6) (v := ?_) rfl (by kernel_rfl) (by kernel_rfl) (by kernel_rfl) (fun _ _ _ h => h) (Or.inl ⟨by rfl, ?q6⟩) HS.out ?_
          case q6 => intro w hSw; obtain ⟨y0, y1⟩ := hSw; go_simp; rfl
          simp only [Act.put, List.getElem_toArray, List.getElem_cons_zero, List.getElem_cons_succ, List.setIfInBounds_toArray, List.set_cons_zero, List.set_cons_succ]
          refine wpAnyH_take (i := 7) (v := ?_) rfl (by kernel_rfl) (by kernel_rfl) (by kernel_rfl) (fun _ _ _ h => h) (Or.inl ⟨by rfl, ?q7⟩) HS.out ?_
          case q7 => intro w hSw; obtain ⟨y0, y1⟩ := hSw; go_simp; rfl
          simp only [Act.put, List.getElem_toArray, List.getElem_cons_zero, List.getElem_cons_succ, List.setIfInBounds_toArray, List.set_cons_zero, List.set_cons_succ]
          refine wpAnyH_take (i := 8) (v := ?_) rfl (by kernel_rfl) (by kernel_rfl) (by kernel_rfl) (fun _ _ _ h => h) (Or.inl ⟨by rfl, ?q8⟩) HS.out ?_
          case q8 => intro w hSw; obtain ⟨y0, y1⟩ := hSw; go_simp; rfl
          simp only [Act.put, List.getElem_toArray, List.getElem_cons_zero, List.getElem_cons_succ, List.setIfInBounds_toArray, List.set_cons_zero, List.set_cons_succ]
          refine wpAnyH_take (i := 9) (v := ?_) rfl (by kernel_rfl) (by kernel_rfl) (by kernel_rfl) (fun _ _ _ h => h) (Or.inl ⟨by rfl, ?q9⟩) HS.out ?_
          case q9 => intro w hSw; obtain ⟨y0, y1⟩ := hSw; go_simp; rfl
          simp only [Act.put, List.getElem_toArray, List.getElem_cons_zero, List.getElem_cons_succ, List.setIfInBounds_toArray, List.set_cons_zero, List.set_cons_succ]
          refine wpAnyH_ready (rs := [10]) (by kernel_rfl) (by simp) ?_
          refine AllReadyH.cons rfl (fun K hK => ?_) AllReadyH.nil
          replace hK := hid hK
          go_simp
          refine (C10.out _).mono ?_
          rintro e w6 ⟨v6, BB6, rfl, ho6, hB6, hb6', hr6, hg6⟩
          have q6 := (HBR.out.dr _).still TP_ok hg6 hr6
          have HS6 : Hid (w6.cell? ⟨R, 0, none⟩ = some (.pointer (some ⟨g, 0, none⟩)) ∧ w6.cell? ⟨R, 6, none⟩ = some (.int .i64 (pt3 s).sz)) := hid ⟨q6.cell rfl, q6.cell rfl⟩
          obtain ⟨p6, p6e⟩ := (HBR.out.dr _).put TP_ok hg6 hr6 4 v6
          have c24 : w6.cell? ⟨R, 4, none⟩ = some (.slice none 0 0) := q6.cell rfl
          have f24 := q6.free 4
          have P6 := hid p6
          have EQ6 : Hid (Ex (RG R g) w9 (w6.setCell ⟨R, 4, none⟩ v6)) := hid (((Ex.refl (RG R g) w9).drewN _).trans p6e (fun _ q => .inl q))
          have E6 : Hid (Ex (RG R g) w (w6.setCell ⟨R, 4, none⟩ v6)) := hid (E9.out.trans EQ6.out (fun _ q => .inl q))
          have HO6 := hid ho6
          have HBy6 := hid hb6'.2
          have HB6 : Hid (w.heap.size ≤ BB6) := hid (Nat.le_trans E9.out.size hB6)
          have HN6 := hid (own_ex HOW9.out EQ6.out (fun k hk _ => by have := HRG9.out; rintro (e | e) <;> omega))
          have HT6 : Hid ((w6.setCell ⟨R, 4, none⟩ v6).ownsRow BB6 5 1 v6 (taken (pt3 s).l (pt3 s).sz).length ((taken (pt3 s).l (pt3 s).sz).map (Value.int .u8))) := hid (by
            refine ⟨ho6.1, ho6.2.elim .inl fun ⟨gg, cap, cur, z1, z2, z3, z4⟩ => .inr ⟨gg, cap, cur, z1, z2, ?_, z4⟩⟩
            rw [← z3]
            have hne : R ≠ gg := fun e => by rw [← e, q6.blk] at z3; simp only [Option.some.injEq, Obj.cells.injEq] at z3; exact absurd z3.2.1 (by decide)
            simp [World.setCell, Array.getElem?_modify, hne])
          obtain ⟨pv, cv, ev, -, -⟩ := hb6'.open
          clear ho6 hB6 hb6' hr6 hg6 q6 p6 p6e C10 R9 HS
          have HS := HS6
          subst ev
          refine hK.out _ _ HS.out (fun _ => ?_)
          clear hK K
          refine wpAnyH_take (i := 11) (v := ?_) rfl (by kernel_rfl) (by kernel_rfl) (by kernel_rfl) (fun _ _ _ h => h) (Or.inl ⟨by rfl, ?q11⟩) HS.out ?_
          case q11 => intro w hSw; obtain ⟨y0, y1⟩ := hSw; go_simp; rfl
          simp only [Act.put, List.getElem_toArray, List.getElem_cons_zero, List.getElem_cons_succ, List.setIfInBounds_toArray, List.set_cons_zero, List.set_cons_succ]
          refine wpAnyH_take (i := 12) (v := ?_) rfl (by kernel_rfl) (by kernel_rfl) (by kernel_rfl) (fun _ _ _ h => h) (Or.inl ⟨by rfl, ?q12⟩) HS.out ?_
          case q12 => intro w hSw; obtain ⟨y0, y1⟩ := hSw; go_simp; rfl
          simp only [Act.put, List.getElem_toArray, List.getElem_cons_zero, List.getElem_cons_succ, List.setIfInBounds_toArray, List.set_cons_zero, List.set_cons_succ]
          refine wpAnyH_take (i := 13) (v := ?_) rfl (by kernel_rfl) (by kernel_rfl) (by kernel_rfl) (fun _ _ _ h => h) (Or.inl ⟨by rfl, ?q13⟩) HS.out ?_
          case q13 => intro w hSw; obtain ⟨y0, y1⟩ := hSw; go_simp; rfl
          simp only [Act.put, List.getElem_toArray, List.getElem_cons_zero, List.getElem_cons_succ, List.setIfInBounds_toArray, List.set_cons_zero, List.set_cons_succ]
          refine wpAnyH_ready (rs := [14]) (by kernel_rfl) (by simp) ?_
          refine AllReadyH.cons rfl (fun K hK => ?_) AllReadyH.nil
          replace hK := hid hK
          go_simp
          clear HS
          have HP7 : Hid (BR (w6.setCell ⟨R, 4, none⟩ (.slice pv (taken (pt3 s).l (pt3 s).sz).length cv)) R g TP (prL g n (pt3 s).k vn (.slice pv (taken (pt3 s).l (pt3 s).sz).length cv) (pt3 s).many (pt3 s).sz) ((pt3 s).f || !okTake (pt3 s).l (pt3 s).sz) (leftAt (pt3 s).l (pt3 s).sz)) := hid P6.out
          have HS := hid (show (w6.setCell ⟨R, 4, none⟩ (.slice pv (taken (pt3 s).l (pt3 s).sz).length cv)).cell? ⟨R, 0, none⟩ = some (.pointer (some ⟨g, 0, none⟩)) ∧ (w6.setCell ⟨R, 4, none⟩ (.slice pv (taken (pt3 s).l (pt3 s).sz).length cv)).cell? ⟨R, 6, none⟩ = some (.int .i64 (pt3 s).sz) from ⟨HP7.out.cell rfl, HP7.out.cell rfl⟩)
          refine hK.out _ _ HS.out (fun _ => ?_)
          clear hK K
          refine wpAnyH_done (by kernel_rfl) ?_ _
          go_wp2_with fail
          go_ret2
          exact ⟨.inr (.inr (.inr (.inr ⟨by rw [HT1.out], by rw [HT2.out], by rw [HT3.out], by simpa using HDQ.out, rfl, vn, _, BB6, _, HP7.out.blk, HN6.out, HB8.out, HT6.out, HB6.out, HBy6.out, HOK9.out⟩))), E6.out⟩
abbrev zrep : Array Value := #[.int .u8 0, .slice none 0 0, .slice none 0 0]
def rpA (k : Int) (vn vb : Value) : Array Value := #[.int .u8 k, vn, vb]
theorem rpA_one (k : Int) (vn vb : Value) (h1 : vn.oneCell' = true) (h2 : vb.oneCell' = true) : (rpA k vn vb).all (·.oneCell') = true :=
  all_oneCell_toArray (cs := [.int .u8 k, vn, vb]) fun v hv => by
    simp only [List.mem_cons, List.not_mem_nil, or_false] at hv
    rcases hv with rfl | rfl | rfl
    · rfl
    · exact h1
    · exact h2
def ps0 (l : List Int) : PS := ⟨false, l, 0, [], 0, 0⟩
set_option maxRecDepth 100000 in
theorem run_build_pr (w : World) (g : Nat) (n : Int) : (Instr.build TP #[(0, .agg #[.pointer (some ⟨g, 0, none⟩), .int .i64 n])]).run Try.prog w = .ok (.agg #[.pointer (some ⟨g, 0, none⟩), .int .i64 n, .int .u8 0, .slice none 0 0, .slice none 0 0, .int .i64 0, .int .i64 0]) w := by
  kernel_rfl
set_option maxRecDepth 100000 in
theorem run_build_p0 (w : World) : (Instr.build 42 #[]).run Try.prog w = .ok (.agg zrep) w := by
  kernel_rfl
def rpBad (l : List Int) (p : Int) : Prop :=
  ((pd1 l.length (ps0 l)).2 = false ∧ p = (pd1 l.length (ps0 l)).1) ∨
  ((pd1 l.length (ps0 l)).2 = true ∧ (pd2 l.length (ps0 l)).2 = false ∧ p = (pd2 l.length (ps0 l)).1) ∨
  ((pd1 l.length (ps0 l)).2 = true ∧ (pd2 l.length (ps0 l)).2 = true ∧ (pd3 l.length (ps0 l)).2 = false ∧ p = (pd3 l.length (ps0 l)).1) ∨
  ((pd1 l.length (ps0 l)).2 = true ∧ (pd2 l.length (ps0 l)).2 = true ∧ (pd3 l.length (ps0 l)).2 = true ∧ ((pt3 (ps0 l)).l.length : Int) ≠ lackP (ps0 l) ∧ p = edA l.length (pt3 (ps0 l)).l (lackP (ps0 l)))
def rpGood (l : List Int) (k : Int) (ns b : List Int) : Prop :=
  (pd1 l.length (ps0 l)).2 = true ∧ (pd2 l.length (ps0 l)).2 = true ∧ (pd3 l.length (ps0 l)).2 = true ∧ ((pt3 (ps0 l)).l.length : Int) = lackP (ps0 l) ∧ k = (pt3 (ps0 l)).k ∧ ns = (pt3 (ps0 l)).ns ∧ b = taken (pt3 (ps0 l)).l (pt3 (ps0 l)).sz
def RepQ (w : World) (l : List Int) (e : Ending) (w' : World) : Prop :=
  (∃ p, rpBad l p ∧ e = .returned (.tuple #[.agg zrep, .int .i64 p, .int .i64 201])) ∨
  (∃ k ns b vn v B B', rpGood l k ns b ∧ e = .returned (.tuple #[.agg (rpA k vn v), .int .i64 0, .int .i64 0]) ∧ w'.ownsRow B' 3 1 vn ns.length (ns.map (Value.int .i64)) ∧ w.heap.size ≤ B' ∧ (∀ x ∈ ns, 0 ≤ x ∧ x < 256) ∧ w'.ownsRow B 5 1 v b.length (b.map (Value.int .u8)) ∧ w.heap.size ≤ B ∧ ∀ x ∈ b, 0 ≤ x ∧ x < 256)
theorem own_setRowG {w : World} {B : Nat} {e : TypeId} {v : Value} {n : Nat} {xs : List Value} {b : Nat} {cs cs' : Array Value} {T : TypeId} (h : w.ownsRow B e 1 v n xs) (hb : w.heap[b]? = some (.cells cs T (0, 0))) (hT : T ≠ e) : (w.setRow b cs').ownsRow B e 1 v n xs := by
  refine ⟨h.1, h.2.elim .inl fun ⟨gg, cap, cur, z1, z2, z3, z4⟩ => .inr ⟨gg, cap, cur, z1, z2, ?_, z4⟩⟩
  rw [← z3]
  have hne : b ≠ gg := fun e => by rw [← e, hb] at z3; simp only [Option.some.injEq, Obj.cells.injEq] at z3; exact hT z3.2.1
  simp [World.setRow, Array.getElem?_modify, hne]
set_option maxRecDepth 100000 in
set_option maxHeartbeats 16000000 in
theorem reply_any (w : World) (v : Value) (l : List Int) (h : HB w v l) (hbig : l.length ≤ 140737488355328) :
    Calls Try.prog 19 #[v] w fun e w' => RepQ w l e w' ∧ Below w.heap.size w w' := by
  obtain ⟨W1, HW1⟩ : ∃ W : World, Hid (w.alloc (.cells zrep 42) = W) := ⟨_, hid rfl⟩
  have B1 : Hid (Below w.heap.size w W1) := by rw [← HW1.out]; exact hid ((Below.refl _ w).alloc (Nat.le_refl _) _)
  have hs1 : Hid (W1.heap.size = w.heap.size + 1) := hid (by rw [← HW1.out]; simp)
  have hbx : Hid (W1.heap[w.heap.size]? = some (.cells zrep 42 (0, 0))) := hid (by rw [← HW1.out]; exact heap_alloc_new w _)
  have C1 := hid (newSource_any W1 v l (h.later fun a _ hx => (B1.out.cell (World.block_lt_of_cell? w a hx)).trans hx) hbig)
  clear h
  go_enter Try.func19, Try.ntmps19
  refine wp_seq_k fun K0 h0 => ?_
  have H0 := hid h0
  clear h0
  go_wp2
  rw [HW1.out]
  refine H0.out _ _ ?_
  go_wp2_with fail
  refine C1.out.mono ?_
  rintro e w2 ⟨g, rfl, hr2, hg2, hB2⟩
  have hbd := hid fun W => run_build_pr W g (l.length : Int)
  obtain ⟨qa, HQA⟩ : ∃ m, Hid ((#[.pointer (some ⟨g, 0, none⟩), .int .i64 (l.length : Int), .int .u8 0, .slice none 0 0, .slice none 0 0, .int .i64 0, .int .i64 0] : Array Value) = m) := ⟨_, hid rfl⟩
  rw [HQA.out] at hbd
  obtain ⟨W3, HW3⟩ : ∃ W : World, Hid (w2.alloc (.cells qa TP) = W) := ⟨_, hid rfl⟩
  have Q3 : Hid (PR (W3.heap.size + 1) W3 w2.heap.size g l.length (ps0 l)) := hid (by
    have h1 : BR W3 w2.heap.size g TP (prL g l.length 0 (.slice none 0 0) (.slice none 0 0) 0 0) false l := ⟨by rw [← HW3.out, ← HQA.out]; exact heap_alloc_new w2 _, by rw [← HW3.out]; exact hr2.grow ((Below.refl _ w2).alloc (Nat.le_refl _) _)⟩
    have h2 := h1.lt
    exact ⟨_, h1, ⟨rfl, .inl ⟨rfl, rfl⟩⟩, ⟨⟨by show (0 : Int) ≤ 0; decide, by show (0 : Int) < 256; decide⟩, ⟨by show (0 : Int) ≤ 0; decide, by show (0 : Int) < 4294967296; decide⟩, fun x hx => absurd hx (by simp [ps0])⟩, by omega, by omega, fun _ => rfl⟩)
  have hb3 : Hid (W3.heap[w.heap.size]? = some (.cells zrep 42 (0, 0))) := hid (by
    have h1 := (hB2.block w.heap.size (by have := hs1.out; omega)).trans hbx.out
    have h2 : Below w2.heap.size w2 W3 := by rw [← HW3.out]; exact (Below.refl _ w2).alloc (Nat.le_refl _) _
    exact (h2.block _ (Array.getElem?_eq_some_iff.1 h1).1).trans h1)
  have B3 : Hid (Below w.heap.size w W3) := hid (B1.out.trans ((hB2.mono B1.out.size).trans (by rw [← HW3.out]; exact (Below.refl _ w2).alloc (Nat.le_trans B1.out.size hB2.size) _)))
  have hne : Hid (w.heap.size < g ∧ w.heap.size < w2.heap.size) := hid (by have := hs1.out; have := hB2.size; omega)
  have C3 := hid (readP_any W3 _ w2.heap.size g l.length (ps0 l) Q3.out rfl hbig (Nat.le_refl _))
  have SR : Hid ((Try.prog.info? 42).map (·.size) = some 3) := hid (by kernel_rfl)
  generalize hRR : w2.heap.size = R at C3 Q3 hne
  clear hr2 hg2 hB2 C1 HQA
  go_wp2_with (first | (refine wpList_buildQ rfl TP _ rfl #[(0, .agg #[.pointer (some ⟨g, 0, none⟩), .int .i64 (l.length : Int)])] (by go_simp) _ (hbd.out _) ?_) | rw [HW3.out] | fail)
  refine C3.out.mono ?_
  rintro e w4 ⟨hq4, he4⟩
  have h4 : w4.heap[w.heap.size]? = some (.cells zrep 42 (0, 0)) := (he4.block _ (Array.getElem?_eq_some_iff.1 hb3.out).1 (by have := hne.out; rintro (e | e) <;> omega)).trans hb3.out
  have B4 : Hid (Below w.heap.size w w4) := hid (B3.out.trans (he4.below B3.out.size (fun k q => by have := hne.out; rcases q with q | q <;> omega)))
  have H4 := hid h4
  clear h4 he4 C3 hbd HW3 hRR
  have BAD : Hid (∀ p, rpBad l p → RepQ w l (.returned (.tuple #[.agg zrep, .int .i64 p, .int .i64 201])) (w4.setRow w.heap.size zrep)) := hid (fun p hp => .inl ⟨p, hp, rfl⟩)
  have BS : Hid (∀ cs, Below w.heap.size w (w4.setRow w.heap.size cs)) := hid (fun cs => B4.out.trans ((ex_setRow (Ex.refl (fun k => k = w.heap.size) w4) rfl cs).below B4.out.size (fun k e => by omega)))
  have HS4 : Hid (∀ cs : Array Value, (w4.setRow w.heap.size cs).heap[w.heap.size]? = some (.cells cs 42 (0, 0))) := hid (fun cs => setRow_heap _ _ _ _ _ _ H4.out)
  have hz1 : Hid (zrep.all (·.oneCell') = true) := hid (rpA_one 0 _ _ rfl rfl)
  have hb0 := hid run_build_p0
  obtain ⟨zr, HZR⟩ : ∃ z, Hid (zrep = z) := ⟨_, hid rfl⟩
  have hzs : Hid (zr.size = 3) := hid (by rw [← HZR.out]; rfl)
  rw [HZR.out] at H4 BAD hz1 hb0
  rcases hq4 with ⟨q1, rfl⟩ | ⟨q1, q2, rfl⟩ | ⟨q1, q2, q3, rfl⟩ | ⟨q1, q2, q3, q4, rfl⟩ | ⟨q1, q2, q3, qq, rfl, vn, v4, B, B', q4, n1, n2, q5, q6, q7, q8⟩
  · have HB := hid (BAD.out _ (.inl ⟨q1, rfl⟩))
    generalize (pd1 l.length (ps0 l)).1 = p at HB ⊢
    go_wp2_with (first | (refine wpList_buildQ rfl 42 _ rfl #[] (by go_simp) _ (hb0.out _) ?_) | (refine wpList_store_row rfl 42 _ _ rfl w.heap.size zr rfl rfl 42 zr H4.out (by rw [hzs.out]; exact SR.out) rfl hz1.out ?_) | fail)
    refine bodyPost_ret (v := .tuple #[.agg zr, .int .i64 p, .int .i64 201]) (results_cellTT (p := 2) (q := 3) (q' := 4) (ty := 42) rfl _ _ w.heap.size 42 _ (0, 0) _ _ _ rfl rfl rfl (HS4.out _) Try.underlying42 rfl (by rw [hzs.out]; exact SR.out)) rfl ?_
    exact ⟨HB.out, BS.out _⟩
  · have HB := hid (BAD.out _ (.inr (.inl ⟨q1, q2, rfl⟩)))
    generalize (pd2 l.length (ps0 l)).1 = p at HB ⊢
    go_wp2_with (first | (refine wpList_buildQ rfl 42 _ rfl #[] (by go_simp) _ (hb0.out _) ?_) | (refine wpList_store_row rfl 42 _ _ rfl w.heap.size zr rfl rfl 42 zr H4.out (by rw [hzs.out]; exact SR.out) rfl hz1.out ?_) | fail)
    refine bodyPost_ret (v := .tuple #[.agg zr, .int .i64 p, .int .i64 201]) (results_cellTT (p := 2) (q := 3) (q' := 4) (ty := 42) rfl _ _ w.heap.size 42 _ (0, 0) _ _ _ rfl rfl rfl (HS4.out _) Try.underlying42 rfl (by rw [hzs.out]; exact SR.out)) rfl ?_
    exact ⟨HB.out, BS.out _⟩
  · have HB := hid (BAD.out _ (.inr (.inr (.inl ⟨q1, q2, q3, rfl⟩))))
    generalize (pd3 l.length (ps0 l)).1 = p at HB ⊢
    go_wp2_with (first | (refine wpList_buildQ rfl 42 _ rfl #[] (by go_simp) _ (hb0.out _) ?_) | (refine wpList_store_row rfl 42 _ _ rfl w.heap.size zr rfl rfl 42 zr H4.out (by rw [hzs.out]; exact SR.out) rfl hz1.out ?_) | fail)
    refine bodyPost_ret (v := .tuple #[.agg zr, .int .i64 p, .int .i64 201]) (results_cellTT (p := 2) (q := 3) (q' := 4) (ty := 42) rfl _ _ w.heap.size 42 _ (0, 0) _ _ _ rfl rfl rfl (HS4.out _) Try.underlying42 rfl (by rw [hzs.out]; exact SR.out)) rfl ?_
    exact ⟨HB.out, BS.out _⟩
  · have HB := hid (BAD.out _ (.inr (.inr (.inr ⟨q1, q2, q3, q4, rfl⟩))))
    generalize edA l.length (pt3 (ps0 l)).l (lackP (ps0 l)) = p at HB ⊢
    go_wp2_with (first | (refine wpList_buildQ rfl 42 _ rfl #[] (by go_simp) _ (hb0.out _) ?_) | (refine wpList_store_row rfl 42 _ _ rfl w.heap.size zr rfl rfl 42 zr H4.out (by rw [hzs.out]; exact SR.out) rfl hz1.out ?_) | fail)
    refine bodyPost_ret (v := .tuple #[.agg zr, .int .i64 p, .int .i64 201]) (results_cellTT (p := 2) (q := 3) (q' := 4) (ty := 42) rfl _ _ w.heap.size 42 _ (0, 0) _ _ _ rfl rfl rfl (HS4.out _) Try.underlying42 rfl (by rw [hzs.out]; exact SR.out)) rfl ?_
    exact ⟨HB.out, BS.out _⟩
  · have hone : v4.oneCell' = true := by obtain ⟨p, c, rfl⟩ := own_slice q5; rfl
    have hone2 : vn.oneCell' = true := by obtain ⟨p, c, rfl⟩ := own_slice n1; rfl
    have HQ : Hid (∀ cs', RepQ w l (.returned (.tuple #[.agg (rpA (pt3 (ps0 l)).k vn v4), .int .i64 0, .int .i64 0])) (w4.setRow w.heap.size cs')) := hid (fun cs' => .inr ⟨_, _, _, vn, v4, B, B', ⟨q1, q2, q3, qq, rfl, rfl, rfl⟩, rfl, own_setRowG n1 H4.out (by decide), Nat.le_trans B3.out.size n2, q8.2.2, own_setRowG q5 H4.out (by decide), Nat.le_trans B3.out.size q6, q7⟩)
    have RR : Hid (w4.rangeAt R 2 [.int .u8 (pt3 (ps0 l)).k, vn, v4]) := hid (fun j u hj => by
      rw [cell_of_row _ _ _ _ _ _ q4]
      have hj2 : j < 3 := by have := (List.getElem?_eq_some_iff.1 hj).1; simpa using this
      rcases (by omega : j = 0 ∨ j = 1 ∨ j = 2) with rfl | rfl | rfl <;> simpa [prL] using hj)
    have hm1 : Hid ((rpA (pt3 (ps0 l)).k vn v4).all (·.oneCell') = true) := hid (rpA_one _ _ _ hone2 hone)
    have hms : Hid ((rpA (pt3 (ps0 l)).k vn v4).size = 3) := hid rfl
    have HMM : Hid (([.int .u8 (pt3 (ps0 l)).k, vn, v4] : List Value).toArray = rpA (pt3 (ps0 l)).k vn v4) := hid rfl
    obtain ⟨m, HM⟩ : ∃ m, Hid (rpA (pt3 (ps0 l)).k vn v4 = m) := ⟨_, hid rfl⟩
    rw [HM.out] at HQ hm1 hms HMM
    clear q1 q2 q3 qq q4 q5 q6 q7 q8 n1 n2 hone hone2 BAD hb0 hz1
    go_wp2_with (first | (refine wpList_load_mid rfl 42 _ rfl R 2 rfl [.int .u8 (pt3 (ps0 l)).k, vn, v4] _ RR.out Try.underlying42 rfl SR.out ?_; rw [HMM.out]) | (refine wpList_store_row rfl 42 _ _ rfl w.heap.size m rfl rfl 42 zr H4.out (by rw [hms.out]; exact SR.out) (by rw [hms.out]; exact hzs.out) hm1.out ?_) | fail)
    refine bodyPost_ret (v := .tuple #[.agg m, .int .i64 0, .int .i64 0]) (results_cellTT (p := 2) (q := 3) (q' := 4) (ty := 42) rfl _ _ w.heap.size 42 _ (0, 0) _ _ _ rfl rfl rfl (HS4.out _) Try.underlying42 rfl (by rw [hms.out]; exact SR.out)) rfl ?_
    exact ⟨HQ.out _, BS.out _⟩
theorem elmI : Try.prog.elem 40 = 3 := by kernel_rfl
theorem slice_hI (W : World) (b off n c hi : Nat) (h1 : hi ≤ c) (h2 : 0 < c) : (Instr.slice 40 (.slice (some ⟨b, off, none⟩) n c) none (some (.int .i64 (hi : Int))) none).run Try.prog W = .ok (.slice (some ⟨b, off, none⟩) hi c) W := by
  have h := run_slice_h (P := Try.prog) W 40 (some ⟨b, off, none⟩) n c (by rw [elmI]; exact Try.underlying40) .i64 (hi : Int) (by omega) (by omega)
  rw [h, elmI, I.size_i64, Result.andThen_ok, Int.toNat_natCast]
  unfold sliced
  rw [if_neg (by omega)]
  simp [Go.WideShapes.add_plain]
theorem I.HB.pre {w : World} {b off n c : Nat} {ns : List Int} (h : I.HB w (.slice (some ⟨b, off, none⟩) ns.length c) ns) (i : Nat) (hi : i ≤ ns.length) : I.HB w (.slice (some ⟨b, off, none⟩) i c) (ns.take i) := by
  obtain ⟨⟨p, c', e, h1, h2, h3, h4⟩, h5⟩ := h
  cases e
  refine ⟨⟨_, c, by rw [List.length_take, Nat.min_eq_left hi], by rw [List.length_take]; omega, h2, (fun e => by cases e), fun hne => ⟨b, off, rfl, fun j hj => ?_⟩⟩, fun x hx => h5 x (List.mem_of_mem_take hx)⟩
  have hj2 : j < i := by rw [List.length_take] at hj; omega
  obtain ⟨b', off', e, hh⟩ := h4 (by intro e; rw [e] at hi; simp at hi; omega)
  cases e
  rw [hh j (by omega)]
  simp [List.getD, List.getElem?_take, hj2]
def risTo (ns : List Int) : Nat → Bool
  | 0 => true
  | i + 1 => risTo ns i && folB (ns.take i) (ns.getD i 0)
def risB (ns : List Int) : Bool := risTo ns ns.length
theorem risTo_false {ns : List Int} {i : Nat} (h : risTo ns i = false) : ∀ j, i ≤ j → risTo ns j = false := by
  intro j hj
  induction j with
  | zero => have : i = 0 := by omega
            subst this; exact h
  | succ j ih =>
    rcases Nat.lt_or_ge j i with h1 | h1
    · have : i = j + 1 := by omega
      subst this; exact h
    · rw [risTo, ih h1]; rfl
set_option maxRecDepth 100000 in
set_option maxHeartbeats 4000000 in
theorem rise_any (w : World) (v : Value) (ns : List Int) (h : I.HB w v ns) : Calls Try.prog 66 #[v] w fun e w' => e = .returned (.bool (risB ns)) ∧ w' = w := by
  obtain ⟨rb, HRB⟩ : ∃ x, Hid (risB ns = x) := ⟨_, hid rfl⟩
  rw [HRB.out]
  by_cases h0 : 0 < ns.length
  · obtain ⟨b, off, c, rfl, h1, h2, hh⟩ := h.ne h0
    have HH := hid hh
    have HV := hid h
    have hle : ns.length ≤ 9223372036854775807 := Nat.le_trans h1 h2
    clear hh h
    go_enter Try.func66, Try.ntmps66
    go_wp2
    go_loop [7] (fun i => ∃ k : Nat, k ≤ ns.length ∧ i = .int .i64 k ∧ risTo ns k = true) (fun i => ns.length - (intOf i).toNat)
    case atStart => exact ⟨0, Nat.zero_le _, rfl, rfl⟩
    case round =>
      obtain ⟨k, hk, rfl, hr⟩ := hrel
      by_cases hlt : k < ns.length
      · have hu := HH.out k hlt
        have hsl := fun W => slice_hI W b off ns.length c k (by omega) (by omega)
        have CF := hid (follows_any w _ (ns.take k) (HV.out.pre (n := 0) k hk) (ns.getD k 0))
        have ST : Hid (risTo ns (k + 1) = folB (ns.take k) (ns.getD k 0)) := hid (by rw [risTo, hr]; simp)
        obtain ⟨fb, HF⟩ : ∃ x, Hid (folB (ns.take k) (ns.getD k 0) = x) := ⟨_, hid rfl⟩
        rw [HF.out] at CF ST
        generalize ns.getD k 0 = y at hu CF
        clear HF
        cases fb with
        | false =>
          have hF : Hid (rb = false) := hid (by rw [← HRB.out]; exact risTo_false ST.out _ (by omega))
          go_wp2_with fail
          refine CF.out.mono ?_
          rintro e w' ⟨rfl, hw'⟩
          subst hw'
          go_wp2_with fail
          go_ret
          exact ⟨by rw [hF.out]; rfl, rfl⟩
        | true =>
          go_wp2_with fail
          refine CF.out.mono ?_
          rintro e w' ⟨rfl, hw'⟩
          subst hw'
          go_wp2_with fail
          exact ⟨⟨k + 1, by omega, by go_num, ST.out⟩, by simp [intOf]; omega⟩
      · have hF : Hid (rb = true) := hid (by rw [← HRB.out, risB, show ns.length = k by omega]; exact hr)
        go_wp2_with fail
        go_ret
        exact ⟨by rw [hF.out]; rfl, rfl⟩
  · obtain ⟨p, c, rfl, h1, h2⟩ := h.open
    have h00 : ns.length = 0 := by omega
    have hF : Hid (rb = true) := hid (by rw [← HRB.out, risB, h00]; rfl)
    rw [h00]
    clear h
    go_enter Try.func66, Try.ntmps66
    go_wp2
    go_loop [7] (fun i => i = .int .i64 0) (fun _ => 0)
    case atStart => rfl
    case round =>
      subst hrel
      go_wp2_with fail
      go_ret
      exact ⟨by rw [hF.out]; rfl, rfl⟩
def mayP (k : Int) (ns : List Int) (n : Nat) : Bool :=
  if k = 1 then risB ns && decide (n = 0)
  else if k = 5 then decide (ns.length = 0) && flB n
  else rkB k && (decide (ns.length = 0) && decide (n = 0))
set_option maxRecDepth 100000 in
set_option maxHeartbeats 4000000 in
theorem mayRep_any (w : World) (k : Int) (vn : Value) (ns : List Int) (hn : I.HB w vn ns) (p : Option Addr) (n c : Nat) : Calls Try.prog 43 #[.agg #[.int .u8 k, vn, .slice p n c]] w fun e w' => e = .returned (.bool (mayP k ns n)) ∧ Below w.heap.size w w' := by
  obtain ⟨W1, HW1⟩ : ∃ W : World, Hid (w.alloc (.cells #[.int .u8 k, vn, .slice p n c] 42) = W) := ⟨_, hid rfl⟩
  have B1 : Hid (Below w.heap.size w W1) := by rw [← HW1.out]; exact hid ((Below.refl _ w).alloc (Nat.le_refl _) _)
  have hbx : W1.heap[w.heap.size]? = some (.cells #[.int .u8 k, vn, .slice p n c] 42 (0, 0)) := by rw [← HW1.out]; exact heap_alloc_new w _
  have c0 : W1.cell? ⟨w.heap.size, 0, none⟩ = some (.int .u8 k) := by simp [World.cell?, hbx]
  have c1 : W1.cell? ⟨w.heap.size, 1, none⟩ = some vn := by simp [World.cell?, hbx]
  have c2 : W1.cell? ⟨w.heap.size, 2, none⟩ = some (.slice p n c) := by simp [World.cell?, hbx]
  have CR := hid (fun q => rise_any (W1.drewN q) vn ns ((hn.below B1.out).drewN q))
  have CI := hid (fun q => isReply_any (W1.drewN q) k)
  have CF := hid (fun q => isFetchLen_any (W1.drewN q) (n : Int))
  have BB : Hid (∀ q, Below w.heap.size w (W1.drewN q)) := hid (fun q => bel_drewN B1.out q)
  obtain ⟨pn, cn, rfl, _, _⟩ := hn.open
  have HMP : Hid (mayP k ns n = if k = 1 then risB ns && decide (n = 0) else if k = 5 then decide (ns.length = 0) && flB n else rkB k && (decide (ns.length = 0) && decide (n = 0))) := hid rfl
  obtain ⟨mp, HM⟩ : ∃ x, Hid (mayP k ns n = x) := ⟨_, hid rfl⟩
  rw [HM.out] at HMP ⊢
  clear hn hbx HM
  generalize risB ns = rs at CR HMP
  generalize ns.length = nl at c1 CR HMP HW1 ⊢
  generalize rkB k = rk at CI HMP
  generalize flB n = fl at CF HMP
  go_enter Try.func43, Try.ntmps43
  go_wp2_with (first | rw [HW1.out] | fail)
  go_quiet (fail)
  go_wp2_with (first | (go_at_call 66; refine (CR.out _).mono ?_; rintro e w' ⟨rfl, hw'⟩; subst hw') | (go_at_call 67; refine (CI.out _).mono ?_; rintro e w' ⟨rfl, hw'⟩; subst hw') | (go_at_call 55; refine (CF.out _).mono ?_; rintro e w' ⟨rfl, hw'⟩; subst hw'))
  all_goals go_ret
  all_goals (refine ⟨?_, BB.out _⟩; rw [HMP.out]; clear HMP CR CI CF BB B1 HW1 c0 c1 c2; simp_all [nat0])
end Go.Proofs.Ytgjadpidoaianaa
