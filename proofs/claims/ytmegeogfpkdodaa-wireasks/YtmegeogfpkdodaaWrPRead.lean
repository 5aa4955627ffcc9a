/- wire: a reply is read. -/
import Derived.Test.YtmegeogfpkdodaaWrPSeq
import Derived.Test.YtmegeogfpkdodaaWrRead
set_option linter.unusedVariables false
set_option linter.unusedSimpArgs false
namespace Go.Proofs.Ytmegeogfpkdodaa
open Go Go.RowKit

def pd1 (n : Nat) (s : PS) : Int × Bool := tkP n [kindP] s
def pt1 (s : PS) : PS := sqP [kindP] s 1
def pd2 (n : Nat) (s : PS) : Int × Bool := tkP n (flPS (pt1 s).k) (pt1 s)
def pt2 (s : PS) : PS := sqP (flPS (pt1 s).k) (pt1 s) (flPS (pt1 s).k).length
def herP (s : PS) : Nat := min (pt2 s).many.toNat (pt2 s).l.length
def pd3 (n : Nat) (s : PS) : Int × Bool := tkP n (List.replicate (herP s) numberP) (pt2 s)
def pt3 (s : PS) : PS := sqP (List.replicate (herP s) numberP) (pt2 s) (herP s)
def lackP (s : PS) : Int := (pt3 s).many - herP s + (pt3 s).sz
/-- What read tells. -/
def RdP (w : World) (R g n : Nat) (s : PS) (e : Ending) (w' : World) : Prop :=
  ((pd1 n s).2 = false ∧ e = .returned (.tuple #[.int .i64 (pd1 n s).1, .bool false])) ∨
  ((pd1 n s).2 = true ∧ (pd2 n s).2 = false ∧ e = .returned (.tuple #[.int .i64 (pd2 n s).1, .bool false])) ∨
  ((pd1 n s).2 = true ∧ (pd2 n s).2 = true ∧ (pd3 n s).2 = false ∧ e = .returned (.tuple #[.int .i64 (pd3 n s).1, .bool false])) ∨
  ((pd1 n s).2 = true ∧ (pd2 n s).2 = true ∧ (pd3 n s).2 = true ∧ ((pt3 s).l.length : Int) ≠ lackP s ∧ e = .returned (.tuple #[.int .i64 (edA n (pt3 s).l (lackP s)), .bool false])) ∨
  ((pd1 n s).2 = true ∧ (pd2 n s).2 = true ∧ (pd3 n s).2 = true ∧ ((pt3 s).l.length : Int) = lackP s ∧ e = .returned (.tuple #[.int .i64 0, .bool true]) ∧
    ∃ vn v B B', w'.heap[R]? = some (.cells (prL g n (pt3 s).k vn v (pt3 s).many (pt3 s).sz).toArray TP (0, 0)) ∧ w'.ownsRow B' 3 1 vn (pt3 s).ns.length ((pt3 s).ns.map (Value.int .i64)) ∧ w.heap.size ≤ B' ∧ w'.ownsRow B 5 1 v (taken (pt3 s).l (pt3 s).sz).length ((taken (pt3 s).l (pt3 s).sz).map (Value.int .u8)) ∧ w.heap.size ≤ B ∧ (∀ x ∈ taken (pt3 s).l (pt3 s).sz, 0 ≤ x ∧ x < 256) ∧ OkP (pt3 s))
theorem rangeP {B : Nat} {w : World} {R g n : Nat} {s : PS} (h : PR B w R g n s) : w.rangeAt R 0 [.pointer (some ⟨g, 0, none⟩), .int .i64 (n : Int)] := fun j v hv => by
  obtain ⟨vn, h1, _⟩ := h
  have := h1.cell (i := j) (v := v)
  rw [Nat.zero_add]
  apply this
  have hj : j < 2 := by have := (List.getElem?_eq_some_iff.1 hv).1; simpa using this
  rcases (by omega : j = 0 ∨ j = 1) with rfl | rfl <;> simpa [prL] using hv
theorem cellsP {B : Nat} {w : World} {R g n : Nat} {s : PS} (h : PR B w R g n s) : w.cell? ⟨R, 0, none⟩ = some (.pointer (some ⟨g, 0, none⟩)) ∧ w.cell? ⟨R, 2, none⟩ = some (.int .u8 s.k) ∧ w.cell? ⟨R, 5, none⟩ = some (.int .i64 s.many) ∧ w.cell? ⟨R, 6, none⟩ = some (.int .i64 s.sz) := by
  obtain ⟨vn, h1, _⟩ := h
  exact ⟨h1.cell rfl, h1.cell rfl, h1.cell rfl, h1.cell rfl⟩
theorem pt1_ns {s : PS} (h : s.ns = []) : (pt1 s).ns = [] := h
theorem pt2_ns {s : PS} (h : s.ns = []) : (pt2 s).ns = [] := by
  unfold pt2
  generalize (pt1 s).k = k
  have h1 := pt1_ns h
  unfold flPS
  split
  · exact h1
  · split
    · exact h1
    · exact h1
theorem wanted_litP {P : Program} {ops : Array Oper} {o : Oper} {a : Act} {w w' : World} {K : Act → World → Prop} {Q : Exit → Act → World → Prop} {X : Prop} (hw : Region.wanted o (yielded ops a.tmps) = true) (t : TypeId) (len : Nat) (parts : Array (Nat × Operand)) (ho : o.op = .buildSlice t len parts) (ps : Array (Nat × Value)) (hps : (parts.map fun (i, x) => (i, a.eval x)) = ps) (v : Value)
    (hr : (Instr.buildSlice t len ps).run P w = .ok v w') (h : K (a.put o.dst v) w') : if Region.wanted o (yielded ops a.tmps) = true then Oper.wp P o a w K Q else X := by
  rw [if_pos hw]
  unfold Oper.wp execOp
  simp only [ho, Sem.run_bind, hps, hr, Result.andThen_ok]
  exact h
theorem sqP_many (m : Nat) (s : PS) : ∀ k, (sqP (List.replicate m numberP) s k).many = s.many ∧ (sqP (List.replicate m numberP) s k).sz = s.sz ∧ (sqP (List.replicate m numberP) s k).k = s.k
  | 0 => ⟨rfl, rfl, rfl⟩
  | k + 1 => by
    unfold sqP
    have ih := sqP_many m s k
    by_cases hk : k < m
    · have e : (List.replicate m numberP).getD k (fun s => (s, true)) = numberP := by simp [List.getD, hk]
      rw [e]
      exact ih
    · have e : (List.replicate m numberP).getD k (fun s => (s, true)) = (fun s => (s, true)) := by simp [List.getD, hk]
      rw [e]
      exact ih
theorem pt3_many (s : PS) : (pt3 s).many = (pt2 s).many := (sqP_many _ _ _).1
set_option maxRecDepth 100000 in
theorem run_litF (w : World) (v : Nat) (R : Nat) : (Instr.buildSlice 100 1 #[(0, .func (.func v) #[.pointer (some ⟨R, 0, none⟩)] #[])]).run Try.prog w = .ok (.slice (some ⟨w.heap.size, 0, none⟩) 1 1) (w.alloc (.cells #[.func (.func v) #[.pointer (some ⟨R, 0, none⟩)] #[]] TF)) := by kernel_rfl
set_option maxRecDepth 100000 in
set_option maxHeartbeats 16000000 in
theorem readP_any (w : World) (B0 R g n : Nat) (s : PS) (h : PR B0 w R g n s) (h0 : s.ns = []) (hn : n ≤ 140737488355328) (hs : s.l.length ≤ n) :
    Calls Try.prog 45 #[.pointer (some ⟨R, 0, none⟩)] w fun e w' => RdP w R g n s e w' ∧ Ex (RG R g) w w' := by
  have hlt := h.lt
  obtain ⟨W1, HW1⟩ : ∃ W : World, Hid (w.alloc (.cells #[cl R 68] TF) = W) := ⟨_, hid rfl⟩
  have HW1' : w.alloc (.cells #[.func (.func 68) #[.pointer (some ⟨R, 0, none⟩)] #[]] TF) = W1 := HW1.out
  have B1 : Hid (Below w.heap.size w W1) := by rw [← HW1.out]; exact hid ((Below.refl _ w).alloc (Nat.le_refl _) _)
  have hb1 : W1.heap[w.heap.size]? = some (.cells #[cl R 68] TF (0, 0)) := by rw [← HW1.out]; exact heap_alloc_new w _
  have A1 : AllP [68] [kindP] := .cons runsP_kind .nil
  have C1 := hid (takeP_any A1 (by decide) W1 B0 R g n s (h.below B1.out) h0 hn hs (some ⟨w.heap.size, 0, none⟩) 1 w.heap.size (fun _ => rfl) (by decide) (by decide) (fun _ => ⟨(Array.getElem?_eq_some_iff.1 hb1).1, by omega, by omega⟩) (fun k hk => by
    have hk0 : k = 0 := by simpa using hk
    subst hk0
    simp [World.cell?, hb1]))
  have RQ0 := hid (rangeP h)
  have E1 : Hid (Ex (RG R g) w W1) := hid (Ex.of_below B1.out)
  have SZ : Hid ((Try.prog.info? 80).map (·.size) = some ([.pointer (some ⟨g, 0, none⟩), .int .i64 (n : Int)] : List Value).length) := hid size_src
  have hs1 : Hid ((pt1 s).l.length ≤ n) := hid (Nat.le_trans (sqP_le A1 s 1).1 hs)
  have HLT := hid hlt
  have H0 := hid h0
  clear h hlt A1 hb1
  rw [show tkP n [kindP] s = pd1 n s from rfl, show sqP [kindP] s [kindP].length = pt1 s from rfl] at C1
  obtain ⟨t1, HT1⟩ : ∃ x, Hid (pd1 n s = x) := ⟨_, hid rfl⟩
  rw [HT1.out] at C1
  obtain ⟨at1, ok1⟩ := t1
  simp only [List.length_cons, List.length_nil, Nat.zero_add] at C1
  go_enter Try.func45, Try.ntmps45
  go_wp2_with (first | rw [HW1'] | (refine wpList_load_mid rfl 80 _ rfl R 0 rfl _ _ RQ0.out Try.underlying80 rfl SZ.out ?_) | fail)
  refine C1.out.mono ?_
  rintro e w2 ⟨rfl, hq2, he2⟩
  have E2 := hid (E1.out.trans he2 (fun _ q => .inl q))
  have Q2 := hid hq2
  clear hq2 he2 C1
  cases ok1 with
  | false =>
    go_wp2_with fail
    go_ret2
    exact ⟨.inl ⟨by rw [HT1.out], by rw [HT1.out]; rfl⟩, E2.out⟩
  | true =>
    obtain ⟨kd, HKD⟩ : ∃ x, Hid ((pt1 s).k = x) := ⟨_, hid rfl⟩
    have C2 : Hid (∀ q, Calls Try.prog 69 #[.pointer (some ⟨R, 0, none⟩)] (w2.drewN q) fun e w' => ∃ p, e = .returned (.slice p (flPF kd).length (flPF kd).length) ∧ (0 < (flPF kd).length → p = some ⟨w2.heap.size, 0, none⟩ ∧ w2.heap.size < w'.heap.size) ∧ (∀ j (hj : j < (flPF kd).length), w'.cell? ⟨w2.heap.size, 0 + j, none⟩ = some (cl R (flPF kd)[j])) ∧ Below w2.heap.size w2 w') := hid (fun q => by
      have hc : (w2.drewN q).cell? ⟨R, 2, none⟩ = some (.int .u8 kd) := by rw [← HKD.out]; exact (cellsP Q2.out).2.1
      refine (fieldsP_any (w2.drewN q) R kd hc).mono ?_
      rintro e w' ⟨p, q1, q2, q3, q4⟩
      exact ⟨p, q1, q2, q3, (bel_drewN (Below.refl _ w2) q).trans q4⟩)
    have hlt2 := hid Q2.out.lt
    have C3 : Hid (∀ w3 p, Below w2.heap.size w2 w3 → (0 < (flPF kd).length → p = some ⟨w2.heap.size, 0, none⟩ ∧ w2.heap.size < w3.heap.size) → (∀ j (hj : j < (flPF kd).length), w3.cell? ⟨w2.heap.size, 0 + j, none⟩ = some (cl R (flPF kd)[j])) → Calls Try.prog 61 #[.agg #[.pointer (some ⟨g, 0, none⟩), .int .i64 (n : Int)], .slice p (flPF kd).length (flPF kd).length] w3 fun e w' => e = .returned (.tuple #[.int .i64 (pd2 n s).1, .bool (pd2 n s).2]) ∧ PR (w3.heap.size + 1) w' R g n (pt2 s) ∧ Ex (RG R g) w3 w') := hid (fun w3 p hb hp hc => by
      have := takeP_any (flP_runs kd) (by have := flP_len kd; omega) w3 _ R g n (pt1 s) (Q2.out.below hb) (pt1_ns H0.out) hn hs1.out p (flPF kd).length w2.heap.size (fun q => (hp q).1) (Nat.le_refl _) (by have := flP_len kd; unfold maxLen; omega) (fun q => ⟨(hp q).2, by have := hlt2.out; omega, by have := hlt2.out; omega⟩) hc
      have e1 : pd2 n s = tkP n (flPS kd) (pt1 s) := by rw [← HKD.out]; rfl
      have e2 : pt2 s = sqP (flPS kd) (pt1 s) (flPS kd).length := by rw [← HKD.out]; rfl
      rw [e1, e2]
      exact this)
    obtain ⟨t2, HT2⟩ : ∃ x, Hid (pd2 n s = x) := ⟨_, hid rfl⟩
    rw [HT2.out] at C3
    obtain ⟨at2, ok2⟩ := t2
    simp only at C3
    have hs2 : Hid ((pt2 s).l.length ≤ n) := hid (by
      have := (sqP_le (flP_runs kd) (pt1 s) (flPS kd).length).1
      rw [show pt2 s = sqP (flPS kd) (pt1 s) (flPS kd).length by rw [← HKD.out]; rfl]
      exact Nat.le_trans this hs1.out)
    clear RQ0 HW1' B1 E1
    go_wp2_with fail
    refine wp_region_held_drew (S := (fun W : World => W.rangeAt R 0 [.pointer (some ⟨g, 0, none⟩), .int .i64 (n : Int)])) (by kernel_rfl) (rangeP (Q2.out.below (bel_drewN (Below.refl _ w2) 1))) (fun hHeld => ?_)
    have HS := hid hHeld
    clear hHeld
    change wpAnyH _ _ _ _ _ _ _ _ (World.drew _)
    refine wpAnyH_take (i := 0) (v := ?_) rfl (by kernel_rfl) (by kernel_rfl) (by kernel_rfl) (fun _ _ _ h => h) (Or.inl ⟨by rfl, ?q0⟩) HS.out ?_
    case q0 => intro w hSw; go_simp; rfl
    simp only [Act.put, List.getElem_toArray, List.getElem_cons_zero, List.getElem_cons_succ, List.setIfInBounds_toArray, List.set_cons_zero, List.set_cons_succ]
    refine wpAnyH_take (i := 1) (v := ?_) rfl (by kernel_rfl) (by kernel_rfl) (by kernel_rfl) (fun _ _ _ h => h) (Or.inl ⟨by rfl, ?q1⟩) HS.out ?_
    case q1 => intro w hSw; go_simp; rfl
    simp only [Act.put, List.getElem_toArray, List.getElem_cons_zero, List.getElem_cons_succ, List.setIfInBounds_toArray, List.set_cons_zero, List.set_cons_succ]
    refine wpAnyH_take (i := 2) (v := ?_) rfl (by kernel_rfl) (by kernel_rfl) (by kernel_rfl) (fun _ _ _ h => h) (Or.inl ⟨by rfl, ?q2⟩) HS.out ?_
    case q2 => intro w hSw; go_simp; rfl
    simp only [Act.put, List.getElem_toArray, List.getElem_cons_zero, List.getElem_cons_succ, List.setIfInBounds_toArray, List.set_cons_zero, List.set_cons_succ]
    refine wpAnyH_take (i := 3) rfl (by kernel_rfl) (by kernel_rfl) (by kernel_rfl) (fun _ _ _ h => h) (yieldsIf_load_mid (by rfl) 80 _ rfl R 0 rfl [.pointer (some ⟨g, 0, none⟩), .int .i64 (n : Int)] _ (fun W hW => hW) Try.underlying80 rfl SZ.out) HS.out ?_
    simp only [Act.put, List.getElem_toArray, List.getElem_cons_zero, List.getElem_cons_succ, List.setIfInBounds_toArray, List.set_cons_zero, List.set_cons_succ]
    refine wpAnyH_take (i := 4) (v := ?_) rfl (by kernel_rfl) (by kernel_rfl) (by kernel_rfl) (fun _ _ _ h => h) (Or.inl ⟨by rfl, ?q4⟩) HS.out ?_
    case q4 => intro w hSw; go_simp; rfl
    simp only [Act.put, List.getElem_toArray, List.getElem_cons_zero, List.getElem_cons_succ, List.setIfInBounds_toArray, List.set_cons_zero, List.set_cons_succ]
    refine wpAnyH_ready (rs := [5]) (by kernel_rfl) (by simp) ?_
    refine AllReadyH.cons rfl (fun K hK => ?_) AllReadyH.nil
    replace hK := hid hK
    go_simp
    refine (C2.out _).mono ?_
    rintro e w3 ⟨p3, rfl, ho3, hc3, hb3⟩
    have B3 := hid hb3
    have C3' := hid (C3.out w3 p3 hb3 ho3 hc3)
    clear ho3 hc3 hb3 C3 C2 HS
    have HS := rangeP (Q2.out.below B3.out)
    refine hK.out _ _ HS (fun _ => ?_)
    clear hK K
    refine wpAnyH_ready (rs := [6]) (by kernel_rfl) (by simp) ?_
    refine AllReadyH.cons rfl (fun K hK => ?_) AllReadyH.nil
    replace hK := hid hK
    go_simp
    refine C3'.out.mono ?_
    rintro e w4 ⟨rfl, hq4, he4⟩
    have E4 : Hid (Ex (RG R g) w w4) := hid ((E2.out.trans (Ex.of_below (S := RG R g) B3.out) (fun _ q => .inl q)).trans he4 (fun _ q => .inl q))
    have Q4 := hid hq4
    clear hq4 he4 C3' HS B3
    have HS := hid (rangeP Q4.out)
    refine hK.out _ _ HS.out (fun _ => ?_)
    clear hK K
    refine wpAnyH_take (i := 7) (v := ?_) rfl (by kernel_rfl) (by kernel_rfl) (by kernel_rfl) (fun _ _ _ h => h) (Or.inl ⟨by rfl, ?q7⟩) HS.out ?_
    case q7 => intro w hSw; go_simp; rfl
    simp only [Act.put, List.getElem_toArray, List.getElem_cons_zero, List.getElem_cons_succ, List.setIfInBounds_toArray, List.set_cons_zero, List.set_cons_succ]
    refine wpAnyH_take (i := 8) (v := ?_) rfl (by kernel_rfl) (by kernel_rfl) (by kernel_rfl) (fun _ _ _ h => h) (Or.inl ⟨by rfl, ?q8⟩) HS.out ?_
    case q8 => intro w hSw; go_simp; rfl
    simp only [Act.put, List.getElem_toArray, List.getElem_cons_zero, List.getElem_cons_succ, List.setIfInBounds_toArray, List.set_cons_zero, List.set_cons_succ]
    refine wpAnyH_take (i := 9) (v := ?_) rfl (by kernel_rfl) (by kernel_rfl) (by kernel_rfl) (fun _ _ _ h => h) (Or.inl ⟨by rfl, ?q9⟩) HS.out ?_
    case q9 => intro w hSw; go_simp; rfl
    simp only [Act.put, List.getElem_toArray, List.getElem_cons_zero, List.getElem_cons_succ, List.setIfInBounds_toArray, List.set_cons_zero, List.set_cons_succ]
    refine wpAnyH_take (i := 10) (v := ?_) rfl (by kernel_rfl) (by kernel_rfl) (by kernel_rfl) (fun _ _ _ h => h) (Or.inl ⟨by rfl, ?q10⟩) HS.out ?_
    case q10 => intro w hSw; go_simp; rfl
    simp only [Act.put, List.getElem_toArray, List.getElem_cons_zero, List.getElem_cons_succ, List.setIfInBounds_toArray, List.set_cons_zero, List.set_cons_succ]
    refine wpAnyH_take (i := 11) (v := ?_) rfl (by kernel_rfl) (by kernel_rfl) (by kernel_rfl) (fun _ _ _ h => h) (Or.inl ⟨by rfl, ?q11⟩) HS.out ?_
    case q11 => intro w hSw; go_simp; rfl
    simp only [Act.put, List.getElem_toArray, List.getElem_cons_zero, List.getElem_cons_succ, List.setIfInBounds_toArray, List.set_cons_zero, List.set_cons_succ]
    refine wpAnyH_done (by kernel_rfl) ?_ _
    cases ok2 with
    | false =>
      go_wp2_with fail
      go_ret2
      exact ⟨.inr (.inl ⟨by rw [HT1.out], by rw [HT2.out], by rw [HT2.out]; rfl⟩), E4.out⟩
    | true =>
      have CK : Hid (∀ q, (w4.drewN q).cell? ⟨R, 0, none⟩ = some (.pointer (some ⟨g, 0, none⟩)) ∧ (w4.drewN q).cell? ⟨R, 5, none⟩ = some (.int .i64 (pt2 s).many)) := hid (fun q => ⟨(cellsP Q4.out).1, (cellsP Q4.out).2.2.1⟩)
      have CL : Hid (∀ q, Calls Try.prog 70 #[.pointer (some ⟨g, 0, none⟩)] (w4.drewN q) fun e w' => e = .returned (.int .i64 ((pt2 s).l.length : Int)) ∧ w' = w4.drewN q) := hid (fun q => left_any _ g true _ _ (Q4.out.below (bel_drewN (Below.refl _ w4) q)).rd)
      have hok2 := Q4.out.ok.1
      obtain ⟨my, hmy⟩ := Int.eq_ofNat_of_zero_le hok2.1
      have hmyl : my < 256 := by omega
      have HHP : Hid (herP s = min my (pt2 s).l.length) := hid (by unfold herP; rw [hmy]; rfl)
      rw [hmy] at CK
      generalize hll : (pt2 s).l.length = ll at CL HHP hs2
      have hmn : Hid ((if (ll : Int) < (my : Int) then (ll : Int) else (my : Int)) = (herP s : Int)) := hid (by rw [HHP.out]; split <;> omega)
      have hher : Hid (herP s ≤ my ∧ herP s < 256 ∧ herP s ≤ ll) := hid (by rw [HHP.out]; omega)
      clear HS
      go_wp2_with fail
      refine wp_region_held_drew (S := (fun W : World => W.cell? ⟨R, 0, none⟩ = some (.pointer (some ⟨g, 0, none⟩)) ∧ W.cell? ⟨R, 5, none⟩ = some (.int .i64 (my : Int)))) (by kernel_rfl) (CK.out _) (fun hHeld => ?_)
      have HS := hid hHeld
      clear hHeld
      change wpAnyH _ _ _ _ _ _ _ _ (World.drew _)
      refine wpAnyH_take (i := 0) (v := ?_) rfl (by kernel_rfl) (by kernel_rfl) (by kernel_rfl) (fun _ _ _ h => h) (Or.inl ⟨by rfl, ?q0⟩) HS.out ?_
      case q0 => intro w hSw; obtain ⟨y0, y1⟩ := hSw; go_simp; rfl
      simp only [Act.put, List.getElem_toArray, List.getElem_cons_zero, List.getElem_cons_succ, List.setIfInBounds_toArray, List.set_cons_zero, List.set_cons_succ]
      refine wpAnyH_take (i := 1) (v := ?_) rfl (by kernel_rfl) (by kernel_rfl) (by kernel_rfl) (fun _ _ _ h => h) (Or.inl ⟨by rfl, ?q1⟩) HS.out ?_
      case q1 => intro w hSw; obtain ⟨y0, y1⟩ := hSw; go_simp; rfl
      simp only [Act.put, List.getElem_toArray, List.getElem_cons_zero, List.getElem_cons_succ, List.setIfInBounds_toArray, List.set_cons_zero, List.set_cons_succ]
      refine wpAnyH_take (i := 2) (v := ?_) rfl (by kernel_rfl) (by kernel_rfl) (by kernel_rfl) (fun _ _ _ h => h) (Or.inl ⟨by rfl, ?q2⟩) HS.out ?_
      case q2 => intro w hSw; obtain ⟨y0, y1⟩ := hSw; go_simp; rfl
      simp only [Act.put, List.getElem_toArray, List.getElem_cons_zero, List.getElem_cons_succ, List.setIfInBounds_toArray, List.set_cons_zero, List.set_cons_succ]
      refine wpAnyH_take (i := 3) (v := ?_) rfl (by kernel_rfl) (by kernel_rfl) (by kernel_rfl) (fun _ _ _ h => h) (Or.inl ⟨by rfl, ?q3⟩) HS.out ?_
      case q3 => intro w hSw; obtain ⟨y0, y1⟩ := hSw; go_simp; rfl
      simp only [Act.put, List.getElem_toArray, List.getElem_cons_zero, List.getElem_cons_succ, List.setIfInBounds_toArray, List.set_cons_zero, List.set_cons_succ]
      refine wpAnyH_take (i := 4) (v := ?_) rfl (by kernel_rfl) (by kernel_rfl) (by kernel_rfl) (fun _ _ _ h => h) (Or.inl ⟨by rfl, ?q4⟩) HS.out ?_
      case q4 => intro w hSw; obtain ⟨y0, y1⟩ := hSw; go_simp; rfl
      simp only [Act.put, List.getElem_toArray, List.getElem_cons_zero, List.getElem_cons_succ, List.setIfInBounds_toArray, List.set_cons_zero, List.set_cons_succ]
      refine wpAnyH_take (i := 5) (v := ?_) rfl (by kernel_rfl) (by kernel_rfl) (by kernel_rfl) (fun _ _ _ h => h) (Or.inl ⟨by rfl, ?q5⟩) HS.out ?_
      case q5 => intro w hSw; obtain ⟨y0, y1⟩ := hSw; go_simp; rfl
      simp only [Act.put, List.getElem_toArray, List.getElem_cons_zero, List.getElem_cons_succ, List.setIfInBounds_toArray, List.set_cons_zero, List.set_cons_succ]
      refine wpAnyH_take (i := 6) (v := ?_) rfl (by kernel_rfl) (by kernel_rfl) (by kernel_rfl) (fun _ _ _ h => h) (Or.inl ⟨by rfl, ?q6⟩) HS.out ?_
      case q6 => intro w hSw; obtain ⟨y0, y1⟩ := hSw; go_simp; rfl
      simp only [Act.put, List.getElem_toArray, List.getElem_cons_zero, List.getElem_cons_succ, List.setIfInBounds_toArray, List.set_cons_zero, List.set_cons_succ]
      refine wpAnyH_take (i := 7) (v := ?_) rfl (by kernel_rfl) (by kernel_rfl) (by kernel_rfl) (fun _ _ _ h => h) (Or.inl ⟨by rfl, ?q7⟩) HS.out ?_
      case q7 => intro w hSw; obtain ⟨y0, y1⟩ := hSw; go_simp; rfl
      simp only [Act.put, List.getElem_toArray, List.getElem_cons_zero, List.getElem_cons_succ, List.setIfInBounds_toArray, List.set_cons_zero, List.set_cons_succ]
      refine wpAnyH_take (i := 8) (v := ?_) rfl (by kernel_rfl) (by kernel_rfl) (by kernel_rfl) (fun _ _ _ h => h) (Or.inl ⟨by rfl, ?q8⟩) HS.out ?_
      case q8 => intro w hSw; obtain ⟨y0, y1⟩ := hSw; go_simp; rfl
      simp only [Act.put, List.getElem_toArray, List.getElem_cons_zero, List.getElem_cons_succ, List.setIfInBounds_toArray, List.set_cons_zero, List.set_cons_succ]
      refine wpAnyH_ready (rs := [9]) (by kernel_rfl) (by simp) ?_
      refine AllReadyH.cons rfl (fun K hK => ?_) AllReadyH.nil
      replace hK := hid hK
      go_simp
      refine (CL.out _).mono ?_
      rintro e w5 ⟨rfl, hw5⟩
      subst hw5
      refine hK.out _ _ (CK.out _) (fun _ => ?_)
      clear hK K
      refine wpAnyH_take (i := 10) (v := (.int .i64 (herP s : Int))) rfl (by kernel_rfl) (by kernel_rfl) (by kernel_rfl) (fun _ _ _ h => h) (Or.inl ⟨by rfl, ?q10⟩) HS.out ?_
      case q10 => intro w hSw; obtain ⟨y0, y1⟩ := hSw; go_simp; rw [HHP.out]; split <;> omega
      simp only [Act.put, List.getElem_toArray, List.getElem_cons_zero, List.getElem_cons_succ, List.setIfInBounds_toArray, List.set_cons_zero, List.set_cons_succ]
      refine wpAnyH_take (i := 11) (v := ?_) rfl (by kernel_rfl) (by kernel_rfl) (by kernel_rfl) (fun _ _ _ h => h) (Or.inl ⟨by rfl, ?q11⟩) HS.out ?_
      case q11 => intro w hSw; obtain ⟨y0, y1⟩ := hSw; go_simp; rfl
      simp only [Act.put, List.getElem_toArray, List.getElem_cons_zero, List.getElem_cons_succ, List.setIfInBounds_toArray, List.set_cons_zero, List.set_cons_succ]
      refine wpAnyH_done (by kernel_rfl) ?_ _
      obtain ⟨w5, HW5⟩ : ∃ W, Hid (w4.drewN 1 = W) := ⟨_, hid rfl⟩
      rw [HW5.out]
      have Q5 : Hid (PR (w5.heap.size + 1) w5 R g n (pt2 s)) := hid (by
        have h1 := Q4.out.below (bel_drewN (Below.refl _ w4) 1)
        rw [HW5.out] at h1
        exact h1.rebase (pt2_ns H0.out) (by have := h1.lt; omega) (by have := h1.lt; omega))
      have E5 : Hid (Ex (RG R g) w w5) := hid (by rw [← HW5.out]; exact E4.out.drewN 1)
      have hlt5 := hid Q5.out.lt
      obtain ⟨hh, HHH⟩ : ∃ x, Hid (herP s = x) := ⟨_, hid rfl⟩
      rw [HHH.out] at hher
      rw [HHH.out]
      obtain ⟨W6, HW6⟩ : ∃ W : World, Hid (w5.drew.alloc (.cells #[cl R 72] TF) = W) := ⟨_, hid rfl⟩
      have hlit : (Instr.buildSlice 100 1 #[(0, .func (.func 72) #[.pointer (some ⟨R, 0, none⟩)] #[])]).run Try.prog w5.drew = .ok (.slice (some ⟨w5.heap.size, 0, none⟩) 1 1) W6 := by rw [← HW6.out]; exact run_litF w5.drew 72 R
      have B6 : Hid (Below w5.heap.size w5 W6) := hid (by rw [← HW6.out]; exact (bel_drewN (Below.refl _ w5) 1).alloc (Nat.le_refl _) _)
      have Z6 : Hid (W6.heap.size = w5.heap.size + 1) := hid (by rw [← HW6.out]; show (w5.heap.push _).size = _; rw [Array.size_push])
      have hb6 : Hid (W6.heap[w5.heap.size]? = some (.cells #[cl R 72] TF (0, 0))) := hid (by rw [← HW6.out]; exact heap_alloc_new w5.drew _)
      have C7 := hid (repeat_any W6 w5.heap.size hh (by have := hher.out; omega) (cl R 72) hb6.out rfl)
      have C8 : Hid (∀ w7, Below W6.heap.size W6 w7 → w7.heap[W6.heap.size]? = some (.cells (List.replicate hh (cl R 72)).toArray TF (0, 0)) → Calls Try.prog 61 #[.agg #[.pointer (some ⟨g, 0, none⟩), .int .i64 (n : Int)], .slice (some ⟨W6.heap.size, 0, none⟩) hh hh] w7 fun e w' => e = .returned (.tuple #[.int .i64 (pd3 n s).1, .bool (pd3 n s).2]) ∧ PR (w7.heap.size + 1) w' R g n (pt3 s) ∧ Ex (RG R g) w7 w') := hid (fun w7 hb hc => by
        have h6 := Q5.out.below (B6.out.trans (hb.mono B6.out.size))
        have := takeP_any (AllP.rep runsP_number hh) (by simp; have := hher.out; omega) w7 _ R g n (pt2 s) h6 (pt2_ns H0.out) hn (by rw [hll]; exact hs2.out) (some ⟨W6.heap.size, 0, none⟩) hh W6.heap.size (fun _ => rfl) (by simp) (by have := hher.out; unfold maxLen; omega) (fun _ => ⟨(Array.getElem?_eq_some_iff.1 hc).1, by have := hlt5.out; have := Z6.out; omega, by have := hlt5.out; have := Z6.out; omega⟩) (fun k hk => by
          have hk' : k < hh := by simpa using hk
          simp [World.cell?, hc, hk'])
        have e1 : pd3 n s = tkP n (List.replicate hh numberP) (pt2 s) := by rw [← HHH.out]; rfl
        have e2 : pt3 s = sqP (List.replicate hh numberP) (pt2 s) (List.replicate hh numberP).length := by rw [List.length_replicate, ← HHH.out]; rfl
        rw [e1, e2]
        rw [List.length_replicate] at this
        exact this)
      obtain ⟨t3, HT3⟩ : ∃ x, Hid (pd3 n s = x) := ⟨_, hid rfl⟩
      rw [HT3.out] at C8
      obtain ⟨at3, ok3⟩ := t3
      simp only at C8
      have RS6 : Hid (∀ W, Below w5.heap.size w5 W → W.rangeAt R 0 [.pointer (some ⟨g, 0, none⟩), .int .i64 (n : Int)]) := hid (fun W hb => rangeP (Q5.out.below hb))
      clear CK CL HS
      go_wp2_with fail
      refine wp_region_held_drew (S := (fun W : World => W.rangeAt R 0 [.pointer (some ⟨g, 0, none⟩), .int .i64 (n : Int)])) (by kernel_rfl) (RS6.out _ (by repeat' first | exact Below.refl _ _ | apply bel_drewN)) (fun hHeld => ?_)
      have HS := hid hHeld
      clear hHeld
      change wpAnyH _ _ _ _ _ _ _ _ (World.drew _)
      refine wpAnyH_take (i := 0) (v := ?_) rfl (by kernel_rfl) (by kernel_rfl) (by kernel_rfl) (fun _ _ _ h => h) (Or.inl ⟨by rfl, ?q0⟩) HS.out ?_
      case q0 => intro w hSw; go_simp; rfl
      simp only [Act.put, List.getElem_toArray, List.getElem_cons_zero, List.getElem_cons_succ, List.setIfInBounds_toArray, List.set_cons_zero, List.set_cons_succ]
      refine wpAnyH_take (i := 1) (v := ?_) rfl (by kernel_rfl) (by kernel_rfl) (by kernel_rfl) (fun _ _ _ h => h) (Or.inl ⟨by rfl, ?q1⟩) HS.out ?_
      case q1 => intro w hSw; go_simp; rfl
      simp only [Act.put, List.getElem_toArray, List.getElem_cons_zero, List.getElem_cons_succ, List.setIfInBounds_toArray, List.set_cons_zero, List.set_cons_succ]
      refine wpAnyH_take (i := 2) (v := ?_) rfl (by kernel_rfl) (by kernel_rfl) (by kernel_rfl) (fun _ _ _ h => h) (Or.inl ⟨by rfl, ?q2⟩) HS.out ?_
      case q2 => intro w hSw; go_simp; rfl
      simp only [Act.put, List.getElem_toArray, List.getElem_cons_zero, List.getElem_cons_succ, List.setIfInBounds_toArray, List.set_cons_zero, List.set_cons_succ]
      refine wpAnyH_take (i := 3) rfl (by kernel_rfl) (by kernel_rfl) (by kernel_rfl) (fun _ _ _ h => h) (yieldsIf_load_mid (by rfl) 80 _ rfl R 0 rfl [.pointer (some ⟨g, 0, none⟩), .int .i64 (n : Int)] _ (fun W hW => hW) Try.underlying80 rfl SZ.out) HS.out ?_
      simp only [Act.put, List.getElem_toArray, List.getElem_cons_zero, List.getElem_cons_succ, List.setIfInBounds_toArray, List.set_cons_zero, List.set_cons_succ]
      refine wpAnyH_take (i := 4) (v := ?_) rfl (by kernel_rfl) (by kernel_rfl) (by kernel_rfl) (fun _ _ _ h => h) (Or.inl ⟨by rfl, ?q4⟩) HS.out ?_
      case q4 => intro w hSw; go_simp; rfl
      simp only [Act.put, List.getElem_toArray, List.getElem_cons_zero, List.getElem_cons_succ, List.setIfInBounds_toArray, List.set_cons_zero, List.set_cons_succ]
      refine wpAnyH_take (i := 5) (v := ?_) rfl (by kernel_rfl) (by kernel_rfl) (by kernel_rfl) (fun _ _ _ h => h) (Or.inl ⟨by rfl, ?q5⟩) HS.out ?_
      case q5 => intro w hSw; go_simp; rfl
      simp only [Act.put, List.getElem_toArray, List.getElem_cons_zero, List.getElem_cons_succ, List.setIfInBounds_toArray, List.set_cons_zero, List.set_cons_succ]
      refine wpAnyH_take (i := 7) (v := ?_) rfl (by kernel_rfl) (by kernel_rfl) (by kernel_rfl) (fun _ _ _ h => h) (Or.inl ⟨by rfl, ?q7⟩) HS.out ?_
      case q7 => intro w hSw; go_simp; rfl
      simp only [Act.put, List.getElem_toArray, List.getElem_cons_zero, List.getElem_cons_succ, List.setIfInBounds_toArray, List.set_cons_zero, List.set_cons_succ]
      refine wpAnyH_ready (rs := [6]) (by kernel_rfl) (by simp) ?_
      refine AllReadyH.cons rfl (fun K hK => ?_) AllReadyH.nil
      replace hK := hid hK
      refine wanted_litP (by rfl) 100 1 _ rfl #[(0, .func (.func 72) #[.pointer (some ⟨R, 0, none⟩)] #[])] (by go_simp) _ hlit ?_
      simp only [Act.put, List.getElem_toArray, List.getElem_cons_zero, List.getElem_cons_succ, List.setIfInBounds_toArray, List.set_cons_zero, List.set_cons_succ]
      refine hK.out _ _ (RS6.out _ B6.out) (fun _ => ?_)
      clear hK K hlit
      refine wpAnyH_ready (rs := [8]) (by kernel_rfl) (by simp) ?_
      refine AllReadyH.cons rfl (fun K hK => ?_) AllReadyH.nil
      replace hK := hid hK
      go_simp
      refine C7.out.mono ?_
      rintro e w7 ⟨rfl, hc7, hb7⟩
      have B7 : Hid (Below w5.heap.size w5 w7) := hid (B6.out.trans (hb7.mono B6.out.size))
      have C8' := hid (C8.out w7 hb7 hc7)
      clear hc7 hb7 C7 C8 HS
      have HS := RS6.out w7 B7.out
      refine hK.out _ _ HS (fun _ => ?_)
      clear hK K
      refine wpAnyH_ready (rs := [9]) (by kernel_rfl) (by simp) ?_
      refine AllReadyH.cons rfl (fun K hK => ?_) AllReadyH.nil
      replace hK := hid hK
      go_simp
      refine C8'.out.mono ?_
      rintro e w8 ⟨rfl, hq8, he8⟩
      have E8 : Hid (Ex (RG R g) w w8) := hid ((E5.out.trans (Ex.of_below (S := RG R g) B7.out) (fun _ q => .inl q)).trans he8 (fun _ q => .inl q))
      have Q8 := hid hq8
      have HB8 : Hid (w.heap.size ≤ w7.heap.size + 1) := hid (by have := E5.out.size; have := B7.out.size; omega)
      clear hq8 he8 C8' HS B7 RS6
      have HS := hid (rangeP Q8.out)
      refine hK.out _ _ HS.out (fun _ => ?_)
      clear hK K
      refine wpAnyH_take (i := 10) (v := ?_) rfl (by kernel_rfl) (by kernel_rfl) (by kernel_rfl) (fun _ _ _ h => h) (Or.inl ⟨by rfl, ?q10⟩) HS.out ?_
      case q10 => intro w hSw; go_simp; rfl
      simp only [Act.put, List.getElem_toArray, List.getElem_cons_zero, List.getElem_cons_succ, List.setIfInBounds_toArray, List.set_cons_zero, List.set_cons_succ]
      refine wpAnyH_take (i := 11) (v := ?_) rfl (by kernel_rfl) (by kernel_rfl) (by kernel_rfl) (fun _ _ _ h => h) (Or.inl ⟨by rfl, ?q11⟩) HS.out ?_
      case q11 => intro w hSw; go_simp; rfl
      simp only [Act.put, List.getElem_toArray, List.getElem_cons_zero, List.getElem_cons_succ, List.setIfInBounds_toArray, List.set_cons_zero, List.set_cons_succ]
      refine wpAnyH_take (i := 12) (v := ?_) rfl (by kernel_rfl) (by kernel_rfl) (by kernel_rfl) (fun _ _ _ h => h) (Or.inl ⟨by rfl, ?q12⟩) HS.out ?_
      case q12 => intro w hSw; go_simp; rfl
      simp only [Act.put, List.getElem_toArray, List.getElem_cons_zero, List.getElem_cons_succ, List.setIfInBounds_toArray, List.set_cons_zero, List.set_cons_succ]
      refine wpAnyH_take (i := 13) (v := ?_) rfl (by kernel_rfl) (by kernel_rfl) (by kernel_rfl) (fun _ _ _ h => h) (Or.inl ⟨by rfl, ?q13⟩) HS.out ?_
      case q13 => intro w hSw; go_simp; rfl
      simp only [Act.put, List.getElem_toArray, List.getElem_cons_zero, List.getElem_cons_succ, List.setIfInBounds_toArray, List.set_cons_zero, List.set_cons_succ]
      refine wpAnyH_take (i := 14) (v := ?_) rfl (by kernel_rfl) (by kernel_rfl) (by kernel_rfl) (fun _ _ _ h => h) (Or.inl ⟨by rfl, ?q14⟩) HS.out ?_
      case q14 => intro w hSw; go_simp; rfl
      simp only [Act.put, List.getElem_toArray, List.getElem_cons_zero, List.getElem_cons_succ, List.setIfInBounds_toArray, List.set_cons_zero, List.set_cons_succ]
      refine wpAnyH_done (by kernel_rfl) ?_ _
      cases ok3 with
      | false =>
        go_wp2_with fail
        go_ret2
        exact ⟨.inr (.inr (.inl ⟨by rw [HT1.out], by rw [HT2.out], by rw [HT3.out], by rw [HT3.out]; rfl⟩)), E8.out⟩
      | true =>
        have hs3 : Hid ((pt3 s).l.length ≤ n) := hid (by
          have := (sqP_le (AllP.rep runsP_number (herP s)) (pt2 s) (herP s)).1
          exact Nat.le_trans this (by rw [hll]; exact hs2.out))
        have hok8 := Q8.out.ok
        have hlk : Hid (lackP s = (pt3 s).many - (hh : Int) + (pt3 s).sz) := hid (by unfold lackP; rw [HHH.out])
        have hlb : Hid (0 ≤ lackP s ∧ lackP s ≤ 140737488355328) := hid (by
          have h1 := hok8.1
          have h2 := hok8.2.1
          have h3 : (pt3 s).many = (pt2 s).many := pt3_many s
          rw [hlk.out]
          have := hher.out
          omega)
        have C9 : Hid (∀ q, Calls Try.prog 64 #[.agg #[.pointer (some ⟨g, 0, none⟩), .int .i64 (n : Int)], .int .i64 (lackP s)] (w8.drewN q) fun e w' => e = .returned (.tuple #[.int .i64 (edA n (pt3 s).l (lackP s)), .bool (decide (((pt3 s).l.length : Int) = lackP s))]) ∧ Below w8.heap.size w8 w') := hid (fun q => (ends_any (w8.drewN q) g n (pt3 s).f (pt3 s).l (Q8.out.below (bel_drewN (Below.refl _ w8) q)).rd (lackP s) hn (Nat.le_trans hs3.out hn) hlb.out).mono (fun e w' ⟨q1, q2⟩ => ⟨q1, (bel_drewN (Below.refl _ w8) q).trans q2⟩))
        have RC : Hid (∀ W, Below w8.heap.size w8 W → W.rangeAt R 0 [.pointer (some ⟨g, 0, none⟩), .int .i64 (n : Int)] ∧ W.cell? ⟨R, 5, none⟩ = some (.int .i64 (pt3 s).many) ∧ W.cell? ⟨R, 6, none⟩ = some (.int .i64 (pt3 s).sz)) := hid (fun W hb => ⟨rangeP (Q8.out.below hb), (cellsP (Q8.out.below hb)).2.2⟩)
        have hwa : IntKind.i64.wrap ((pt3 s).many - (hh : Int)) = (pt3 s).many - (hh : Int) := by have := hok8.1; have := hher.out; rw [IntKind.wrap_i64]; omega
        have hwb : IntKind.i64.wrap ((pt3 s).many - (hh : Int) + (pt3 s).sz) = lackP s := by have := hok8.1; have := hok8.2.1; have := hher.out; rw [hlk.out, IntKind.wrap_i64]; omega
        clear HS
        obtain ⟨dq, HDQ⟩ : ∃ x, Hid (decide (((pt3 s).l.length : Int) = lackP s) = x) := ⟨_, hid rfl⟩
        rw [HDQ.out] at C9
        go_wp2_with fail
        refine wp_region_held_drew (S := (fun W : World => W.rangeAt R 0 [.pointer (some ⟨g, 0, none⟩), .int .i64 (n : Int)] ∧ W.cell? ⟨R, 5, none⟩ = some (.int .i64 (pt3 s).many) ∧ W.cell? ⟨R, 6, none⟩ = some (.int .i64 (pt3 s).sz))) (by kernel_rfl) (RC.out _ (by repeat' first | exact Below.refl _ _ | apply bel_drewN)) (fun hHeld => ?_)
        have HS := hid hHeld
        clear hHeld
        change wpAnyH _ _ _ _ _ _ _ _ (World.drew _)
        refine wpAnyH_take (i := 0) (v := ?_) rfl (by kernel_rfl) (by kernel_rfl) (by kernel_rfl) (fun _ _ _ h => h) (Or.inl ⟨by rfl, ?q0⟩) HS.out ?_
        case q0 => intro w hSw; obtain ⟨y0, y1, y2⟩ := hSw; go_simp; rfl
        simp only [Act.put, List.getElem_toArray, List.getElem_cons_zero, List.getElem_cons_succ, List.setIfInBounds_toArray, List.set_cons_zero, List.set_cons_succ]
        refine wpAnyH_take (i := 1) (v := ?_) rfl (by kernel_rfl) (by kernel_rfl) (by kernel_rfl) (fun _ _ _ h => h) (Or.inl ⟨by rfl, ?q1⟩) HS.out ?_
        case q1 => intro w hSw; obtain ⟨y0, y1, y2⟩ := hSw; go_simp; rfl
        simp only [Act.put, List.getElem_toArray, List.getElem_cons_zero, List.getElem_cons_succ, List.setIfInBounds_toArray, List.set_cons_zero, List.set_cons_succ]
        refine wpAnyH_take (i := 2) (v := ?_) rfl (by kernel_rfl) (by kernel_rfl) (by kernel_rfl) (fun _ _ _ h => h) (Or.inl ⟨by rfl, ?q2⟩) HS.out ?_
        case q2 => intro w hSw; obtain ⟨y0, y1, y2⟩ := hSw; go_simp; rfl
        simp only [Act.put, List.getElem_toArray, List.getElem_cons_zero, List.getElem_cons_succ, List.setIfInBounds_toArray, List.set_cons_zero, List.set_cons_succ]
        refine wpAnyH_take (i := 3) rfl (by kernel_rfl) (by kernel_rfl) (by kernel_rfl) (fun _ _ _ h => h) (yieldsIf_load_mid (by rfl) 80 _ rfl R 0 rfl [.pointer (some ⟨g, 0, none⟩), .int .i64 (n : Int)] _ (fun W hW => hW.1) Try.underlying80 rfl SZ.out) HS.out ?_
        simp only [Act.put, List.getElem_toArray, List.getElem_cons_zero, List.getElem_cons_succ, List.setIfInBounds_toArray, List.set_cons_zero, List.set_cons_succ]
        refine wpAnyH_take (i := 4) (v := ?_) rfl (by kernel_rfl) (by kernel_rfl) (by kernel_rfl) (fun _ _ _ h => h) (Or.inl ⟨by rfl, ?q4⟩) HS.out ?_
        case q4 => intro w hSw; obtain ⟨y0, y1, y2⟩ := hSw; go_simp; rfl
        simp only [Act.put, List.getElem_toArray, List.getElem_cons_zero, List.getElem_cons_succ, List.setIfInBounds_toArray, List.set_cons_zero, List.set_cons_succ]
        refine wpAnyH_take (i := 5) (v := ?_) rfl (by kernel_rfl) (by kernel_rfl) (by kernel_rfl) (fun _ _ _ h => h) (Or.inl ⟨by rfl, ?q5⟩) HS.out ?_
        case q5 => intro w hSw; obtain ⟨y0, y1, y2⟩ := hSw; go_simp; rfl
        simp only [Act.put, List.getElem_toArray, List.getElem_cons_zero, List.getElem_cons_succ, List.setIfInBounds_toArray, List.set_cons_zero, List.set_cons_succ]
        refine wpAnyH_take (i := 6) (v := ?_) rfl (by kernel_rfl) (by kernel_rfl) (by kernel_rfl) (fun _ _ _ h => h) (Or.inl ⟨by rfl, ?q6⟩) HS.out ?_
        case q6 => intro w hSw; obtain ⟨y0, y1, y2⟩ := hSw; go_simp; rfl
        simp only [Act.put, List.getElem_toArray, List.getElem_cons_zero, List.getElem_cons_succ, List.setIfInBounds_toArray, List.set_cons_zero, List.set_cons_succ]
        refine wpAnyH_take (i := 7) (v := ?_) rfl (by kernel_rfl) (by kernel_rfl) (by kernel_rfl) (fun _ _ _ h => h) (Or.inl ⟨by rfl, ?q7⟩) HS.out ?_
        case q7 => intro w hSw; obtain ⟨y0, y1, y2⟩ := hSw; go_simp; rfl
        simp only [Act.put, List.getElem_toArray, List.getElem_cons_zero, List.getElem_cons_succ, List.setIfInBounds_toArray, List.set_cons_zero, List.set_cons_succ]
        refine wpAnyH_take (i := 8) (v := ?_) rfl (by kernel_rfl) (by kernel_rfl) (by kernel_rfl) (fun _ _ _ h => h) (Or.inl ⟨by rfl, ?q8⟩) HS.out ?_
        case q8 => intro w hSw; obtain ⟨y0, y1, y2⟩ := hSw; go_simp; rfl
        simp only [Act.put, List.getElem_toArray, List.getElem_cons_zero, List.getElem_cons_succ, List.setIfInBounds_toArray, List.set_cons_zero, List.set_cons_succ]
        refine wpAnyH_take (i := 9) (v := ?_) rfl (by kernel_rfl) (by kernel_rfl) (by kernel_rfl) (fun _ _ _ h => h) (Or.inl ⟨by rfl, ?q9⟩) HS.out ?_
        case q9 => intro w hSw; obtain ⟨y0, y1, y2⟩ := hSw; go_simp; rfl
        simp only [Act.put, List.getElem_toArray, List.getElem_cons_zero, List.getElem_cons_succ, List.setIfInBounds_toArray, List.set_cons_zero, List.set_cons_succ]
        refine wpAnyH_take (i := 10) (v := ?_) rfl (by kernel_rfl) (by kernel_rfl) (by kernel_rfl) (fun _ _ _ h => h) (Or.inl ⟨by rfl, ?q10⟩) HS.out ?_
        case q10 => intro w hSw; obtain ⟨y0, y1, y2⟩ := hSw; go_simp; rfl
        simp only [Act.put, List.getElem_toArray, List.getElem_cons_zero, List.getElem_cons_succ, List.setIfInBounds_toArray, List.set_cons_zero, List.set_cons_succ]
        refine wpAnyH_take (i := 11) (v := ?_) rfl (by kernel_rfl) (by kernel_rfl) (by kernel_rfl) (fun _ _ _ h => h) (Or.inl ⟨by rfl, ?q11⟩) HS.out ?_
        case q11 => intro w hSw; obtain ⟨y0, y1, y2⟩ := hSw; go_simp; rfl
        simp only [Act.put, List.getElem_toArray, List.getElem_cons_zero, List.getElem_cons_succ, List.setIfInBounds_toArray, List.set_cons_zero, List.set_cons_succ]
        refine wpAnyH_take (i := 12) (v := ?_) rfl (by kernel_rfl) (by kernel_rfl) (by kernel_rfl) (fun _ _ _ h => h) (Or.inl ⟨by rfl, ?q12⟩) HS.out ?_
        case q12 => intro w hSw; obtain ⟨y0, y1, y2⟩ := hSw; go_simp; rfl
        simp only [Act.put, List.getElem_toArray, List.getElem_cons_zero, List.getElem_cons_succ, List.setIfInBounds_toArray, List.set_cons_zero, List.set_cons_succ]
        refine wpAnyH_take (i := 13) (v := ?_) rfl (by kernel_rfl) (by kernel_rfl) (by kernel_rfl) (fun _ _ _ h => h) (Or.inl ⟨by rfl, ?q13⟩) HS.out ?_
        case q13 => intro w hSw; obtain ⟨y0, y1, y2⟩ := hSw; go_simp; rfl
        simp only [Act.put, List.getElem_toArray, List.getElem_cons_zero, List.getElem_cons_succ, List.setIfInBounds_toArray, List.set_cons_zero, List.set_cons_succ]
        refine wpAnyH_take (i := 14) (v := ?_) rfl (by kernel_rfl) (by kernel_rfl) (by kernel_rfl) (fun _ _ _ h => h) (Or.inl ⟨by rfl, ?q14⟩) HS.out ?_
        case q14 => intro w hSw; obtain ⟨y0, y1, y2⟩ := hSw; go_simp; rfl
        simp only [Act.put, List.getElem_toArray, List.getElem_cons_zero, List.getElem_cons_succ, List.setIfInBounds_toArray, List.set_cons_zero, List.set_cons_succ]
        refine wpAnyH_ready (rs := [15]) (by kernel_rfl) (by simp) ?_
        refine AllReadyH.cons rfl (fun K hK => ?_) AllReadyH.nil
        replace hK := hid hK
        go_simp
        refine (C9.out _).mono ?_
        rintro e w9 ⟨rfl, hb9⟩
        have B9 := hid hb9
        clear hb9 C9 HS
        have HS := hid (RC.out w9 B9.out)
        have Q9 := hid (Q8.out.below B9.out)
        have E9 : Hid (Ex (RG R g) w w9) := hid (E8.out.trans (Ex.of_below (S := RG R g) B9.out) (fun _ q => .inl q))
        refine hK.out _ _ HS.out (fun _ => ?_)
        clear hK K
        refine wpAnyH_take (i := 16) (v := ?_) rfl (by kernel_rfl) (by kernel_rfl) (by kernel_rfl) (fun _ _ _ h => h) (Or.inl ⟨by rfl, ?q16⟩) HS.out ?_
        case q16 => intro w hSw; obtain ⟨y0, y1, y2⟩ := hSw; go_simp; rfl
        simp only [Act.put, List.getElem_toArray, List.getElem_cons_zero, List.getElem_cons_succ, List.setIfInBounds_toArray, List.set_cons_zero, List.set_cons_succ]
        refine wpAnyH_take (i := 17) (v := ?_) rfl (by kernel_rfl) (by kernel_rfl) (by kernel_rfl) (fun _ _ _ h => h) (Or.inl ⟨by rfl, ?q17⟩) HS.out ?_
        case q17 => intro w hSw; obtain ⟨y0, y1, y2⟩ := hSw; go_simp; rfl
        simp only [Act.put, List.getElem_toArray, List.getElem_cons_zero, List.getElem_cons_succ, List.setIfInBounds_toArray, List.set_cons_zero, List.set_cons_succ]
        refine wpAnyH_take (i := 18) (v := ?_) rfl (by kernel_rfl) (by kernel_rfl) (by kernel_rfl) (fun _ _ _ h => h) (Or.inl ⟨by rfl, ?q18⟩) HS.out ?_
        case q18 => intro w hSw; obtain ⟨y0, y1, y2⟩ := hSw; go_simp; rfl
        simp only [Act.put, List.getElem_toArray, List.getElem_cons_zero, List.getElem_cons_succ, List.setIfInBounds_toArray, List.set_cons_zero, List.set_cons_succ]
        refine wpAnyH_take (i := 19) (v := ?_) rfl (by kernel_rfl) (by kernel_rfl) (by kernel_rfl) (fun _ _ _ h => h) (Or.inl ⟨by rfl, ?q19⟩) HS.out ?_
        case q19 => intro w hSw; obtain ⟨y0, y1, y2⟩ := hSw; go_simp; rfl
        simp only [Act.put, List.getElem_toArray, List.getElem_cons_zero, List.getElem_cons_succ, List.setIfInBounds_toArray, List.set_cons_zero, List.set_cons_succ]
        refine wpAnyH_take (i := 20) (v := ?_) rfl (by kernel_rfl) (by kernel_rfl) (by kernel_rfl) (fun _ _ _ h => h) (Or.inl ⟨by rfl, ?q20⟩) HS.out ?_
        case q20 => intro w hSw; obtain ⟨y0, y1, y2⟩ := hSw; go_simp; rfl
        simp only [Act.put, List.getElem_toArray, List.getElem_cons_zero, List.getElem_cons_succ, List.setIfInBounds_toArray, List.set_cons_zero, List.set_cons_succ]
        refine wpAnyH_done (by kernel_rfl) ?_ _
        cases dq with
        | false =>
          go_wp2_with fail
          go_ret2
          exact ⟨.inr (.inr (.inr (.inl ⟨by rw [HT1.out], by rw [HT2.out], by rw [HT3.out], by simpa using HDQ.out, rfl⟩))), E9.out⟩
        | true =>
          obtain ⟨vn, hbr, hown9, hok9, hR9, hg9, _⟩ := Q9.out
          have C10 : Hid (∀ q, Calls Try.prog 65 #[.pointer (some ⟨g, 0, none⟩), .int .i64 (pt3 s).sz] (w9.drewN q) fun e w' => ∃ v' B, e = .returned v' ∧ w'.ownsRow B 5 1 v' (taken (pt3 s).l (pt3 s).sz).length ((taken (pt3 s).l (pt3 s).sz).map (Value.int .u8)) ∧ w9.heap.size ≤ B ∧ HB w' v' (taken (pt3 s).l (pt3 s).sz) ∧ RD w' g true ((pt3 s).f || !okTake (pt3 s).l (pt3 s).sz) (leftAt (pt3 s).l (pt3 s).sz) ∧ (w9.drewN q).grownBy w' (some g)) := hid (fun q => bytes_any (w9.drewN q) g _ _ _ (hbr.dr q).rd (Nat.le_trans hs3.out hn))
          have HBR := hid hbr
          have HOW9 := hid hown9
          have HRG9 := hid (And.intro hR9 hg9)
          have HOK9 := hid hok9
          have R9 : Hid (∀ q, (w9.drewN q).cell? ⟨R, 0, none⟩ = some (.pointer (some ⟨g, 0, none⟩)) ∧ (w9.drewN q).cell? ⟨R, 6, none⟩ = some (.int .i64 (pt3 s).sz)) := hid (fun q => ⟨(hbr.dr q).cell rfl, (hbr.dr q).cell rfl⟩)
          clear HS RC hbr hown9 hR9 hg9 hok9
          go_wp2_with fail
          refine wp_region_held_drew (S := (fun W : World => W.cell? ⟨R, 0, none⟩ = some (.pointer (some ⟨g, 0, none⟩)) ∧ W.cell? ⟨R, 6, none⟩ = some (.int .i64 (pt3 s).sz))) (by kernel_rfl) (R9.out _) (fun hHeld => ?_)
          have HS := hid hHeld
          clear hHeld
          change wpAnyH _ _ _ _ _ _ _ _ (World.drew _)
          refine wpAnyH_take (i := 0) (v := ?_) rfl (by kernel_rfl) (by kernel_rfl) (by kernel_rfl) (fun _ _ _ h => h) (Or.inl ⟨by rfl, ?q0⟩) HS.out ?_
          case q0 => intro w hSw; obtain ⟨y0, y1⟩ := hSw; go_simp; rfl
          simp only [Act.put, List.getElem_toArray, List.getElem_cons_zero, List.getElem_cons_succ, List.setIfInBounds_toArray, List.set_cons_zero, List.set_cons_succ]
          refine wpAnyH_take (i := 1) (v := ?_) rfl (by kernel_rfl) (by kernel_rfl) (by kernel_rfl) (fun _ _ _ h => h) (Or.inl ⟨by rfl, ?q1⟩) HS.out ?_
          case q1 => intro w hSw; obtain ⟨y0, y1⟩ := hSw; go_simp; rfl
          simp only [Act.put, List.getElem_toArray, List.getElem_cons_zero, List.getElem_cons_succ, List.setIfInBounds_toArray, List.set_cons_zero, List.set_cons_succ]
          refine wpAnyH_take (i := 2) (v := ?_) rfl (by kernel_rfl) (by kernel_rfl) (by kernel_rfl) (fun _ _ _ h => h) (Or.inl ⟨by rfl, ?q2⟩) HS.out ?_
          case q2 => intro w hSw; obtain ⟨y0, y1⟩ := hSw; go_simp; rfl
          simp only [Act.put, List.getElem_toArray, List.getElem_cons_zero, List.getElem_cons_succ, List.setIfInBounds_toArray, List.set_cons_zero, List.set_cons_succ]
          refine wpAnyH_take (i := 3) (v := ?_) rfl (by kernel_rfl) (by kernel_rfl) (by kernel_rfl) (fun _ _ _ h => h) (Or.inl ⟨by rfl, ?q3⟩) HS.out ?_
          case q3 => intro w hSw; obtain ⟨y0, y1⟩ := hSw; go_simp; rfl
          simp only [Act.put, List.getElem_toArray, List.getElem_cons_zero, List.getElem_cons_succ, List.setIfInBounds_toArray, List.set_cons_zero, List.set_cons_succ]
          refine wpAnyH_take (i := 4) (v := ?_) rfl (by kernel_rfl) (by kernel_rfl) (by kernel_rfl) (fun _ _ _ h => h) (Or.inl ⟨by rfl, ?q4⟩) HS.out ?_
          case q4 => intro w hSw; obtain ⟨y0, y1⟩ := hSw; go_simp; rfl
          simp only [Act.put, List.getElem_toArray, List.getElem_cons_zero, List.getElem_cons_succ, List.setIfInBounds_toArray, List.set_cons_zero, List.set_cons_succ]
          refine wpAnyH_take (i := 5) (v := ?_) rfl (by kernel_rfl) (by kernel_rfl) (by kernel_rfl) (fun _ _ _ h => h) (Or.inl ⟨by rfl, ?q5⟩) HS.out ?_
          case q5 => intro w hSw; obtain ⟨y0, y1⟩ := hSw; go_simp; rfl
          simp only [Act.put, List.getElem_toArray, List.getElem_cons_zero, List.getElem_cons_succ, List.setIfInBounds_toArray, List.set_cons_zero, List.set_cons_succ]
          refine wpAnyH_take (i := 6) (v := ?_) rfl (by kernel_rfl) (by kernel_rfl) (by kernel_rfl) (fun _ _ _ h => h) (Or.inl ⟨by rfl, ?q6⟩) HS.out ?_
          case q6 => intro w hSw; obtain ⟨y0, y1⟩ := hSw; go_simp; rfl
          simp only [Act.put, List.getElem_toArray, List.getElem_cons_zero, List.getElem_cons_succ, List.setIfInBounds_toArray, List.set_cons_zero, List.set_cons_succ]
          refine wpAnyH_take (i := 7) (v := ?_) rfl (by kernel_rfl) (by kernel_rfl) (by kernel_rfl) (fun _ _ _ h => h) (Or.inl ⟨by rfl, ?q7⟩) HS.out ?_
          case q7 => intro w hSw; obtain ⟨y0, y1⟩ := hSw; go_simp; rfl
          simp only [Act.put, List.getElem_toArray, List.getElem_cons_zero, List.getElem_cons_succ, List.setIfInBounds_toArray, List.set_cons_zero, List.set_cons_succ]
          refine wpAnyH_take (i := 8) (v := ?_) rfl (by kernel_rfl) (by kernel_rfl) (by kernel_rfl) (fun _ _ _ h => h) (Or.inl ⟨by rfl, ?q8⟩) HS.out ?_
          case q8 => intro w hSw; obtain ⟨y0, y1⟩ := hSw; go_simp; rfl
          simp only [Act.put, List.getElem_toArray, List.getElem_cons_zero, List.getElem_cons_succ, List.setIfInBounds_toArray, List.set_cons_zero, List.set_cons_succ]
          refine wpAnyH_take (i := 9) (v := ?_) rfl (by kernel_rfl) (by kernel_rfl) (by kernel_rfl) (fun _ _ _ h => h) (Or.inl ⟨by rfl, ?q9⟩) HS.out ?_
          case q9 => intro w hSw; obtain ⟨y0, y1⟩ := hSw; go_simp; rfl
          simp only [Act.put, List.getElem_toArray, List.getElem_cons_zero, List.getElem_cons_succ, List.setIfInBounds_toArray, List.set_cons_zero, List.set_cons_succ]
          refine wpAnyH_ready (rs := [10]) (by kernel_rfl) (by simp) ?_
          refine AllReadyH.cons rfl (fun K hK => ?_) AllReadyH.nil
          replace hK := hid hK
          go_simp
          refine (C10.out _).mono ?_
          rintro e w6 ⟨v6, BB6, rfl, ho6, hB6, hb6', hr6, hg6⟩
          have q6 := (HBR.out.dr _).still TP_ok hg6 hr6
          have HS6 : Hid (w6.cell? ⟨R, 0, none⟩ = some (.pointer (some ⟨g, 0, none⟩)) ∧ w6.cell? ⟨R, 6, none⟩ = some (.int .i64 (pt3 s).sz)) := hid ⟨q6.cell rfl, q6.cell rfl⟩
          obtain ⟨p6, p6e⟩ := (HBR.out.dr _).put TP_ok hg6 hr6 4 v6
          have c24 : w6.cell? ⟨R, 4, none⟩ = some (.slice none 0 0) := q6.cell rfl
          have f24 := q6.free 4
          have P6 := hid p6
          have EQ6 : Hid (Ex (RG R g) w9 (w6.setCell ⟨R, 4, none⟩ v6)) := hid (((Ex.refl (RG R g) w9).drewN _).trans p6e (fun _ q => .inl q))
          have E6 : Hid (Ex (RG R g) w (w6.setCell ⟨R, 4, none⟩ v6)) := hid (E9.out.trans EQ6.out (fun _ q => .inl q))
          have HO6 := hid ho6
          have HBy6 := hid hb6'.2
          have HB6 : Hid (w.heap.size ≤ BB6) := hid (Nat.le_trans E9.out.size hB6)
          have HN6 := hid (own_ex HOW9.out EQ6.out (fun k hk _ => by have := HRG9.out; rintro (e | e) <;> omega))
          have HT6 : Hid ((w6.setCell ⟨R, 4, none⟩ v6).ownsRow BB6 5 1 v6 (taken (pt3 s).l (pt3 s).sz).length ((taken (pt3 s).l (pt3 s).sz).map (Value.int .u8))) := hid (by
            refine ⟨ho6.1, ho6.2.elim .inl fun ⟨gg, cap, cur, z1, z2, z3, z4⟩ => .inr ⟨gg, cap, cur, z1, z2, ?_, z4⟩⟩
            rw [← z3]
            have hne : R ≠ gg := fun e => by rw [← e, q6.blk] at z3; simp only [Option.some.injEq, Obj.cells.injEq] at z3; exact absurd z3.2.1 (by decide)
            simp [World.setCell, Array.getElem?_modify, hne])
          obtain ⟨pv, cv, ev, -, -⟩ := hb6'.open
          clear ho6 hB6 hb6' hr6 hg6 q6 p6 p6e C10 R9 HS
          have HS := HS6
          subst ev
          refine hK.out _ _ HS.out (fun _ => ?_)
          clear hK K
          refine wpAnyH_take (i := 11) (v := ?_) rfl (by kernel_rfl) (by kernel_rfl) (by kernel_rfl) (fun _ _ _ h => h) (Or.inl ⟨by rfl, ?q11⟩) HS.out ?_
          case q11 => intro w hSw; obtain ⟨y0, y1⟩ := hSw; go_simp; rfl
          simp only [Act.put, List.getElem_toArray, List.getElem_cons_zero, List.getElem_cons_succ, List.setIfInBounds_toArray, List.set_cons_zero, List.set_cons_succ]
          refine wpAnyH_take (i := 12) (v := ?_) rfl (by kernel_rfl) (by kernel_rfl) (by kernel_rfl) (fun _ _ _ h => h) (Or.inl ⟨by rfl, ?q12⟩) HS.out ?_
          case q12 => intro w hSw; obtain ⟨y0, y1⟩ := hSw; go_simp; rfl
          simp only [Act.put, List.getElem_toArray, List.getElem_cons_zero, List.getElem_cons_succ, List.setIfInBounds_toArray, List.set_cons_zero, List.set_cons_succ]
          refine wpAnyH_take (i := 13) (v := ?_) rfl (by kernel_rfl) (by kernel_rfl) (by kernel_rfl) (fun _ _ _ h => h) (Or.inl ⟨by rfl, ?q13⟩) HS.out ?_
          case q13 => intro w hSw; obtain ⟨y0, y1⟩ := hSw; go_simp; rfl
          simp only [Act.put, List.getElem_toArray, List.getElem_cons_zero, List.getElem_cons_succ, List.setIfInBounds_toArray, List.set_cons_zero, List.set_cons_succ]
          refine wpAnyH_ready (rs := [14]) (by kernel_rfl) (by simp) ?_
          refine AllReadyH.cons rfl (fun K hK => ?_) AllReadyH.nil
          replace hK := hid hK
          go_simp
          clear HS
          have HP7 : Hid (BR (w6.setCell ⟨R, 4, none⟩ (.slice pv (taken (pt3 s).l (pt3 s).sz).length cv)) R g TP (prL g n (pt3 s).k vn (.slice pv (taken (pt3 s).l (pt3 s).sz).length cv) (pt3 s).many (pt3 s).sz) ((pt3 s).f || !okTake (pt3 s).l (pt3 s).sz) (leftAt (pt3 s).l (pt3 s).sz)) := hid P6.out
          have HS := hid (show (w6.setCell ⟨R, 4, none⟩ (.slice pv (taken (pt3 s).l (pt3 s).sz).length cv)).cell? ⟨R, 0, none⟩ = some (.pointer (some ⟨g, 0, none⟩)) ∧ (w6.setCell ⟨R, 4, none⟩ (.slice pv (taken (pt3 s).l (pt3 s).sz).length cv)).cell? ⟨R, 6, none⟩ = some (.int .i64 (pt3 s).sz) from ⟨HP7.out.cell rfl, HP7.out.cell rfl⟩)
          refine hK.out _ _ HS.out (fun _ => ?_)
          clear hK K
          refine wpAnyH_done (by kernel_rfl) ?_ _
          go_wp2_with fail
          go_ret2
          exact ⟨.inr (.inr (.inr (.inr ⟨by rw [HT1.out], by rw [HT2.out], by rw [HT3.out], by simpa using HDQ.out, rfl, vn, _, BB6, _, HP7.out.blk, HN6.out, HB8.out, HT6.out, HB6.out, HBy6.out, HOK9.out⟩))), E6.out⟩

end Go.Proofs.Ytmegeogfpkdodaa
