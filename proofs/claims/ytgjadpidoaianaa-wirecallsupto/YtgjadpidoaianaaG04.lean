/- Of the road to wireCallsUpto_holds: WrRead, WrReq. -/
import Derived.Test.YtgjadpidoaianaaG03
import Derived.Laws.Tables
set_option linter.unusedVariables false
set_option linter.unusedSimpArgs false
namespace Go.Proofs.Ytgjadpidoaianaa
open Go Go.RowKit
def rd1 (n : Nat) (s : QS) : Int × Bool := tkS n [kindF] s
def st1 (s : QS) : QS := sq [kindF] s 1
def rd2 (n : Nat) (s : QS) : Int × Bool := tkS n (flS (st1 s).r.k) (st1 s)
def st2 (s : QS) : QS := sq (flS (st1 s).r.k) (st1 s) (flS (st1 s).r.k).length
def RdQ (w : World) (R g n : Nat) (s : QS) (e : Ending) (w' : World) : Prop :=
  ((rd1 n s).2 = false ∧ e = .returned (.tuple #[.int .i64 (rd1 n s).1, .bool false])) ∨
  ((rd1 n s).2 = true ∧ (rd2 n s).2 = false ∧ e = .returned (.tuple #[.int .i64 (rd2 n s).1, .bool false])) ∨
  ((rd1 n s).2 = true ∧ (rd2 n s).2 = true ∧ ((st2 s).l.length : Int) ≠ (st2 s).sz ∧ e = .returned (.tuple #[.int .i64 (edA n (st2 s).l (st2 s).sz), .bool false])) ∨
  ((rd1 n s).2 = true ∧ (rd2 n s).2 = true ∧ ((st2 s).l.length : Int) = (st2 s).sz ∧ e = .returned (.tuple #[.int .i64 0, .bool true]) ∧
    ∃ v B, w'.heap[R]? = some (.cells (qrL g n (st2 s).r v (st2 s).sz).toArray TQ (0, 0)) ∧ w'.ownsRow B 5 1 v (taken (st2 s).l (st2 s).sz).length ((taken (st2 s).l (st2 s).sz).map (Value.int .u8)) ∧ w.heap.size ≤ B ∧ (∀ x ∈ taken (st2 s).l (st2 s).sz, 0 ≤ x ∧ x < 256) ∧ (st2 s).r.ok)
theorem rd1_kd {n : Nat} {s : QS} (h : (rd1 n s).2 = true) : kdB (st1 s).r.k = true := by
  have e : (kindF s).2 = kdB (st1 s).r.k := rfl
  rw [← e]
  cases hb : (kindF s).2
  · exfalso
    unfold rd1 tkS tkE at h
    simp [tkA, sq, hb] at h
    split at h <;> simp at h
  · rfl
theorem rangeQ {w : World} {R g n : Nat} {s : QS} (h : QR w R g n s) : w.rangeAt R 0 [.pointer (some ⟨g, 0, none⟩), .int .i64 (n : Int)] := fun j v hv => by
  have := h.1.cell (i := j) (v := v)
  rw [Nat.zero_add]
  apply this
  have hj : j < 2 := by have := (List.getElem?_eq_some_iff.1 hv).1; simpa using this
  rcases (by omega : j = 0 ∨ j = 1) with rfl | rfl <;> simpa [qrL] using hv
theorem size_src : (Try.prog.info? 80).map (·.size) = some 2 := by kernel_rfl
set_option maxRecDepth 100000 in
set_option maxHeartbeats 16000000 in
theorem read_any (w : World) (R g n : Nat) (s : QS) (h : QR w R g n s) (hn : n ≤ 140737488355328) (hs : s.l.length ≤ n) :
    Calls Try.prog 42 #[.pointer (some ⟨R, 0, none⟩)] w fun e w' => RdQ w R g n s e w' ∧ Ex (RG R g) w w' := by
  have hlt := h.1.lt
  obtain ⟨W1, HW1⟩ : ∃ W : World, Hid (w.alloc (.cells #[cl R 62] TF) = W) := ⟨_, hid rfl⟩
  have HW1' : w.alloc (.cells #[.func (.func 62) #[.pointer (some ⟨R, 0, none⟩)] #[]] TF) = W1 := HW1.out
  have B1 : Hid (Below w.heap.size w W1) := by rw [← HW1.out]; exact hid ((Below.refl _ w).alloc (Nat.le_refl _) _)
  have O1 : W1.ownsRow w.heap.size TF 1 (.slice (some ⟨w.heap.size, 0, none⟩) 1 1) 1 ([62].map (cl R)) := by rw [← HW1.out]; exact own_lit w R _ [62] (Nat.le_refl _) (by decide)
  have A1 : AllRuns [62] [kindF] := .cons runs_kind .nil
  have C1 := hid (takeQ_any A1 (by decide) W1 R g n w.heap.size s (h.below B1.out) hn hs _ O1 hlt.1 hlt.2)
  have RQ := hid (rangeQ (h.below B1.out))
  have RQ0 := hid (rangeQ h)
  have E1 : Hid (Ex (RG R g) w W1) := hid (Ex.of_below B1.out)
  have SZ : Hid ((Try.prog.info? 80).map (·.size) = some ([.pointer (some ⟨g, 0, none⟩), .int .i64 (n : Int)] : List Value).length) := hid size_src
  have hs1 : Hid ((st1 s).l.length ≤ n) := hid (Nat.le_trans (sq_le A1 s 1) hs)
  have HLT := hid hlt
  clear O1 h hlt A1
  rw [show tkS n [kindF] s = rd1 n s from rfl, show sq [kindF] s [kindF].length = st1 s from rfl] at C1
  obtain ⟨t1, HT1⟩ : ∃ x, Hid (rd1 n s = x) := ⟨_, hid rfl⟩
  rw [HT1.out] at C1
  obtain ⟨at1, ok1⟩ := t1
  simp only at C1
  go_enter Try.func42, Try.ntmps42
  go_wp2_with (first | rw [HW1'] | (refine wpList_load_mid rfl 80 _ rfl R 0 rfl _ _ RQ0.out Try.underlying80 rfl SZ.out ?_) | fail)
  refine C1.out.mono ?_
  rintro e w2 ⟨rfl, hq2, he2⟩
  have E2 := hid (E1.out.trans he2 (fun _ q => .inl q))
  have Q2 := hid hq2
  clear hq2 he2 C1
  cases ok1 with
  | false =>
    go_wp2_with fail
    go_ret2
    exact ⟨.inl ⟨by rw [HT1.out], by rw [HT1.out]; rfl⟩, E2.out⟩
  | true =>
    have hkd := rd1_kd (by rw [HT1.out] : (rd1 n s).2 = true)
    obtain ⟨kd, HKD⟩ : ∃ x, Hid ((st1 s).r.k = x) := ⟨_, hid rfl⟩
    rw [HKD.out] at hkd
    have C2 : Hid (∀ q, Calls Try.prog 63 #[.pointer (some ⟨R, 0, none⟩)] (w2.drewN q) fun e w' => ∃ v, e = .returned v ∧ w'.ownsRow w2.heap.size TF 1 v (flF kd).length ((flF kd).map (cl R)) ∧ Below w2.heap.size w2 w') := hid (fun q => by
      have hc : (w2.drewN q).cell? ⟨R, 2, none⟩ = some (.int .u8 kd) := by
        rw [← HKD.out]
        exact Q2.out.1.cell (i := 2) rfl
      have hRl : R < (w2.drewN q).heap.size := Q2.out.1.lt.1
      have hk5 : kd = 1 ∨ kd = 2 ∨ kd = 3 ∨ kd = 4 ∨ kd = 5 := by simp [kdB] at hkd; omega
      rcases hk5 with e | e | e | e | e <;> rw [e] at hc ⊢
      · exact (fields_1 _ R hc hRl).mono (fun e w' ⟨v, q1, q2, q3⟩ => ⟨v, q1, q2, (bel_drewN (Below.refl _ w2) q).trans q3⟩)
      · exact (fields_2 _ R hc hRl).mono (fun e w' ⟨v, q1, q2, q3⟩ => ⟨v, q1, q2, (bel_drewN (Below.refl _ w2) q).trans q3⟩)
      · exact (fields_3 _ R hc hRl).mono (fun e w' ⟨v, q1, q2, q3⟩ => ⟨v, q1, q2, (bel_drewN (Below.refl _ w2) q).trans q3⟩)
      · exact (fields_4 _ R hc hRl).mono (fun e w' ⟨v, q1, q2, q3⟩ => ⟨v, q1, q2, (bel_drewN (Below.refl _ w2) q).trans q3⟩)
      · exact (fields_5 _ R hc hRl).mono (fun e w' ⟨v, q1, q2, q3⟩ => ⟨v, q1, q2, (bel_drewN (Below.refl _ w2) q).trans q3⟩))
    have AR := hid (fl_runs kd hkd)
    have hlt2 := hid Q2.out.1.lt
    have C3 : Hid (∀ w3 v, Below w2.heap.size w2 w3 → w3.ownsRow w2.heap.size TF 1 v (flF kd).length ((flF kd).map (cl R)) → Calls Try.prog 61 #[.agg #[.pointer (some ⟨g, 0, none⟩), .int .i64 (n : Int)], v] w3 fun e w' => e = .returned (.tuple #[.int .i64 (rd2 n s).1, .bool (rd2 n s).2]) ∧ QR w' R g n (st2 s) ∧ Ex (RG R g) w3 w') := hid (fun w3 v hb ho => by
      have := takeQ_any AR.out.1 (by have := AR.out.2; omega) w3 R g n w2.heap.size (st1 s) (Q2.out.below hb) hn hs1.out v ho hlt2.out.1 hlt2.out.2
      have e1 : rd2 n s = tkS n (flS kd) (st1 s) := by rw [← HKD.out]; rfl
      have e2 : st2 s = sq (flS kd) (st1 s) (flS kd).length := by rw [← HKD.out]; rfl
      rw [e1, e2]
      exact this)
    obtain ⟨t2, HT2⟩ : ∃ x, Hid (rd2 n s = x) := ⟨_, hid rfl⟩
    rw [HT2.out] at C3
    obtain ⟨at2, ok2⟩ := t2
    simp only at C3
    have RS2 : Hid (∀ W, Below w2.heap.size w2 W → W.rangeAt R 0 [.pointer (some ⟨g, 0, none⟩), .int .i64 (n : Int)]) := hid (fun W hb => rangeQ (Q2.out.below hb))
    clear RQ RQ0 HW1' B1 E1 hkd
    go_wp2_with fail
    refine wp_region_held_drew (S := (fun W : World => W.rangeAt R 0 [.pointer (some ⟨g, 0, none⟩), .int .i64 (n : Int)])) (by kernel_rfl) (rangeQ (Q2.out.below (bel_drewN (Below.refl _ w2) 1))) (fun hHeld => ?_)
    have HS := hid hHeld
    clear hHeld
    change wpAnyH _ _ _ _ _ _ _ _ (World.drew _)
    refine wpAnyH_take (i := 0) (v := ?_) rfl (by kernel_rfl) (by kernel_rfl) (by kernel_rfl) (fun _ _ _ h => h) (Or.inl ⟨by rfl, ?q0⟩) HS.out ?_
    case q0 => intro w hSw; go_simp; rfl
    simp only [Act.put, List.getElem_toArray, List.getElem_cons_zero, List.getElem_cons_succ, List.setIfInBounds_toArray, List.set_cons_zero, List.set_cons_succ]
    refine wpAnyH_take (i := 1) (v := ?_) rfl (by kernel_rfl) (by kernel_rfl) (by kernel_rfl) (fun _ _ _ h => h) (Or.inl ⟨by rfl, ?q1⟩) HS.out ?_
    case q1 => intro w hSw; go_simp; rfl
    simp only [Act.put, List.getElem_toArray, List.getElem_cons_zero, List.getElem_cons_succ, List.setIfInBounds_toArray, List.set_cons_zero, List.set_cons_succ]
    refine wpAnyH_take (i := 2) (v := ?_) rfl (by kernel_rfl) (by kernel_rfl) (by kernel_rfl) (fun _ _ _ h => h) (Or.inl ⟨by rfl, ?q2⟩) HS.out ?_
    case q2 => intro w hSw; go_simp; rfl
    simp only [Act.put, List.getElem_toArray, List.getElem_cons_zero, List.getElem_cons_succ, List.setIfInBounds_toArray, List.set_cons_zero, List.set_cons_succ]
    refine wpAnyH_take (i := 3) rfl (by kernel_rfl) (by kernel_rfl) (by kernel_rfl) (fun _ _ _ h => h) (yieldsIf_load_mid (by rfl) 80 _ rfl R 0 rfl [.pointer (some ⟨g, 0, none⟩), .int .i64 (n : Int)] _ (fun W hW => hW) Try.underlying80 rfl SZ.out) HS.out ?_
    simp only [Act.put, List.getElem_toArray, List.getElem_cons_zero, List.getElem_cons_succ, List.setIfInBounds_toArray, List.set_cons_zero, List.set_cons_succ]
    refine wpAnyH_take (i := 4) (v := ?_) rfl (by kernel_rfl) (by kernel_rfl) (by kernel_rfl) (fun _ _ _ h => h) (Or.inl ⟨by rfl, ?q4⟩) HS.out ?_
    case q4 => intro w hSw; go_simp; rfl
    simp only [Act.put, List.getElem_toArray, List.getElem_cons_zero, List.getElem_cons_succ, List.setIfInBounds_toArray, List.set_cons_zero, List.set_cons_succ]
    refine wpAnyH_ready (rs := [5]) (by kernel_rfl) (by simp) ?_
    refine AllReadyH.cons rfl (fun K hK => ?_) AllReadyH.nil
    replace hK := hid hK
    go_simp
    refine (C2.out _).mono ?_
    rintro e w3 ⟨v3, rfl, ho3, hb3⟩
    have B3 := hid hb3
    have C3' := hid (C3.out w3 v3 hb3 ho3)
    clear ho3 hb3 C3 C2 HS
    have HS := RS2.out w3 B3.out
    refine hK.out _ _ HS (fun _ => ?_)
    clear hK K
    refine wpAnyH_ready (rs := [6]) (by kernel_rfl) (by simp) ?_
    refine AllReadyH.cons rfl (fun K hK => ?_) AllReadyH.nil
    replace hK := hid hK
    go_simp
    refine C3'.out.mono ?_
    rintro e w4 ⟨rfl, hq4, he4⟩
    have E4 : Hid (Ex (RG R g) w w4) := hid ((E2.out.trans (Ex.of_below (S := RG R g) B3.out) (fun _ q => .inl q)).trans he4 (fun _ q => .inl q))
    have Q4 := hid hq4
    clear hq4 he4 C3' HS B3 RS2
    have HS := hid (rangeQ Q4.out)
    refine hK.out _ _ HS.out (fun _ => ?_)
    clear hK K
    refine wpAnyH_take (i := 7) (v := ?_) rfl (by kernel_rfl) (by kernel_rfl) (by kernel_rfl) (fun _ _ _ h => h) (Or.inl ⟨by rfl, ?q7⟩) HS.out ?_
    case q7 => intro w hSw; go_simp; rfl
    simp only [Act.put, List.getElem_toArray, List.getElem_cons_zero, List.getElem_cons_succ, List.setIfInBounds_toArray, List.set_cons_zero, List.set_cons_succ]
    refine wpAnyH_take (i := 8) (v := ?_) rfl (by kernel_rfl) (by kernel_rfl) (by kernel_rfl) (fun _ _ _ h => h) (Or.inl ⟨by rfl, ?q8⟩) HS.out ?_
    case q8 => intro w hSw; go_simp; rfl
    simp only [Act.put, List.getElem_toArray, List.getElem_cons_zero, List.getElem_cons_succ, List.setIfInBounds_toArray, List.set_cons_zero, List.set_cons_succ]
    refine wpAnyH_take (i := 9) (v := ?_) rfl (by kernel_rfl) (by kernel_rfl) (by kernel_rfl) (fun _ _ _ h => h) (Or.inl ⟨by rfl, ?q9⟩) HS.out ?_
    case q9 => intro w hSw; go_simp; rfl
    simp only [Act.put, List.getElem_toArray, List.getElem_cons_zero, List.getElem_cons_succ, List.setIfInBounds_toArray, List.set_cons_zero, List.set_cons_succ]
    refine wpAnyH_take (i := 10) (v := ?_) rfl (by kernel_rfl) (by kernel_rfl) (by kernel_rfl) (fun _ _ _ h => h) (Or.inl ⟨by rfl, ?q10⟩) HS.out ?_
    case q10 => intro w hSw; go_simp; rfl
    simp only [Act.put, List.getElem_toArray, List.getElem_cons_zero, List.getElem_cons_succ, List.setIfInBounds_toArray, List.set_cons_zero, List.set_cons_succ]
    refine wpAnyH_take (i := 11) (v := ?_) rfl (by kernel_rfl) (by kernel_rfl) (by kernel_rfl) (fun _ _ _ h => h) (Or.inl ⟨by rfl, ?q11⟩) HS.out ?_
    case q11 => intro w hSw; go_simp; rfl
    simp only [Act.put, List.getElem_toArray, List.getElem_cons_zero, List.getElem_cons_succ, List.setIfInBounds_toArray, List.set_cons_zero, List.set_cons_succ]
    refine wpAnyH_done (by kernel_rfl) ?_ _
    have HS := HS
    cases ok2 with
    | false =>
      go_wp2_with fail
      go_ret2
      exact ⟨.inr (.inl ⟨by rw [HT1.out], by rw [HT2.out], by rw [HT2.out]; rfl⟩), E4.out⟩
    | true =>
      have hs2 : Hid ((st2 s).l.length ≤ n) := hid (by
        have := sq_le AR.out.1 (st1 s) (flS kd).length
        rw [show st2 s = sq (flS kd) (st1 s) (flS kd).length by rw [← HKD.out]; rfl]
        exact Nat.le_trans this hs1.out)
      have C5 : Hid (∀ q, Calls Try.prog 64 #[.agg #[.pointer (some ⟨g, 0, none⟩), .int .i64 (n : Int)], .int .i64 (st2 s).sz] (w4.drewN q) fun e w' => e = .returned (.tuple #[.int .i64 (edA n (st2 s).l (st2 s).sz), .bool (decide (((st2 s).l.length : Int) = (st2 s).sz))]) ∧ Below w4.heap.size w4 w') := hid (fun q => (ends_any (w4.drewN q) g n (st2 s).f (st2 s).l (Q4.out.1.dr q).rd (st2 s).sz hn (Nat.le_trans hs2.out hn) ⟨Q4.out.2.2.1, by have := Q4.out.2.2.2; omega⟩).mono (fun e w' ⟨q1, q2⟩ => ⟨q1, (bel_drewN (Below.refl _ w4) q).trans q2⟩))
      have RC : Hid (∀ W, Below w4.heap.size w4 W → W.rangeAt R 0 [.pointer (some ⟨g, 0, none⟩), .int .i64 (n : Int)] ∧ W.cell? ⟨R, 25, none⟩ = some (.int .i64 (st2 s).sz)) := hid (fun W hb => ⟨rangeQ (Q4.out.below hb), (Q4.out.below hb).1.cell (by simp [qrL, rqL, Q4.out.2.1.1, List.getElem?_append_right])⟩)
      clear HS
      obtain ⟨dq, HDQ⟩ : ∃ x, Hid (decide (((st2 s).l.length : Int) = (st2 s).sz) = x) := ⟨_, hid rfl⟩
      rw [HDQ.out] at C5
      go_wp2_with fail
      refine wp_region_held_drew (S := (fun W : World => W.rangeAt R 0 [.pointer (some ⟨g, 0, none⟩), .int .i64 (n : Int)] ∧ W.cell? ⟨R, 25, none⟩ = some (.int .i64 (st2 s).sz))) (by kernel_rfl) (RC.out _ (by repeat' first | exact Below.refl _ _ | apply bel_drewN)) (fun hHeld => ?_)
      have HS := hid hHeld
      clear hHeld
      change wpAnyH _ _ _ _ _ _ _ _ (World.drew _)
      refine wpAnyH_take (i := 0) (v := ?_) rfl (by kernel_rfl) (by kernel_rfl) (by kernel_rfl) (fun _ _ _ h => h) (Or.inl ⟨by rfl, ?q0⟩) HS.out ?_
      case q0 => intro w hSw; obtain ⟨y0, y1⟩ := hSw; go_simp; rfl
      simp only [Act.put, List.getElem_toArray, List.getElem_cons_zero, List.getElem_cons_succ, List.setIfInBounds_toArray, List.set_cons_zero, List.set_cons_succ]
      refine wpAnyH_take (i := 1) (v := ?_) rfl (by kernel_rfl) (by kernel_rfl) (by kernel_rfl) (fun _ _ _ h => h) (Or.inl ⟨by rfl, ?q1⟩) HS.out ?_
      case q1 => intro w hSw; obtain ⟨y0, y1⟩ := hSw; go_simp; rfl
      simp only [Act.put, List.getElem_toArray, List.getElem_cons_zero, List.getElem_cons_succ, List.setIfInBounds_toArray, List.set_cons_zero, List.set_cons_succ]
      refine wpAnyH_take (i := 2) (v := ?_) rfl (by kernel_rfl) (by kernel_rfl) (by kernel_rfl) (fun _ _ _ h => h) (Or.inl ⟨by rfl, ?q2⟩) HS.out ?_
      case q2 => intro w hSw; obtain ⟨y0, y1⟩ := hSw; go_simp; rfl
      simp only [Act.put, List.getElem_toArray, List.getElem_cons_zero, List.getElem_cons_succ, List.setIfInBounds_toArray, List.set_cons_zero, List.set_cons_succ]
      refine wpAnyH_take (i := 3) rfl (by kernel_rfl) (by kernel_rfl) (by kernel_rfl) (fun _ _ _ h => h) (yieldsIf_load_mid (by rfl) 80 _ rfl R 0 rfl [.pointer (some ⟨g, 0, none⟩), .int .i64 (n : Int)] _ (fun W hW => hW.1) Try.underlying80 rfl SZ.out) HS.out ?_
      simp only [Act.put, List.getElem_toArray, List.getElem_cons_zero, List.getElem_cons_succ, List.setIfInBounds_toArray, List.set_cons_zero, List.set_cons_succ]
      refine wpAnyH_take (i := 4) (v := ?_) rfl (by kernel_rfl) (by kernel_rfl) (by kernel_rfl) (fun _ _ _ h => h) (Or.inl ⟨by rfl, ?q4⟩) HS.out ?_
      case q4 => intro w hSw; obtain ⟨y0, y1⟩ := hSw; go_simp; rfl
      simp only [Act.put, List.getElem_toArray, List.getElem_cons_zero, List.getElem_cons_succ, List.setIfInBounds_toArray, List.set_cons_zero, List.set_cons_succ]
      refine wpAnyH_take (i := 5) (v := ?_) rfl (by kernel_rfl) (by kernel_rfl) (by kernel_rfl) (fun _ _ _ h => h) (Or.inl ⟨by rfl, ?q5⟩) HS.out ?_
      case q5 => intro w hSw; obtain ⟨y0, y1⟩ := hSw; go_simp; rfl
      simp only [Act.put, List.getElem_toArray, List.getElem_cons_zero, List.getElem_cons_succ, List.setIfInBounds_toArray, List.set_cons_zero, List.set_cons_succ]
      refine wpAnyH_take (i := 6) (v := ?_) rfl (by kernel_rfl) (by kernel_rfl) (by kernel_rfl) (fun _ _ _ h => h) (Or.inl ⟨by rfl, ?q6⟩) HS.out ?_
      case q6 => intro w hSw; obtain ⟨y0, y1⟩ := hSw; go_simp; rfl
      simp only [Act.put, List.getElem_toArray, List.getElem_cons_zero, List.getElem_cons_succ, List.setIfInBounds_toArray, List.set_cons_zero, List.set_cons_succ]
      refine wpAnyH_take (i := 7) (v := ?_) rfl (by kernel_rfl) (by kernel_rfl) (by kernel_rfl) (fun _ _ _ h => h) (Or.inl ⟨by rfl, ?q7⟩) HS.out ?_
      case q7 => intro w hSw; obtain ⟨y0, y1⟩ := hSw; go_simp; rfl
      simp only [Act.put, List.getElem_toArray, List.getElem_cons_zero, List.getElem_cons_succ, List.setIfInBounds_toArray, List.set_cons_zero, List.set_cons_succ]
      refine wpAnyH_ready (rs := [8]) (by kernel_rfl) (by simp) ?_
      refine AllReadyH.cons rfl (fun K hK => ?_) AllReadyH.nil
      replace hK := hid hK
      go_simp
      refine (C5.out _).mono ?_
      rintro e w5 ⟨rfl, hb5⟩
      have B5 := hid hb5
      clear hb5 C5 HS
      have HS := hid (RC.out w5 B5.out)
      have Q5 := hid (Q4.out.below B5.out)
      have E5 : Hid (Ex (RG R g) w w5) := hid (E4.out.trans (Ex.of_below (S := RG R g) B5.out) (fun _ q => .inl q))
      refine hK.out _ _ HS.out (fun _ => ?_)
      clear hK K
      refine wpAnyH_take (i := 9) (v := ?_) rfl (by kernel_rfl) (by kernel_rfl) (by kernel_rfl) (fun _ _ _ h => h) (Or.inl ⟨by rfl, ?q9⟩) HS.out ?_
      case q9 => intro w hSw; obtain ⟨y0, y1⟩ := hSw; go_simp; rfl
      simp only [Act.put, List.getElem_toArray, List.getElem_cons_zero, List.getElem_cons_succ, List.setIfInBounds_toArray, List.set_cons_zero, List.set_cons_succ]
      refine wpAnyH_take (i := 10) (v := ?_) rfl (by kernel_rfl) (by kernel_rfl) (by kernel_rfl) (fun _ _ _ h => h) (Or.inl ⟨by rfl, ?q10⟩) HS.out ?_
      case q10 => intro w hSw; obtain ⟨y0, y1⟩ := hSw; go_simp; rfl
      simp only [Act.put, List.getElem_toArray, List.getElem_cons_zero, List.getElem_cons_succ, List.setIfInBounds_toArray, List.set_cons_zero, List.set_cons_succ]
      refine wpAnyH_take (i := 11) (v := ?_) rfl (by kernel_rfl) (by kernel_rfl) (by kernel_rfl) (fun _ _ _ h => h) (Or.inl ⟨by rfl, ?q11⟩) HS.out ?_
      case q11 => intro w hSw; obtain ⟨y0, y1⟩ := hSw; go_simp; rfl
      simp only [Act.put, List.getElem_toArray, List.getElem_cons_zero, List.getElem_cons_succ, List.setIfInBounds_toArray, List.set_cons_zero, List.set_cons_succ]
      refine wpAnyH_take (i := 12) (v := ?_) rfl (by kernel_rfl) (by kernel_rfl) (by kernel_rfl) (fun _ _ _ h => h) (Or.inl ⟨by rfl, ?q12⟩) HS.out ?_
      case q12 => intro w hSw; obtain ⟨y0, y1⟩ := hSw; go_simp; rfl
      simp only [Act.put, List.getElem_toArray, List.getElem_cons_zero, List.getElem_cons_succ, List.setIfInBounds_toArray, List.set_cons_zero, List.set_cons_succ]
      refine wpAnyH_take (i := 13) (v := ?_) rfl (by kernel_rfl) (by kernel_rfl) (by kernel_rfl) (fun _ _ _ h => h) (Or.inl ⟨by rfl, ?q13⟩) HS.out ?_
      case q13 => intro w hSw; obtain ⟨y0, y1⟩ := hSw; go_simp; rfl
      simp only [Act.put, List.getElem_toArray, List.getElem_cons_zero, List.getElem_cons_succ, List.setIfInBounds_toArray, List.set_cons_zero, List.set_cons_succ]
      refine wpAnyH_done (by kernel_rfl) ?_ _
      cases dq with
      | false =>
        go_wp2_with fail
        go_ret2
        exact ⟨.inr (.inr (.inl ⟨by rw [HT1.out], by rw [HT2.out], by simpa using HDQ.out, rfl⟩)), E5.out⟩
      | true =>
        have C6 : Hid (∀ q, Calls Try.prog 65 #[.pointer (some ⟨g, 0, none⟩), .int .i64 (st2 s).sz] (w5.drewN q) fun e w' => ∃ v' B, e = .returned v' ∧ w'.ownsRow B 5 1 v' (taken (st2 s).l (st2 s).sz).length ((taken (st2 s).l (st2 s).sz).map (Value.int .u8)) ∧ w5.heap.size ≤ B ∧ HB w' v' (taken (st2 s).l (st2 s).sz) ∧ RD w' g true ((st2 s).f || !okTake (st2 s).l (st2 s).sz) (leftAt (st2 s).l (st2 s).sz) ∧ (w5.drewN q).grownBy w' (some g)) := hid (fun q => bytes_any (w5.drewN q) g _ _ _ (Q5.out.1.dr q).rd (Nat.le_trans hs2.out hn))
        have R5 : Hid (∀ q, (w5.drewN q).cell? ⟨R, 0, none⟩ = some (.pointer (some ⟨g, 0, none⟩)) ∧ (w5.drewN q).cell? ⟨R, 25, none⟩ = some (.int .i64 (st2 s).sz)) := hid (fun q => ⟨(Q5.out.1.dr q).cell rfl, (Q5.out.1.dr q).cell (by simp [qrL, rqL, Q5.out.2.1.1, List.getElem?_append_right])⟩)
        clear HS RC
        go_wp2_with fail
        refine wp_region_held_drew (S := (fun W : World => W.cell? ⟨R, 0, none⟩ = some (.pointer (some ⟨g, 0, none⟩)) ∧ W.cell? ⟨R, 25, none⟩ = some (.int .i64 (st2 s).sz))) (by kernel_rfl) (R5.out _) (fun hHeld => ?_)
        have HS := hid hHeld
        clear hHeld
        change wpAnyH _ _ _ _ _ _ _ _ (World.drew _)
        refine wpAnyH_take (i := 0) (v := ?_) rfl (by kernel_rfl) (by kernel_rfl) (by kernel_rfl) (fun _ _ _ h => h) (Or.inl ⟨by rfl, ?q0⟩) HS.out ?_
        case q0 => intro w hSw; obtain ⟨y0, y1⟩ := hSw; go_simp; rfl
        simp only [Act.put, List.getElem_toArray, List.getElem_cons_zero, List.getElem_cons_succ, List.setIfInBounds_toArray, List.set_cons_zero, List.set_cons_succ]
        refine wpAnyH_take (i := 1) (v := ?_) rfl (by kernel_rfl) (by kernel_rfl) (by kernel_rfl) (fun _ _ _ h => h) (Or.inl ⟨by rfl, ?q1⟩) HS.out ?_
        case q1 => intro w hSw; obtain ⟨y0, y1⟩ := hSw; go_simp; rfl
        simp only [Act.put, List.getElem_toArray, List.getElem_cons_zero, List.getElem_cons_succ, List.setIfInBounds_toArray, List.set_cons_zero, List.set_cons_succ]
        refine wpAnyH_take (i := 2) (v := ?_) rfl (by kernel_rfl) (by kernel_rfl) (by kernel_rfl) (fun _ _ _ h => h) (Or.inl ⟨by rfl, ?q2⟩) HS.out ?_
        case q2 => intro w hSw; obtain ⟨y0, y1⟩ := hSw; go_simp; rfl
        simp only [Act.put, List.getElem_toArray, List.getElem_cons_zero, List.getElem_cons_succ, List.setIfInBounds_toArray, List.set_cons_zero, List.set_cons_succ]
        refine wpAnyH_take (i := 3) (v := ?_) rfl (by kernel_rfl) (by kernel_rfl) (by kernel_rfl) (fun _ _ _ h => h) (Or.inl ⟨by rfl, ?q3⟩) HS.out ?_
        case q3 => intro w hSw; obtain ⟨y0, y1⟩ := hSw; go_simp; rfl
        simp only [Act.put, List.getElem_toArray, List.getElem_cons_zero, List.getElem_cons_succ, List.setIfInBounds_toArray, List.set_cons_zero, List.set_cons_succ]
        refine wpAnyH_take (i := 4) (v := ?_) rfl (by kernel_rfl) (by kernel_rfl) (by kernel_rfl) (fun _ _ _ h => h) (Or.inl ⟨by rfl, ?q4⟩) HS.out ?_
        case q4 => intro w hSw; obtain ⟨y0, y1⟩ := hSw; go_simp; rfl
        simp only [Act.put, List.getElem_toArray, List.getElem_cons_zero, List.getElem_cons_succ, List.setIfInBounds_toArray, List.set_cons_zero, List.set_cons_succ]
        refine wpAnyH_take (i := 5) (v := ?_) rfl (by kernel_rfl) (by kernel_rfl) (by kernel_rfl) (fun _ _ _ h => h) (Or.inl ⟨by rfl, ?q5⟩) HS.out ?_
        case q5 => intro w hSw; obtain ⟨y0, y1⟩ := hSw; go_simp; rfl
        simp only [Act.put, List.getElem_toArray, List.getElem_cons_zero, List.getElem_cons_succ, List.setIfInBounds_toArray, List.set_cons_zero, List.set_cons_succ]
        refine wpAnyH_take (i := 6) (v := ?_) rfl (by kernel_rfl) (by kernel_rfl) (by kernel_rfl) (fun _ _ _ h => h) (Or.inl ⟨by rfl, ?q6⟩) HS.out ?_
        case q6 => intro w hSw; obtain ⟨y0, y1⟩ := hSw; go_simp; rfl
        simp only [Act.put, List.getElem_toArray, List.getElem_cons_zero, List.getElem_cons_succ, List.setIfInBounds_toArray, List.set_cons_zero, List.set_cons_succ]
        refine wpAnyH_take (i := 7) (v := ?_) rfl (by kernel_rfl) (by kernel_rfl) (by kernel_rfl) (fun _ _ _ h => h) (Or.inl ⟨by rfl, ?q7⟩) HS.out ?_
        case q7 => intro w hSw; obtain ⟨y0, y1⟩ := hSw; go_simp; rfl
        simp only [Act.put, List.getElem_toArray, List.getElem_cons_zero, List.getElem_cons_succ, List.setIfInBounds_toArray, List.set_cons_zero, List.set_cons_succ]
        refine wpAnyH_take (i := 8) (v := ?_) rfl (by kernel_rfl) (by kernel_rfl) (by kernel_rfl) (fun _ _ _ h => h) (Or.inl ⟨by rfl, ?q8⟩) HS.out ?_
        case q8 => intro w hSw; obtain ⟨y0, y1⟩ := hSw; go_simp; rfl
        simp only [Act.put, List.getElem_toArray, List.getElem_cons_zero, List.getElem_cons_succ, List.setIfInBounds_toArray, List.set_cons_zero, List.set_cons_succ]
        refine wpAnyH_take (i := 9) (v := ?_) rfl (by kernel_rfl) (by kernel_rfl) (by kernel_rfl) (fun _ _ _ h => h) (Or.inl ⟨by rfl, ?q9⟩) HS.out ?_
        case q9 => intro w hSw; obtain ⟨y0, y1⟩ := hSw; go_simp; rfl
        simp only [Act.put, List.getElem_toArray, List.getElem_cons_zero, List.getElem_cons_succ, List.setIfInBounds_toArray, List.set_cons_zero, List.set_cons_succ]
        refine wpAnyH_ready (rs := [10]) (by kernel_rfl) (by simp) ?_
        refine AllReadyH.cons rfl (fun K hK => ?_) AllReadyH.nil
        replace hK := hid hK
        go_simp
        refine (C6.out _).mono ?_
        rintro e w6 ⟨v6, B6, rfl, ho6, hB6, hb6, hr6, hg6⟩
        have q6 := (Q5.out.1.dr _).still TQ_ok hg6 hr6
        have HS6 : Hid (w6.cell? ⟨R, 0, none⟩ = some (.pointer (some ⟨g, 0, none⟩)) ∧ w6.cell? ⟨R, 25, none⟩ = some (.int .i64 (st2 s).sz)) := hid ⟨q6.cell rfl, q6.cell (by simp [qrL, rqL, Q5.out.2.1.1, List.getElem?_append_right])⟩
        obtain ⟨p6, p6e⟩ := (Q5.out.1.dr _).put TQ_ok hg6 hr6 24 v6
        have c24 : w6.cell? ⟨R, 24, none⟩ = some (.slice none 0 0) := q6.cell (by simp [qrL, rqL, Q5.out.2.1.1, List.getElem?_append_right])
        have f24 := q6.free 24
        have P6 := hid p6
        have E6 : Hid (Ex (RG R g) w (w6.setCell ⟨R, 24, none⟩ v6)) := hid ((E5.out.trans ((Ex.refl (RG R g) w5).drewN _) (fun _ q => .inl q)).trans p6e (fun _ q => .inl q))
        have HO6 := hid ho6
        have HBy6 := hid hb6.2
        have HB6 : Hid (w.heap.size ≤ B6) := hid (Nat.le_trans E5.out.size hB6)
        have HT6 : Hid ((w6.setCell ⟨R, 24, none⟩ v6).ownsRow B6 5 1 v6 (taken (st2 s).l (st2 s).sz).length ((taken (st2 s).l (st2 s).sz).map (Value.int .u8))) := hid (by
          refine ⟨ho6.1, ho6.2.elim .inl fun ⟨gg, cap, cur, z1, z2, z3, z4⟩ => .inr ⟨gg, cap, cur, z1, z2, ?_, z4⟩⟩
          rw [← z3]
          have hne : R ≠ gg := fun e => by rw [← e, q6.blk] at z3; simp only [Option.some.injEq, Obj.cells.injEq] at z3; exact absurd z3.2.1 (by decide)
          simp [World.setCell, Array.getElem?_modify, hne])
        obtain ⟨pv, cv, ev, -, -⟩ := hb6.open
        clear ho6 hB6 hb6 hr6 hg6 q6 p6 p6e C6 R5 HS
        have HS := HS6
        subst ev
        refine hK.out _ _ HS.out (fun _ => ?_)
        clear hK K
        refine wpAnyH_take (i := 11) (v := ?_) rfl (by kernel_rfl) (by kernel_rfl) (by kernel_rfl) (fun _ _ _ h => h) (Or.inl ⟨by rfl, ?q11⟩) HS.out ?_
        case q11 => intro w hSw; obtain ⟨y0, y1⟩ := hSw; go_simp; rfl
        simp only [Act.put, List.getElem_toArray, List.getElem_cons_zero, List.getElem_cons_succ, List.setIfInBounds_toArray, List.set_cons_zero, List.set_cons_succ]
        refine wpAnyH_take (i := 12) (v := ?_) rfl (by kernel_rfl) (by kernel_rfl) (by kernel_rfl) (fun _ _ _ h => h) (Or.inl ⟨by rfl, ?q12⟩) HS.out ?_
        case q12 => intro w hSw; obtain ⟨y0, y1⟩ := hSw; go_simp; rfl
        simp only [Act.put, List.getElem_toArray, List.getElem_cons_zero, List.getElem_cons_succ, List.setIfInBounds_toArray, List.set_cons_zero, List.set_cons_succ]
        refine wpAnyH_take (i := 13) (v := ?_) rfl (by kernel_rfl) (by kernel_rfl) (by kernel_rfl) (fun _ _ _ h => h) (Or.inl ⟨by rfl, ?q13⟩) HS.out ?_
        case q13 => intro w hSw; obtain ⟨y0, y1⟩ := hSw; go_simp; rfl
        simp only [Act.put, List.getElem_toArray, List.getElem_cons_zero, List.getElem_cons_succ, List.setIfInBounds_toArray, List.set_cons_zero, List.set_cons_succ]
        refine wpAnyH_ready (rs := [14]) (by kernel_rfl) (by simp) ?_
        refine AllReadyH.cons rfl (fun K hK => ?_) AllReadyH.nil
        replace hK := hid hK
        go_simp
        have QE : (qrL g n (st2 s).r (.slice none 0 0) (st2 s).sz).set 24 (.slice pv (taken (st2 s).l (st2 s).sz).length cv) = qrL g n (st2 s).r (.slice pv (taken (st2 s).l (st2 s).sz).length cv) (st2 s).sz := by simp [qrL, rqL, List.set_append, Q5.out.2.1.1]
        have P7 := P6.out
        rw [QE] at P7
        clear QE HS
        have HP7 := hid P7
        have HS := hid (show (w6.setCell ⟨R, 24, none⟩ (.slice pv (taken (st2 s).l (st2 s).sz).length cv)).cell? ⟨R, 0, none⟩ = some (.pointer (some ⟨g, 0, none⟩)) ∧ (w6.setCell ⟨R, 24, none⟩ (.slice pv (taken (st2 s).l (st2 s).sz).length cv)).cell? ⟨R, 25, none⟩ = some (.int .i64 (st2 s).sz) from ⟨P7.cell rfl, P7.cell (by simp [qrL, rqL, Q5.out.2.1.1, List.getElem?_append_right])⟩)
        clear P7
        refine hK.out _ _ HS.out (fun _ => ?_)
        clear hK K
        refine wpAnyH_done (by kernel_rfl) ?_ _
        go_wp2_with fail
        go_ret2
        exact ⟨.inr (.inr (.inr ⟨by rw [HT1.out], by rw [HT2.out], by simpa using HDQ.out, rfl, _, B6, HP7.out.blk, HT6.out, HB6.out, HBy6.out, Q5.out.2.1⟩)), E6.out⟩
theorem results_cellTT {P : Program} {fn : Func} {p q q' : Tmp} {ty : TypeId} (h : fn.results = #[.cell p ty, .tmp q, .tmp q']) (tmps : Array Value) (w : World) (g : Nat) (t : TypeId) (cs : Array Value) (fr : Nat × Nat) (d : TypeDesc) (u u' : Value)
    (hp : tmps.getD p undef = .pointer (some ⟨g, 0, none⟩)) (hq : tmps.getD q undef = u) (hq2 : tmps.getD q' undef = u') (hg : w.heap[g]? = some (.cells cs t fr)) (hu : P.underlying ty = some d) (hd : (match d with | .struct _ | .array _ _ => true | _ => false) = true) (hi : (P.info? ty).map (·.size) = some cs.size) :
    (results fn tmps).run P w = .ok (.tuple #[.agg cs, u, u']) w := by
  have hp' : tmps[p]?.getD undef = .pointer (some ⟨g, 0, none⟩) := by simpa using hp
  have hq' : tmps[q]?.getD undef = u := by simpa using hq
  have hq2' : tmps[q']?.getD undef = u' := by simpa using hq2
  simp [results, h, hp', hq', hq2', asAddr, run_loadVar_row w g t ty cs fr d hg hu hd hi]
theorem wpList_buildQ {P : Program} {ops : Array Oper} {rest : List Oper} {o : Oper} {a : Act} {w : World} {Q : Exit → Act → World → Prop} (hw : Region.wanted o (yielded ops a.tmps) = true) (t : TypeId) (parts : Array (Nat × Operand)) (ho : o.op = .build t parts) (ps : Array (Nat × Value)) (hps : (parts.map fun (i, x) => (i, a.eval x)) = ps) (v : Value)
    (hr : (Instr.build t ps).run P w = .ok v w) (h : wpList P ops Q rest (a.put o.dst v) w) : wpList P ops Q (o :: rest) a w := by
  refine wpList_step fun K hK => ?_
  simp only [hw, if_true]
  unfold Oper.wp execOp
  simp only [ho, Sem.run_bind, hps, hr, Result.andThen_ok]
  exact hK _ _ h
abbrev zreq : Array Value := #[.int .u8 0, .int .u8 0, .int .u8 0, .int .u8 0, .int .u8 0, .int .u8 0, .int .u8 0, .int .u8 0, .int .u8 0, .int .u8 0, .int .u8 0, .int .u8 0, .int .u8 0, .int .u8 0, .int .u8 0, .int .u8 0, .int .u8 0, .int .i64 0, .int .i64 0, .int .i64 0, .int .u32 0, .int .i64 0, .slice none 0 0]
def rq0 : Rq := ⟨0, [0, 0, 0, 0, 0, 0, 0, 0, 0, 0, 0, 0, 0, 0, 0, 0], 0, 0, 0, 0, 0⟩
theorem rq0_ok : rq0.ok := ⟨rfl, by decide⟩
def qs0 (l : List Int) : QS := ⟨false, l, rq0, 0⟩
set_option maxRecDepth 100000 in
theorem run_build_rr (w : World) (g : Nat) (n : Int) : (Instr.build TQ #[(0, .agg #[.pointer (some ⟨g, 0, none⟩), .int .i64 n])]).run Try.prog w = .ok (.agg #[.pointer (some ⟨g, 0, none⟩), .int .i64 n, .int .u8 0, .int .u8 0, .int .u8 0, .int .u8 0, .int .u8 0, .int .u8 0, .int .u8 0, .int .u8 0, .int .u8 0, .int .u8 0, .int .u8 0, .int .u8 0, .int .u8 0, .int .u8 0, .int .u8 0, .int .u8 0, .int .u8 0, .int .i64 0, .int .i64 0, .int .i64 0, .int .u32 0, .int .i64 0, .slice none 0 0, .int .i64 0]) w := by
  kernel_rfl
set_option maxRecDepth 100000 in
theorem run_build_r0 (w : World) : (Instr.build 38 #[]).run Try.prog w = .ok (.agg zreq) w := by
  kernel_rfl
theorem rqA_one (r : Rq) (v : Value) (hv : v.oneCell' = true) : (rqA r v).all (·.oneCell') = true := by
  refine all_oneCell_toArray fun u hu => ?_
  unfold rqL at hu
  simp at hu
  rcases hu with rfl | ⟨x, _, rfl⟩ | rfl | rfl | rfl | rfl | rfl | rfl <;> first | rfl | exact hv
def rqBad (l : List Int) (p : Int) : Prop :=
  ((rd1 l.length (qs0 l)).2 = false ∧ p = (rd1 l.length (qs0 l)).1) ∨
  ((rd1 l.length (qs0 l)).2 = true ∧ (rd2 l.length (qs0 l)).2 = false ∧ p = (rd2 l.length (qs0 l)).1) ∨
  ((rd1 l.length (qs0 l)).2 = true ∧ (rd2 l.length (qs0 l)).2 = true ∧ ((st2 (qs0 l)).l.length : Int) ≠ (st2 (qs0 l)).sz ∧ p = edA l.length (st2 (qs0 l)).l (st2 (qs0 l)).sz)
def rqGood (l : List Int) (r : Rq) (b : List Int) : Prop :=
  (rd1 l.length (qs0 l)).2 = true ∧ (rd2 l.length (qs0 l)).2 = true ∧ ((st2 (qs0 l)).l.length : Int) = (st2 (qs0 l)).sz ∧ r = (st2 (qs0 l)).r ∧ b = taken (st2 (qs0 l)).l (st2 (qs0 l)).sz
def ReqQ (w : World) (l : List Int) (e : Ending) (w' : World) : Prop :=
  (∃ p, rqBad l p ∧ e = .returned (.tuple #[.agg (rqA rq0 (.slice none 0 0)), .int .i64 p, .int .i64 200])) ∨
  (∃ r b v B, rqGood l r b ∧ r.ok ∧ e = .returned (.tuple #[.agg (rqA r v), .int .i64 0, .int .i64 0]) ∧ w'.ownsRow B 5 1 v b.length (b.map (Value.int .u8)) ∧ w.heap.size ≤ B ∧ ∀ x ∈ b, 0 ≤ x ∧ x < 256)
theorem own_setRow {w : World} {B : Nat} {v : Value} {n : Nat} {xs : List Value} {b : Nat} {cs cs' : Array Value} {T : TypeId} (h : w.ownsRow B 5 1 v n xs) (hb : w.heap[b]? = some (.cells cs T (0, 0))) (hT : T ≠ 5) : (w.setRow b cs').ownsRow B 5 1 v n xs := by
  refine ⟨h.1, h.2.elim .inl fun ⟨gg, cap, cur, z1, z2, z3, z4⟩ => .inr ⟨gg, cap, cur, z1, z2, ?_, z4⟩⟩
  rw [← z3]
  have hne : b ≠ gg := fun e => by rw [← e, hb] at z3; simp only [Option.some.injEq, Obj.cells.injEq] at z3; exact hT z3.2.1
  simp [World.setRow, Array.getElem?_modify, hne]
theorem ex_setRow {S : Nat → Prop} {w w' : World} (h : Ex S w w') {b : Nat} (hb : S b) (cs : Array Value) : Ex S w (w'.setRow b cs) :=
  ⟨h.os, h.tape, h.output, by have := h.size; simpa [World.setRow] using this, fun k hk hn => by rw [← h.block k hk hn]; simp [World.setRow, Array.getElem?_modify, show b ≠ k from fun e => hn (e ▸ hb)]⟩
set_option maxRecDepth 100000 in
set_option maxHeartbeats 16000000 in
theorem request_any (w : World) (v : Value) (l : List Int) (h : HB w v l) (hbig : l.length ≤ 140737488355328) :
    Calls Try.prog 15 #[v] w fun e w' => ReqQ w l e w' ∧ Below w.heap.size w w' := by
  obtain ⟨W1, HW1⟩ : ∃ W : World, Hid (w.alloc (.cells zreq 38) = W) := ⟨_, hid rfl⟩
  have B1 : Hid (Below w.heap.size w W1) := by rw [← HW1.out]; exact hid ((Below.refl _ w).alloc (Nat.le_refl _) _)
  have hs1 : Hid (W1.heap.size = w.heap.size + 1) := hid (by rw [← HW1.out]; simp)
  have hbx : Hid (W1.heap[w.heap.size]? = some (.cells zreq 38 (0, 0))) := hid (by rw [← HW1.out]; exact heap_alloc_new w _)
  have C1 := hid (newSource_any W1 v l (h.later fun a _ hx => (B1.out.cell (World.block_lt_of_cell? w a hx)).trans hx) hbig)
  clear h
  go_enter Try.func15, Try.ntmps15
  refine wp_seq_k fun K0 h0 => ?_
  have H0 := hid h0
  clear h0
  go_wp2
  rw [HW1.out]
  refine H0.out _ _ ?_
  go_wp2_with fail
  refine C1.out.mono ?_
  rintro e w2 ⟨g, rfl, hr2, hg2, hB2⟩
  have hbd := hid fun W => run_build_rr W g (l.length : Int)
  have hqe : Hid ((#[.pointer (some ⟨g, 0, none⟩), .int .i64 (l.length : Int), .int .u8 0, .int .u8 0, .int .u8 0, .int .u8 0, .int .u8 0, .int .u8 0, .int .u8 0, .int .u8 0, .int .u8 0, .int .u8 0, .int .u8 0, .int .u8 0, .int .u8 0, .int .u8 0, .int .u8 0, .int .u8 0, .int .u8 0, .int .i64 0, .int .i64 0, .int .i64 0, .int .u32 0, .int .i64 0, .slice none 0 0, .int .i64 0] : Array Value) = (qrL g l.length rq0 (.slice none 0 0) 0).toArray) := hid rfl
  rw [hqe.out] at hbd
  obtain ⟨qa, HQA⟩ : ∃ m, Hid ((qrL g l.length rq0 (.slice none 0 0) 0).toArray = m) := ⟨_, hid rfl⟩
  rw [HQA.out] at hbd
  obtain ⟨W3, HW3⟩ : ∃ W : World, Hid (w2.alloc (.cells qa TQ) = W) := ⟨_, hid rfl⟩
  have Q3 : Hid (QR W3 w2.heap.size g l.length (qs0 l)) := hid ⟨⟨by rw [← HW3.out, ← HQA.out]; exact heap_alloc_new w2 _, by rw [← HW3.out]; exact hr2.grow ((Below.refl _ w2).alloc (Nat.le_refl _) _)⟩, rq0_ok, by show (0 : Int) ≤ 0; decide, by show (0 : Int) < 4294967296; decide⟩
  have hb3 : Hid (W3.heap[w.heap.size]? = some (.cells zreq 38 (0, 0))) := hid (by
    have h1 := (hB2.block w.heap.size (by have := hs1.out; omega)).trans hbx.out
    have h2 : Below w2.heap.size w2 W3 := by rw [← HW3.out]; exact (Below.refl _ w2).alloc (Nat.le_refl _) _
    exact (h2.block _ (Array.getElem?_eq_some_iff.1 h1).1).trans h1)
  have B3 : Hid (Below w.heap.size w W3) := hid (B1.out.trans ((hB2.mono B1.out.size).trans (by rw [← HW3.out]; exact (Below.refl _ w2).alloc (Nat.le_trans B1.out.size hB2.size) _)))
  have hne : Hid (w.heap.size < g ∧ w.heap.size < w2.heap.size) := hid (by have := hs1.out; have := hB2.size; omega)
  have C3 := hid (read_any W3 w2.heap.size g l.length (qs0 l) Q3.out hbig (Nat.le_refl _))
  have SR : Hid ((Try.prog.info? 38).map (·.size) = some 23) := hid (by kernel_rfl)
  generalize hRR : w2.heap.size = R at C3 Q3 hne
  clear hr2 hg2 hB2 C1 hqe HQA
  go_wp2_with (first | (refine wpList_buildQ rfl TQ _ rfl #[(0, .agg #[.pointer (some ⟨g, 0, none⟩), .int .i64 (l.length : Int)])] (by go_simp) _ (hbd.out _) ?_) | rw [HW3.out] | fail)
  refine C3.out.mono ?_
  rintro e w4 ⟨hq4, he4⟩
  have h4 : w4.heap[w.heap.size]? = some (.cells zreq 38 (0, 0)) := (he4.block _ (Array.getElem?_eq_some_iff.1 hb3.out).1 (by have := hne.out; rintro (e | e) <;> omega)).trans hb3.out
  have B4 : Hid (Below w.heap.size w w4) := hid (B3.out.trans (he4.below B3.out.size (fun k q => by have := hne.out; rcases q with q | q <;> omega)))
  have H4 := hid h4
  clear h4 he4 C3 hbd HW3 hRR
  have BAD : Hid (∀ p, rqBad l p → ReqQ w l (.returned (.tuple #[.agg zreq, .int .i64 p, .int .i64 200])) (w4.setRow w.heap.size zreq)) := hid (fun p hp => .inl ⟨p, hp, rfl⟩)
  have BS : Hid (∀ cs, Below w.heap.size w (w4.setRow w.heap.size cs)) := hid (fun cs => B4.out.trans ((ex_setRow (Ex.refl (fun k => k = w.heap.size) w4) rfl cs).below B4.out.size (fun k e => by omega)))
  have HS4 : Hid (∀ cs : Array Value, (w4.setRow w.heap.size cs).heap[w.heap.size]? = some (.cells cs 38 (0, 0))) := hid (fun cs => setRow_heap _ _ _ _ _ _ H4.out)
  have hz1 : Hid (zreq.all (·.oneCell') = true) := hid (rqA_one rq0 _ rfl)
  have hb0 := hid run_build_r0
  obtain ⟨zr, HZR⟩ : ∃ z, Hid (zreq = z) := ⟨_, hid rfl⟩
  have hzs : Hid (zr.size = 23) := hid (by rw [← HZR.out]; rfl)
  rw [HZR.out] at H4 BAD hz1 hb0
  have BADW : Hid (∀ p, rqBad l p → ∀ tmps : Array Value, tmps.getD 2 undef = .pointer (some ⟨w.heap.size, 0, none⟩) → tmps.getD 3 undef = .int .i64 p → tmps.getD 4 undef = .int .i64 200 → True) := hid (fun _ _ _ _ _ _ => trivial)
  rcases hq4 with ⟨q1, rfl⟩ | ⟨q1, q2, rfl⟩ | ⟨q1, q2, q3, rfl⟩ | ⟨q1, q2, q3, rfl, v4, B, q4, q5, q6, q7, q8⟩
  · have HB := hid (BAD.out _ (.inl ⟨q1, rfl⟩))
    generalize (rd1 l.length (qs0 l)).1 = p at HB ⊢
    go_wp2_with (first | (refine wpList_buildQ rfl 38 _ rfl #[] (by go_simp) _ (hb0.out _) ?_) | (refine wpList_store_row rfl 38 _ _ rfl w.heap.size zr rfl rfl 38 zr H4.out (by rw [hzs.out]; exact SR.out) rfl hz1.out ?_) | fail)
    refine bodyPost_ret (v := .tuple #[.agg zr, .int .i64 p, .int .i64 200]) (results_cellTT (p := 2) (q := 3) (q' := 4) (ty := 38) rfl _ _ w.heap.size 38 _ (0, 0) _ _ _ rfl rfl rfl (HS4.out _) Try.underlying38 rfl (by rw [hzs.out]; exact SR.out)) rfl ?_
    exact ⟨HB.out, BS.out _⟩
  · have HB := hid (BAD.out _ (.inr (.inl ⟨q1, q2, rfl⟩)))
    generalize (rd2 l.length (qs0 l)).1 = p at HB ⊢
    go_wp2_with (first | (refine wpList_buildQ rfl 38 _ rfl #[] (by go_simp) _ (hb0.out _) ?_) | (refine wpList_store_row rfl 38 _ _ rfl w.heap.size zr rfl rfl 38 zr H4.out (by rw [hzs.out]; exact SR.out) rfl hz1.out ?_) | fail)
    refine bodyPost_ret (v := .tuple #[.agg zr, .int .i64 p, .int .i64 200]) (results_cellTT (p := 2) (q := 3) (q' := 4) (ty := 38) rfl _ _ w.heap.size 38 _ (0, 0) _ _ _ rfl rfl rfl (HS4.out _) Try.underlying38 rfl (by rw [hzs.out]; exact SR.out)) rfl ?_
    exact ⟨HB.out, BS.out _⟩
  · have HB := hid (BAD.out _ (.inr (.inr ⟨q1, q2, q3, rfl⟩)))
    generalize edA l.length (st2 (qs0 l)).l (st2 (qs0 l)).sz = p at HB ⊢
    go_wp2_with (first | (refine wpList_buildQ rfl 38 _ rfl #[] (by go_simp) _ (hb0.out _) ?_) | (refine wpList_store_row rfl 38 _ _ rfl w.heap.size zr rfl rfl 38 zr H4.out (by rw [hzs.out]; exact SR.out) rfl hz1.out ?_) | fail)
    refine bodyPost_ret (v := .tuple #[.agg zr, .int .i64 p, .int .i64 200]) (results_cellTT (p := 2) (q := 3) (q' := 4) (ty := 38) rfl _ _ w.heap.size 38 _ (0, 0) _ _ _ rfl rfl rfl (HS4.out _) Try.underlying38 rfl (by rw [hzs.out]; exact SR.out)) rfl ?_
    exact ⟨HB.out, BS.out _⟩
  · have hv4 : ∃ p c, v4 = .slice p (taken (st2 (qs0 l)).l (st2 (qs0 l)).sz).length c := by
      rcases q5.2 with ⟨e1, e2⟩ | ⟨gg, cap, cur, e1, _⟩
      · exact ⟨none, 0, by rw [e1, e2]⟩
      · exact ⟨_, _, e1⟩
    have hone : v4.oneCell' = true := by obtain ⟨p, c, rfl⟩ := hv4; rfl
    have HQ : Hid (∀ cs', ReqQ w l (.returned (.tuple #[.agg (rqA (st2 (qs0 l)).r v4), .int .i64 0, .int .i64 0])) (w4.setRow w.heap.size cs')) := hid (fun cs' => .inr ⟨_, _, v4, B, ⟨q1, q2, q3, rfl, rfl⟩, q8, rfl, own_setRow q5 H4.out (by decide), Nat.le_trans B3.out.size q6, q7⟩)
    have RR : Hid (w4.rangeAt R 2 (rqL (st2 (qs0 l)).r v4)) := hid (fun j u hj => by
      rw [cell_of_row _ _ _ _ _ _ q4]
      have hl : (rqL (st2 (qs0 l)).r v4).length = 23 := by simp [rqL, q8.1]
      have hj2 : j < 23 := by have := (List.getElem?_eq_some_iff.1 hj).1; omega
      rw [List.getElem?_toArray]
      unfold qrL
      rw [show 2 + j = j + 1 + 1 by omega, List.getElem?_cons_succ, List.getElem?_cons_succ, List.getElem?_append_left (by omega)]
      exact hj)
    have hm1 : Hid ((rqA (st2 (qs0 l)).r v4).all (·.oneCell') = true) := hid (rqA_one _ _ hone)
    have hms : Hid ((rqA (st2 (qs0 l)).r v4).size = 23) := hid (rqA_size q8 v4)
    have SL : Hid ((Try.prog.info? 38).map (·.size) = some (rqL (st2 (qs0 l)).r v4).length) := hid (by rw [show (rqL (st2 (qs0 l)).r v4).length = 23 by simp [rqL, q8.1]]; exact SR.out)
    have HMM : Hid ((rqL (st2 (qs0 l)).r v4).toArray = rqA (st2 (qs0 l)).r v4) := hid rfl
    obtain ⟨m, HM⟩ : ∃ m, Hid (rqA (st2 (qs0 l)).r v4 = m) := ⟨_, hid rfl⟩
    rw [HM.out] at HQ hm1 hms HMM
    clear q1 q2 q3 q4 q5 q6 q7 q8 hv4 hone BAD hb0 hz1
    go_wp2_with (first | (refine wpList_load_mid rfl 38 _ rfl R 2 rfl (rqL (st2 (qs0 l)).r v4) _ RR.out Try.underlying38 rfl SL.out ?_; rw [HMM.out]) | (refine wpList_store_row rfl 38 _ _ rfl w.heap.size m rfl rfl 38 zr H4.out (by rw [hms.out]; exact SR.out) (by rw [hms.out]; exact hzs.out) hm1.out ?_) | fail)
    refine bodyPost_ret (v := .tuple #[.agg m, .int .i64 0, .int .i64 0]) (results_cellTT (p := 2) (q := 3) (q' := 4) (ty := 38) rfl _ _ w.heap.size 38 _ (0, 0) _ _ _ rfl rfl rfl (HS4.out _) Try.underlying38 rfl (by rw [hms.out]; exact SR.out)) rfl ?_
    exact ⟨HQ.out _, BS.out _⟩
end Go.Proofs.Ytgjadpidoaianaa
