/- Of the road to octetChunks_holds: ChL. -/
import Derived.Test.YtnifnoadfepegaaG07
set_option linter.unusedVariables false
set_option linter.unusedSimpArgs false
namespace Go.Proofs.Ytnifnoadfepegaa
open Go Go.RowKit Go.Shelf
attribute [local go_sem] Oper.semAt_some run_stFC
set_option maxRecDepth 100000 in
set_option maxHeartbeats 8000000 in
theorem chlaw_ok (w : World) (v : Value) (l : List Int) (size stop : Int) (h : HB w v l) (hl : l.length ≤ 4000) :
    Calls Try.prog 3 #[v, .int .i64 size, .int .i64 stop] w fun e w' => e = .returned (.bool true) ∧ Below w.heap.size w w' := by
  have HBb := hid h
  have hL0 := hl
  have HLL := hid hl
  have HBY := hid h.2
  obtain ⟨p, c, rfl, hlc, hcm⟩ := h.open
  obtain ⟨L, HL⟩ : ∃ x, Hid (l.length = x) := ⟨_, rfl⟩
  rw [HL.out] at hl HBb ⊢
  obtain ⟨wB, HWB⟩ : ∃ x, Hid ((w.alloc (.cells #[.int .i64 stop] 3)).alloc (.cells #[.bool false] 4) = x) := ⟨_, rfl⟩
  have BwB : Hid (Below w.heap.size w wB) := by rw [← HWB.out]; exact hid (((Below.refl _ w).alloc (Nat.le_refl _) _).alloc (by simp) _)
  have sB : wB.heap.size = w.heap.size + 2 := by rw [← HWB.out]; simp
  obtain ⟨b0, Hb0⟩ : ∃ x, Hid (w.heap.size = x) := ⟨_, rfl⟩
  obtain ⟨b1, Hb1⟩ : ∃ x, Hid (b0 + 1 = x) := ⟨_, rfl⟩
  have X0 : Hid (wB.heap[b0]? = some (.cells #[.int .i64 stop] 3 (0, 0))) := hid (by
    rw [← HWB.out, ← Hb0.out]
    exact (Below.heap_alloc (w.alloc _) _ w.heap.size (by simp)).trans (heap_alloc_new w _))
  have X1 : Hid (wB.heap[b1]? = some (.cells #[.bool false] 4 (0, 0))) := by
    rw [← HWB.out, ← Hb1.out, ← Hb0.out]
    have := heap_alloc_new (w.alloc (.cells #[.int .i64 stop] 3)) (.cells #[.bool false] 4)
    rw [show (w.alloc (.cells #[.int .i64 stop] 3)).heap.size = w.heap.size + 1 by simp] at this
    exact hid this
  have C1 := hid (rchunks_any wB _ l size (HBb.out.below BwB.out) hL0)
  obtain ⟨N, HN⟩ : ∃ N, Hid (nCh l size = N) := ⟨_, rfl⟩
  obtain ⟨s, HSz⟩ : ∃ s, Hid (size.toNat = s) := ⟨_, rfl⟩
  have HN4 := hid (nCh_le l size hL0)
  rw [HN.out] at C1 HN4
  rw [HSz.out] at C1
  have ST : Hid (wB.heap.size = b0 + 2 ∧ w.heap.size = b0 ∧ b1 = b0 + 1) := hid ⟨by have := Hb0.out; omega, Hb0.out, Hb1.out.symm⟩
  clear h hlc hcm hL0 sB
  refine (callsIn_wide (n := 9)).1 ?_
  refine callsIn_of_wp_marks Try.func3 rfl trivial (wpIn_wide.2 ?_) rfl
  simp only [Try.ntmps3, List.size_toArray, List.length_cons, List.length_nil, Nat.reduceAdd, Nat.reduceSub, Array.replicate_succ, Array.replicate_zero, List.push_toArray, List.append_toArray, List.nil_append, List.cons_append]
  go_wp2_with fail
  rw [HWB.out, Hb0.out, Hb1.out]
  refine C1.out.mono ?_
  rintro e w1 ⟨vp, vq, xs0, rfl, hop, hpx, hB1⟩
  have HPL := hid hop
  have HPC := hid hpx
  obtain ⟨pl, cl, el⟩ := own_slc hop
  obtain ⟨pc, cc, ec⟩ := own_slc hpx.row
  rw [pcL_len] at ec
  subst el
  subst ec
  have B1 := hid hB1
  clear hop hpx hB1 C1
  obtain ⟨W2, HW2⟩ : ∃ x, Hid ((w1.alloc (.cells #[.slice pl N cl] 23)).alloc (.cells #[.slice pc N cc] 24) = x) := ⟨_, rfl⟩
  obtain ⟨b2, Hb2⟩ : ∃ x, Hid (w1.heap.size = x) := ⟨_, rfl⟩
  obtain ⟨b3, Hb3⟩ : ∃ x, Hid (b2 + 1 = x) := ⟨_, rfl⟩
  have B12 : Hid (Below w1.heap.size w1 W2) := by rw [← HW2.out]; exact hid (((Below.refl _ w1).alloc (Nat.le_refl _) _).alloc (by simp) _)
  have S2 : Hid (W2.heap.size = b2 + 2) := by rw [← HW2.out, ← Hb2.out]; exact hid (by simp)
  have X2 : Hid (W2.heap[b2]? = some (.cells #[.slice pl N cl] 23 (0, 0))) := hid (by
    rw [← HW2.out, ← Hb2.out]
    exact (Below.heap_alloc (w1.alloc _) _ w1.heap.size (by simp)).trans (heap_alloc_new w1 _))
  have X3 : Hid (W2.heap[b3]? = some (.cells #[.slice pc N cc] 24 (0, 0))) := by
    rw [← HW2.out, ← Hb3.out, ← Hb2.out]
    have := heap_alloc_new (w1.alloc (.cells #[.slice pl N cl] 23)) (.cells #[.slice pc N cc] 24)
    rw [show (w1.alloc (.cells #[.slice pl N cl] 23)).heap.size = w1.heap.size + 1 by simp] at this
    exact hid this
  have Bw2 : Hid (Below w.heap.size w W2) := hid ((BwB.out.trans (B1.out.mono BwB.out.size)).trans (B12.out.mono (Nat.le_trans BwB.out.size B1.out.size)))
  have C2 := hid (lent_any W2 _ l (HBb.out.below Bw2.out) (by rw [HL.out]; omega))
  go_wp2_with fail
  rw [Hb2.out, Hb3.out, HW2.out]
  refine C2.out.mono ?_
  rintro e w3 ⟨vf, rfl, hof, hB3⟩
  obtain ⟨gx, cx, ex, hgx, hgx1, hcx, hcx2, hx0, hfx⟩ := lent_part hof HBY.out
  rw [HL.out] at ex
  subst ex
  rw [HL.out] at hcx hx0 hfx
  have OX := hid hof
  have HX0 := hid hx0
  have HFX := hid hfx
  have HGX : Hid (W2.heap.size ≤ gx ∧ gx < w3.heap.size) := hid ⟨hgx, hgx1⟩
  have B3 := hid hB3
  have hsl := fun W => slice_hL W gx (L + 70) cx L (by omega) (by omega)
  have HCX : Hid (L ≤ cx ∧ cx ≤ 9223372036854775807) := hid ⟨by omega, hcx2⟩
  have C3 := hid (chunksI_any w3 _ l size hx0 HLL.out)
  clear hof hB3 hx0 hfx hgx hgx1 C2
  go_wp2_with fail
  refine C3.out.mono ?_
  rintro e w4 ⟨gf, lb, D, rfl, hit, hDl, hB4⟩
  have IT := hid hit
  have HDl := hid hDl
  have B4 := hid hB4
  obtain ⟨W5, HW5⟩ : ∃ x, Hid (w4.alloc (.cells #[.func (.func gf) #[] lb] 29) = x) := ⟨_, rfl⟩
  obtain ⟨b4, Hb4⟩ : ∃ x, Hid (w4.heap.size = x) := ⟨_, rfl⟩
  have B45 : Hid (Below w4.heap.size w4 W5) := by rw [← HW5.out]; exact hid ((Below.refl _ w4).alloc (Nat.le_refl _) _)
  have S5 : Hid (W5.heap.size = b4 + 1) := by rw [← HW5.out, ← Hb4.out]; exact hid (by simp)
  have X4 : Hid (W5.heap[b4]? = some (.cells #[.func (.func gf) #[] lb] 29 (0, 0))) := by rw [← HW5.out, ← Hb4.out]; exact hid (heap_alloc_new w4 _)
  have B35 : Hid (Below w3.heap.size w3 W5) := hid (B4.out.trans (B45.out.mono B4.out.size))
  have Bw5 : Hid (Below w.heap.size w W5) := hid ((Bw2.out.trans (B3.out.mono Bw2.out.size)).trans (B35.out.mono (Nat.le_trans Bw2.out.size B3.out.size)))
  have C4 := hid (kept_any W5 _ _ (lent l) l (HFX.out.below B35.out) (HBb.out.below Bw5.out) (by rw [HL.out]; omega))
  have heq := fun W => eql_func_nilC W (.func gf) #[] lb
  have c4 : W5.cell? ⟨b4, 0, none⟩ = some (.func (.func gf) #[] lb) := (cell_of_row _ _ _ _ _ _ X4.out).trans rfl
  clear hit hDl hB4 C3
  go_wp2_with fail
  rw [HW5.out, Hb4.out]
  go_wp2_with fail
  refine C4.out.mono ?_
  rintro e w6 ⟨rfl, hB6⟩
  simp only [decide_true]
  have B6 := hid hB6
  obtain ⟨W7, HW7⟩ : ∃ x, Hid (w6.alloc (.cells #[.slice none 0 0, .slice none 0 0] 33) = x) := ⟨_, rfl⟩
  obtain ⟨cb, Hcb⟩ : ∃ x, Hid (w6.heap.size = x) := ⟨_, rfl⟩
  have B67 : Hid (Below w6.heap.size w6 W7) := by rw [← HW7.out]; exact hid ((Below.refl _ w6).alloc (Nat.le_refl _) _)
  have S7 : Hid (W7.heap.size = cb + 1) := by rw [← HW7.out, ← Hcb.out]; exact hid (by simp)
  have XC : Hid (W7.heap[cb]? = some (.cells #[.slice none 0 0, .slice none 0 0] 33 (0, 0))) := by rw [← HW7.out, ← Hcb.out]; exact hid (heap_alloc_new w6 _)
  clear hB6 C4 c4
  go_wp2_with fail
  rw [HW7.out, Hcb.out]
  have Bw7 : Hid (Below w.heap.size w W7) := hid (Bw5.out.trans ((B6.out.trans (B67.out.mono B6.out.size)).mono Bw5.out.size))
  have B37 : Hid (Below w3.heap.size w3 W7) := hid (B35.out.trans ((B6.out.trans (B67.out.mono B6.out.size)).mono B35.out.size))
  have B57 : Hid (Below W5.heap.size W5 W7) := hid (B6.out.trans (B67.out.mono B6.out.size))
  have B27 : Hid (Below W2.heap.size W2 W7) := hid (B3.out.trans (B37.out.mono B3.out.size))
  have B17 : Hid (Below w1.heap.size w1 W7) := hid (B12.out.trans (B27.out.mono B12.out.size))
  have BB7 : Hid (Below wB.heap.size wB W7) := hid (B1.out.trans (B17.out.mono B1.out.size))
  have Y0 : Hid (W7.heap[b0]? = some (.cells #[.int .i64 stop] 3 (0, 0))) := hid ((BB7.out.block b0 (by have := ST.out; omega)).trans X0.out)
  have Y1 : Hid (W7.heap[b1]? = some (.cells #[.bool false] 4 (0, 0))) := hid ((BB7.out.block b1 (by have := ST.out; omega)).trans X1.out)
  have Y2 : Hid (W7.heap[b2]? = some (.cells #[.slice pl N cl] 23 (0, 0))) := hid ((B27.out.block b2 (by have := S2.out; omega)).trans X2.out)
  have Y3 : Hid (W7.heap[b3]? = some (.cells #[.slice pc N cc] 24 (0, 0))) := hid ((B27.out.block b3 (by have := S2.out; have := Hb3.out; omega)).trans X3.out)
  have Y4 : Hid (W7.heap[b4]? = some (.cells #[.func (.func gf) #[] lb] 29 (0, 0))) := hid ((B57.out.block b4 (by have := S5.out; omega)).trans X4.out)
  have x0 := (cell_of_row _ _ _ _ _ _ Y0.out : W7.cell? ⟨b0, 0, none⟩ = _)
  have CT : Hid (Calls Try.prog 8 #[.pointer (some ⟨cb, 0, none⟩), .slice (some ⟨gx, 0, none⟩) L cx, .int .i64 size, .int .i64 stop, .slice pl N cl, .slice pc N cc] W7.drew fun e w' => e = .returned (.bool true) ∧ ∃ n vg vw xs us, n ≤ N ∧ GW W7.heap.size cb w1 vg vw xs us (pcL l s n) (pcL l s n) w' ∧ W7.drew.grownBy w' (some cb)) := hid (by
    have ow : ∀ {t : TypeId} {n : Nat} {v : Value} {ys : List Value} {B' : Nat}, w1.ownsRow B' t 1 v n ys → W7.drew.ownsRow B' t 1 v n ys := fun ho => own_ofL ho fun b e => B17.out.block b (own_typC ho e).1
    have h1 := through_ok w1 W7.drew cb (.slice (some ⟨gx, 0, none⟩) L cx) l size stop (.slice pl N cl) (.slice pc N cc) wB.heap.size wB.heap.size xs0 XC.out (HX0.out.below B37.out.drew) HLL.out (by rw [HN.out, HSz.out]; exact ow HPL.out)
      (by rw [HN.out, HSz.out]; exact HPC.out.own (fun b e => B17.out.block b (own_typC HPC.out.row e).1) (fun j hj b e => B17.out.block b (own_typC (HPC.out.apt.2.1 j hj) e).1))
      (by rw [HN.out, HSz.out]; exact fun j hj => HB.of_own (HPC.out.apt.2.1 j (by have := HPC.out.len; rw [pcL_len] at this; omega)) (HPC.out.byt j (by rw [pcL_len]; exact hj)))
    rw [HN.out, HSz.out] at h1
    exact h1)
  have HS0 : Hid ((fun V : World => V.cell? ⟨b0, 0, none⟩ = some (.int .i64 stop) ∧ V.cell? ⟨b2, 0, none⟩ = some (.slice pl N cl) ∧ V.cell? ⟨b3, 0, none⟩ = some (.slice pc N cc)) W7.drew) := hid ⟨(cell_of_row _ _ _ _ _ _ Y0.out).trans rfl, (cell_of_row _ _ _ _ _ _ Y2.out).trans rfl, (cell_of_row _ _ _ _ _ _ Y3.out).trans rfl⟩
  clear x0
  refine ch_held (S := (fun V : World => V.cell? ⟨b0, 0, none⟩ = some (.int .i64 stop) ∧ V.cell? ⟨b2, 0, none⟩ = some (.slice pl N cl) ∧ V.cell? ⟨b3, 0, none⟩ = some (.slice pc N cc))) (by kernel_rfl) HS0.out (fun hHeld => ?_)
  have HS := hid hHeld
  clear hHeld
  change wpAnyH _ _ _ _ _ _ _ _ (World.drew _)
  refine wpAnyH_take (i := 0) (v := ?_) rfl (by kernel_rfl) (by kernel_rfl) (by kernel_rfl) (fun _ _ _ h => by cases h.1) (Or.inl ⟨by rfl, ?q0⟩) HS.out ?_
  case q0 => intro w hSw; obtain ⟨hz0, hz1, hz2⟩ := hSw; go_simp; rfl
  simp only [Act.put, List.getElem_toArray, List.getElem_cons_zero, List.getElem_cons_succ, List.setIfInBounds_toArray, List.set_cons_zero, List.set_cons_succ]
  refine wpAnyH_take (i := 1) (v := ?_) rfl (by kernel_rfl) (by kernel_rfl) (by kernel_rfl) (fun _ _ _ h => by cases h.1) (Or.inl ⟨by rfl, ?q1⟩) HS.out ?_
  case q1 => intro w hSw; obtain ⟨hz0, hz1, hz2⟩ := hSw; go_simp; rfl
  simp only [Act.put, List.getElem_toArray, List.getElem_cons_zero, List.getElem_cons_succ, List.setIfInBounds_toArray, List.set_cons_zero, List.set_cons_succ]
  refine wpAnyH_take (i := 4) (v := ?_) rfl (by kernel_rfl) (by kernel_rfl) (by kernel_rfl) (fun _ _ _ h => by cases h.1) (Or.inl ⟨by rfl, ?q4⟩) HS.out ?_
  case q4 => intro w hSw; obtain ⟨hz0, hz1, hz2⟩ := hSw; go_simp; rfl
  simp only [Act.put, List.getElem_toArray, List.getElem_cons_zero, List.getElem_cons_succ, List.setIfInBounds_toArray, List.set_cons_zero, List.set_cons_succ]
  refine wpAnyH_take (i := 5) (v := ?_) rfl (by kernel_rfl) (by kernel_rfl) (by kernel_rfl) (fun _ _ _ h => by cases h.1) (Or.inl ⟨by rfl, ?q5⟩) HS.out ?_
  case q5 => intro w hSw; obtain ⟨hz0, hz1, hz2⟩ := hSw; go_simp; rfl
  simp only [Act.put, List.getElem_toArray, List.getElem_cons_zero, List.getElem_cons_succ, List.setIfInBounds_toArray, List.set_cons_zero, List.set_cons_succ]
  refine wpAnyH_take (i := 6) (v := ?_) rfl (by kernel_rfl) (by kernel_rfl) (by kernel_rfl) (fun _ _ _ h => by cases h.1) (Or.inl ⟨by rfl, ?q6⟩) HS.out ?_
  case q6 => intro w hSw; obtain ⟨hz0, hz1, hz2⟩ := hSw; go_simp; rfl
  simp only [Act.put, List.getElem_toArray, List.getElem_cons_zero, List.getElem_cons_succ, List.setIfInBounds_toArray, List.set_cons_zero, List.set_cons_succ]
  refine wpAnyH_take (i := 7) (v := ?_) rfl (by kernel_rfl) (by kernel_rfl) (by kernel_rfl) (fun _ _ _ h => by cases h.1) (Or.inl ⟨by rfl, ?q7⟩) HS.out ?_
  case q7 => intro w hSw; obtain ⟨hz0, hz1, hz2⟩ := hSw; go_simp; rfl
  simp only [Act.put, List.getElem_toArray, List.getElem_cons_zero, List.getElem_cons_succ, List.setIfInBounds_toArray, List.set_cons_zero, List.set_cons_succ]
  refine wpAnyH_take (i := 2) (v := ?_) rfl (by kernel_rfl) (by kernel_rfl) (by kernel_rfl) (fun _ _ _ h => by cases h.1) (Or.inl ⟨by rfl, ?q2⟩) HS.out ?_
  case q2 => intro w hSw; obtain ⟨hz0, hz1, hz2⟩ := hSw; go_simp; rfl
  simp only [Act.put, List.getElem_toArray, List.getElem_cons_zero, List.getElem_cons_succ, List.setIfInBounds_toArray, List.set_cons_zero, List.set_cons_succ]
  refine wpAnyH_take (i := 3) rfl (by kernel_rfl) (by kernel_rfl) (by kernel_rfl) (fun _ _ _ h => by cases h.1) (yieldsIf_slC (by rfl) 22 _ _ _ (by rw [elm22]; exact Try.underlying22) rfl (.slice (some ⟨gx, 0, none⟩) (L + 70) cx) none (some (.int .i64 (L : Int))) rfl rfl rfl _ (fun V _ => hsl V)) HS.out ?_
  simp only [Act.put, List.getElem_toArray, List.getElem_cons_zero, List.getElem_cons_succ, List.setIfInBounds_toArray, List.set_cons_zero, List.set_cons_succ]
  refine wpAnyH_ready (rs := [8]) (by kernel_rfl) (by simp) ?_
  refine AllReadyH.cons rfl (fun K hK => ?_) AllReadyH.nil
  replace hK := hid hK
  go_simp
  refine CT.out.mono ?_
  rintro e w8 ⟨rfl, n1, vg, vw, xs, us, hn1, hgw, hgr⟩
  have HGW8 := hid hgw
  have HGR8 := hid hgr
  have HN1 := hid hn1
  have hcz : w.heap.size ≤ cb ∧ cb < W7.heap.size ∧ b0 < cb ∧ b1 < cb ∧ b2 < cb ∧ b3 < cb ∧ b4 < cb ∧ gx < cb := by have h1 := ST.out; have h2 := S2.out; have h3 := S5.out; have h4 := S7.out; have h5 := Hcb.out; have h6 := B6.out.size; have h7 := B4.out.size; have h8 := B3.out.size; have h9 := HGX.out; have h10 := Hb2.out; have h11 := Hb3.out; have h12 := Hb4.out; have h13 := B1.out.size; omega
  have HCZ := hid hcz
  have Bg8 : Below w.heap.size W7.drew w8 := ⟨hgr.os, hgr.tape, hgr.output, hgr.size, fun i hi => hgr.block i (by show i < W7.heap.size; omega) (by intro e; cases e; omega)⟩
  have Bw8 := hid (Bw7.out.drew.trans Bg8)
  have hk8 : ∀ b, b < cb → w8.heap[b]? = W7.heap[b]? := fun b hb => hgr.block b (by show b < W7.heap.size; omega) (by intro e; cases e; omega)
  have Z0 := hid ((hk8 b0 hcz.2.2.1).trans Y0.out)
  have Z1 := hid ((hk8 b1 hcz.2.2.2.1).trans Y1.out)
  have Z2 := hid ((hk8 b2 hcz.2.2.2.2.1).trans Y2.out)
  have Z3 := hid ((hk8 b3 hcz.2.2.2.2.2.1).trans Y3.out)
  have Z4 := hid ((hk8 b4 hcz.2.2.2.2.2.2.1).trans Y4.out)
  have HFX8 := hid ((HFX.out.below B37.out.drew).other hgr (.inr (by intro e; have e : gx = cb := Option.some.inj e; omega)))
  have OX8 := hid (own_ofL (w' := w8) OX.out fun b e => by have h1 := (own_typC OX.out e).1; have e : gx = b := Option.some.inj e; rw [← e, hk8 gx hcz.2.2.2.2.2.2.2]; exact B37.out.block gx HGX.out.2)
  have C9 := hid (kept_any w8 _ _ (lent l) l HFX8.out (HBb.out.below Bw8.out) (by rw [HL.out]; omega))
  have HS8 : Hid ((fun V : World => V.cell? ⟨b0, 0, none⟩ = some (.int .i64 stop) ∧ V.cell? ⟨b2, 0, none⟩ = some (.slice pl N cl) ∧ V.cell? ⟨b3, 0, none⟩ = some (.slice pc N cc)) w8) := hid ⟨(cell_of_row _ _ _ _ _ _ Z0.out).trans rfl, (cell_of_row _ _ _ _ _ _ Z2.out).trans rfl, (cell_of_row _ _ _ _ _ _ Z3.out).trans rfl⟩
  clear hgw hgr hn1 hcz Bg8 hk8 CT HS0
  refine hK.out _ _ HS8.out (fun _ => ?_)
  clear hK K HS
  have HS := HS8
  try simp only [Act.put, List.getElem_toArray, List.getElem_cons_zero, List.getElem_cons_succ, List.setIfInBounds_toArray, List.set_cons_zero, List.set_cons_succ]
  refine wpAnyH_take (i := 9) (v := ?_) rfl (by kernel_rfl) (by kernel_rfl) (by kernel_rfl) (fun _ _ _ h => by cases h.1) (Or.inl ⟨by rfl, ?q9⟩) HS.out ?_
  case q9 => intro w hSw; obtain ⟨hz0, hz1, hz2⟩ := hSw; go_simp; rfl
  simp only [Act.put, List.getElem_toArray, List.getElem_cons_zero, List.getElem_cons_succ, List.setIfInBounds_toArray, List.set_cons_zero, List.set_cons_succ]
  refine wpAnyH_take (i := 10) (v := ?_) rfl (by kernel_rfl) (by kernel_rfl) (by kernel_rfl) (fun _ _ _ h => by cases h.1) (Or.inl ⟨by rfl, ?q10⟩) HS.out ?_
  case q10 => intro w hSw; obtain ⟨hz0, hz1, hz2⟩ := hSw; go_simp; rfl
  simp only [Act.put, List.getElem_toArray, List.getElem_cons_zero, List.getElem_cons_succ, List.setIfInBounds_toArray, List.set_cons_zero, List.set_cons_succ]
  refine wpAnyH_take (i := 11) (v := ?_) rfl (by kernel_rfl) (by kernel_rfl) (by kernel_rfl) (fun _ _ _ h => by cases h.1) (Or.inl ⟨by rfl, ?q11⟩) HS.out ?_
  case q11 => intro w hSw; obtain ⟨hz0, hz1, hz2⟩ := hSw; go_simp; rfl
  simp only [Act.put, List.getElem_toArray, List.getElem_cons_zero, List.getElem_cons_succ, List.setIfInBounds_toArray, List.set_cons_zero, List.set_cons_succ]
  refine wpAnyH_take (i := 12) (v := ?_) rfl (by kernel_rfl) (by kernel_rfl) (by kernel_rfl) (fun _ _ _ h => by cases h.1) (Or.inl ⟨by rfl, ?q12⟩) HS.out ?_
  case q12 => intro w hSw; obtain ⟨hz0, hz1, hz2⟩ := hSw; go_simp; rfl
  simp only [Act.put, List.getElem_toArray, List.getElem_cons_zero, List.getElem_cons_succ, List.setIfInBounds_toArray, List.set_cons_zero, List.set_cons_succ]
  refine wpAnyH_ready (rs := [13]) (by kernel_rfl) (by simp) ?_
  refine AllReadyH.cons rfl (fun K hK => ?_) AllReadyH.nil
  replace hK := hid hK
  go_simp
  refine C9.out.mono ?_
  rintro e w9 ⟨rfl, hB9⟩
  try simp only [decide_true]
  have B9 := hid hB9
  have HS9 : Hid ((fun V : World => V.cell? ⟨b0, 0, none⟩ = some (.int .i64 stop) ∧ V.cell? ⟨b2, 0, none⟩ = some (.slice pl N cl) ∧ V.cell? ⟨b3, 0, none⟩ = some (.slice pc N cc)) w9) := hid ⟨(hB9.cell (World.block_lt_of_cell? _ _ HS8.out.1)).trans HS8.out.1, (hB9.cell (World.block_lt_of_cell? _ _ HS8.out.2.1)).trans HS8.out.2.1, (hB9.cell (World.block_lt_of_cell? _ _ HS8.out.2.2)).trans HS8.out.2.2⟩
  clear hB9 C9
  refine hK.out _ _ HS9.out (fun _ => ?_)
  clear hK K HS
  have HS := HS9
  try simp only [Act.put, List.getElem_toArray, List.getElem_cons_zero, List.getElem_cons_succ, List.setIfInBounds_toArray, List.set_cons_zero, List.set_cons_succ]
  refine wpAnyH_take (i := 14) (v := ?_) rfl (by kernel_rfl) (by kernel_rfl) (by kernel_rfl) (fun _ _ _ h => by cases h.1) (Or.inl ⟨by rfl, ?q14⟩) HS.out ?_
  case q14 => intro w hSw; obtain ⟨hz0, hz1, hz2⟩ := hSw; go_simp; rfl
  simp only [Act.put, List.getElem_toArray, List.getElem_cons_zero, List.getElem_cons_succ, List.setIfInBounds_toArray, List.set_cons_zero, List.set_cons_succ]
  refine wpAnyH_take (i := 15) (v := ?_) rfl (by kernel_rfl) (by kernel_rfl) (by kernel_rfl) (fun _ _ _ h => by cases h.1) (Or.inl ⟨by rfl, ?q15⟩) HS.out ?_
  case q15 => intro w hSw; obtain ⟨hz0, hz1, hz2⟩ := hSw; go_simp; rfl
  simp only [Act.put, List.getElem_toArray, List.getElem_cons_zero, List.getElem_cons_succ, List.setIfInBounds_toArray, List.set_cons_zero, List.set_cons_succ]
  refine wpAnyH_done (by kernel_rfl) ⟨rfl, ?_⟩ _
  go_wp2_with fail
  have OX9 := hid (own_ofL (w' := w9) OX8.out fun b e => B9.out.block b (own_typC OX8.out e).1)
  have C10 := hid (over_any w9 _ _ _ _ OX9.out (by rw [lent_length]; have := HLL.out; omega))
  refine C10.out.mono ?_
  rintro e w10 ⟨rfl, -, hgr⟩
  have hgr : w9.grownBy w10 (some gx) := hgr
  have hcz := HCZ.out
  have hgx1 := HGX.out
  have HG9 : Hid (∀ b, b < w8.heap.size → b ≠ gx → w10.heap[b]? = w8.heap[b]?) := hid fun b hb hn => (hgr.block b (by have := B9.out.size; omega) (by intro e; cases e; exact hn rfl)).trans (B9.out.block b hb)
  have hs8 : cb < w8.heap.size := by have := HGR8.out.size; have : W7.heap.size ≤ w8.heap.size := this; omega
  have hgz : b0 < gx ∧ b1 < gx ∧ b2 < gx ∧ b3 < gx ∧ gx < b4 := by have h1 := ST.out; have h2 := S2.out; have h10 := Hb2.out; have h11 := Hb3.out; have h12 := Hb4.out; have h13 := B1.out.size; have h14 := B4.out.size; omega
  have VV0 := hid ((HG9.out b0 (by omega) (by omega)).trans Z0.out)
  have VV1 := hid ((HG9.out b1 (by omega) (by omega)).trans Z1.out)
  have VV2 := hid ((HG9.out b2 (by omega) (by omega)).trans Z2.out)
  have VV3 := hid ((HG9.out b3 (by omega) (by omega)).trans Z3.out)
  have VV4 := hid ((HG9.out b4 (by omega) (by omega)).trans Z4.out)
  have GW10 := hid (HGW8.out.keep (C := w10) fun b hb => HG9.out b (HGW8.out.lt b hb) (by rcases HGW8.out.low b hb with e | e <;> omega))
  have hk8 : ∀ b, b < cb → w8.heap[b]? = W7.heap[b]? := fun b hb => HGR8.out.block b (by show b < W7.heap.size; omega) (by intro e; cases e; omega)
  have HDl4 : Hid (∀ i, D i → w3.heap.size ≤ i ∧ i < b4) := hid fun i hi => ⟨HDl.out i hi, by have := IT.out.lt i hi; have := Hb4.out; omega⟩
  have B47 : Below w4.heap.size w4 W7 := B45.out.trans (B57.out.mono B45.out.size)
  have HKD : Hid (KE D w4 w10) := hid ⟨by have h1 := B47.size; have h2 := HGR8.out.size; have h3 := B9.out.size; have h4 := hgr.size; have h2 : W7.heap.size ≤ w8.heap.size := h2; omega, fun i hi => by
    have h1 := HDl4.out i hi
    rw [HG9.out i (by omega) (by omega), hk8 i (by omega)]
    exact B47.block i (IT.out.lt i hi)⟩
  have IT10 := hid (IT.out.kept HKD.out)
  have Bz : Below w1.heap.size w1 W7 := B17.out
  have GB10 : Hid (w1.grownBy w10 (some cb)) := hid ⟨hgr.os.trans (B9.out.os.trans (HGR8.out.os.trans Bz.os)), hgr.tape.trans (B9.out.tape.trans (HGR8.out.tape.trans Bz.drew.tape)), hgr.output.trans (B9.out.output.trans (HGR8.out.output.trans Bz.output)), by have h1 := Bz.size; have h2 := HGR8.out.size; have h3 := B9.out.size; have h4 := hgr.size; have h2 : W7.heap.size ≤ w8.heap.size := h2; omega, fun i hi hne => by
    have h12 := Hb2.out
    rw [HG9.out i (by omega) (by omega), hk8 i (by omega)]
    exact Bz.block i hi⟩
  have HS10 : Hid (w8.heap.size ≤ w10.heap.size) := hid (by have h3 := B9.out.size; have h4 := hgr.size; omega)
  have hS1 : w1.heap.size = b2 := Hb2.out
  have M10 : Hid (MC w1 cb [(b0, .cells #[.int .i64 stop] 3 (0, 0)), (b1, .cells #[.bool false] 4 (0, 0)), (b2, .cells #[.slice pl N cl] 23 (0, 0)), (b3, .cells #[.slice pc N cc] 24 (0, 0)), (b4, .cells #[.func (.func gf) #[] lb] 29 (0, 0))] D w10) := hid ⟨fun q hq => by
      have nd : ∀ b, b < gx ∨ b = b4 → ¬ D b := fun b hb hd => by have := HDl4.out b hd; omega
      simp only [List.mem_cons, List.not_mem_nil, or_false] at hq
      rcases hq with rfl | rfl | rfl | rfl | rfl
      · exact ⟨VV0.out, nd _ (.inl hgz.1)⟩
      · exact ⟨VV1.out, nd _ (.inl hgz.2.1)⟩
      · exact ⟨VV2.out, nd _ (.inl hgz.2.2.1)⟩
      · exact ⟨VV3.out, nd _ (.inl hgz.2.2.2.1)⟩
      · exact ⟨VV4.out, nd _ (.inr rfl)⟩, fun i hi => by have := HDl4.out i hi; omega, GB10.out⟩
  have HGD10 : Hid (∀ b, gwB cb vg vw xs b → ¬ D b) := hid fun b hb hd => by
    have h1 := HDl4.out b hd
    rcases HGW8.out.low b hb with e | e <;> omega
  obtain ⟨B7, HB7⟩ : ∃ x, Hid (W7.heap.size = x) := ⟨_, rfl⟩
  have hB7 := HB7.out
  rw [HB7.out] at GW10
  obtain ⟨ls0, HLS0⟩ : ∃ x, Hid (pcL l s n1 = x) := ⟨_, rfl⟩
  have HLL0 : Hid (ls0.length ≤ 4000) := hid (by rw [← HLS0.out, pcL_len]; exact Nat.le_trans HN1.out HN4.out)
  rw [HLS0.out] at GW10
  obtain ⟨Bx, HBX⟩ : ∃ x : List (Nat × Obj), Hid (x = [(b0, .cells #[.int .i64 stop] 3 (0, 0)), (b1, .cells #[.bool false] 4 (0, 0)), (b2, .cells #[.slice pl N cl] 23 (0, 0)), (b3, .cells #[.slice pc N cc] 24 (0, 0)), (b4, .cells #[.func (.func gf) #[] lb] 29 (0, 0))]) := ⟨_, rfl⟩
  have m0 : Hid ((b0, Obj.cells #[.int .i64 stop] 3 (0, 0)) ∈ Bx) := hid (by rw [HBX.out]; simp)
  have m1 : Hid ((b1, Obj.cells #[.bool false] 4 (0, 0)) ∈ Bx) := hid (by rw [HBX.out]; simp)
  have m2 : Hid ((b2, Obj.cells #[.slice pl N cl] 23 (0, 0)) ∈ Bx) := hid (by rw [HBX.out]; simp)
  have m3 : Hid ((b3, Obj.cells #[.slice pc N cc] 24 (0, 0)) ∈ Bx) := hid (by rw [HBX.out]; simp)
  have m4 : Hid ((b4, Obj.cells #[.func (.func gf) #[] lb] 29 (0, 0)) ∈ Bx) := hid (by rw [HBX.out]; simp)
  have G10 : Hid (GI B7 cb w1 w1 Bx ls0 D w10) := hid ⟨⟨vg, vw, xs, us, ⟨GW10.out, HGD10.out⟩, fun p hp q => by
    have h1 := GW10.out.low _ q
    rw [HBX.out] at hp
    simp only [List.mem_cons, List.not_mem_nil, or_false] at hp
    rcases hp with rfl | rfl | rfl | rfl | rfl <;> simp only at h1 <;> omega⟩, by rw [HBX.out]; exact M10.out⟩
  have HD10 : Hid (∀ i, D i → i < w10.heap.size) := hid fun i hi => by have h1 := HDl4.out i hi; have h2 := HS10.out; omega
  have hBz : Hid (B7 = cb + 1 ∧ w1.heap.size = b2 ∧ b2 < cb ∧ B7 ≤ w10.heap.size) := hid ⟨by have := S7.out; omega, hS1, by omega, by have h1 := HGR8.out.size; have h2 := HS10.out; have h1 : W7.heap.size ≤ w8.heap.size := h1; omega⟩
  have hItN := IT10.out.it (9 - 1)
  rw [HN.out, HSz.out] at hItN
  have HIT := hid hItN
  obtain ⟨V0, HV0⟩ : ∃ x, Hid (w10.alloc (.cells #[.int .i64 0] 3) = x) := ⟨_, rfl⟩
  have G0 : Hid (GI B7 cb w1 w1 (Bx ++ [(w10.heap.size, .cells #[.int .i64 0] 3 (0, 0))]) ls0 D V0) := by rw [← HV0.out]; exact hid (G10.out.alloc HD10.out _ _)
  have K0 : Hid (KE D w10 V0) := hid (by rw [← HV0.out]; exact ⟨by simp, fun i hi => Below.heap_alloc _ _ _ (HD10.out i hi)⟩)
  have hmx : Try.prog.follows .mixedOrders = true := by kernel_rfl
  clear hgr hcz hgx1 hs8 hgz hk8 B47 Bz hS1 hB7 hItN
  clear C10 OX9
  go_wp2
  rw [HV0.out]
  refine wp_loop_rounds 4 ?_
  rw [rounds_succ]
  have c12 : V0.cell? ⟨w10.heap.size, 0, none⟩ = some (.int .i64 0) := G0.out.cell (t := 3) (List.mem_append_right _ (by simp))
  obtain ⟨Va0, HVa⟩ : ∃ Va, Hid (V0.alloc (.cells #[.int .i64 0] 3) = Va) := ⟨_, rfl⟩
  have HDV : Hid (∀ i, D i → i < V0.heap.size) := hid fun i hi => Nat.lt_of_lt_of_le (HD10.out i hi) K0.out.1
  have GA : Hid (GI B7 cb w1 w1 ((Bx ++ [(w10.heap.size, Obj.cells #[.int .i64 0] 3 (0, 0))]) ++ [(V0.heap.size, Obj.cells #[.int .i64 0] 3 (0, 0))]) ls0 D Va0) := by rw [← HVa.out]; exact hid (G0.out.alloc HDV.out _ _)
  have KA0 : Hid (KE D w10 Va0) := hid (K0.out.trans (by rw [← HVa.out]; exact ⟨by simp, fun i hi => Below.heap_alloc _ _ _ (HDV.out i hi)⟩))
  have HsVa0 : Hid (Va0.heap.size = V0.heap.size + 1) := by rw [← HVa.out]; exact hid (by simp)
  obtain ⟨Mf0, HMf⟩ : ∃ Mf : Nat → List (Nat × Obj), Hid (∀ k : Nat, Mf k = ((Bx ++ [(w10.heap.size, Obj.cells #[.int .i64 0] 3 (0, 0))]) ++ [(V0.heap.size, Obj.cells #[.int .i64 (k : Int)] 3 (0, 0))])) := ⟨_, fun _ => rfl⟩
  have HN13 : Hid (∀ p ∈ (Bx ++ [(w10.heap.size, Obj.cells #[.int .i64 0] 3 (0, 0))]), p.1 ≠ V0.heap.size) := hid fun p hp e => by have := (Array.getElem?_eq_some_iff.1 (G0.out.2.m p hp).1).1; omega
  have c11a : (V0.alloc (.cells #[.int .i64 0] 3)).cell? ⟨b4, 0, none⟩ = some (.func (.func gf) #[] lb) := by
    rw [HVa.out]
    exact GA.out.cell (t := 29) (List.mem_append_left _ (List.mem_append_left _ m4.out))
  go_wp2
  rename_i Kx hKx
  rw [HVa.out]
  clear c11a c12
  refine keyedC (P := fun d W => (∃ k : Nat, (k = N ∧ k ≤ N) ∧ GI B7 cb w1 w1 (Mf0 k) (ls0 ++ pcL l s k) (fun i => D i ∨ i = d) W) ∧ Va0.heap.size ≤ d ∧ W.heap[d]? = some (.deferred (some [])) ∧ KE D Va0 W) (K := Kx) ?A0 ?key0 (fun key => ?main0)
  case main0 =>
    refine (wpIn_wide (n := 9)).1 ?_
    apply range_fitW rfl (by decide) (gf := gf) (lb := lb) rfl trivial IT10.out.en HIT.out KA0.out (fun i hi => Nat.lt_of_lt_of_le (HD10.out i hi) KA0.out.1) (fun _ _ => rfl)
      (fun k E W => k ≤ N ∧ GI B7 cb w1 w1 (Mf0 k) (ls0 ++ pcL l s k) E W) (fun _ _ _ => False)
      (jn_GI B7 cb w1 w1 Mf0 (fun k => ls0 ++ pcL l s k) (fun k => k ≤ N)) ⟨fun _ _ _ _ h _ => h, fun _ _ _ _ _ h _ _ _ => h, fun _ _ _ _ h _ => h⟩
      ⟨Nat.zero_le _, by rw [HMf.out 0]; have := GA.out; simpa [pcL] using this⟩ (fitS_ch l s)
    case hassign =>
      intro l' k v W K hK
      gi_wp2
      exact hK
    case hdone =>
      intro d W hd hG hdf hke
      show Kx _ _
      exact key d W ⟨⟨N, ⟨rfl, hG.1⟩, hG.2⟩, hd, hdf, hke⟩
    case hstop =>
      intro d cc W _ h _ _
      exact h.elim
    case hbody =>
      rintro lp k v E A W hlp hE hr ⟨hkN0, ⟨vg, vw, xs, us, hgw, hgm⟩, hmc⟩ hEl hcar hAW hf hDE hke hk
      rw [HMf.out k] at hgm hmc
      obtain ⟨lk, HLK⟩ : ∃ x, Hid (ls0 ++ pcL l s k = x) := ⟨_, rfl⟩
      rw [HLK.out] at hgw
      have HLKS : Hid (ls0 ++ pcL l s (k + 1) = lk ++ [chPiece l s k]) := hid (by rw [pcL_succ, ← List.append_assoc, HLK.out])
      have HLKL : Hid (lk.length ≤ 16000) := hid (by rw [← HLK.out, List.length_append, pcL_len]; have := HLL0.out; have := HN4.out; omega)
      obtain ⟨⟨hgW, hgE⟩, hMW⟩ := hcar _ (jn_GW B7 cb w1 w1 ((Bx ++ [(w10.heap.size, Obj.cells #[.int .i64 0] 3 (0, 0))]) ++ [(V0.heap.size, Obj.cells #[.int .i64 (k : Int)] 3 (0, 0))]) vg vw xs us lk lk) ⟨hgw, hmc⟩
      have HGS := hid hgw.1.lt
      have HGM := hid hgm
      have HEL := hid hEl
      have HAW := hid hAW
      have HAS : Hid (B7 ≤ A.heap.size) := hid (by have := hgw.1.lt cb (.inl rfl); have := hBz.out; omega)
      have HMA := hid fun p hp => (Array.getElem?_eq_some_iff.1 (hmc.m p hp).1).1
      have hne : ∀ {t : TypeId} {n : Nat} {v : Value} {ys : List Value} {B' : Nat}, w1.ownsRow B' t 1 v n ys → ∀ b, v.ownBlock = some b → W.heap[b]? = w1.heap[b]? := fun ho b e => hMW.g.block b (own_typC ho e).1 fun z => by
        have h1 := (own_typC ho e).1
        have z : b = cb := Option.some.inj z
        have := hBz.out
        omega
      have hplW := own_ofL HPL.out (hne HPL.out)
      have hpcW : PX wB.heap.size W (.slice pc N cc) xs0 (pcL l s N) := HPC.out.own (hne HPC.out.row) (fun j hj b e => hne (HPC.out.apt.2.1 j hj) b e)
      obtain ⟨gp, epl⟩ : ∃ g, pl = some ⟨g, 0, none⟩ := by
        rcases HPL.out.2 with ⟨e, h0⟩ | ⟨g, cap, cur, e, _⟩
        · omega
        · exact ⟨g, by cases e; rfl⟩
      obtain ⟨gq, epc⟩ : ∃ g, pc = some ⟨g, 0, none⟩ := by
        rcases HPC.out.row.2 with ⟨e, h0⟩ | ⟨g, cap, cur, e, _⟩
        · rw [pcL_len] at h0; omega
        · simp only [Value.slice.injEq] at e
          exact ⟨g, e.1⟩
      have hx0 : xs0.length = N := by have := HPC.out.len; rw [pcL_len] at this; exact this
      have z1 : W.cell? ⟨gp, k, none⟩ = some (.int .i64 ((chAt s k : Nat) : Int)) := by
        rw [epl] at hplW
        rw [hplW.cellAt k (by omega)]
        simp [plL, hk]
      obtain ⟨u, HU⟩ : ∃ u, Hid (xs0.getD k undef = u) := ⟨_, rfl⟩
      have z2 : W.cell? ⟨gq, k, none⟩ = some u := by
        have := hpcW.row
        rw [epc, pcL_len] at this
        rw [this.cellAt k (by omega), ← HU.out]
        simp [List.getD, hx0, hk]
      have hbuW : HB W u (chPiece l s k) := by
        have := HB.of_own (hpcW.apt.2.1 k (by omega)) (hpcW.byt k (by rw [pcL_len]; omega))
        rw [HU.out, pcL_get _ _ hk] at this
        exact this
      have hbuw : HB w1 u (chPiece l s k) := by
        have := HB.of_own (HPC.out.apt.2.1 k (by omega)) (HPC.out.byt k (by rw [pcL_len]; omega))
        rw [HU.out, pcL_get _ _ hk] at this
        exact this
      have HUw := hid hbuw
      obtain ⟨LP, HLP⟩ : ∃ x, Hid ((chPiece l s k).length = x) := ⟨_, rfl⟩
      have hbv : HB W v (chPiece l s k) := HB.of_own hf hbuW.2
      obtain ⟨pu, cu, eu, _, _⟩ := hbuW.open
      obtain ⟨pv, cv, ev, _, _⟩ := hbv.open
      rw [HLP.out] at eu ev
      subst eu
      subst ev
      obtain ⟨pg, cg, eg⟩ := own_slc hgW.g.row
      obtain ⟨pw, cw, ew⟩ := own_slc hgW.u
      subst eg
      subst ew
      have HF := hid hf
      obtain ⟨T, HT⟩ : ∃ x, Hid (lk.length = x) := ⟨_, rfl⟩
      have CS : Hid (Calls Try.prog 10 #[.slice pv LP cv, .slice pu LP cu] W fun e w' => e = .returned (.bool true) ∧ Dr W w') := hid ((sameBytes_any W _ _ _ _ hbv hbuW).mono fun e w' ⟨q1, q2⟩ => ⟨by rw [q1]; simp, q2⟩)
      have HMW := hid hMW
      have HGW := hid hgW
      have HGE := hid hgE
      have c2 := hMW.cell (b := b2) (t := 23) (v := .slice pl N cl) (List.mem_append_left _ (List.mem_append_left _ m2.out))
      have c3 := hMW.cell (b := b3) (t := 24) (v := .slice pc N cc) (List.mem_append_left _ (List.mem_append_left _ m3.out))
      have c13 := hMW.cell (b := V0.heap.size) (t := 3) (v := .int .i64 (k : Int)) (List.mem_append_right _ (by simp))
      have hge : ¬ ((k : Int) ≥ (N : Int)) := by omega
      have hkb : (k : Int) + 1 ≤ 4001 := by have := HN4.out; omega
      have hnn : (((chAt s k : Nat) : Int) != ((chAt s k : Nat) : Int)) = false := by simp
      obtain ⟨Pk, HPk⟩ : ∃ x, Hid (chAt s k = x) := ⟨_, rfl⟩
      have HGQ : Hid (gq < w1.heap.size) := hid (own_typC (k := gq) HPC.out.row (by rw [epc]; rfl)).1
      have Z2' := hid z2
      rw [HPk.out] at z1 hnn ⊢
      subst epl
      subst epc
      clear hgW hgE hMW hgw hgm hmc hcar hplW hpcW hbuW hbuw hbv hf hne hEl
      gi_wp2
      refine ⟨trivial, callRC (CS.out.mono ?_)⟩
      rintro e wS ⟨rfl, hd1⟩
      have HWS : Hid (wS.heap = W.heap) := hid hd1.heap
      have HKS : Hid (KE E W wS) := hid ⟨by rw [hd1.heap]; exact Nat.le_refl _, fun i _ => by rw [hd1.heap]⟩
      obtain ⟨⟨hgS, hgE⟩, hMS⟩ := (jn_GW B7 cb w1 w1 ((Bx ++ [(w10.heap.size, Obj.cells #[.int .i64 0] 3 (0, 0))]) ++ [(V0.heap.size, Obj.cells #[.int .i64 (k : Int)] 3 (0, 0))]) _ _ xs us lk lk).grown (s := ()) ⟨⟨HGW.out, HGE.out⟩, HMW.out⟩ (grown_below (r := none) (hd1.below W.heap.size))
      have hV1 : w1.heap.size ≤ V0.heap.size := G0.out.2.g.size
      have hgV := HGM.out (V0.heap.size, .cells #[.int .i64 (k : Int)] 3 (0, 0)) (List.mem_append_right _ (by simp))
      have heV := (HMW.out.m (V0.heap.size, .cells #[.int .i64 (k : Int)] 3 (0, 0)) (List.mem_append_right _ (by simp))).2
      have HMN := hid (hMS.set (v' := .int .i64 ((k : Int) + 1)) hV1 HN13.out)
      have HGN := hid (gw_set (i := 0) hgS hgV (.int .i64 ((k : Int) + 1)))
      have HKN := hid (HKS.out.trans (ke_set (i := 0) heV (.int .i64 ((k : Int) + 1))))
      have hWSz : W.heap.size = wS.heap.size := by rw [hd1.heap]
      have hAW0 := HAW.out
      have hAS0 := HAS.out
      have hVA : V0.heap.size < A.heap.size := HMA.out (V0.heap.size, .cells #[.int .i64 (k : Int)] 3 (0, 0)) (List.mem_append_right _ (List.mem_singleton.2 rfl))
      have hz10 : w10.heap.size ≤ V0.heap.size := K0.out.1
      have hfN : (wS.setCell ⟨V0.heap.size, 0, none⟩ (.int .i64 ((k : Int) + 1))).ownsRow A.heap.size 5 1 (.slice pv LP cv) (chPiece l s k).length ((chPiece l s k).map (Value.int .u8)) := own_ofL HF.out fun b e => by
        have h1 := (own_typC HF.out e).2.1
        rw [heap_setCell_other _ _ _ _ (by show b ≠ V0.heap.size; omega), hd1.heap]
      have hgm1 := last_keys (o' := .cells #[.int .i64 ((k : Int) + 1)] 3 (0, 0)) (Q := fun b => ¬ gwB cb (.slice pg lk.length cg) (.slice pw lk.length cw) xs b) HGM.out
      have hma1 := last_keys (o' := .cells #[.int .i64 ((k : Int) + 1)] 3 (0, 0)) (Q := fun b => b < A.heap.size) HMA.out
      have hq1 := HGQ.out
      obtain ⟨hz1, hz2, hz3, hz4⟩ := hBz.out
      obtain ⟨pg2, cg2, W2', pw2, cw2, W4, hrun, hcb2, hc3, hM3, hq3, hrun4, hcb4, hm4, hq4, hgw5, hge5, hgm5, hm5, hk5⟩ := HGN.out.both (S := A.heap.size) (gq := gq) (w := w1) hgE hgm1 HMN.out HGS.out hAS0 HEL.out hma1 hfN HUw.out (by simp; omega) (by omega) (by omega) HLKL.out (by simp; omega) (by omega) (by omega)
      rw [HT.out] at hrun hcb2 hc3 hM3 hq3 hrun4 hcb4 hgw5 hge5 hgm5 hm5 hk5
      have HRUN := hid hrun
      have HCB2 := hid hcb2
      have HRUN4 := hid hrun4
      have HCB4 := hid hcb4
      have hszN : (wS.setCell ⟨V0.heap.size, 0, none⟩ (.int .i64 ((k : Int) + 1))).heap.size = wS.heap.size := by simp
      rw [hszN] at HRUN
      have FG : Hid (GI B7 cb w1 w1 (Mf0 (k + 1)) (ls0 ++ pcL l s (k + 1)) E (W4.setCell ⟨cb, 1, none⟩ (.slice pw2 (T + 1) cw2))) := hid (by
        rw [HMf.out (k + 1), HLKS.out, show ((k + 1 : Nat) : Int) = (k : Int) + 1 by omega]
        exact ⟨⟨_, _, _, _, ⟨hgw5, hge5⟩, hgm5⟩, hm5⟩)
      have HM5 := hid hm5
      have HK5 := hid (HKN.out.trans hk5)
      have hWS : wS.heap[gq]? = W.heap[gq]? := by rw [hd1.heap]
      have hWN : (wS.setCell ⟨V0.heap.size, 0, none⟩ (.int .i64 ((k : Int) + 1))).heap[gq]? = wS.heap[gq]? := heap_setCell_other _ _ _ _ (by show gq ≠ V0.heap.size; omega)
      have S3 : Hid ((fun X : World => X.cell? ⟨cb, 1, none⟩ = some (.slice pw T cw) ∧ X.cell? ⟨b3, 0, none⟩ = some (.slice (some ⟨gq, 0, none⟩) N cc) ∧ X.cell? ⟨V0.heap.size, 0, none⟩ = some (.int .i64 ((k : Int) + 1)) ∧ X.cell? ⟨gq, k, none⟩ = some (.slice pu LP cu)) (W2'.setCell ⟨cb, 0, none⟩ (.slice pg2 (T + 1) cg2))) := hid
        ⟨hc3, hM3.cell (b := b3) (t := 24) (List.mem_append_left _ (List.mem_append_left _ m3.out)), hM3.cell (b := V0.heap.size) (t := 3) (List.mem_append_right _ (by simp)), (World.cell?_of_block (a := ⟨gq, k, none⟩) (hq3.trans (hWN.trans hWS))).trans Z2'.out⟩
      have S4 : Hid ((fun X : World => X.cell? ⟨cb, 1, none⟩ = some (.slice pw T cw) ∧ X.cell? ⟨b3, 0, none⟩ = some (.slice (some ⟨gq, 0, none⟩) N cc) ∧ X.cell? ⟨V0.heap.size, 0, none⟩ = some (.int .i64 ((k : Int) + 1)) ∧ X.cell? ⟨gq, k, none⟩ = some (.slice pu LP cu)) W4) := hid
        ⟨(cell_of_row _ _ _ _ _ _ hcb4).trans rfl, (cell_of_row _ _ _ _ _ _ (hm4 (b3, .cells #[.slice (some ⟨gq, 0, none⟩) N cc] 24 (0, 0)) (List.mem_append_left _ (List.mem_append_left _ m3.out)))).trans rfl, (cell_of_row _ _ _ _ _ _ (hm4 (V0.heap.size, .cells #[.int .i64 ((k : Int) + 1)] 3 (0, 0)) (List.mem_append_right _ (by simp)))).trans rfl, (World.cell?_of_block (a := ⟨gq, k, none⟩) (hq4.trans (hWN.trans hWS))).trans Z2'.out⟩
      have c13 : wS.cell? ⟨V0.heap.size, 0, none⟩ = some (.int .i64 (k : Int)) := hMS.cell (t := 3) (List.mem_append_right _ (by simp))
      have f13 : wS.frozen? ⟨V0.heap.size, 0, none⟩ = false := by simp [World.frozen?, hMS.at (b := V0.heap.size) (o := .cells #[.int .i64 (k : Int)] 3 (0, 0)) (List.mem_append_right _ (by simp))]
      have ccb : wS.cell? ⟨cb, 0, none⟩ = some (.slice pg T cg) := by rw [← HT.out]; exact (cell_of_row _ _ _ _ _ _ hgS.c).trans rfl
      have ncb : ¬ (cb = V0.heap.size) := by omega
      have ncb' : ¬ (V0.heap.size = cb) := fun e => ncb e.symm
      have f02 : W2'.frozen? ⟨cb, 0, none⟩ = false := by simp [World.frozen?, HCB2.out]
      have c02 : W2'.cell? ⟨cb, 0, none⟩ = some (.slice pg T cg) := (cell_of_row _ _ _ _ _ _ HCB2.out).trans rfl
      clear hgS hgE hMS hgV heV hfN hrun hcb2 hc3 hM3 hq3 hrun4 hcb4 hm4 hq4 hgw5 hge5 hgm5 hm5 hk5 hgm1 hma1 hd1 CS c2 c3 hWSz hAW0 hAS0 hVA hV1 hz10 hWS hWN hz1 hz2 hz3 hz4 hq1
      gi_wp2_with (gi_at_builtin; refine wpListIn_appC (.tmp 92) (.tmp 94) rfl rfl rfl rfl HRUN.out ?_)
      obtain ⟨W3, HW3⟩ : ∃ x, Hid (W2'.setCell ⟨cb, 0, none⟩ (.slice pg2 (T + 1) cg2) = x) := ⟨_, rfl⟩
      rw [HW3.out] at S3 HRUN4 ⊢
      clear HW3 HRUN HCB2 f02 c02 ccb f13 c13
      have HSS := S3
      refine in_region_N hmx (by kernel_rfl) 10 (S := (fun X : World => X.cell? ⟨cb, 1, none⟩ = some (.slice pw T cw) ∧ X.cell? ⟨b3, 0, none⟩ = some (.slice (some ⟨gq, 0, none⟩) N cc) ∧ X.cell? ⟨V0.heap.size, 0, none⟩ = some (.int .i64 ((k : Int) + 1)) ∧ X.cell? ⟨gq, k, none⟩ = some (.slice pu LP cu))) ?_
      change Ev.wpN _ _ _ _ _ _ _ _ _ (World.drew _)
      refine Ev.wpN_load (i := 0) (v := ?_) rfl (by kernel_rfl) (by kernel_rfl) (by kernel_rfl) (fun _ _ _ h => by cases h.1) (by rfl) (by kernel_rfl) (Or.inl ⟨by rfl, ?q0⟩) HSS.out ?_
      case q0 => intro w hSw; obtain ⟨hz0, hz1, hz2, hz3⟩ := hSw; go_simp; rfl
      simp only [Act.put, List.getElem_toArray, List.getElem_cons_zero, List.getElem_cons_succ, List.setIfInBounds_toArray, List.set_cons_zero, List.set_cons_succ]
      refine Ev.wpN_load (i := 1) (v := ?_) rfl (by kernel_rfl) (by kernel_rfl) (by kernel_rfl) (fun _ _ _ h => by cases h.1) (by rfl) (by kernel_rfl) (Or.inl ⟨by rfl, ?q1⟩) HSS.out ?_
      case q1 => intro w hSw; obtain ⟨hz0, hz1, hz2, hz3⟩ := hSw; go_simp; rfl
      simp only [Act.put, List.getElem_toArray, List.getElem_cons_zero, List.getElem_cons_succ, List.setIfInBounds_toArray, List.set_cons_zero, List.set_cons_succ]
      refine Ev.wpN_load (i := 2) (v := ?_) rfl (by kernel_rfl) (by kernel_rfl) (by kernel_rfl) (fun _ _ _ h => by cases h.1) (by rfl) (by kernel_rfl) (Or.inl ⟨by rfl, ?q2⟩) HSS.out ?_
      case q2 => intro w hSw; obtain ⟨hz0, hz1, hz2, hz3⟩ := hSw; go_simp; rfl
      simp only [Act.put, List.getElem_toArray, List.getElem_cons_zero, List.getElem_cons_succ, List.setIfInBounds_toArray, List.set_cons_zero, List.set_cons_succ]
      refine Ev.wpN_load (i := 3) (v := ?_) rfl (by kernel_rfl) (by kernel_rfl) (by kernel_rfl) (fun _ _ _ h => by cases h.1) (by rfl) (by kernel_rfl) (Or.inl ⟨by rfl, ?q3⟩) HSS.out ?_
      case q3 => intro w hSw; obtain ⟨hz0, hz1, hz2, hz3⟩ := hSw; go_simp; rfl
      simp only [Act.put, List.getElem_toArray, List.getElem_cons_zero, List.getElem_cons_succ, List.setIfInBounds_toArray, List.set_cons_zero, List.set_cons_succ]
      refine Ev.wpN_load (i := 4) (v := .int .i64 (k : Int)) rfl (by kernel_rfl) (by kernel_rfl) (by kernel_rfl) (fun _ _ _ h => by cases h.1) (by rfl) (by kernel_rfl) (Or.inl ⟨by rfl, ?q4⟩) HSS.out ?_
      case q4 => intro w hSw; obtain ⟨hz0, hz1, hz2, hz3⟩ := hSw; go_simp; rw [show IntKind.i64.wrap (k : Int) = (k : Int) by rw [IntKind.wrap_i64]; omega]
      simp only [Act.put, List.getElem_toArray, List.getElem_cons_zero, List.getElem_cons_succ, List.setIfInBounds_toArray, List.set_cons_zero, List.set_cons_succ]
      refine Ev.wpN_load (i := 5) (v := ?_) rfl (by kernel_rfl) (by kernel_rfl) (by kernel_rfl) (fun _ _ _ h => by cases h.1) (by rfl) (by kernel_rfl) (Or.inl ⟨by rfl, ?q5⟩) HSS.out ?_
      case q5 => intro w hSw; obtain ⟨hz0, hz1, hz2, hz3⟩ := hSw; go_simp; rfl
      simp only [Act.put, List.getElem_toArray, List.getElem_cons_zero, List.getElem_cons_succ, List.setIfInBounds_toArray, List.set_cons_zero, List.set_cons_succ]
      refine Ev.wpN_load (i := 6) (v := ?_) rfl (by kernel_rfl) (by kernel_rfl) (by kernel_rfl) (fun _ _ _ h => by cases h.1) (by rfl) (by kernel_rfl) (Or.inl ⟨by rfl, ?q6⟩) HSS.out ?_
      case q6 => intro w hSw; obtain ⟨hz0, hz1, hz2, hz3⟩ := hSw; go_simp; rfl
      simp only [Act.put, List.getElem_toArray, List.getElem_cons_zero, List.getElem_cons_succ, List.setIfInBounds_toArray, List.set_cons_zero, List.set_cons_succ]
      refine Ev.wpN_step (i := 7) (by kernel_rfl) rfl rfl ?_
      refine owp_litC 24 1 _ rfl #[(0, .slice pu LP cu)] (by go_simp) _ (run_lit_bsC _ _ _ _) ?_
      have hal : Below W3.drew.heap.size W3.drew (W3.drew.alloc (.cells #[.slice pu LP cu] 22)) := (Below.refl _ _).alloc (Nat.le_refl _) _
      refine ⟨.inl ⟨(hal.cell (World.block_lt_of_cell? _ _ S3.out.1)).trans S3.out.1, (hal.cell (World.block_lt_of_cell? _ _ S3.out.2.1)).trans S3.out.2.1, (hal.cell (World.block_lt_of_cell? _ _ S3.out.2.2.1)).trans S3.out.2.2.1, (hal.cell (World.block_lt_of_cell? _ _ S3.out.2.2.2)).trans S3.out.2.2.2⟩, ?_⟩
      simp only [Act.put, List.getElem_toArray, List.getElem_cons_zero, List.getElem_cons_succ, List.setIfInBounds_toArray, List.set_cons_zero, List.set_cons_succ]
      refine Ev.wpN_step (i := 8) (by kernel_rfl) rfl rfl ?_
      refine owp_appendC (.tmp 98) (.tmp 104) rfl rfl rfl HRUN4.out ?_
      refine ⟨.inl S4.out, ?_⟩
      obtain ⟨c02, c03, c05, c0g⟩ := S4.out
      have f02 : W4.frozen? ⟨cb, 1, none⟩ = false := by simp [World.frozen?, HCB4.out]
      try simp only [Act.put, List.getElem_toArray, List.getElem_cons_zero, List.getElem_cons_succ, List.setIfInBounds_toArray, List.set_cons_zero, List.set_cons_succ]
      refine Ev.wpN_step (i := 9) (by kernel_rfl) rfl rfl ?_
      go_simp
      try simp only [Act.put, List.getElem_toArray, List.getElem_cons_zero, List.getElem_cons_succ, List.setIfInBounds_toArray, List.set_cons_zero, List.set_cons_succ]
      refine Ev.wpN_step (i := 10) (by kernel_rfl) rfl rfl ?_
      go_simp
      refine Ev.wpN_end (by kernel_rfl) ⟨rfl, ?_⟩
      rename_i K hK
      refine hK _ _ ?_
      clear hK K hal c02 f02 c03 c05 c0g S3 S4 HSS HRUN4 HCB4
      obtain ⟨W5, HW5⟩ : ∃ x, Hid (W4.setCell ⟨cb, 1, none⟩ (.slice pw2 (T + 1) cw2) = x) := ⟨_, hid rfl⟩
      rw [HW5.out] at FG HM5 HK5 ⊢
      clear HW5
      have c12 := HM5.out.cell (b := w10.heap.size) (t := 3) (v := .int .i64 0) (List.mem_append_left _ (List.mem_append_right _ (by simp)))
      have c13 := HM5.out.cell (b := V0.heap.size) (t := 3) (v := .int .i64 ((k : Int) + 1)) (List.mem_append_right _ (by simp))
      gi_wp2
      exact ⟨HK5.out, hk, FG.out⟩
  -- key0
  rintro d0 Wd0 ⟨⟨k, hkc, hG⟩, hd, hdf, hke⟩
  have Hd0 := hid hd
  refine hKx _ _ ?_
  clear hKx
  obtain ⟨kk0, HKK0⟩ : ∃ x, Hid (k = x) := ⟨_, rfl⟩
  obtain ⟨ls1, HLS1⟩ : ∃ x, Hid (ls0 ++ pcL l s k = x) := ⟨_, rfl⟩
  have HLL1 : Hid (ls1.length ≤ 8000) := hid (by rw [← HLS1.out, List.length_append, pcL_len]; have := HLL0.out; have := HN4.out; omega)
  rw [HLS1.out, HMf.out k] at hG
  have c3 : Wd0.cell? ⟨b3, 0, none⟩ = some (.slice pc N cc) := hG.cell (t := 24) (List.mem_append_left _ (List.mem_append_left _ m3.out))
  have c12 : Wd0.cell? ⟨w10.heap.size, 0, none⟩ = some (.int .i64 0) := hG.cell (t := 3) (List.mem_append_left _ (List.mem_append_right _ (by simp)))
  have c13 : Wd0.cell? ⟨V0.heap.size, 0, none⟩ = some (.int .i64 (k : Int)) := hG.cell (t := 3) (List.mem_append_right _ (by simp))
  have MB : Hid (GI B7 cb w1 w1 (Bx ++ [(d0, Obj.deferred (some []))]) ls1 D Wd0) := hid ((hG.take hdf (fun q => by have := HDV.out _ q; have := HsVa0.out; omega)).sub (fun p hp => by
    rcases List.mem_append.1 hp with z | z
    · exact List.mem_append_left _ (List.mem_append_left _ (List.mem_append_left _ z))
    · exact List.mem_append_right _ z) (fun _ h => h))
  have KD0 : Hid (KE D w10 Wd0) := hid (KA0.out.trans hke)
  have HDd : Hid (∀ i, D i → i < Wd0.heap.size) := hid fun i hi => Nat.lt_of_lt_of_le (HD10.out i hi) KD0.out.1
  obtain ⟨V1, HV⟩ : ∃ V, Hid (Wd0.alloc (.cells #[.int .i64 1] 3) = V) := ⟨_, rfl⟩
  have G1 : Hid (GI B7 cb w1 w1 ((Bx ++ [(d0, Obj.deferred (some []))]) ++ [(Wd0.heap.size, Obj.cells #[.int .i64 1] 3 (0, 0))]) ls1 D V1) := by rw [← HV.out]; exact hid (MB.out.alloc HDd.out _ _)
  have K1 : Hid (KE D w10 V1) := hid (KD0.out.trans (by rw [← HV.out]; exact ⟨by simp, fun i hi => Below.heap_alloc _ _ _ (HDd.out i hi)⟩))
  clear hG hdf hke hd
  rw [hkc.1] at c13
  go_wp2
  rw [HV.out]
  clear c3 c12 c13
  rw [rounds_succ]
  have c12 : V1.cell? ⟨Wd0.heap.size, 0, none⟩ = some (.int .i64 1) := G1.out.cell (t := 3) (List.mem_append_right _ (by simp))
  obtain ⟨Va1, HVa⟩ : ∃ Va, Hid (V1.alloc (.cells #[.int .i64 0] 3) = Va) := ⟨_, rfl⟩
  have HDV : Hid (∀ i, D i → i < V1.heap.size) := hid fun i hi => Nat.lt_of_lt_of_le (HD10.out i hi) K1.out.1
  have GA : Hid (GI B7 cb w1 w1 (((Bx ++ [(d0, Obj.deferred (some []))]) ++ [(Wd0.heap.size, Obj.cells #[.int .i64 1] 3 (0, 0))]) ++ [(V1.heap.size, Obj.cells #[.int .i64 0] 3 (0, 0))]) ls1 D Va1) := by rw [← HVa.out]; exact hid (G1.out.alloc HDV.out _ _)
  have KA1 : Hid (KE D w10 Va1) := hid (K1.out.trans (by rw [← HVa.out]; exact ⟨by simp, fun i hi => Below.heap_alloc _ _ _ (HDV.out i hi)⟩))
  have HsVa1 : Hid (Va1.heap.size = V1.heap.size + 1) := by rw [← HVa.out]; exact hid (by simp)
  obtain ⟨Mf1, HMf⟩ : ∃ Mf : Nat → List (Nat × Obj), Hid (∀ k : Nat, Mf k = (((Bx ++ [(d0, Obj.deferred (some []))]) ++ [(Wd0.heap.size, Obj.cells #[.int .i64 1] 3 (0, 0))]) ++ [(V1.heap.size, Obj.cells #[.int .i64 (k : Int)] 3 (0, 0))])) := ⟨_, fun _ => rfl⟩
  have HN13 : Hid (∀ p ∈ ((Bx ++ [(d0, Obj.deferred (some []))]) ++ [(Wd0.heap.size, Obj.cells #[.int .i64 1] 3 (0, 0))]), p.1 ≠ V1.heap.size) := hid fun p hp e => by have := (Array.getElem?_eq_some_iff.1 (G1.out.2.m p hp).1).1; omega
  have c11a : (V1.alloc (.cells #[.int .i64 0] 3)).cell? ⟨b4, 0, none⟩ = some (.func (.func gf) #[] lb) := by
    rw [HVa.out]
    exact GA.out.cell (t := 29) (List.mem_append_left _ (List.mem_append_left _ (List.mem_append_left _ m4.out)))
  go_wp2
  rename_i Kx hKx
  rw [HVa.out]
  clear c11a c12
  refine keyedC (P := fun d W => (∃ k : Nat, k ≤ N ∧ GI B7 cb w1 w1 (Mf1 k) (ls1 ++ pcL l s k) (fun i => D i ∨ i = d) W) ∧ Va1.heap.size ≤ d ∧ W.heap[d]? = some (.deferred (some [])) ∧ KE D Va1 W) (K := Kx) ?A1 ?key1 (fun key => ?main1)
  case main1 =>
    refine (wpIn_wide (n := 9)).1 ?_
    apply range_fitW rfl (by decide) (gf := gf) (lb := lb) rfl trivial IT10.out.en HIT.out KA1.out (fun i hi => Nat.lt_of_lt_of_le (HD10.out i hi) KA1.out.1) (fun _ _ => rfl)
      (fun k E W => k ≤ N ∧ GI B7 cb w1 w1 (Mf1 k) (ls1 ++ pcL l s k) E W) (fun c E W => ∃ k, (c = Code.exit 2 ∧ k ≤ N) ∧ GI B7 cb w1 w1 (Mf1 k) (ls1 ++ pcL l s k) E W)
      (jn_GI B7 cb w1 w1 Mf1 (fun k => ls1 ++ pcL l s k) (fun k => k ≤ N)) (jn_ex fun k => jn_GI (β := Code) B7 cb w1 w1 (fun _ => Mf1 k) (fun _ => (ls1 ++ pcL l s k)) (fun c => c = Code.exit 2 ∧ k ≤ N))
      ⟨Nat.zero_le _, by rw [HMf.out 0]; have := GA.out; simpa [pcL] using this⟩ (fitS_ch l s)
    case hassign =>
      intro l' k v W K hK
      gi_wp2
      exact hK
    case hdone =>
      intro d W hd hG hdf hke
      show Kx _ _
      exact key d W ⟨⟨N, hG.1, hG.2⟩, hd, hdf, hke⟩
    case hstop =>
      rintro d cc W hd ⟨k, ⟨rfl, hkN⟩, hM⟩ hdf hke
      refine wpIn_wide.2 ?_
      refine wp_exit ?_
      show Kx _ _
      exact key d W ⟨⟨k, hkN, hM⟩, hd, hdf, hke⟩
    case hbody =>
      rintro lp k v E A W hlp hE hr ⟨hkN0, ⟨vg, vw, xs, us, hgw, hgm⟩, hmc⟩ hEl hcar hAW hf hDE hke hk
      rw [HMf.out k] at hgm hmc
      obtain ⟨lk, HLK⟩ : ∃ x, Hid (ls1 ++ pcL l s k = x) := ⟨_, rfl⟩
      rw [HLK.out] at hgw
      have HLKS : Hid (ls1 ++ pcL l s (k + 1) = lk ++ [chPiece l s k]) := hid (by rw [pcL_succ, ← List.append_assoc, HLK.out])
      have HLKL : Hid (lk.length ≤ 16000) := hid (by rw [← HLK.out, List.length_append, pcL_len]; have := HLL1.out; have := HN4.out; omega)
      obtain ⟨⟨hgW, hgE⟩, hMW⟩ := hcar _ (jn_GW B7 cb w1 w1 (((Bx ++ [(d0, Obj.deferred (some []))]) ++ [(Wd0.heap.size, Obj.cells #[.int .i64 1] 3 (0, 0))]) ++ [(V1.heap.size, Obj.cells #[.int .i64 (k : Int)] 3 (0, 0))]) vg vw xs us lk lk) ⟨hgw, hmc⟩
      have HGS := hid hgw.1.lt
      have HGM := hid hgm
      have HEL := hid hEl
      have HAW := hid hAW
      have HAS : Hid (B7 ≤ A.heap.size) := hid (by have := hgw.1.lt cb (.inl rfl); have := hBz.out; omega)
      have HMA := hid fun p hp => (Array.getElem?_eq_some_iff.1 (hmc.m p hp).1).1
      have hne : ∀ {t : TypeId} {n : Nat} {v : Value} {ys : List Value} {B' : Nat}, w1.ownsRow B' t 1 v n ys → ∀ b, v.ownBlock = some b → W.heap[b]? = w1.heap[b]? := fun ho b e => hMW.g.block b (own_typC ho e).1 fun z => by
        have h1 := (own_typC ho e).1
        have z : b = cb := Option.some.inj z
        have := hBz.out
        omega
      have hplW := own_ofL HPL.out (hne HPL.out)
      have hpcW : PX wB.heap.size W (.slice pc N cc) xs0 (pcL l s N) := HPC.out.own (hne HPC.out.row) (fun j hj b e => hne (HPC.out.apt.2.1 j hj) b e)
      obtain ⟨gp, epl⟩ : ∃ g, pl = some ⟨g, 0, none⟩ := by
        rcases HPL.out.2 with ⟨e, h0⟩ | ⟨g, cap, cur, e, _⟩
        · omega
        · exact ⟨g, by cases e; rfl⟩
      obtain ⟨gq, epc⟩ : ∃ g, pc = some ⟨g, 0, none⟩ := by
        rcases HPC.out.row.2 with ⟨e, h0⟩ | ⟨g, cap, cur, e, _⟩
        · rw [pcL_len] at h0; omega
        · simp only [Value.slice.injEq] at e
          exact ⟨g, e.1⟩
      have hx0 : xs0.length = N := by have := HPC.out.len; rw [pcL_len] at this; exact this
      have z1 : W.cell? ⟨gp, k, none⟩ = some (.int .i64 ((chAt s k : Nat) : Int)) := by
        rw [epl] at hplW
        rw [hplW.cellAt k (by omega)]
        simp [plL, hk]
      obtain ⟨u, HU⟩ : ∃ u, Hid (xs0.getD k undef = u) := ⟨_, rfl⟩
      have z2 : W.cell? ⟨gq, k, none⟩ = some u := by
        have := hpcW.row
        rw [epc, pcL_len] at this
        rw [this.cellAt k (by omega), ← HU.out]
        simp [List.getD, hx0, hk]
      have hbuW : HB W u (chPiece l s k) := by
        have := HB.of_own (hpcW.apt.2.1 k (by omega)) (hpcW.byt k (by rw [pcL_len]; omega))
        rw [HU.out, pcL_get _ _ hk] at this
        exact this
      have hbuw : HB w1 u (chPiece l s k) := by
        have := HB.of_own (HPC.out.apt.2.1 k (by omega)) (HPC.out.byt k (by rw [pcL_len]; omega))
        rw [HU.out, pcL_get _ _ hk] at this
        exact this
      have HUw := hid hbuw
      obtain ⟨LP, HLP⟩ : ∃ x, Hid ((chPiece l s k).length = x) := ⟨_, rfl⟩
      have hbv : HB W v (chPiece l s k) := HB.of_own hf hbuW.2
      obtain ⟨pu, cu, eu, _, _⟩ := hbuW.open
      obtain ⟨pv, cv, ev, _, _⟩ := hbv.open
      rw [HLP.out] at eu ev
      subst eu
      subst ev
      obtain ⟨pg, cg, eg⟩ := own_slc hgW.g.row
      obtain ⟨pw, cw, ew⟩ := own_slc hgW.u
      subst eg
      subst ew
      have HF := hid hf
      obtain ⟨T, HT⟩ : ∃ x, Hid (lk.length = x) := ⟨_, rfl⟩
      have CS : Hid (Calls Try.prog 10 #[.slice pv LP cv, .slice pu LP cu] W fun e w' => e = .returned (.bool true) ∧ Dr W w') := hid ((sameBytes_any W _ _ _ _ hbv hbuW).mono fun e w' ⟨q1, q2⟩ => ⟨by rw [q1]; simp, q2⟩)
      have HMW := hid hMW
      have HGW := hid hgW
      have HGE := hid hgE
      have c2 := hMW.cell (b := b2) (t := 23) (v := .slice pl N cl) (List.mem_append_left _ (List.mem_append_left _ (List.mem_append_left _ m2.out)))
      have c3 := hMW.cell (b := b3) (t := 24) (v := .slice pc N cc) (List.mem_append_left _ (List.mem_append_left _ (List.mem_append_left _ m3.out)))
      have c13 := hMW.cell (b := V1.heap.size) (t := 3) (v := .int .i64 (k : Int)) (List.mem_append_right _ (by simp))
      have hge : ¬ ((k : Int) ≥ (N : Int)) := by omega
      have hkb : (k : Int) + 1 ≤ 4001 := by have := HN4.out; omega
      have hnn : (((chAt s k : Nat) : Int) != ((chAt s k : Nat) : Int)) = false := by simp
      obtain ⟨Pk, HPk⟩ : ∃ x, Hid (chAt s k = x) := ⟨_, rfl⟩
      have HGQ : Hid (gq < w1.heap.size) := hid (own_typC (k := gq) HPC.out.row (by rw [epc]; rfl)).1
      have Z2' := hid z2
      rw [HPk.out] at z1 hnn ⊢
      subst epl
      subst epc
      clear hgW hgE hMW hgw hgm hmc hcar hplW hpcW hbuW hbuw hbv hf hne hEl
      gi_wp2
      refine ⟨trivial, callRC (CS.out.mono ?_)⟩
      rintro e wS ⟨rfl, hd1⟩
      have HWS : Hid (wS.heap = W.heap) := hid hd1.heap
      have HKS : Hid (KE E W wS) := hid ⟨by rw [hd1.heap]; exact Nat.le_refl _, fun i _ => by rw [hd1.heap]⟩
      obtain ⟨⟨hgS, hgE⟩, hMS⟩ := (jn_GW B7 cb w1 w1 (((Bx ++ [(d0, Obj.deferred (some []))]) ++ [(Wd0.heap.size, Obj.cells #[.int .i64 1] 3 (0, 0))]) ++ [(V1.heap.size, Obj.cells #[.int .i64 (k : Int)] 3 (0, 0))]) _ _ xs us lk lk).grown (s := ()) ⟨⟨HGW.out, HGE.out⟩, HMW.out⟩ (grown_below (r := none) (hd1.below W.heap.size))
      have hV1 : w1.heap.size ≤ V1.heap.size := G1.out.2.g.size
      have hgV := HGM.out (V1.heap.size, .cells #[.int .i64 (k : Int)] 3 (0, 0)) (List.mem_append_right _ (by simp))
      have heV := (HMW.out.m (V1.heap.size, .cells #[.int .i64 (k : Int)] 3 (0, 0)) (List.mem_append_right _ (by simp))).2
      have HMN := hid (hMS.set (v' := .int .i64 ((k : Int) + 1)) hV1 HN13.out)
      have HGN := hid (gw_set (i := 0) hgS hgV (.int .i64 ((k : Int) + 1)))
      have HKN := hid (HKS.out.trans (ke_set (i := 0) heV (.int .i64 ((k : Int) + 1))))
      have hWSz : W.heap.size = wS.heap.size := by rw [hd1.heap]
      have hAW0 := HAW.out
      have hAS0 := HAS.out
      have hVA : V1.heap.size < A.heap.size := HMA.out (V1.heap.size, .cells #[.int .i64 (k : Int)] 3 (0, 0)) (List.mem_append_right _ (List.mem_singleton.2 rfl))
      have hz10 : w10.heap.size ≤ V1.heap.size := K1.out.1
      have hfN : (wS.setCell ⟨V1.heap.size, 0, none⟩ (.int .i64 ((k : Int) + 1))).ownsRow A.heap.size 5 1 (.slice pv LP cv) (chPiece l s k).length ((chPiece l s k).map (Value.int .u8)) := own_ofL HF.out fun b e => by
        have h1 := (own_typC HF.out e).2.1
        rw [heap_setCell_other _ _ _ _ (by show b ≠ V1.heap.size; omega), hd1.heap]
      have hgm1 := last_keys (o' := .cells #[.int .i64 ((k : Int) + 1)] 3 (0, 0)) (Q := fun b => ¬ gwB cb (.slice pg lk.length cg) (.slice pw lk.length cw) xs b) HGM.out
      have hma1 := last_keys (o' := .cells #[.int .i64 ((k : Int) + 1)] 3 (0, 0)) (Q := fun b => b < A.heap.size) HMA.out
      have hq1 := HGQ.out
      obtain ⟨hz1, hz2, hz3, hz4⟩ := hBz.out
      obtain ⟨pg2, cg2, W2', pw2, cw2, W4, hrun, hcb2, hc3, hM3, hq3, hrun4, hcb4, hm4, hq4, hgw5, hge5, hgm5, hm5, hk5⟩ := HGN.out.both (S := A.heap.size) (gq := gq) (w := w1) hgE hgm1 HMN.out HGS.out hAS0 HEL.out hma1 hfN HUw.out (by simp; omega) (by omega) (by omega) HLKL.out (by simp; omega) (by omega) (by omega)
      rw [HT.out] at hrun hcb2 hc3 hM3 hq3 hrun4 hcb4 hgw5 hge5 hgm5 hm5 hk5
      have HRUN := hid hrun
      have HCB2 := hid hcb2
      have HRUN4 := hid hrun4
      have HCB4 := hid hcb4
      have hszN : (wS.setCell ⟨V1.heap.size, 0, none⟩ (.int .i64 ((k : Int) + 1))).heap.size = wS.heap.size := by simp
      rw [hszN] at HRUN
      have FG : Hid (GI B7 cb w1 w1 (Mf1 (k + 1)) (ls1 ++ pcL l s (k + 1)) E (W4.setCell ⟨cb, 1, none⟩ (.slice pw2 (T + 1) cw2))) := hid (by
        rw [HMf.out (k + 1), HLKS.out, show ((k + 1 : Nat) : Int) = (k : Int) + 1 by omega]
        exact ⟨⟨_, _, _, _, ⟨hgw5, hge5⟩, hgm5⟩, hm5⟩)
      have HM5 := hid hm5
      have HK5 := hid (HKN.out.trans hk5)
      have hWS : wS.heap[gq]? = W.heap[gq]? := by rw [hd1.heap]
      have hWN : (wS.setCell ⟨V1.heap.size, 0, none⟩ (.int .i64 ((k : Int) + 1))).heap[gq]? = wS.heap[gq]? := heap_setCell_other _ _ _ _ (by show gq ≠ V1.heap.size; omega)
      have S3 : Hid ((fun X : World => X.cell? ⟨cb, 1, none⟩ = some (.slice pw T cw) ∧ X.cell? ⟨b3, 0, none⟩ = some (.slice (some ⟨gq, 0, none⟩) N cc) ∧ X.cell? ⟨V1.heap.size, 0, none⟩ = some (.int .i64 ((k : Int) + 1)) ∧ X.cell? ⟨gq, k, none⟩ = some (.slice pu LP cu)) (W2'.setCell ⟨cb, 0, none⟩ (.slice pg2 (T + 1) cg2))) := hid
        ⟨hc3, hM3.cell (b := b3) (t := 24) (List.mem_append_left _ (List.mem_append_left _ (List.mem_append_left _ m3.out))), hM3.cell (b := V1.heap.size) (t := 3) (List.mem_append_right _ (by simp)), (World.cell?_of_block (a := ⟨gq, k, none⟩) (hq3.trans (hWN.trans hWS))).trans Z2'.out⟩
      have S4 : Hid ((fun X : World => X.cell? ⟨cb, 1, none⟩ = some (.slice pw T cw) ∧ X.cell? ⟨b3, 0, none⟩ = some (.slice (some ⟨gq, 0, none⟩) N cc) ∧ X.cell? ⟨V1.heap.size, 0, none⟩ = some (.int .i64 ((k : Int) + 1)) ∧ X.cell? ⟨gq, k, none⟩ = some (.slice pu LP cu)) W4) := hid
        ⟨(cell_of_row _ _ _ _ _ _ hcb4).trans rfl, (cell_of_row _ _ _ _ _ _ (hm4 (b3, .cells #[.slice (some ⟨gq, 0, none⟩) N cc] 24 (0, 0)) (List.mem_append_left _ (List.mem_append_left _ (List.mem_append_left _ m3.out))))).trans rfl, (cell_of_row _ _ _ _ _ _ (hm4 (V1.heap.size, .cells #[.int .i64 ((k : Int) + 1)] 3 (0, 0)) (List.mem_append_right _ (by simp)))).trans rfl, (World.cell?_of_block (a := ⟨gq, k, none⟩) (hq4.trans (hWN.trans hWS))).trans Z2'.out⟩
      have c13 : wS.cell? ⟨V1.heap.size, 0, none⟩ = some (.int .i64 (k : Int)) := hMS.cell (t := 3) (List.mem_append_right _ (by simp))
      have f13 : wS.frozen? ⟨V1.heap.size, 0, none⟩ = false := by simp [World.frozen?, hMS.at (b := V1.heap.size) (o := .cells #[.int .i64 (k : Int)] 3 (0, 0)) (List.mem_append_right _ (by simp))]
      have ccb : wS.cell? ⟨cb, 0, none⟩ = some (.slice pg T cg) := by rw [← HT.out]; exact (cell_of_row _ _ _ _ _ _ hgS.c).trans rfl
      have ncb : ¬ (cb = V1.heap.size) := by omega
      have ncb' : ¬ (V1.heap.size = cb) := fun e => ncb e.symm
      have f02 : W2'.frozen? ⟨cb, 0, none⟩ = false := by simp [World.frozen?, HCB2.out]
      have c02 : W2'.cell? ⟨cb, 0, none⟩ = some (.slice pg T cg) := (cell_of_row _ _ _ _ _ _ HCB2.out).trans rfl
      clear hgS hgE hMS hgV heV hfN hrun hcb2 hc3 hM3 hq3 hrun4 hcb4 hm4 hq4 hgw5 hge5 hgm5 hm5 hk5 hgm1 hma1 hd1 CS c2 c3 hWSz hAW0 hAS0 hVA hV1 hz10 hWS hWN hz1 hz2 hz3 hz4 hq1
      gi_wp2_with (gi_at_builtin; refine wpListIn_appC (.tmp 92) (.tmp 94) rfl rfl rfl rfl HRUN.out ?_)
      obtain ⟨W3, HW3⟩ : ∃ x, Hid (W2'.setCell ⟨cb, 0, none⟩ (.slice pg2 (T + 1) cg2) = x) := ⟨_, rfl⟩
      rw [HW3.out] at S3 HRUN4 ⊢
      clear HW3 HRUN HCB2 f02 c02 ccb f13 c13
      have HSS := S3
      refine in_region_N hmx (by kernel_rfl) 10 (S := (fun X : World => X.cell? ⟨cb, 1, none⟩ = some (.slice pw T cw) ∧ X.cell? ⟨b3, 0, none⟩ = some (.slice (some ⟨gq, 0, none⟩) N cc) ∧ X.cell? ⟨V1.heap.size, 0, none⟩ = some (.int .i64 ((k : Int) + 1)) ∧ X.cell? ⟨gq, k, none⟩ = some (.slice pu LP cu))) ?_
      change Ev.wpN _ _ _ _ _ _ _ _ _ (World.drew _)
      refine Ev.wpN_load (i := 0) (v := ?_) rfl (by kernel_rfl) (by kernel_rfl) (by kernel_rfl) (fun _ _ _ h => by cases h.1) (by rfl) (by kernel_rfl) (Or.inl ⟨by rfl, ?q0⟩) HSS.out ?_
      case q0 => intro w hSw; obtain ⟨hz0, hz1, hz2, hz3⟩ := hSw; go_simp; rfl
      simp only [Act.put, List.getElem_toArray, List.getElem_cons_zero, List.getElem_cons_succ, List.setIfInBounds_toArray, List.set_cons_zero, List.set_cons_succ]
      refine Ev.wpN_load (i := 1) (v := ?_) rfl (by kernel_rfl) (by kernel_rfl) (by kernel_rfl) (fun _ _ _ h => by cases h.1) (by rfl) (by kernel_rfl) (Or.inl ⟨by rfl, ?q1⟩) HSS.out ?_
      case q1 => intro w hSw; obtain ⟨hz0, hz1, hz2, hz3⟩ := hSw; go_simp; rfl
      simp only [Act.put, List.getElem_toArray, List.getElem_cons_zero, List.getElem_cons_succ, List.setIfInBounds_toArray, List.set_cons_zero, List.set_cons_succ]
      refine Ev.wpN_load (i := 2) (v := ?_) rfl (by kernel_rfl) (by kernel_rfl) (by kernel_rfl) (fun _ _ _ h => by cases h.1) (by rfl) (by kernel_rfl) (Or.inl ⟨by rfl, ?q2⟩) HSS.out ?_
      case q2 => intro w hSw; obtain ⟨hz0, hz1, hz2, hz3⟩ := hSw; go_simp; rfl
      simp only [Act.put, List.getElem_toArray, List.getElem_cons_zero, List.getElem_cons_succ, List.setIfInBounds_toArray, List.set_cons_zero, List.set_cons_succ]
      refine Ev.wpN_load (i := 3) (v := ?_) rfl (by kernel_rfl) (by kernel_rfl) (by kernel_rfl) (fun _ _ _ h => by cases h.1) (by rfl) (by kernel_rfl) (Or.inl ⟨by rfl, ?q3⟩) HSS.out ?_
      case q3 => intro w hSw; obtain ⟨hz0, hz1, hz2, hz3⟩ := hSw; go_simp; rfl
      simp only [Act.put, List.getElem_toArray, List.getElem_cons_zero, List.getElem_cons_succ, List.setIfInBounds_toArray, List.set_cons_zero, List.set_cons_succ]
      refine Ev.wpN_load (i := 4) (v := .int .i64 (k : Int)) rfl (by kernel_rfl) (by kernel_rfl) (by kernel_rfl) (fun _ _ _ h => by cases h.1) (by rfl) (by kernel_rfl) (Or.inl ⟨by rfl, ?q4⟩) HSS.out ?_
      case q4 => intro w hSw; obtain ⟨hz0, hz1, hz2, hz3⟩ := hSw; go_simp; rw [show IntKind.i64.wrap (k : Int) = (k : Int) by rw [IntKind.wrap_i64]; omega]
      simp only [Act.put, List.getElem_toArray, List.getElem_cons_zero, List.getElem_cons_succ, List.setIfInBounds_toArray, List.set_cons_zero, List.set_cons_succ]
      refine Ev.wpN_load (i := 5) (v := ?_) rfl (by kernel_rfl) (by kernel_rfl) (by kernel_rfl) (fun _ _ _ h => by cases h.1) (by rfl) (by kernel_rfl) (Or.inl ⟨by rfl, ?q5⟩) HSS.out ?_
      case q5 => intro w hSw; obtain ⟨hz0, hz1, hz2, hz3⟩ := hSw; go_simp; rfl
      simp only [Act.put, List.getElem_toArray, List.getElem_cons_zero, List.getElem_cons_succ, List.setIfInBounds_toArray, List.set_cons_zero, List.set_cons_succ]
      refine Ev.wpN_load (i := 6) (v := ?_) rfl (by kernel_rfl) (by kernel_rfl) (by kernel_rfl) (fun _ _ _ h => by cases h.1) (by rfl) (by kernel_rfl) (Or.inl ⟨by rfl, ?q6⟩) HSS.out ?_
      case q6 => intro w hSw; obtain ⟨hz0, hz1, hz2, hz3⟩ := hSw; go_simp; rfl
      simp only [Act.put, List.getElem_toArray, List.getElem_cons_zero, List.getElem_cons_succ, List.setIfInBounds_toArray, List.set_cons_zero, List.set_cons_succ]
      refine Ev.wpN_step (i := 7) (by kernel_rfl) rfl rfl ?_
      refine owp_litC 24 1 _ rfl #[(0, .slice pu LP cu)] (by go_simp) _ (run_lit_bsC _ _ _ _) ?_
      have hal : Below W3.drew.heap.size W3.drew (W3.drew.alloc (.cells #[.slice pu LP cu] 22)) := (Below.refl _ _).alloc (Nat.le_refl _) _
      refine ⟨.inl ⟨(hal.cell (World.block_lt_of_cell? _ _ S3.out.1)).trans S3.out.1, (hal.cell (World.block_lt_of_cell? _ _ S3.out.2.1)).trans S3.out.2.1, (hal.cell (World.block_lt_of_cell? _ _ S3.out.2.2.1)).trans S3.out.2.2.1, (hal.cell (World.block_lt_of_cell? _ _ S3.out.2.2.2)).trans S3.out.2.2.2⟩, ?_⟩
      simp only [Act.put, List.getElem_toArray, List.getElem_cons_zero, List.getElem_cons_succ, List.setIfInBounds_toArray, List.set_cons_zero, List.set_cons_succ]
      refine Ev.wpN_step (i := 8) (by kernel_rfl) rfl rfl ?_
      refine owp_appendC (.tmp 98) (.tmp 104) rfl rfl rfl HRUN4.out ?_
      refine ⟨.inl S4.out, ?_⟩
      obtain ⟨c02, c03, c05, c0g⟩ := S4.out
      have f02 : W4.frozen? ⟨cb, 1, none⟩ = false := by simp [World.frozen?, HCB4.out]
      try simp only [Act.put, List.getElem_toArray, List.getElem_cons_zero, List.getElem_cons_succ, List.setIfInBounds_toArray, List.set_cons_zero, List.set_cons_succ]
      refine Ev.wpN_step (i := 9) (by kernel_rfl) rfl rfl ?_
      go_simp
      try simp only [Act.put, List.getElem_toArray, List.getElem_cons_zero, List.getElem_cons_succ, List.setIfInBounds_toArray, List.set_cons_zero, List.set_cons_succ]
      refine Ev.wpN_step (i := 10) (by kernel_rfl) rfl rfl ?_
      go_simp
      refine Ev.wpN_end (by kernel_rfl) ⟨rfl, ?_⟩
      rename_i K hK
      refine hK _ _ ?_
      clear hK K hal c02 f02 c03 c05 c0g S3 S4 HSS HRUN4 HCB4
      obtain ⟨W5, HW5⟩ : ∃ x, Hid (W4.setCell ⟨cb, 1, none⟩ (.slice pw2 (T + 1) cw2) = x) := ⟨_, hid rfl⟩
      rw [HW5.out] at FG HM5 HK5 ⊢
      clear HW5
      have c12 := HM5.out.cell (b := Wd0.heap.size) (t := 3) (v := .int .i64 1) (List.mem_append_left _ (List.mem_append_right _ (by simp)))
      have c13 := HM5.out.cell (b := V1.heap.size) (t := 3) (v := .int .i64 ((k : Int) + 1)) (List.mem_append_right _ (by simp))
      have c0 := HM5.out.cell (b := b0) (t := 3) (v := .int .i64 stop) (List.mem_append_left _ (List.mem_append_left _ (List.mem_append_left _ m0.out)))
      by_cases hst : stop ≤ (k : Int) + 1
      · gi_wp2
        exact ⟨HK5.out, k + 1, ⟨rfl, hk⟩, FG.out⟩
      · gi_wp2
        exact ⟨HK5.out, hk, FG.out⟩
  -- key1
  rintro d1 Wd1 ⟨⟨k, hkc, hG⟩, hd, hdf, hke⟩
  have Hd1 := hid hd
  refine hKx _ _ ?_
  clear hKx
  obtain ⟨kk1, HKK1⟩ : ∃ x, Hid (k = x) := ⟨_, rfl⟩
  obtain ⟨ls2, HLS2⟩ : ∃ x, Hid (ls1 ++ pcL l s k = x) := ⟨_, rfl⟩
  have HLL2 : Hid (ls2.length ≤ 12000) := hid (by rw [← HLS2.out, List.length_append, pcL_len]; have := HLL1.out; have := HN4.out; omega)
  rw [HLS2.out, HMf.out k] at hG
  have c3 : Wd1.cell? ⟨b3, 0, none⟩ = some (.slice pc N cc) := hG.cell (t := 24) (List.mem_append_left _ (List.mem_append_left _ (List.mem_append_left _ m3.out)))
  have c12 : Wd1.cell? ⟨Wd0.heap.size, 0, none⟩ = some (.int .i64 1) := hG.cell (t := 3) (List.mem_append_left _ (List.mem_append_right _ (by simp)))
  have c13 : Wd1.cell? ⟨V1.heap.size, 0, none⟩ = some (.int .i64 (k : Int)) := hG.cell (t := 3) (List.mem_append_right _ (by simp))
  have MB : Hid (GI B7 cb w1 w1 ((Bx ++ [(d0, Obj.deferred (some []))]) ++ [(d1, Obj.deferred (some []))]) ls2 D Wd1) := hid ((hG.take hdf (fun q => by have := HDV.out _ q; have := HsVa1.out; omega)).sub (fun p hp => by
    rcases List.mem_append.1 hp with z | z
    · exact List.mem_append_left _ (List.mem_append_left _ (List.mem_append_left _ z))
    · exact List.mem_append_right _ z) (fun _ h => h))
  have KD1 : Hid (KE D w10 Wd1) := hid (KA1.out.trans hke)
  have HDd : Hid (∀ i, D i → i < Wd1.heap.size) := hid fun i hi => Nat.lt_of_lt_of_le (HD10.out i hi) KD1.out.1
  obtain ⟨V2, HV⟩ : ∃ V, Hid (Wd1.alloc (.cells #[.int .i64 2] 3) = V) := ⟨_, rfl⟩
  have G2 : Hid (GI B7 cb w1 w1 (((Bx ++ [(d0, Obj.deferred (some []))]) ++ [(d1, Obj.deferred (some []))]) ++ [(Wd1.heap.size, Obj.cells #[.int .i64 2] 3 (0, 0))]) ls2 D V2) := by rw [← HV.out]; exact hid (MB.out.alloc HDd.out _ _)
  have K2 : Hid (KE D w10 V2) := hid (KD1.out.trans (by rw [← HV.out]; exact ⟨by simp, fun i hi => Below.heap_alloc _ _ _ (HDd.out i hi)⟩))
  clear hG hdf hke hd
  go_wp2
  rw [HV.out]
  clear c3 c12 c13
  rw [rounds_succ]
  have c12 : V2.cell? ⟨Wd1.heap.size, 0, none⟩ = some (.int .i64 2) := G2.out.cell (t := 3) (List.mem_append_right _ (by simp))
  obtain ⟨Va2, HVa⟩ : ∃ Va, Hid (V2.alloc (.cells #[.int .i64 0] 3) = Va) := ⟨_, rfl⟩
  have HDV : Hid (∀ i, D i → i < V2.heap.size) := hid fun i hi => Nat.lt_of_lt_of_le (HD10.out i hi) K2.out.1
  have GA : Hid (GI B7 cb w1 w1 ((((Bx ++ [(d0, Obj.deferred (some []))]) ++ [(d1, Obj.deferred (some []))]) ++ [(Wd1.heap.size, Obj.cells #[.int .i64 2] 3 (0, 0))]) ++ [(V2.heap.size, Obj.cells #[.int .i64 0] 3 (0, 0))]) ls2 D Va2) := by rw [← HVa.out]; exact hid (G2.out.alloc HDV.out _ _)
  have KA2 : Hid (KE D w10 Va2) := hid (K2.out.trans (by rw [← HVa.out]; exact ⟨by simp, fun i hi => Below.heap_alloc _ _ _ (HDV.out i hi)⟩))
  have HsVa2 : Hid (Va2.heap.size = V2.heap.size + 1) := by rw [← HVa.out]; exact hid (by simp)
  obtain ⟨Mf2, HMf⟩ : ∃ Mf : Nat → List (Nat × Obj), Hid (∀ k : Nat, Mf k = ((((Bx ++ [(d0, Obj.deferred (some []))]) ++ [(d1, Obj.deferred (some []))]) ++ [(Wd1.heap.size, Obj.cells #[.int .i64 2] 3 (0, 0))]) ++ [(V2.heap.size, Obj.cells #[.int .i64 (k : Int)] 3 (0, 0))])) := ⟨_, fun _ => rfl⟩
  have HN13 : Hid (∀ p ∈ (((Bx ++ [(d0, Obj.deferred (some []))]) ++ [(d1, Obj.deferred (some []))]) ++ [(Wd1.heap.size, Obj.cells #[.int .i64 2] 3 (0, 0))]), p.1 ≠ V2.heap.size) := hid fun p hp e => by have := (Array.getElem?_eq_some_iff.1 (G2.out.2.m p hp).1).1; omega
  have c11a : (V2.alloc (.cells #[.int .i64 0] 3)).cell? ⟨b4, 0, none⟩ = some (.func (.func gf) #[] lb) := by
    rw [HVa.out]
    exact GA.out.cell (t := 29) (List.mem_append_left _ (List.mem_append_left _ (List.mem_append_left _ (List.mem_append_left _ m4.out))))
  go_wp2
  rename_i Kx hKx
  rw [HVa.out]
  clear c11a c12
  refine keyedC (P := fun d W => (∃ k : Nat, (k = N ∧ k ≤ N) ∧ GI B7 cb w1 w1 (Mf2 k) (ls2 ++ pcL l s k) (fun i => D i ∨ i = d) W) ∧ Va2.heap.size ≤ d ∧ W.heap[d]? = some (.deferred (some [])) ∧ KE D Va2 W) (K := Kx) ?A2 ?key2 (fun key => ?main2)
  case main2 =>
    refine (wpIn_wide (n := 9)).1 ?_
    apply range_fitW rfl (by decide) (gf := gf) (lb := lb) rfl trivial IT10.out.en HIT.out KA2.out (fun i hi => Nat.lt_of_lt_of_le (HD10.out i hi) KA2.out.1) (fun _ _ => rfl)
      (fun k E W => k ≤ N ∧ GI B7 cb w1 w1 (Mf2 k) (ls2 ++ pcL l s k) E W) (fun _ _ _ => False)
      (jn_GI B7 cb w1 w1 Mf2 (fun k => ls2 ++ pcL l s k) (fun k => k ≤ N)) ⟨fun _ _ _ _ h _ => h, fun _ _ _ _ _ h _ _ _ => h, fun _ _ _ _ h _ => h⟩
      ⟨Nat.zero_le _, by rw [HMf.out 0]; have := GA.out; simpa [pcL] using this⟩ (fitS_ch l s)
    case hassign =>
      intro l' k v W K hK
      gi_wp2
      exact hK
    case hdone =>
      intro d W hd hG hdf hke
      show Kx _ _
      exact key d W ⟨⟨N, ⟨rfl, hG.1⟩, hG.2⟩, hd, hdf, hke⟩
    case hstop =>
      intro d cc W _ h _ _
      exact h.elim
    case hbody =>
      rintro lp k v E A W hlp hE hr ⟨hkN0, ⟨vg, vw, xs, us, hgw, hgm⟩, hmc⟩ hEl hcar hAW hf hDE hke hk
      rw [HMf.out k] at hgm hmc
      obtain ⟨lk, HLK⟩ : ∃ x, Hid (ls2 ++ pcL l s k = x) := ⟨_, rfl⟩
      rw [HLK.out] at hgw
      have HLKS : Hid (ls2 ++ pcL l s (k + 1) = lk ++ [chPiece l s k]) := hid (by rw [pcL_succ, ← List.append_assoc, HLK.out])
      have HLKL : Hid (lk.length ≤ 16000) := hid (by rw [← HLK.out, List.length_append, pcL_len]; have := HLL2.out; have := HN4.out; omega)
      obtain ⟨⟨hgW, hgE⟩, hMW⟩ := hcar _ (jn_GW B7 cb w1 w1 ((((Bx ++ [(d0, Obj.deferred (some []))]) ++ [(d1, Obj.deferred (some []))]) ++ [(Wd1.heap.size, Obj.cells #[.int .i64 2] 3 (0, 0))]) ++ [(V2.heap.size, Obj.cells #[.int .i64 (k : Int)] 3 (0, 0))]) vg vw xs us lk lk) ⟨hgw, hmc⟩
      have HGS := hid hgw.1.lt
      have HGM := hid hgm
      have HEL := hid hEl
      have HAW := hid hAW
      have HAS : Hid (B7 ≤ A.heap.size) := hid (by have := hgw.1.lt cb (.inl rfl); have := hBz.out; omega)
      have HMA := hid fun p hp => (Array.getElem?_eq_some_iff.1 (hmc.m p hp).1).1
      have hne : ∀ {t : TypeId} {n : Nat} {v : Value} {ys : List Value} {B' : Nat}, w1.ownsRow B' t 1 v n ys → ∀ b, v.ownBlock = some b → W.heap[b]? = w1.heap[b]? := fun ho b e => hMW.g.block b (own_typC ho e).1 fun z => by
        have h1 := (own_typC ho e).1
        have z : b = cb := Option.some.inj z
        have := hBz.out
        omega
      have hplW := own_ofL HPL.out (hne HPL.out)
      have hpcW : PX wB.heap.size W (.slice pc N cc) xs0 (pcL l s N) := HPC.out.own (hne HPC.out.row) (fun j hj b e => hne (HPC.out.apt.2.1 j hj) b e)
      obtain ⟨gp, epl⟩ : ∃ g, pl = some ⟨g, 0, none⟩ := by
        rcases HPL.out.2 with ⟨e, h0⟩ | ⟨g, cap, cur, e, _⟩
        · omega
        · exact ⟨g, by cases e; rfl⟩
      obtain ⟨gq, epc⟩ : ∃ g, pc = some ⟨g, 0, none⟩ := by
        rcases HPC.out.row.2 with ⟨e, h0⟩ | ⟨g, cap, cur, e, _⟩
        · rw [pcL_len] at h0; omega
        · simp only [Value.slice.injEq] at e
          exact ⟨g, e.1⟩
      have hx0 : xs0.length = N := by have := HPC.out.len; rw [pcL_len] at this; exact this
      have z1 : W.cell? ⟨gp, k, none⟩ = some (.int .i64 ((chAt s k : Nat) : Int)) := by
        rw [epl] at hplW
        rw [hplW.cellAt k (by omega)]
        simp [plL, hk]
      obtain ⟨u, HU⟩ : ∃ u, Hid (xs0.getD k undef = u) := ⟨_, rfl⟩
      have z2 : W.cell? ⟨gq, k, none⟩ = some u := by
        have := hpcW.row
        rw [epc, pcL_len] at this
        rw [this.cellAt k (by omega), ← HU.out]
        simp [List.getD, hx0, hk]
      have hbuW : HB W u (chPiece l s k) := by
        have := HB.of_own (hpcW.apt.2.1 k (by omega)) (hpcW.byt k (by rw [pcL_len]; omega))
        rw [HU.out, pcL_get _ _ hk] at this
        exact this
      have hbuw : HB w1 u (chPiece l s k) := by
        have := HB.of_own (HPC.out.apt.2.1 k (by omega)) (HPC.out.byt k (by rw [pcL_len]; omega))
        rw [HU.out, pcL_get _ _ hk] at this
        exact this
      have HUw := hid hbuw
      obtain ⟨LP, HLP⟩ : ∃ x, Hid ((chPiece l s k).length = x) := ⟨_, rfl⟩
      have hbv : HB W v (chPiece l s k) := HB.of_own hf hbuW.2
      obtain ⟨pu, cu, eu, _, _⟩ := hbuW.open
      obtain ⟨pv, cv, ev, _, _⟩ := hbv.open
      rw [HLP.out] at eu ev
      subst eu
      subst ev
      obtain ⟨pg, cg, eg⟩ := own_slc hgW.g.row
      obtain ⟨pw, cw, ew⟩ := own_slc hgW.u
      subst eg
      subst ew
      have HF := hid hf
      obtain ⟨T, HT⟩ : ∃ x, Hid (lk.length = x) := ⟨_, rfl⟩
      have CS : Hid (Calls Try.prog 10 #[.slice pv LP cv, .slice pu LP cu] W fun e w' => e = .returned (.bool true) ∧ Dr W w') := hid ((sameBytes_any W _ _ _ _ hbv hbuW).mono fun e w' ⟨q1, q2⟩ => ⟨by rw [q1]; simp, q2⟩)
      have HMW := hid hMW
      have HGW := hid hgW
      have HGE := hid hgE
      have c2 := hMW.cell (b := b2) (t := 23) (v := .slice pl N cl) (List.mem_append_left _ (List.mem_append_left _ (List.mem_append_left _ (List.mem_append_left _ m2.out))))
      have c3 := hMW.cell (b := b3) (t := 24) (v := .slice pc N cc) (List.mem_append_left _ (List.mem_append_left _ (List.mem_append_left _ (List.mem_append_left _ m3.out))))
      have c13 := hMW.cell (b := V2.heap.size) (t := 3) (v := .int .i64 (k : Int)) (List.mem_append_right _ (by simp))
      have hge : ¬ ((k : Int) ≥ (N : Int)) := by omega
      have hkb : (k : Int) + 1 ≤ 4001 := by have := HN4.out; omega
      have hnn : (((chAt s k : Nat) : Int) != ((chAt s k : Nat) : Int)) = false := by simp
      obtain ⟨Pk, HPk⟩ : ∃ x, Hid (chAt s k = x) := ⟨_, rfl⟩
      have HGQ : Hid (gq < w1.heap.size) := hid (own_typC (k := gq) HPC.out.row (by rw [epc]; rfl)).1
      have Z2' := hid z2
      rw [HPk.out] at z1 hnn ⊢
      subst epl
      subst epc
      clear hgW hgE hMW hgw hgm hmc hcar hplW hpcW hbuW hbuw hbv hf hne hEl
      gi_wp2
      refine ⟨trivial, callRC (CS.out.mono ?_)⟩
      rintro e wS ⟨rfl, hd1⟩
      have HWS : Hid (wS.heap = W.heap) := hid hd1.heap
      have HKS : Hid (KE E W wS) := hid ⟨by rw [hd1.heap]; exact Nat.le_refl _, fun i _ => by rw [hd1.heap]⟩
      obtain ⟨⟨hgS, hgE⟩, hMS⟩ := (jn_GW B7 cb w1 w1 ((((Bx ++ [(d0, Obj.deferred (some []))]) ++ [(d1, Obj.deferred (some []))]) ++ [(Wd1.heap.size, Obj.cells #[.int .i64 2] 3 (0, 0))]) ++ [(V2.heap.size, Obj.cells #[.int .i64 (k : Int)] 3 (0, 0))]) _ _ xs us lk lk).grown (s := ()) ⟨⟨HGW.out, HGE.out⟩, HMW.out⟩ (grown_below (r := none) (hd1.below W.heap.size))
      have hV1 : w1.heap.size ≤ V2.heap.size := G2.out.2.g.size
      have hgV := HGM.out (V2.heap.size, .cells #[.int .i64 (k : Int)] 3 (0, 0)) (List.mem_append_right _ (by simp))
      have heV := (HMW.out.m (V2.heap.size, .cells #[.int .i64 (k : Int)] 3 (0, 0)) (List.mem_append_right _ (by simp))).2
      have HMN := hid (hMS.set (v' := .int .i64 ((k : Int) + 1)) hV1 HN13.out)
      have HGN := hid (gw_set (i := 0) hgS hgV (.int .i64 ((k : Int) + 1)))
      have HKN := hid (HKS.out.trans (ke_set (i := 0) heV (.int .i64 ((k : Int) + 1))))
      have hWSz : W.heap.size = wS.heap.size := by rw [hd1.heap]
      have hAW0 := HAW.out
      have hAS0 := HAS.out
      have hVA : V2.heap.size < A.heap.size := HMA.out (V2.heap.size, .cells #[.int .i64 (k : Int)] 3 (0, 0)) (List.mem_append_right _ (List.mem_singleton.2 rfl))
      have hz10 : w10.heap.size ≤ V2.heap.size := K2.out.1
      have hfN : (wS.setCell ⟨V2.heap.size, 0, none⟩ (.int .i64 ((k : Int) + 1))).ownsRow A.heap.size 5 1 (.slice pv LP cv) (chPiece l s k).length ((chPiece l s k).map (Value.int .u8)) := own_ofL HF.out fun b e => by
        have h1 := (own_typC HF.out e).2.1
        rw [heap_setCell_other _ _ _ _ (by show b ≠ V2.heap.size; omega), hd1.heap]
      have hgm1 := last_keys (o' := .cells #[.int .i64 ((k : Int) + 1)] 3 (0, 0)) (Q := fun b => ¬ gwB cb (.slice pg lk.length cg) (.slice pw lk.length cw) xs b) HGM.out
      have hma1 := last_keys (o' := .cells #[.int .i64 ((k : Int) + 1)] 3 (0, 0)) (Q := fun b => b < A.heap.size) HMA.out
      have hq1 := HGQ.out
      obtain ⟨hz1, hz2, hz3, hz4⟩ := hBz.out
      obtain ⟨pg2, cg2, W2', pw2, cw2, W4, hrun, hcb2, hc3, hM3, hq3, hrun4, hcb4, hm4, hq4, hgw5, hge5, hgm5, hm5, hk5⟩ := HGN.out.both (S := A.heap.size) (gq := gq) (w := w1) hgE hgm1 HMN.out HGS.out hAS0 HEL.out hma1 hfN HUw.out (by simp; omega) (by omega) (by omega) HLKL.out (by simp; omega) (by omega) (by omega)
      rw [HT.out] at hrun hcb2 hc3 hM3 hq3 hrun4 hcb4 hgw5 hge5 hgm5 hm5 hk5
      have HRUN := hid hrun
      have HCB2 := hid hcb2
      have HRUN4 := hid hrun4
      have HCB4 := hid hcb4
      have hszN : (wS.setCell ⟨V2.heap.size, 0, none⟩ (.int .i64 ((k : Int) + 1))).heap.size = wS.heap.size := by simp
      rw [hszN] at HRUN
      have FG : Hid (GI B7 cb w1 w1 (Mf2 (k + 1)) (ls2 ++ pcL l s (k + 1)) E (W4.setCell ⟨cb, 1, none⟩ (.slice pw2 (T + 1) cw2))) := hid (by
        rw [HMf.out (k + 1), HLKS.out, show ((k + 1 : Nat) : Int) = (k : Int) + 1 by omega]
        exact ⟨⟨_, _, _, _, ⟨hgw5, hge5⟩, hgm5⟩, hm5⟩)
      have HM5 := hid hm5
      have HK5 := hid (HKN.out.trans hk5)
      have hWS : wS.heap[gq]? = W.heap[gq]? := by rw [hd1.heap]
      have hWN : (wS.setCell ⟨V2.heap.size, 0, none⟩ (.int .i64 ((k : Int) + 1))).heap[gq]? = wS.heap[gq]? := heap_setCell_other _ _ _ _ (by show gq ≠ V2.heap.size; omega)
      have S3 : Hid ((fun X : World => X.cell? ⟨cb, 1, none⟩ = some (.slice pw T cw) ∧ X.cell? ⟨b3, 0, none⟩ = some (.slice (some ⟨gq, 0, none⟩) N cc) ∧ X.cell? ⟨V2.heap.size, 0, none⟩ = some (.int .i64 ((k : Int) + 1)) ∧ X.cell? ⟨gq, k, none⟩ = some (.slice pu LP cu)) (W2'.setCell ⟨cb, 0, none⟩ (.slice pg2 (T + 1) cg2))) := hid
        ⟨hc3, hM3.cell (b := b3) (t := 24) (List.mem_append_left _ (List.mem_append_left _ (List.mem_append_left _ (List.mem_append_left _ m3.out)))), hM3.cell (b := V2.heap.size) (t := 3) (List.mem_append_right _ (by simp)), (World.cell?_of_block (a := ⟨gq, k, none⟩) (hq3.trans (hWN.trans hWS))).trans Z2'.out⟩
      have S4 : Hid ((fun X : World => X.cell? ⟨cb, 1, none⟩ = some (.slice pw T cw) ∧ X.cell? ⟨b3, 0, none⟩ = some (.slice (some ⟨gq, 0, none⟩) N cc) ∧ X.cell? ⟨V2.heap.size, 0, none⟩ = some (.int .i64 ((k : Int) + 1)) ∧ X.cell? ⟨gq, k, none⟩ = some (.slice pu LP cu)) W4) := hid
        ⟨(cell_of_row _ _ _ _ _ _ hcb4).trans rfl, (cell_of_row _ _ _ _ _ _ (hm4 (b3, .cells #[.slice (some ⟨gq, 0, none⟩) N cc] 24 (0, 0)) (List.mem_append_left _ (List.mem_append_left _ (List.mem_append_left _ (List.mem_append_left _ m3.out)))))).trans rfl, (cell_of_row _ _ _ _ _ _ (hm4 (V2.heap.size, .cells #[.int .i64 ((k : Int) + 1)] 3 (0, 0)) (List.mem_append_right _ (by simp)))).trans rfl, (World.cell?_of_block (a := ⟨gq, k, none⟩) (hq4.trans (hWN.trans hWS))).trans Z2'.out⟩
      have c13 : wS.cell? ⟨V2.heap.size, 0, none⟩ = some (.int .i64 (k : Int)) := hMS.cell (t := 3) (List.mem_append_right _ (by simp))
      have f13 : wS.frozen? ⟨V2.heap.size, 0, none⟩ = false := by simp [World.frozen?, hMS.at (b := V2.heap.size) (o := .cells #[.int .i64 (k : Int)] 3 (0, 0)) (List.mem_append_right _ (by simp))]
      have ccb : wS.cell? ⟨cb, 0, none⟩ = some (.slice pg T cg) := by rw [← HT.out]; exact (cell_of_row _ _ _ _ _ _ hgS.c).trans rfl
      have ncb : ¬ (cb = V2.heap.size) := by omega
      have ncb' : ¬ (V2.heap.size = cb) := fun e => ncb e.symm
      have f02 : W2'.frozen? ⟨cb, 0, none⟩ = false := by simp [World.frozen?, HCB2.out]
      have c02 : W2'.cell? ⟨cb, 0, none⟩ = some (.slice pg T cg) := (cell_of_row _ _ _ _ _ _ HCB2.out).trans rfl
      clear hgS hgE hMS hgV heV hfN hrun hcb2 hc3 hM3 hq3 hrun4 hcb4 hm4 hq4 hgw5 hge5 hgm5 hm5 hk5 hgm1 hma1 hd1 CS c2 c3 hWSz hAW0 hAS0 hVA hV1 hz10 hWS hWN hz1 hz2 hz3 hz4 hq1
      gi_wp2_with (gi_at_builtin; refine wpListIn_appC (.tmp 92) (.tmp 94) rfl rfl rfl rfl HRUN.out ?_)
      obtain ⟨W3, HW3⟩ : ∃ x, Hid (W2'.setCell ⟨cb, 0, none⟩ (.slice pg2 (T + 1) cg2) = x) := ⟨_, rfl⟩
      rw [HW3.out] at S3 HRUN4 ⊢
      clear HW3 HRUN HCB2 f02 c02 ccb f13 c13
      have HSS := S3
      refine in_region_N hmx (by kernel_rfl) 10 (S := (fun X : World => X.cell? ⟨cb, 1, none⟩ = some (.slice pw T cw) ∧ X.cell? ⟨b3, 0, none⟩ = some (.slice (some ⟨gq, 0, none⟩) N cc) ∧ X.cell? ⟨V2.heap.size, 0, none⟩ = some (.int .i64 ((k : Int) + 1)) ∧ X.cell? ⟨gq, k, none⟩ = some (.slice pu LP cu))) ?_
      change Ev.wpN _ _ _ _ _ _ _ _ _ (World.drew _)
      refine Ev.wpN_load (i := 0) (v := ?_) rfl (by kernel_rfl) (by kernel_rfl) (by kernel_rfl) (fun _ _ _ h => by cases h.1) (by rfl) (by kernel_rfl) (Or.inl ⟨by rfl, ?q0⟩) HSS.out ?_
      case q0 => intro w hSw; obtain ⟨hz0, hz1, hz2, hz3⟩ := hSw; go_simp; rfl
      simp only [Act.put, List.getElem_toArray, List.getElem_cons_zero, List.getElem_cons_succ, List.setIfInBounds_toArray, List.set_cons_zero, List.set_cons_succ]
      refine Ev.wpN_load (i := 1) (v := ?_) rfl (by kernel_rfl) (by kernel_rfl) (by kernel_rfl) (fun _ _ _ h => by cases h.1) (by rfl) (by kernel_rfl) (Or.inl ⟨by rfl, ?q1⟩) HSS.out ?_
      case q1 => intro w hSw; obtain ⟨hz0, hz1, hz2, hz3⟩ := hSw; go_simp; rfl
      simp only [Act.put, List.getElem_toArray, List.getElem_cons_zero, List.getElem_cons_succ, List.setIfInBounds_toArray, List.set_cons_zero, List.set_cons_succ]
      refine Ev.wpN_load (i := 2) (v := ?_) rfl (by kernel_rfl) (by kernel_rfl) (by kernel_rfl) (fun _ _ _ h => by cases h.1) (by rfl) (by kernel_rfl) (Or.inl ⟨by rfl, ?q2⟩) HSS.out ?_
      case q2 => intro w hSw; obtain ⟨hz0, hz1, hz2, hz3⟩ := hSw; go_simp; rfl
      simp only [Act.put, List.getElem_toArray, List.getElem_cons_zero, List.getElem_cons_succ, List.setIfInBounds_toArray, List.set_cons_zero, List.set_cons_succ]
      refine Ev.wpN_load (i := 3) (v := ?_) rfl (by kernel_rfl) (by kernel_rfl) (by kernel_rfl) (fun _ _ _ h => by cases h.1) (by rfl) (by kernel_rfl) (Or.inl ⟨by rfl, ?q3⟩) HSS.out ?_
      case q3 => intro w hSw; obtain ⟨hz0, hz1, hz2, hz3⟩ := hSw; go_simp; rfl
      simp only [Act.put, List.getElem_toArray, List.getElem_cons_zero, List.getElem_cons_succ, List.setIfInBounds_toArray, List.set_cons_zero, List.set_cons_succ]
      refine Ev.wpN_load (i := 4) (v := .int .i64 (k : Int)) rfl (by kernel_rfl) (by kernel_rfl) (by kernel_rfl) (fun _ _ _ h => by cases h.1) (by rfl) (by kernel_rfl) (Or.inl ⟨by rfl, ?q4⟩) HSS.out ?_
      case q4 => intro w hSw; obtain ⟨hz0, hz1, hz2, hz3⟩ := hSw; go_simp; rw [show IntKind.i64.wrap (k : Int) = (k : Int) by rw [IntKind.wrap_i64]; omega]
      simp only [Act.put, List.getElem_toArray, List.getElem_cons_zero, List.getElem_cons_succ, List.setIfInBounds_toArray, List.set_cons_zero, List.set_cons_succ]
      refine Ev.wpN_load (i := 5) (v := ?_) rfl (by kernel_rfl) (by kernel_rfl) (by kernel_rfl) (fun _ _ _ h => by cases h.1) (by rfl) (by kernel_rfl) (Or.inl ⟨by rfl, ?q5⟩) HSS.out ?_
      case q5 => intro w hSw; obtain ⟨hz0, hz1, hz2, hz3⟩ := hSw; go_simp; rfl
      simp only [Act.put, List.getElem_toArray, List.getElem_cons_zero, List.getElem_cons_succ, List.setIfInBounds_toArray, List.set_cons_zero, List.set_cons_succ]
      refine Ev.wpN_load (i := 6) (v := ?_) rfl (by kernel_rfl) (by kernel_rfl) (by kernel_rfl) (fun _ _ _ h => by cases h.1) (by rfl) (by kernel_rfl) (Or.inl ⟨by rfl, ?q6⟩) HSS.out ?_
      case q6 => intro w hSw; obtain ⟨hz0, hz1, hz2, hz3⟩ := hSw; go_simp; rfl
      simp only [Act.put, List.getElem_toArray, List.getElem_cons_zero, List.getElem_cons_succ, List.setIfInBounds_toArray, List.set_cons_zero, List.set_cons_succ]
      refine Ev.wpN_step (i := 7) (by kernel_rfl) rfl rfl ?_
      refine owp_litC 24 1 _ rfl #[(0, .slice pu LP cu)] (by go_simp) _ (run_lit_bsC _ _ _ _) ?_
      have hal : Below W3.drew.heap.size W3.drew (W3.drew.alloc (.cells #[.slice pu LP cu] 22)) := (Below.refl _ _).alloc (Nat.le_refl _) _
      refine ⟨.inl ⟨(hal.cell (World.block_lt_of_cell? _ _ S3.out.1)).trans S3.out.1, (hal.cell (World.block_lt_of_cell? _ _ S3.out.2.1)).trans S3.out.2.1, (hal.cell (World.block_lt_of_cell? _ _ S3.out.2.2.1)).trans S3.out.2.2.1, (hal.cell (World.block_lt_of_cell? _ _ S3.out.2.2.2)).trans S3.out.2.2.2⟩, ?_⟩
      simp only [Act.put, List.getElem_toArray, List.getElem_cons_zero, List.getElem_cons_succ, List.setIfInBounds_toArray, List.set_cons_zero, List.set_cons_succ]
      refine Ev.wpN_step (i := 8) (by kernel_rfl) rfl rfl ?_
      refine owp_appendC (.tmp 98) (.tmp 104) rfl rfl rfl HRUN4.out ?_
      refine ⟨.inl S4.out, ?_⟩
      obtain ⟨c02, c03, c05, c0g⟩ := S4.out
      have f02 : W4.frozen? ⟨cb, 1, none⟩ = false := by simp [World.frozen?, HCB4.out]
      try simp only [Act.put, List.getElem_toArray, List.getElem_cons_zero, List.getElem_cons_succ, List.setIfInBounds_toArray, List.set_cons_zero, List.set_cons_succ]
      refine Ev.wpN_step (i := 9) (by kernel_rfl) rfl rfl ?_
      go_simp
      try simp only [Act.put, List.getElem_toArray, List.getElem_cons_zero, List.getElem_cons_succ, List.setIfInBounds_toArray, List.set_cons_zero, List.set_cons_succ]
      refine Ev.wpN_step (i := 10) (by kernel_rfl) rfl rfl ?_
      go_simp
      refine Ev.wpN_end (by kernel_rfl) ⟨rfl, ?_⟩
      rename_i K hK
      refine hK _ _ ?_
      clear hK K hal c02 f02 c03 c05 c0g S3 S4 HSS HRUN4 HCB4
      obtain ⟨W5, HW5⟩ : ∃ x, Hid (W4.setCell ⟨cb, 1, none⟩ (.slice pw2 (T + 1) cw2) = x) := ⟨_, hid rfl⟩
      rw [HW5.out] at FG HM5 HK5 ⊢
      clear HW5
      have c12 := HM5.out.cell (b := Wd1.heap.size) (t := 3) (v := .int .i64 2) (List.mem_append_left _ (List.mem_append_right _ (by simp)))
      have c13 := HM5.out.cell (b := V2.heap.size) (t := 3) (v := .int .i64 ((k : Int) + 1)) (List.mem_append_right _ (by simp))
      by_cases h2 : (k : Int) + 1 = 2
      · have c4 : W5.cell? ⟨b4, 0, none⟩ = some (.func (.func gf) #[] lb) := HM5.out.cell (t := 29) (List.mem_append_left _ (List.mem_append_left _ (List.mem_append_left _ (List.mem_append_left _ m4.out))))
        obtain ⟨r0, hl0⟩ := hr
        have HL0 := hid ((HK5.out.2 lp hE).trans hl0)
        have KW : Hid (KE D w10 W5) := hid ((KA2.out.trans hke).trans (HK5.out.mono hDE))
        have IW := hid (IT10.out.kept KW.out)
        have HITW := hid (IW.out.it (9 - 1 - 1 - 1))
        rw [HN.out, HSz.out] at HITW
        have HEl5 : Hid (∀ i, E i → i < W5.heap.size) := hid fun i hi => by have h1 := HEL.out i hi; have h2 := HAW.out; have h3 := HK5.out.1; omega
        have HDD : Hid (∀ i, E i → D i ∨ (E i ∧ ¬ D i)) := hid fun i hi => (Classical.em (D i)).elim .inl (fun z => .inr ⟨hi, z⟩)
        have HDD2 : Hid (∀ i, D i ∨ (E i ∧ ¬ D i) → E i) := hid fun i hi => hi.elim (hDE i) (·.1)
        clear hl0
        gi_wp2
        apply range_fitWR (l0 := lp) (r0 := r0) rfl HL0.out (fun h => absurd h (by simp [Fence.wide, Fence.inRound])) (gf := gf) (lb := lb) rfl trivial IW.out.en
          ((HITW.out.more (fun i => E i ∧ ¬ D i) (fun i h => h.2) (fun i h => HEl5.out i h.1)).inRound lp) ⟨Nat.le_refl _, fun _ _ => rfl⟩ (fun i hi => HEl5.out i (HDD2.out i hi)) (fun _ _ => rfl)
          (fun j E W => j = 0 ∧ GI B7 cb w1 w1 (Mf2 (k + 1)) (ls2 ++ pcL l s (k + 1)) E W) (fun c E W => c = Code.exit 4 ∧ GI B7 cb w1 w1 (Mf2 (k + 1)) (ls2 ++ pcL l s (k + 1)) E W)
          (jn_GI B7 cb w1 w1 (fun _ => (Mf2 (k + 1))) (fun _ => (ls2 ++ pcL l s (k + 1))) (fun j : Nat => j = 0)) (jn_GI (β := Code) B7 cb w1 w1 (fun _ => (Mf2 (k + 1))) (fun _ => (ls2 ++ pcL l s (k + 1))) (fun c => c = Code.exit 4)) ⟨rfl, FG.out.sub (fun _ h => h) HDD2.out⟩ (fitS_ch l s)
        case hassign =>
          intro l' k' v' W' K hK
          gi_wp2
          exact hK
        case hdone =>
          intro X hI _
          have := hI.1
          omega
        case hstop =>
          rintro cc X ⟨rfl, hGX⟩ hkX
          have FX := hid (hGX.sub (fun _ h => h) HDD.out)
          have KX := hid (HK5.out.trans (hkX.mono HDD.out))
          clear hGX hkX
          gi_wp2
          exact ⟨KX.out, hk, FX.out⟩
        case hbody =>
          rintro lq j v2 E2 A2 X hlq hE2 hr2 ⟨hj, ⟨vg2, vw2, xs2, us2, hgw, hgm⟩, hmc⟩ hEl2 hcar2 hAX hf2 hDE2 hke2 hjn
          subst hj
          obtain ⟨⟨hgX, hgE⟩, hMX⟩ := hcar2 _ (jn_GW B7 cb w1 w1 (Mf2 (k + 1)) vg2 vw2 xs2 us2 _ _) ⟨hgw, hmc⟩
          have HMX := hid hMX
          have HGX2 := hid hgX
          have HGE2 := hid hgE
          have HGM2 := hid hgm
          rw [HMf.out (k + 1)] at hMX
          have hne : ∀ {t : TypeId} {n : Nat} {v : Value} {ys : List Value} {B' : Nat}, w1.ownsRow B' t 1 v n ys → ∀ b, v.ownBlock = some b → X.heap[b]? = w1.heap[b]? := fun ho b e => hMX.g.block b (own_typC ho e).1 fun z => by
            have h1 := (own_typC ho e).1
            have z : b = cb := Option.some.inj z
            have := hBz.out
            omega
          have hpcX : PX wB.heap.size X (.slice (some ⟨gq, 0, none⟩) N cc) xs0 (pcL l s N) := HPC.out.own (hne HPC.out.row) (fun j hj b e => hne (HPC.out.apt.2.1 j hj) b e)
          have hx00 : xs0.length = N := by have := HPC.out.len; rw [pcL_len] at this; exact this
          obtain ⟨u0, HU0⟩ : ∃ u, Hid (xs0.getD 0 undef = u) := ⟨_, rfl⟩
          have z20 : X.cell? ⟨gq, 0, none⟩ = some u0 := by
            have := hpcX.row
            rw [pcL_len] at this
            rw [this.cellAt 0 (by omega), ← HU0.out]
            simp [List.getD, hx00, hjn]
          have hbu0 : HB X u0 (chPiece l s 0) := by
            have := HB.of_own (hpcX.apt.2.1 0 (by omega)) (hpcX.byt 0 (by rw [pcL_len]; omega))
            rw [HU0.out, pcL_get _ _ hjn] at this
            exact this
          have hbv0 : HB X v2 (chPiece l s 0) := HB.of_own hf2 hbu0.2
          obtain ⟨LP0, HLP0⟩ : ∃ x, Hid ((chPiece l s 0).length = x) := ⟨_, rfl⟩
          obtain ⟨pu0, cu0, eu0, _, _⟩ := hbu0.open
          obtain ⟨pv0, cv0, ev0, _, _⟩ := hbv0.open
          rw [HLP0.out] at eu0 ev0
          subst eu0
          subst ev0
          have CS0 : Hid (Calls Try.prog 10 #[.slice pv0 LP0 cv0, .slice pu0 LP0 cu0] X fun e w' => e = .returned (.bool true) ∧ Dr X w') := hid ((sameBytes_any X _ _ _ _ hbv0 hbu0).mono fun e w' ⟨q1, q2⟩ => ⟨by rw [q1]; simp, q2⟩)
          have c3 := hMX.cell (b := b3) (t := 24) (v := .slice (some ⟨gq, 0, none⟩) N cc) (List.mem_append_left _ (List.mem_append_left _ (List.mem_append_left _ (List.mem_append_left _ m3.out))))
          have hat : ((chAt s 0 : Nat) : Int) = 0 := by simp [chAt]
          rw [hat]
          have h0N : ¬ (N = 0) := by omega
          have h1N : 0 < N := hjn
          clear hgX hgE hMX hgw hgm hmc hcar2 hpcX hbu0 hbv0 hne hf2 hEl2 hx00 hat
          gi_wp2
          refine ⟨trivial, callRC (CS0.out.mono ?_)⟩
          rintro e X2 ⟨rfl, hd2⟩
          have KX2 : Hid (KE E2 X X2) := hid ⟨by rw [hd2.heap]; exact Nat.le_refl _, fun i _ => by rw [hd2.heap]⟩
          obtain ⟨⟨hgS, hgE⟩, hMS⟩ := (jn_GW B7 cb w1 w1 (Mf2 (k + 1)) _ _ xs2 us2 (ls2 ++ pcL l s (k + 1)) (ls2 ++ pcL l s (k + 1))).grown (s := ()) ⟨⟨HGX2.out, HGE2.out⟩, HMX.out⟩ (grown_below (r := none) (hd2.below X.heap.size))
          have FX2 : Hid (GI B7 cb w1 w1 (Mf2 (k + 1)) (ls2 ++ pcL l s (k + 1)) E2 X2) := hid ⟨⟨_, _, _, _, ⟨hgS, hgE⟩, HGM2.out⟩, hMS⟩
          clear hgS hgE hMS CS0 c3 z20
          gi_wp2
          exact ⟨KX2.out, rfl, FX2.out⟩
      · gi_wp2
        exact ⟨HK5.out, hk, FG.out⟩
  -- key2
  rintro d2 Wd2 ⟨⟨k, hkc, hG⟩, hd, hdf, hke⟩
  have Hd2 := hid hd
  refine hKx _ _ ?_
  clear hKx
  obtain ⟨kk2, HKK2⟩ : ∃ x, Hid (k = x) := ⟨_, rfl⟩
  obtain ⟨ls3, HLS3⟩ : ∃ x, Hid (ls2 ++ pcL l s k = x) := ⟨_, rfl⟩
  have HLL3 : Hid (ls3.length ≤ 16000) := hid (by rw [← HLS3.out, List.length_append, pcL_len]; have := HLL2.out; have := HN4.out; omega)
  rw [HLS3.out, HMf.out k] at hG
  have c3 : Wd2.cell? ⟨b3, 0, none⟩ = some (.slice pc N cc) := hG.cell (t := 24) (List.mem_append_left _ (List.mem_append_left _ (List.mem_append_left _ (List.mem_append_left _ m3.out))))
  have c12 : Wd2.cell? ⟨Wd1.heap.size, 0, none⟩ = some (.int .i64 2) := hG.cell (t := 3) (List.mem_append_left _ (List.mem_append_right _ (by simp)))
  have c13 : Wd2.cell? ⟨V2.heap.size, 0, none⟩ = some (.int .i64 (k : Int)) := hG.cell (t := 3) (List.mem_append_right _ (by simp))
  have MB : Hid (GI B7 cb w1 w1 (((Bx ++ [(d0, Obj.deferred (some []))]) ++ [(d1, Obj.deferred (some []))]) ++ [(d2, Obj.deferred (some []))]) ls3 D Wd2) := hid ((hG.take hdf (fun q => by have := HDV.out _ q; have := HsVa2.out; omega)).sub (fun p hp => by
    rcases List.mem_append.1 hp with z | z
    · exact List.mem_append_left _ (List.mem_append_left _ (List.mem_append_left _ z))
    · exact List.mem_append_right _ z) (fun _ h => h))
  have KD2 : Hid (KE D w10 Wd2) := hid (KA2.out.trans hke)
  have HDd : Hid (∀ i, D i → i < Wd2.heap.size) := hid fun i hi => Nat.lt_of_lt_of_le (HD10.out i hi) KD2.out.1
  obtain ⟨V3, HV⟩ : ∃ V, Hid (Wd2.alloc (.cells #[.int .i64 3] 3) = V) := ⟨_, rfl⟩
  have G3 : Hid (GI B7 cb w1 w1 ((((Bx ++ [(d0, Obj.deferred (some []))]) ++ [(d1, Obj.deferred (some []))]) ++ [(d2, Obj.deferred (some []))]) ++ [(Wd2.heap.size, Obj.cells #[.int .i64 3] 3 (0, 0))]) ls3 D V3) := by rw [← HV.out]; exact hid (MB.out.alloc HDd.out _ _)
  have K3 : Hid (KE D w10 V3) := hid (KD2.out.trans (by rw [← HV.out]; exact ⟨by simp, fun i hi => Below.heap_alloc _ _ _ (HDd.out i hi)⟩))
  clear hG hdf hke hd
  rw [hkc.1] at c13
  go_wp2
  rw [HV.out]
  clear c3 c12 c13
  rw [rounds_succ]
  have c12 : V3.cell? ⟨Wd2.heap.size, 0, none⟩ = some (.int .i64 3) := G3.out.cell (t := 3) (List.mem_append_right _ (by simp))
  have t0 : V3.heap[d0]? = some (.deferred (some [])) := G3.out.at (List.mem_append_left _ (List.mem_append_left _ (List.mem_append_left _ (List.mem_append_right _ (by simp)))))
  have t1 : V3.heap[d1]? = some (.deferred (some [])) := G3.out.at (List.mem_append_left _ (List.mem_append_left _ (List.mem_append_right _ (by simp))))
  have t2 : V3.heap[d2]? = some (.deferred (some [])) := G3.out.at (List.mem_append_left _ (List.mem_append_right _ (by simp)))
  have hx1 : V3.heap[b1]? = some (.cells #[.bool false] 4 (0, 0)) := G3.out.at (List.mem_append_left _ (List.mem_append_left _ (List.mem_append_left _ (List.mem_append_left _ m1.out))))
  have hd01 : d0 ≠ d1 ∧ d0 ≠ d2 ∧ d1 ≠ d2 := by
    have lt : ∀ {W : World} {b : Nat} {o : Obj}, W.heap[b]? = some o → b < W.heap.size := fun h => (Array.getElem?_eq_some_iff.1 h).1
    have a01 : d0 < V1.heap.size := lt (G1.out.at (List.mem_append_left _ (List.mem_append_right _ (by simp))) : V1.heap[d0]? = some (.deferred (some [])))
    have a02 : d0 < V2.heap.size := lt (G2.out.at (List.mem_append_left _ (List.mem_append_left _ (List.mem_append_right _ (by simp)))) : V2.heap[d0]? = some (.deferred (some [])))
    have a12 : d1 < V2.heap.size := lt (G2.out.at (List.mem_append_left _ (List.mem_append_right _ (by simp))) : V2.heap[d1]? = some (.deferred (some [])))
    have q1 := Hd1.out
    have q2 := Hd2.out
    have z1 := HsVa1.out
    have z2 := HsVa2.out
    omega
  have HLN : Hid (∀ x ∈ ls3, x.length ≤ 4000) := hid (by
    rw [← HLS3.out, ← HLS2.out, ← HLS1.out, ← HLS0.out]
    intro x hx
    have := HLL.out
    rcases List.mem_append.1 hx with z | z
    · rcases List.mem_append.1 z with z | z
      · rcases List.mem_append.1 z with z | z
        · have := pcL_all x z; omega
        · have := pcL_all x z; omega
      · have := pcL_all x z; omega
    · have := pcL_all x z; omega)
  have hM3 : ∀ b o, (b, o) ∈ ((((Bx ++ [(d0, Obj.deferred (some []))]) ++ [(d1, Obj.deferred (some []))]) ++ [(d2, Obj.deferred (some []))]) ++ [(Wd2.heap.size, Obj.cells #[.int .i64 3] 3 (0, 0))]) → V3.heap[b]? = some o := fun b o hm => G3.out.at hm
  obtain ⟨⟨vg, vw, xs, us, ⟨hgw, -⟩, hgm⟩, hmc⟩ := G3.out
  obtain ⟨lS, HlS⟩ : ∃ x, Hid (ls3 = x) := ⟨_, rfl⟩
  have hsz1 : w1.heap.size = b2 := Hb2.out
  have hbz := hBz.out
  have hcbz : w.heap.size ≤ cb ∧ w.heap.size ≤ b1 := by have := ST.out; have := HCZ.out; omega
  have hww : w.heap.size ≤ w1.heap.size := by have h1 := BwB.out.size; have h2 := B1.out.size; omega
  obtain ⟨hl1, hl2⟩ := hgw.same hmc.g (by omega)
  have BV : Hid (Below w.heap.size w V3) := hid ((BwB.out.trans (B1.out.mono BwB.out.size)).grown hmc.g hww (fun k e => by cases e; exact hcbz.1))
  have hBV : B7 ≤ V3.heap.size := by have h1 := K3.out.1; omega
  have CS := hid (sameLists_any V3 vg vw ls3 ls3 hl1 hl2)
  have CA : Hid (∀ W, W.heap = V3.heap → Calls Try.prog 12 #[vg] W fun e w' => e = .returned (.bool true) ∧ BG xs B7 W w') := hid fun W hW => by
    have h1 := hgw.keep (C := W) (fun b _ => by rw [hW])
    exact apart_anyG B7 W vg xs ls3 (own_HVc h1.g.row h1.g.apt.1) h1.g.apt (by rw [hW]; exact hBV) (by have h2 := h1.g.apt.1; have h3 := HLL3.out; omega) (fun k => Nat.le_trans (getD_leC HLN.out k) (by omega))
  have HGM3 : Hid (∀ b o, (b, o) ∈ ((((Bx ++ [(d0, Obj.deferred (some []))]) ++ [(d1, Obj.deferred (some []))]) ++ [(d2, Obj.deferred (some []))]) ++ [(Wd2.heap.size, Obj.cells #[.int .i64 3] 3 (0, 0))]) → ¬ InU xs b) := hid fun b o hm q => hgm (b, o) hm (.inr (.inr (.inr q)))
  obtain ⟨pg, cg, eg⟩ := own_slc hgw.g.row
  obtain ⟨pw, cw, ew⟩ := own_slc hgw.u
  subst eg
  subst ew
  have cc0 : V3.cell? ⟨cb, 0, none⟩ = some (.slice pg ls3.length cg) := (cell_of_row _ _ _ _ _ _ hgw.c).trans rfl
  have cc1 : V3.cell? ⟨cb, 1, none⟩ = some (.slice pw ls3.length cw) := (cell_of_row _ _ _ _ _ _ hgw.c).trans rfl
  obtain ⟨n3, HN3⟩ : ∃ x, Hid (ls3.length = x) := ⟨_, rfl⟩
  have HCC := hid (And.intro t0 (And.intro t1 (And.intro t2 hx1)))
  have HDS := hid hd01
  have HCW := hid hcbz
  have HLT3 := hid hBV
  have hdw : w.heap.size ≤ d0 ∧ w.heap.size ≤ d1 ∧ w.heap.size ≤ d2 := by
    have q0 := Hd0.out
    have q1 := Hd1.out
    have q2 := Hd2.out
    have z0 := HsVa0.out
    have z1 := HsVa1.out
    have z2 := HsVa2.out
    have y0 := K0.out.1
    have y1 := K1.out.1
    have y2 := K2.out.1
    omega
  have HDW := hid hdw
  have HM3 := hid hM3
  have HC0 := hid cc0
  rw [HN3.out] at CS CA cc0 cc1 HC0
  clear hgw hgm hmc hl1 hl2 t0 t1 t2 hx1 hd01 hcbz hww hbz hsz1 hBV hdw hM3
  go_wp2_with fail
  refine CS.out.mono ?_
  rintro e wP ⟨rfl, hd5⟩
  have c00 : wP.cell? ⟨cb, 0, none⟩ = some (.slice pg n3 cg) := (World.cell?_of_block (a := ⟨cb, 0, none⟩) (by rw [hd5.heap])).trans HC0.out
  have CA1 := hid (CA.out wP hd5.heap)
  have HWP : Hid (wP.heap = V3.heap) := hid hd5.heap
  have BP : Hid (Below w.heap.size w wP) := hid (BV.out.trans (hd5.below _))
  simp only [decide_true]
  clear hd5 CS CA cc0 cc1 c12
  go_wp2_with fail
  refine CA1.out.mono ?_
  rintro e wQ ⟨rfl, hbg⟩
  have keep : ∀ b o, (b, o) ∈ ((((Bx ++ [(d0, Obj.deferred (some []))]) ++ [(d1, Obj.deferred (some []))]) ++ [(d2, Obj.deferred (some []))]) ++ [(Wd2.heap.size, Obj.cells #[.int .i64 3] 3 (0, 0))]) → wQ.heap[b]? = some o := fun b o hm => by
    have h1 := HM3.out b o hm
    rw [hbg.loc b (by rw [HWP.out]; exact (Array.getElem?_eq_some_iff.1 h1).1) (HGM3.out b o hm), HWP.out]
    exact h1
  have t0 : wQ.heap[d0]? = some (.deferred (some [])) := keep _ _ (List.mem_append_left _ (List.mem_append_left _ (List.mem_append_left _ (List.mem_append_right _ (by simp)))))
  have t1 : wQ.heap[d1]? = some (.deferred (some [])) := keep _ _ (List.mem_append_left _ (List.mem_append_left _ (List.mem_append_right _ (by simp))))
  have t2 : wQ.heap[d2]? = some (.deferred (some [])) := keep _ _ (List.mem_append_left _ (List.mem_append_right _ (by simp)))
  have h8 : wQ.heap[b1]? = some (.cells #[.bool false] 4 (0, 0)) := keep _ _ (List.mem_append_left _ (List.mem_append_left _ (List.mem_append_left _ (List.mem_append_left _ m1.out))))
  have c8 : wQ.cell? ⟨b1, 0, none⟩ = some (.bool false) := (cell_of_row _ _ _ _ _ _ h8).trans rfl
  have f8 : wQ.frozen? ⟨b1, 0, none⟩ = false := by simp [World.frozen?, h8]
  have ne : ∀ d, wQ.heap[d]? = some (.deferred (some [])) → b1 ≠ d := fun d hd e => by rw [← e, h8] at hd; cases hd
  have T0 : Hid ((wQ.setCell ⟨b1, 0, none⟩ (.bool true)).heap[d0]? = some (.deferred (some []))) := hid ((heap_setCell_other _ _ _ _ (fun e => ne d0 t0 e.symm)).trans t0)
  have T1 : Hid ((wQ.setCell ⟨b1, 0, none⟩ (.bool true)).heap[d1]? = some (.deferred (some []))) := hid ((heap_setCell_other _ _ _ _ (fun e => ne d1 t1 e.symm)).trans t1)
  have T2 : Hid ((wQ.setCell ⟨b1, 0, none⟩ (.bool true)).heap[d2]? = some (.deferred (some []))) := hid ((heap_setCell_other _ _ _ _ (fun e => ne d2 t2 e.symm)).trans t2)
  have CX : Hid ((wQ.setCell ⟨b1, 0, none⟩ (.bool true)).cell? ⟨b1, 0, none⟩ = some (.bool true)) := hid (World.cell?_setCell_same _ _ _ c8)
  have hB7w : w.heap.size ≤ B7 := by have h1 := HCW.out.1; have h2 := hBz.out; omega
  have B8 : Hid (Below w.heap.size w (wQ.setCell ⟨b1, 0, none⟩ (.bool true))) := hid ((BP.out.trans (hbg.bel.mono hB7w)).setCell (p := ⟨b1, 0, none⟩) (by show w.heap.size ≤ b1; exact HCW.out.2) _)
  have N8 := hid (And.intro (ne d0 t0) (And.intro (ne d1 t1) (ne d2 t2)))
  clear h8 t0 t1 t2 ne keep hbg c00 CA1
  go_wp2_with fail
  obtain ⟨e0, e1, e2⟩ := N8.out
  obtain ⟨n01, n02, n12⟩ := HDS.out
  obtain ⟨y0, y1, y2⟩ := HDW.out
  refine ⟨by simp, .inl ⟨_, _, rfl, run_takeDeferred T2.out, ?_⟩⟩
  refine ⟨by simp, .inl ⟨_, _, rfl, run_takeDeferred ((World.putObj_heap_other n12).trans T1.out), ?_⟩⟩
  refine ⟨by simp, .inl ⟨_, _, rfl, run_takeDeferred ((World.putObj_heap_other n01).trans ((World.putObj_heap_other n02).trans T0.out)), ?_⟩⟩
  exact ⟨_, results_boolT rfl _ _ b1 true rfl ((cell_putC e0 _).trans ((cell_putC e1 _).trans ((cell_putC e2 _).trans CX.out))), rfl, bel_putC (bel_putC (bel_putC B8.out y2 _) y1 _) y0 _⟩
theorem chlaw_any (w : World) (v : Value) (l : List Int) (size stop : Int) (h : HB w v l) :
    Calls Try.prog 3 #[v, .int .i64 size, .int .i64 stop] w fun e w' => e = .returned (.bool true) ∧ Below w.heap.size w w' := by
  by_cases hl : l.length ≤ 4000
  · exact chlaw_ok w v l size stop h hl
  · exact chlaw_long w v l size stop h hl
end Go.Proofs.Ytnifnoadfepegaa
