/- Take, Drop of a clock. -/
import Derived.Test.YtajdopmhdagehaaCksB
set_option linter.unusedVariables false
set_option linter.unusedSimpArgs false
namespace Go.Proofs.Ytajdopmhdagehaa.Ds
open Go.Proofs.Ytajdopmhdagehaa
open Go Go.RowKit
section
variable {w w' : World} {c : Nat} {now : Int} {M : List (Rw Pr)} {nx : Nat} {S : Nat → Prop} {g m : Nat} {L : List (Rw Pr)} {v : Value} {S0 : Nat → Prop}
set_option maxRecDepth 100000 in
set_option maxHeartbeats 8000000 in
theorem ctake_some (h : CK w c now M nx S) {r : Rw Pr} {M2 : List (Rw Pr)} (hM : M.Perm (r :: M2)) (hr : ∀ q ∈ M2, ahd keyD r q) :
    Calls Try.prog 24 #[ptr c] w fun e w' => e = .returned (.tuple #[.agg #[.int .i64 r.x.1, .int .i64 r.x.2.1, .string r.x.2.2], .bool true]) ∧ CK w' c r.x.2.1 M2 nx S ∧ Ex S w w' := by
  have h0 := h.below ((Below.refl _ _).alloc (Nat.le_refl _) (.cells prZ 56))
  have hz0 := heap_alloc_new w (.cells prZ 56)
  have EW0 : Hid (Ex S w (w.alloc (.cells prZ 56))) := hid ((Ex.refl S w).alloc _)
  have HNZ : Hid (¬ S w.heap.size) := hid fun q => by have := h.lt _ q; omega
  clear h
  obtain ⟨w0, HW0⟩ : ∃ w0, Hid (w.alloc (.cells prZ 56) = w0) := ⟨_, rfl⟩
  obtain ⟨zb, HZB⟩ : ∃ zb, Hid (w.heap.size = zb) := ⟨_, rfl⟩
  rw [HW0.out] at hz0 h0 EW0
  rw [HZB.out] at hz0 HNZ
  have HZ0 := hid hz0
  clear hz0
  obtain ⟨g, m, L, v, S0, h⟩ := h0
  obtain ⟨hl, e0⟩ := h.first hM hr
  have CM := hid (cmade_ok h)
  have CP := hid (pop_some clk_orc clk_ord h.lv hl)
  rw [e0] at CP
  have HI := hid h
  have HM := hid hM
  have HR := hid hr
  have c2 := h.cc.2.2.1
  clear h hl e0 hM hr
  go_enter Try.func24, Try.ntmps24
  go_wp2_with fail
  rw [HW0.out, HZB.out]
  refine CM.out.mono ?_
  rintro e w1 ⟨rfl, hw⟩
  rw [hw]
  clear hw
  go_wp2_with fail
  refine CP.out.mono ?_
  rintro e w2 ⟨rfl, L', v', hL', hE', hP', hq'⟩
  have hnz : ¬ SU S0 (fun _ => False) zb := fun q => by
    rcases q with q | q
    · exact HNZ.out (HI.out.s0 zb q).1
    · exact q
  have ht2 := (hE'.block c (HI.out.lt c HI.out.sc) HI.out.nc).trans HI.out.top
  have hz2 := (hE'.block zb (Array.getElem?_eq_some_iff.1 HZ0.out).1 hnz).trans HZ0.out
  have lc := (Array.getElem?_eq_some_iff.1 ht2).1
  have lz := (Array.getElem?_eq_some_iff.1 hz2).1
  have c1 : w2.cell? ⟨c, 1, none⟩ = some (.int .i64 now) := by rw [cell_of_row _ _ _ _ _ _ ht2]; rfl
  have f1 := free_of ht2 1
  have z0 : w2.cell? ⟨zb, 0, none⟩ = some (.int .i64 0) := by rw [cell_of_row _ _ _ _ _ _ hz2]; rfl
  have fz0 := free_of hz2 0
  have z1 : w2.cell? ⟨zb, 1, none⟩ = some (.int .i64 0) := by rw [cell_of_row _ _ _ _ _ _ hz2]; rfl
  have fz1 := free_of hz2 1
  have z2 : w2.cell? ⟨zb, 2, none⟩ = some (.string ⟨#[]⟩) := by rw [cell_of_row _ _ _ _ _ _ hz2]; rfl
  have fz2 := free_of hz2 2
  have hcz : c ≠ zb := fun q => HNZ.out (q ▸ HI.out.sc)
  have HT2 := hid ht2
  have HZ2 := hid hz2
  have HL' := hid hL'
  have HE' := hid hE'
  have HP' := hid hP'
  have HQ' := hid (hq' trivial HI.out.hp)
  clear ht2 hz2 hL' hE' hP' hq' CP CM hnz c2
  go_wp2_with fail
  have hc3 : ((((w2.setCell ⟨c, 1, none⟩ (.int .i64 r.x.2.1)).setCell ⟨zb, 0, none⟩ (.int .i64 r.x.1)).setCell ⟨zb, 1, none⟩ (.int .i64 r.x.2.1)).setCell ⟨zb, 2, none⟩ (.string r.x.2.2)).heap[c]? = some (.cells #[ptr c, .int .i64 r.x.2.1, ptr g, .int .i64 (nx : Int)] 110 (0, 0)) := (((bk_other (Ne.symm hcz) _ _).trans (bk_other (Ne.symm hcz) _ _)).trans (bk_other (Ne.symm hcz) _ _)).trans (bk_set HT2.out 1 (.int .i64 r.x.2.1))
  have hz3 : ((((w2.setCell ⟨c, 1, none⟩ (.int .i64 r.x.2.1)).setCell ⟨zb, 0, none⟩ (.int .i64 r.x.1)).setCell ⟨zb, 1, none⟩ (.int .i64 r.x.2.1)).setCell ⟨zb, 2, none⟩ (.string r.x.2.2)).heap[zb]? = some (.cells #[.int .i64 r.x.1, .int .i64 r.x.2.1, .string r.x.2.2] 56 (0, 0)) := bk_set (bk_set (bk_set ((bk_other hcz _ _).trans HZ2.out) 0 (.int .i64 r.x.1)) 1 (.int .i64 r.x.2.1)) 2 (.string r.x.2.2)
  have ho3 : ∀ k, k ≠ c → k ≠ zb → ((((w2.setCell ⟨c, 1, none⟩ (.int .i64 r.x.2.1)).setCell ⟨zb, 0, none⟩ (.int .i64 r.x.1)).setCell ⟨zb, 1, none⟩ (.int .i64 r.x.2.1)).setCell ⟨zb, 2, none⟩ (.string r.x.2.2)).heap[k]? = w2.heap[k]? := fun k hk hn => (((bk_other (Ne.symm hn) _ _).trans (bk_other (Ne.symm hn) _ _)).trans (bk_other (Ne.symm hn) _ _)).trans (bk_other (Ne.symm hk) _ _)
  have hs3 : ((((w2.setCell ⟨c, 1, none⟩ (.int .i64 r.x.2.1)).setCell ⟨zb, 0, none⟩ (.int .i64 r.x.1)).setCell ⟨zb, 1, none⟩ (.int .i64 r.x.2.1)).setCell ⟨zb, 2, none⟩ (.string r.x.2.2)).heap.size = w2.heap.size := by rw [sz_set, sz_set, sz_set, sz_set]
  have he3 : ((((w2.setCell ⟨c, 1, none⟩ (.int .i64 r.x.2.1)).setCell ⟨zb, 0, none⟩ (.int .i64 r.x.1)).setCell ⟨zb, 1, none⟩ (.int .i64 r.x.2.1)).setCell ⟨zb, 2, none⟩ (.string r.x.2.2)).os = w2.os ∧ ((((w2.setCell ⟨c, 1, none⟩ (.int .i64 r.x.2.1)).setCell ⟨zb, 0, none⟩ (.int .i64 r.x.1)).setCell ⟨zb, 1, none⟩ (.int .i64 r.x.2.1)).setCell ⟨zb, 2, none⟩ (.string r.x.2.2)).tape = w2.tape ∧ ((((w2.setCell ⟨c, 1, none⟩ (.int .i64 r.x.2.1)).setCell ⟨zb, 0, none⟩ (.int .i64 r.x.1)).setCell ⟨zb, 1, none⟩ (.int .i64 r.x.2.1)).setCell ⟨zb, 2, none⟩ (.string r.x.2.2)).output = w2.output := ⟨rfl, rfl, rfl⟩
  obtain ⟨w3, HW3⟩ : ∃ w3, Hid (((((w2.setCell ⟨c, 1, none⟩ (.int .i64 r.x.2.1)).setCell ⟨zb, 0, none⟩ (.int .i64 r.x.1)).setCell ⟨zb, 1, none⟩ (.int .i64 r.x.2.1)).setCell ⟨zb, 2, none⟩ (.string r.x.2.2)) = w3) := ⟨_, rfl⟩
  rw [HW3.out] at hc3 hz3 ho3 hs3 he3
  rw [HW3.out]
  clear HW3
  have hz4 := (heap_alloc_old w3 (.cells #[.int .i64 r.x.1, .int .i64 r.x.2.1, .string r.x.2.2] 56) (by omega)).trans hz3
  have E2 : Ex S w w2 := EW0.out.trans (HE'.out.mono (fun k q => by
    rcases q with q | q
    · exact (HI.out.s0 k q).1
    · exact q.elim)) (fun k q => .inl q)
  have E3 : Ex S w w3 := ⟨he3.1.trans E2.os, he3.2.1.trans E2.tape, he3.2.2.trans E2.output, by rw [hs3]; exact E2.size, fun k hk hn => (ho3 k (fun e => hn (e ▸ HI.out.sc)) (by have := HZB.out; omega)).trans (E2.block k hk hn)⟩
  refine bodyPost_ret (v := .tuple #[.agg #[.int .i64 r.x.1, .int .i64 r.x.2.1, .string r.x.2.2], .bool true]) (results_cellt (p := 2) (u := 3) (ty := 56) rfl _ _ zb 56 #[.int .i64 r.x.1, .int .i64 r.x.2.1, .string r.x.2.2] (0, 0) _ rfl hz4 Try.underlying56 rfl (by kernel_rfl) _ rfl) rfl ?_
  have hrM : r ∈ M := HM.out.symm.subset List.mem_cons_self
  have hrt := HI.out.tk r hrM
  have hlo := HI.out.lo
  refine ⟨rfl, ⟨g, m, L', v', _, (heap_alloc_old _ _ (by omega)).trans hc3, ⟨HL'.out.hp.of (fun k hk => (heap_alloc_old _ _ (by have := HL'.out.hp.lt k hk; omega)).trans (ho3 k (HI.out.s0 k hk.1).2 (fun e => HNZ.out (e ▸ (HI.out.s0 k hk.1).1)))), trivial, HL'.out.ap, HL'.out.dm⟩, HQ'.out, List.Perm.cons_inv (HP'.out.symm.trans (HI.out.perm.trans HM.out)), HI.out.sc, fun k hk => HI.out.s0 k hk.1, fun k hk => ?_, fun q hq => HI.out.num q (HM.out.symm.subset (List.mem_cons_of_mem _ hq)), by omega, by omega, fun q hq => ?_⟩, E3.alloc _⟩
  · have z := HI.out.lt k hk
    have z2 := HE'.out.size
    have z3 : (w3.alloc (.cells #[.int .i64 r.x.1, .int .i64 r.x.2.1, .string r.x.2.2] 56)).heap.size = w3.heap.size + 1 := by simp
    omega
  · have z := HI.out.tk q (HM.out.symm.subset (List.mem_cons_of_mem _ hq))
    have z2 := HR.out q hq
    unfold ahd keyD at z2
    omega
set_option maxRecDepth 100000 in
set_option maxHeartbeats 8000000 in
theorem ctake_none (h : CK w c now [] nx S) :
    Calls Try.prog 24 #[ptr c] w fun e w' => e = .returned (.tuple #[.agg prZ, .bool false]) ∧ CK w' c now [] nx S ∧ Ex S w w' := by
  have h0 := h.below ((Below.refl _ _).alloc (Nat.le_refl _) (.cells prZ 56))
  have hz0 := heap_alloc_new w (.cells prZ 56)
  have EW0 : Hid (Ex S w (w.alloc (.cells prZ 56))) := hid ((Ex.refl S w).alloc _)
  have HNZ : Hid (¬ S w.heap.size) := hid fun q => by have := h.lt _ q; omega
  clear h
  obtain ⟨w0, HW0⟩ : ∃ w0, Hid (w.alloc (.cells prZ 56) = w0) := ⟨_, rfl⟩
  obtain ⟨zb, HZB⟩ : ∃ zb, Hid (w.heap.size = zb) := ⟨_, rfl⟩
  rw [HW0.out] at hz0 h0 EW0
  rw [HZB.out] at hz0 HNZ
  have HZ0 := hid hz0
  clear hz0
  obtain ⟨g, m, L, v, S0, h⟩ := h0
  obtain rfl := List.perm_nil.1 h.perm
  have CM := hid (cmade_ok h)
  have CP := hid (pop_none clk_orc h.lv)
  have HI := hid h
  have c2 := h.cc.2.2.1
  clear h
  go_enter Try.func24, Try.ntmps24
  go_wp2_with fail
  rw [HW0.out, HZB.out]
  refine CM.out.mono ?_
  rintro e w1 ⟨rfl, hw⟩
  rw [hw]
  clear hw
  go_wp2_with fail
  refine CP.out.mono ?_
  rintro e w2 ⟨rfl, hl2, he2⟩
  have hnz : ¬ S0 zb := fun q => HNZ.out (HI.out.s0 zb q).1
  have hz2 := (he2.block zb (Array.getElem?_eq_some_iff.1 HZ0.out).1 hnz).trans HZ0.out
  have lz := (Array.getElem?_eq_some_iff.1 hz2).1
  have z0 : w2.cell? ⟨zb, 0, none⟩ = some (.int .i64 0) := by rw [cell_of_row _ _ _ _ _ _ hz2]; rfl
  have fz0 := free_of hz2 0
  have z1 : w2.cell? ⟨zb, 1, none⟩ = some (.int .i64 0) := by rw [cell_of_row _ _ _ _ _ _ hz2]; rfl
  have fz1 := free_of hz2 1
  have z2 : w2.cell? ⟨zb, 2, none⟩ = some (.string ⟨#[]⟩) := by rw [cell_of_row _ _ _ _ _ _ hz2]; rfl
  have fz2 := free_of hz2 2
  have H2 := hid (HI.out.peek hl2 he2)
  have HE2 := hid he2
  have HZ2 := hid hz2
  clear hz2 hl2 he2 CP CM hnz c2
  go_wp2_with fail
  have hz3 : (((w2.setCell ⟨zb, 0, none⟩ (.int .i64 0)).setCell ⟨zb, 1, none⟩ (.int .i64 0)).setCell ⟨zb, 2, none⟩ (.string ⟨#[]⟩)).heap[zb]? = some (.cells prZ 56 (0, 0)) := bk_set (bk_set (bk_set HZ2.out 0 (.int .i64 0)) 1 (.int .i64 0)) 2 (.string ⟨#[]⟩)
  have ho3 : ∀ k, k ≠ zb → (((w2.setCell ⟨zb, 0, none⟩ (.int .i64 0)).setCell ⟨zb, 1, none⟩ (.int .i64 0)).setCell ⟨zb, 2, none⟩ (.string ⟨#[]⟩)).heap[k]? = w2.heap[k]? := fun k hn => ((bk_other (Ne.symm hn) _ _).trans (bk_other (Ne.symm hn) _ _)).trans (bk_other (Ne.symm hn) _ _)
  have hs3 : (((w2.setCell ⟨zb, 0, none⟩ (.int .i64 0)).setCell ⟨zb, 1, none⟩ (.int .i64 0)).setCell ⟨zb, 2, none⟩ (.string ⟨#[]⟩)).heap.size = w2.heap.size := by rw [sz_set, sz_set, sz_set]
  have he3 : (((w2.setCell ⟨zb, 0, none⟩ (.int .i64 0)).setCell ⟨zb, 1, none⟩ (.int .i64 0)).setCell ⟨zb, 2, none⟩ (.string ⟨#[]⟩)).os = w2.os ∧ (((w2.setCell ⟨zb, 0, none⟩ (.int .i64 0)).setCell ⟨zb, 1, none⟩ (.int .i64 0)).setCell ⟨zb, 2, none⟩ (.string ⟨#[]⟩)).tape = w2.tape ∧ (((w2.setCell ⟨zb, 0, none⟩ (.int .i64 0)).setCell ⟨zb, 1, none⟩ (.int .i64 0)).setCell ⟨zb, 2, none⟩ (.string ⟨#[]⟩)).output = w2.output := ⟨rfl, rfl, rfl⟩
  obtain ⟨w3, HW3⟩ : ∃ w3, Hid ((((w2.setCell ⟨zb, 0, none⟩ (.int .i64 0)).setCell ⟨zb, 1, none⟩ (.int .i64 0)).setCell ⟨zb, 2, none⟩ (.string ⟨#[]⟩)) = w3) := ⟨_, rfl⟩
  rw [HW3.out] at hz3 ho3 hs3 he3
  rw [HW3.out]
  clear HW3
  have hz4 := (heap_alloc_old w3 (.cells prZ 56) (by omega)).trans hz3
  have E2 : Ex S w w2 := EW0.out.trans (HE2.out.mono (fun k q => (HI.out.s0 k q).1)) (fun k q => .inl q)
  have E3 : Ex S w w3 := ⟨he3.1.trans E2.os, he3.2.1.trans E2.tape, he3.2.2.trans E2.output, by rw [hs3]; exact E2.size, fun k hk hn => (ho3 k (by have := HZB.out; omega)).trans (E2.block k hk hn)⟩
  refine bodyPost_ret (v := .tuple #[.agg prZ, .bool false]) (results_cellt (p := 2) (u := 3) (ty := 56) rfl _ _ zb 56 prZ (0, 0) _ rfl hz4 Try.underlying56 rfl (by kernel_rfl) _ rfl) rfl ?_
  exact ⟨rfl, ⟨g, m, [], v, S0, H2.out.of (fun k hk => (heap_alloc_old _ _ (by have := H2.out.lt k hk; omega)).trans (ho3 k (fun e => HNZ.out (e ▸ hk))))⟩, E3.alloc _⟩
set_option maxRecDepth 100000 in
set_option maxHeartbeats 8000000 in
theorem cdrop_in (h : CK w c now M nx S) (a : Int) :
    Calls Try.prog 23 #[ptr c, .int .i64 a] w fun e w' =>
      ((∀ r ∈ M, (r.t : Int) ≠ a) ∧ e = .returned (.tuple #[.string ⟨#[]⟩, .int .i64 181]) ∧ CK w' c now M nx S ∧ Ex S w w') ∨
      (∃ r M2, M.Perm (r :: M2) ∧ (r.t : Int) = a ∧ e = .returned (.tuple #[.string r.x.2.2, .int .i64 0]) ∧ CK w' c now M2 nx S ∧ Ex S w w') := by
  obtain ⟨g, m, L, v, S0, h⟩ := h
  have CM := hid (cmade_ok h)
  have CP := hid (drop_in clk_orc clk_ord h.lv rfl a)
  have HI := hid h
  have c2 := h.cc.2.2.1
  clear h
  go_enter Try.func23, Try.ntmps23
  go_wp2_with fail
  refine CM.out.mono ?_
  rintro e w1 ⟨rfl, hw⟩
  rw [hw]
  clear hw
  go_wp2_with fail
  refine CP.out.mono ?_
  rintro e w2 (⟨hn, rfl, hl2, he2⟩ | ⟨r, hrL, hra, rfl, L', v', hL', hE', hP', hq'⟩)
  · have H2 := hid (HI.out.peek hl2 he2)
    have HE2 := hid he2
    have HN := hid hn
    clear hl2 he2 CP hn
    go_wp2_with fail
    go_ret2
    exact .inl ⟨fun r hr => HN.out r (HI.out.perm.symm.subset hr), rfl, ⟨g, m, L, v, S0, H2.out.of (fun k hk => heap_alloc_old _ _ (H2.out.lt k hk))⟩, Ex.alloc (HE2.out.mono (fun k hk => (HI.out.s0 k hk).1)) _⟩
  · have ht2 := (hE'.block c (HI.out.lt c HI.out.sc) HI.out.nc).trans HI.out.top
    have lc := (Array.getElem?_eq_some_iff.1 ht2).1
    have HT2 := hid ht2
    have HL' := hid hL'
    have HE' := hid hE'
    have HP' := hid hP'
    have HQ' := hid (hq' trivial HI.out.hp)
    have HRA := hid hra
    clear ht2 hL' hE' hP' hq' hra CP CM c2 hrL
    go_wp2_with fail
    go_ret2
    have E2 : Ex S w w2 := HE'.out.mono (fun k q => by
      rcases q with q | q
      · exact (HI.out.s0 k q).1
      · exact q.elim)
    refine .inr ⟨r, L', HI.out.perm.symm.trans HP'.out, HRA.out, rfl, ⟨g, m, L', v', _, (heap_alloc_old _ _ lc).trans HT2.out, ⟨HL'.out.hp.of (fun k hk => heap_alloc_old _ _ (HL'.out.hp.lt k hk)), trivial, HL'.out.ap, HL'.out.dm⟩, HQ'.out, List.Perm.refl _, HI.out.sc, fun k hk => HI.out.s0 k hk.1, fun k hk => ?_, fun q hq => HI.out.num q (HI.out.perm.subset (HP'.out.symm.subset (List.mem_cons_of_mem _ hq))), HI.out.lo, HI.out.hi, fun q hq => HI.out.tk q (HI.out.perm.subset (HP'.out.symm.subset (List.mem_cons_of_mem _ hq)))⟩, E2.alloc _⟩
    have z := HI.out.lt k hk
    have z2 := HE'.out.size
    have z3 : (w2.alloc (.cells #[.int .i64 r.x.1, .int .i64 r.x.2.1, .string r.x.2.2] 56)).heap.size = w2.heap.size + 1 := by simp
    omega
end
end Go.Proofs.Ytajdopmhdagehaa.Ds
