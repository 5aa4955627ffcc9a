/- Pop, Peek, Drop of a heap; New. -/
import Derived.Test.YtajdopmhdagehaaHsPush
import Derived.Carry
set_option linter.unusedVariables false
set_option linter.unusedSimpArgs false
namespace Go.Proofs.Ytajdopmhdagehaa.Ds
open Go.Proofs.Ytajdopmhdagehaa
open Go Go.RowKit
section
variable {J : World → Prop} {U : Nat → Prop} {Dm : Pr → Prop} {fid : Nat} {fr : Array Value} {Ls : Pr → Pr → Bool → Prop} {ord : Prop} {key : Pr → Int}
variable {w : World} {g : Nat} {sf F : Value} {mp : Option Nat} {L : List (Rw Pr)} {nx : Nat} {lo : Int} {v : Value} {S : Nat → Prop}
/-- What a thing taken out leaves. -/
def GoQ (ord : Prop) (key : Pr → Int) (J : World → Prop) (U : Nat → Prop) (Dm : Pr → Prop) (fid : Nat) (fr : Array Value) (w : World) (g : Nat) (sf : Value) (mp : Option Nat) (L : List (Rw Pr)) (nx : Nat) (S : Nat → Prop) (r : Rw Pr) (w' : World) : Prop :=
  ∃ L' v', Lv J U Dm fid fr w' g sf mp L' nx (-1) v' (fun k => S k ∧ k ≠ r.b) ∧ Ex (SU S U) w w' ∧ L.Perm (r :: L') ∧ (ord → hp key L → hp key L')
theorem Lv.out (O : Orc fid fr J U Dm Ls) (h : Lv J U Dm fid fr w g sf mp L nx lo v S) {w' : World} {B : Nat} (hB : ∀ k, S k → k < B) (hU : ∀ k, U k → k < B) (hk : ∀ k, k < B → w'.heap[k]? = w.heap[k]?) : Lv J U Dm fid fr w' g sf mp L nx lo v S :=
  ⟨h.hp.of (fun k q => hk k (hB k q)), O.stay _ _ h.j (fun k q => hk k (hU k q)), h.ap, h.dm⟩
abbrev prZ : Array Value := #[.int .i64 0, .int .i64 0, .string ⟨#[]⟩]
set_option maxRecDepth 100000 in
set_option maxHeartbeats 4000000 in
theorem pop_some (O : Orc fid fr J U Dm Ls) (hO : Ord ord key Ls) (h : Lv J U Dm fid fr w g (ptr g) mp L nx (-1) v S) (hl : 0 < L.length) :
    Calls Try.prog 58 #[ptr g] w fun e w' => e = .returned (.tuple #[.agg #[.int .i64 (rat L 0).x.1, .int .i64 (rat L 0).x.2.1, .string (rat L 0).x.2.2], .bool true]) ∧ GoQ ord key J U Dm fid fr w g (ptr g) mp L nx S (rat L 0) w' := by
  have hB : ∀ k, S k → k < w.heap.size := h.hp.lt
  have hU : ∀ k, U k → k < w.heap.size := O.lt _ h.j
  have h0 := h.out O hB hU (w' := w.alloc (.cells prZ 56)) (fun k hk => heap_alloc_old w _ hk)
  have hz0 : (w.alloc (.cells prZ 56)).heap[w.heap.size]? = some (.cells prZ 56 (0, 0)) := heap_alloc_new w _
  have EX0 : Hid (Ex S w (w.alloc (.cells prZ 56))) := hid ((Ex.refl S w).alloc _)
  have HZ0 := hid hz0
  have HB := hid hB
  have HU := hid hU
  have CR := hid (ready_ok O h0)
  clear h h0 hz0 hB hU
  have HL := hid hl
  go_enter Try.func58, Try.ntmps58
  go_wp2_with fail
  refine CR.out.mono ?_
  rintro e w1 ⟨rfl, h1, he1⟩
  have hnS : ¬ S w.heap.size := fun q => by have := HB.out _ q; omega
  have hnU : ¬ U w.heap.size := fun q => by have := HU.out _ q; omega
  have HZ1 := hid ((he1.block w.heap.size (Array.getElem?_eq_some_iff.1 HZ0.out).1 hnS).trans HZ0.out)
  have HE1 : Hid (Ex S w w1) := hid (EX0.out.trans he1 (fun _ q => .inl q))
  have c2 := h1.hp.cg.2.2.1
  obtain ⟨pp, cc, hv⟩ := own_slc h1.hp.row
  have CT := hid (take_any O hO 0 h1 hl)
  clear h1 he1 CR HZ0 EX0
  subst hv
  obtain ⟨n, hn⟩ : ∃ n, Hid (L.length = n) := ⟨_, rfl⟩
  rw [hn.out] at c2 hl
  have hne : (n == 0) = false := by simp; omega
  have hne' : ¬ (n : Int) = 0 := by omega
  go_wp2_with fail
  refine CT.out.mono ?_
  rintro e w2 ⟨rfl, L', v', i, hL', hr, hE', hP', hq'⟩
  have hz2 := (hE'.block w.heap.size (Array.getElem?_eq_some_iff.1 HZ1.out).1 (fun q => by rcases q with q | q; exact hnS q; exact hnU q)).trans HZ1.out
  obtain ⟨c10, c11, c12⟩ := hr.c.2.1
  have z0 : w2.cell? ⟨w.heap.size, 0, none⟩ = some (.int .i64 0) := by rw [cell_of_row _ _ _ _ _ _ hz2]; rfl
  have f0 := free_of hz2 0
  have z1 : w2.cell? ⟨w.heap.size, 1, none⟩ = some (.int .i64 0) := by rw [cell_of_row _ _ _ _ _ _ hz2]; rfl
  have f1 := free_of hz2 1
  have z2 : w2.cell? ⟨w.heap.size, 2, none⟩ = some (.string ⟨#[]⟩) := by rw [cell_of_row _ _ _ _ _ _ hz2]; rfl
  have f2 := free_of hz2 2
  have HZ2 := hid hz2
  have HL' := hid hL'
  have HE' := hid hE'
  have HP' := hid hP'
  have HQ' := hid hq'
  clear CT hL' hE' hP' hq' hr c2 hz2 HZ1
  go_wp2_with fail
  have hz3 := bk_set (bk_set (bk_set HZ2.out 0 (.int .i64 (rat L 0).x.1)) 1 (.int .i64 (rat L 0).x.2.1)) 2 (.string (rat L 0).x.2.2)
  refine bodyPost_ret (v := .tuple #[.agg #[.int .i64 (rat L 0).x.1, .int .i64 (rat L 0).x.2.1, .string (rat L 0).x.2.2], .bool true]) (results_cellt (p := 2) (u := 3) (ty := 56) rfl _ _ w.heap.size 56 #[.int .i64 (rat L 0).x.1, .int .i64 (rat L 0).x.2.1, .string (rat L 0).x.2.2] (0, 0) _ rfl hz3 Try.underlying56 rfl (by kernel_rfl) _ rfl) rfl ?_
  refine ⟨rfl, L', v', HL'.out.out O (fun k q => HB.out k q.1) HU.out (fun k hk => ((bk_other (by omega) _ _).trans (bk_other (by omega) _ _)).trans (bk_other (by omega) _ _)), ?_, HP'.out, HQ'.out⟩
  have E2 : Ex (SU S U) w w2 := (HE1.out.mono (fun k hk => .inl hk)).trans HE'.out (fun _ q => .inl q)
  exact ⟨E2.os, E2.tape, E2.output, by rw [sz_set, sz_set, sz_set]; exact E2.size, fun k hk hn => by rw [bk_other (by omega), bk_other (by omega), bk_other (by omega)]; exact E2.block k hk hn⟩
set_option maxRecDepth 100000 in
set_option maxHeartbeats 4000000 in
theorem pop_none (O : Orc fid fr J U Dm Ls) (h : Lv J U Dm fid fr w g (ptr g) mp [] nx (-1) v S) :
    Calls Try.prog 58 #[ptr g] w fun e w' => e = .returned (.tuple #[.agg prZ, .bool false]) ∧ Lv J U Dm fid fr w' g (ptr g) mp [] nx (-1) v S ∧ Ex S w w' := by
  have hB : ∀ k, S k → k < w.heap.size := h.hp.lt
  have hU : ∀ k, U k → k < w.heap.size := O.lt _ h.j
  have h0 := h.out O hB hU (w' := w.alloc (.cells prZ 56)) (fun k hk => heap_alloc_old w _ hk)
  have hz0 : (w.alloc (.cells prZ 56)).heap[w.heap.size]? = some (.cells prZ 56 (0, 0)) := heap_alloc_new w _
  have EX0 : Hid (Ex S w (w.alloc (.cells prZ 56))) := hid ((Ex.refl S w).alloc _)
  have HZ0 := hid hz0
  have HB := hid hB
  have HU := hid hU
  have CR := hid (ready_ok O h0)
  clear h h0 hz0 hB hU
  go_enter Try.func58, Try.ntmps58
  go_wp2_with fail
  refine CR.out.mono ?_
  rintro e w1 ⟨rfl, h1, he1⟩
  have hnS : ¬ S w.heap.size := fun q => by have := HB.out _ q; omega
  have hnU : ¬ U w.heap.size := fun q => by have := HU.out _ q; omega
  have hz1 := (he1.block w.heap.size (Array.getElem?_eq_some_iff.1 HZ0.out).1 hnS).trans HZ0.out
  have HZ1 := hid hz1
  have z0 : w1.cell? ⟨w.heap.size, 0, none⟩ = some (.int .i64 0) := by rw [cell_of_row _ _ _ _ _ _ hz1]; rfl
  have f0 := free_of hz1 0
  have z1 : w1.cell? ⟨w.heap.size, 1, none⟩ = some (.int .i64 0) := by rw [cell_of_row _ _ _ _ _ _ hz1]; rfl
  have f1 := free_of hz1 1
  have z2 : w1.cell? ⟨w.heap.size, 2, none⟩ = some (.string ⟨#[]⟩) := by rw [cell_of_row _ _ _ _ _ _ hz1]; rfl
  have f2 := free_of hz1 2
  have hsz : w.heap.size < w1.heap.size := (Array.getElem?_eq_some_iff.1 hz1).1
  have HE1 : Hid (Ex S w w1) := hid (EX0.out.trans he1 (fun _ q => .inl q))
  have H1 := hid h1
  have c2 := h1.hp.cg.2.2.1
  obtain ⟨pp, cc, hv⟩ := own_slc h1.hp.row
  clear h1 he1 CR HZ0 EX0 hz1
  subst hv
  simp only [List.length_nil] at c2
  go_wp2_with fail
  have hz3 := bk_set (bk_set (bk_set HZ1.out 0 (.int .i64 0)) 1 (.int .i64 0)) 2 (.string ⟨#[]⟩)
  have hz4 : ((((w1.setCell ⟨w.heap.size, 0, none⟩ (.int .i64 0)).setCell ⟨w.heap.size, 1, none⟩ (.int .i64 0)).setCell ⟨w.heap.size, 2, none⟩ (.string ⟨#[]⟩)).alloc (.cells prZ 56)).heap[w.heap.size]? = some (.cells prZ 56 (0, 0)) := (heap_alloc_old _ _ (by rw [sz_set, sz_set, sz_set]; exact hsz)).trans hz3
  refine bodyPost_ret (v := .tuple #[.agg prZ, .bool false]) (results_cellt (p := 2) (u := 3) (ty := 56) rfl _ _ w.heap.size 56 prZ (0, 0) _ rfl hz4 Try.underlying56 rfl (by kernel_rfl) _ rfl) rfl ?_
  have E1 := HE1.out
  refine ⟨rfl, H1.out.out O HB.out HU.out (fun k hk => (heap_alloc_old _ _ (by rw [sz_set, sz_set, sz_set]; omega)).trans (((bk_other (by omega) _ _).trans (bk_other (by omega) _ _)).trans (bk_other (by omega) _ _))), Ex.alloc (⟨E1.os, E1.tape, E1.output, by rw [sz_set, sz_set, sz_set]; exact E1.size, fun k hk hn => by rw [bk_other (by omega), bk_other (by omega), bk_other (by omega)]; exact E1.block k hk hn⟩ : Ex _ w (((w1.setCell ⟨w.heap.size, 0, none⟩ (.int .i64 0)).setCell ⟨w.heap.size, 1, none⟩ (.int .i64 0)).setCell ⟨w.heap.size, 2, none⟩ (.string ⟨#[]⟩))) _⟩
set_option maxRecDepth 100000 in
set_option maxHeartbeats 4000000 in
theorem peek_none (O : Orc fid fr J U Dm Ls) (h : Lv J U Dm fid fr w g (ptr g) mp [] nx (-1) v S) :
    Calls Try.prog 79 #[ptr g] w fun e w' => e = .returned (.tuple #[.agg prZ, .bool false]) ∧ Lv J U Dm fid fr w' g (ptr g) mp [] nx (-1) v S ∧ Ex S w w' := by
  have hB : ∀ k, S k → k < w.heap.size := h.hp.lt
  have hU : ∀ k, U k → k < w.heap.size := O.lt _ h.j
  have h0 := h.out O hB hU (w' := w.alloc (.cells prZ 56)) (fun k hk => heap_alloc_old w _ hk)
  have hz0 : (w.alloc (.cells prZ 56)).heap[w.heap.size]? = some (.cells prZ 56 (0, 0)) := heap_alloc_new w _
  have EX0 : Hid (Ex S w (w.alloc (.cells prZ 56))) := hid ((Ex.refl S w).alloc _)
  have HZ0 := hid hz0
  have HB := hid hB
  have HU := hid hU
  have CR := hid (ready_ok O h0)
  clear h h0 hz0 hB hU
  go_enter Try.func79, Try.ntmps79
  go_wp2_with fail
  refine CR.out.mono ?_
  rintro e w1 ⟨rfl, h1, he1⟩
  have hnS : ¬ S w.heap.size := fun q => by have := HB.out _ q; omega
  have hnU : ¬ U w.heap.size := fun q => by have := HU.out _ q; omega
  have hz1 := (he1.block w.heap.size (Array.getElem?_eq_some_iff.1 HZ0.out).1 hnS).trans HZ0.out
  have HZ1 := hid hz1
  have z0 : w1.cell? ⟨w.heap.size, 0, none⟩ = some (.int .i64 0) := by rw [cell_of_row _ _ _ _ _ _ hz1]; rfl
  have f0 := free_of hz1 0
  have z1 : w1.cell? ⟨w.heap.size, 1, none⟩ = some (.int .i64 0) := by rw [cell_of_row _ _ _ _ _ _ hz1]; rfl
  have f1 := free_of hz1 1
  have z2 : w1.cell? ⟨w.heap.size, 2, none⟩ = some (.string ⟨#[]⟩) := by rw [cell_of_row _ _ _ _ _ _ hz1]; rfl
  have f2 := free_of hz1 2
  have hsz : w.heap.size < w1.heap.size := (Array.getElem?_eq_some_iff.1 hz1).1
  have HE1 : Hid (Ex S w w1) := hid (EX0.out.trans he1 (fun _ q => .inl q))
  have H1 := hid h1
  have c2 := h1.hp.cg.2.2.1
  obtain ⟨pp, cc, hv⟩ := own_slc h1.hp.row
  clear h1 he1 CR HZ0 EX0 hz1
  subst hv
  simp only [List.length_nil] at c2
  go_wp2_with fail
  have hz3 := bk_set (bk_set (bk_set HZ1.out 0 (.int .i64 0)) 1 (.int .i64 0)) 2 (.string ⟨#[]⟩)
  have hz4 : ((((w1.setCell ⟨w.heap.size, 0, none⟩ (.int .i64 0)).setCell ⟨w.heap.size, 1, none⟩ (.int .i64 0)).setCell ⟨w.heap.size, 2, none⟩ (.string ⟨#[]⟩)).alloc (.cells prZ 56)).heap[w.heap.size]? = some (.cells prZ 56 (0, 0)) := (heap_alloc_old _ _ (by rw [sz_set, sz_set, sz_set]; exact hsz)).trans hz3
  refine bodyPost_ret (v := .tuple #[.agg prZ, .bool false]) (results_cellt (p := 2) (u := 3) (ty := 56) rfl _ _ w.heap.size 56 prZ (0, 0) _ rfl hz4 Try.underlying56 rfl (by kernel_rfl) _ rfl) rfl ?_
  have E1 := HE1.out
  refine ⟨rfl, H1.out.out O HB.out HU.out (fun k hk => (heap_alloc_old _ _ (by rw [sz_set, sz_set, sz_set]; omega)).trans (((bk_other (by omega) _ _).trans (bk_other (by omega) _ _)).trans (bk_other (by omega) _ _))), Ex.alloc (⟨E1.os, E1.tape, E1.output, by rw [sz_set, sz_set, sz_set]; exact E1.size, fun k hk hn => by rw [bk_other (by omega), bk_other (by omega), bk_other (by omega)]; exact E1.block k hk hn⟩ : Ex _ w (((w1.setCell ⟨w.heap.size, 0, none⟩ (.int .i64 0)).setCell ⟨w.heap.size, 1, none⟩ (.int .i64 0)).setCell ⟨w.heap.size, 2, none⟩ (.string ⟨#[]⟩))) _⟩
set_option maxRecDepth 100000 in
set_option maxHeartbeats 4000000 in
theorem peek_some (O : Orc fid fr J U Dm Ls) (h : Lv J U Dm fid fr w g (ptr g) mp L nx (-1) v S) (hl : 0 < L.length) :
    Calls Try.prog 79 #[ptr g] w fun e w' => e = .returned (.tuple #[.agg #[.int .i64 (rat L 0).x.1, .int .i64 (rat L 0).x.2.1, .string (rat L 0).x.2.2], .bool true]) ∧ Lv J U Dm fid fr w' g (ptr g) mp L nx (-1) v S ∧ Ex S w w' := by
  have hB : ∀ k, S k → k < w.heap.size := h.hp.lt
  have hU : ∀ k, U k → k < w.heap.size := O.lt _ h.j
  have h0 := h.out O hB hU (w' := w.alloc (.cells prZ 56)) (fun k hk => heap_alloc_old w _ hk)
  have hz0 : (w.alloc (.cells prZ 56)).heap[w.heap.size]? = some (.cells prZ 56 (0, 0)) := heap_alloc_new w _
  have EX0 : Hid (Ex S w (w.alloc (.cells prZ 56))) := hid ((Ex.refl S w).alloc _)
  have HZ0 := hid hz0
  have HB := hid hB
  have HU := hid hU
  have CR := hid (ready_ok O h0)
  clear h h0 hz0 hB hU
  have HL := hid hl
  go_enter Try.func79, Try.ntmps79
  go_wp2_with fail
  refine CR.out.mono ?_
  rintro e w1 ⟨rfl, h1, he1⟩
  have hnS : ¬ S w.heap.size := fun q => by have := HB.out _ q; omega
  have hnU : ¬ U w.heap.size := fun q => by have := HU.out _ q; omega
  have hz2 := (he1.block w.heap.size (Array.getElem?_eq_some_iff.1 HZ0.out).1 hnS).trans HZ0.out
  have z0 : w1.cell? ⟨w.heap.size, 0, none⟩ = some (.int .i64 0) := by rw [cell_of_row _ _ _ _ _ _ hz2]; rfl
  have f0 := free_of hz2 0
  have z1 : w1.cell? ⟨w.heap.size, 1, none⟩ = some (.int .i64 0) := by rw [cell_of_row _ _ _ _ _ _ hz2]; rfl
  have f1 := free_of hz2 1
  have z2 : w1.cell? ⟨w.heap.size, 2, none⟩ = some (.string ⟨#[]⟩) := by rw [cell_of_row _ _ _ _ _ _ hz2]; rfl
  have f2 := free_of hz2 2
  have HZ2 := hid hz2
  have HE1 : Hid (Ex S w w1) := hid (EX0.out.trans he1 (fun _ q => .inl q))
  have H1 := hid h1
  have c2 := h1.hp.cg.2.2.1
  obtain ⟨b, cap, cur, hv, hb, -, -, -, -, hcu⟩ := h1.hp.slc hl
  have r0 : w1.cell? ⟨b, 0, none⟩ = some (ptr (rat L 0).b) := by rw [cell_of_row _ _ _ _ _ _ hb]; exact hcu 0 hl
  obtain ⟨c10, c11, c12⟩ := (h1.hp.each 0 _ (rat_some hl)).c.2.1
  clear h1 he1 CR hb hcu HZ0 EX0 hz2
  subst hv
  obtain ⟨n, hn⟩ : ∃ n, Hid (L.length = n) := ⟨_, rfl⟩
  rw [hn.out] at c2 hl
  have hne : (n == 0) = false := by simp; omega
  have hne' : ¬ (n : Int) = 0 := by omega
  have hlt' : (0 : Int) < (n : Int) := by omega
  go_wp2_with fail
  have hz3 := bk_set (bk_set (bk_set HZ2.out 0 (.int .i64 (rat L 0).x.1)) 1 (.int .i64 (rat L 0).x.2.1)) 2 (.string (rat L 0).x.2.2)
  refine bodyPost_ret (v := .tuple #[.agg #[.int .i64 (rat L 0).x.1, .int .i64 (rat L 0).x.2.1, .string (rat L 0).x.2.2], .bool true]) (results_cellt (p := 2) (u := 3) (ty := 56) rfl _ _ w.heap.size 56 #[.int .i64 (rat L 0).x.1, .int .i64 (rat L 0).x.2.1, .string (rat L 0).x.2.2] (0, 0) _ rfl hz3 Try.underlying56 rfl (by kernel_rfl) _ rfl) rfl ?_
  have E1 := HE1.out
  refine ⟨rfl, H1.out.out O HB.out HU.out (fun k hk => ((bk_other (by omega) _ _).trans (bk_other (by omega) _ _)).trans (bk_other (by omega) _ _)), (⟨E1.os, E1.tape, E1.output, by rw [sz_set, sz_set, sz_set]; exact E1.size, fun k hk hn => by rw [bk_other (by omega), bk_other (by omega), bk_other (by omega)]; exact E1.block k hk hn⟩ : Ex _ w (((w1.setCell ⟨w.heap.size, 0, none⟩ (.int .i64 (rat L 0).x.1)).setCell ⟨w.heap.size, 1, none⟩ (.int .i64 (rat L 0).x.2.1)).setCell ⟨w.heap.size, 2, none⟩ (.string (rat L 0).x.2.2)))⟩
set_option maxRecDepth 100000 in
set_option maxHeartbeats 4000000 in
theorem drop_in (O : Orc fid fr J U Dm Ls) (hO : Ord ord key Ls) (h : Lv J U Dm fid fr w g (ptr g) mp L nx (-1) v S) {m : Nat} (hmp : mp = some m) (a : Int) :
    Calls Try.prog 57 #[ptr g, .int .i64 a] w fun e w' =>
      ((∀ r ∈ L, (r.t : Int) ≠ a) ∧ e = .returned (.tuple #[.agg prZ, .int .i64 171]) ∧ Lv J U Dm fid fr w' g (ptr g) mp L nx (-1) v S ∧ Ex S w w') ∨
      (∃ r ∈ L, (r.t : Int) = a ∧ e = .returned (.tuple #[.agg #[.int .i64 r.x.1, .int .i64 r.x.2.1, .string r.x.2.2], .int .i64 0]) ∧ GoQ ord key J U Dm fid fr w g (ptr g) mp L nx S r w') := by
  have hB : ∀ k, S k → k < w.heap.size := h.hp.lt
  have hU : ∀ k, U k → k < w.heap.size := O.lt _ h.j
  have s1 : (w.alloc (.cells prZ 56)).heap.size = w.heap.size + 1 := by simp
  have h0 := h.out O hB hU (w' := ((w.alloc (.cells prZ 56)).alloc (.cells prZ 56))) (fun k hk => (heap_alloc_old _ _ (by rw [s1]; omega)).trans (heap_alloc_old w _ hk))
  have hz0 : ((w.alloc (.cells prZ 56)).alloc (.cells prZ 56)).heap[w.heap.size]? = some (.cells prZ 56 (0, 0)) := (heap_alloc_old _ _ (by rw [s1]; omega)).trans (heap_alloc_new w _)
  have hy0 : ((w.alloc (.cells prZ 56)).alloc (.cells prZ 56)).heap[w.heap.size + 1]? = some (.cells prZ 56 (0, 0)) := by have := heap_alloc_new (w.alloc (.cells prZ 56)) (.cells prZ 56); rw [s1] at this; exact this
  have EX0 : Hid (Ex S w ((w.alloc (.cells prZ 56)).alloc (.cells prZ 56))) := hid (((Ex.refl S w).alloc _).alloc _)
  have HZ0 := hid hz0
  have HY0 := hid hy0
  have HB := hid hB
  have HU := hid hU
  have CR := hid (ready_ok O h0)
  clear h h0 hz0 hy0 hB hU s1
  subst hmp
  go_enter Try.func57, Try.ntmps57
  go_wp2_with fail
  refine CR.out.mono ?_
  rintro e w1 ⟨rfl, h1, he1⟩
  have hnS : ¬ S w.heap.size := fun q => by have := HB.out _ q; omega
  have hnU : ¬ U w.heap.size := fun q => by have := HU.out _ q; omega
  have hnS' : ¬ S (w.heap.size + 1) := fun q => by have := HB.out _ q; omega
  have hz1 := (he1.block w.heap.size (Array.getElem?_eq_some_iff.1 HZ0.out).1 hnS).trans HZ0.out
  have hy1 := (he1.block (w.heap.size + 1) (Array.getElem?_eq_some_iff.1 HY0.out).1 hnS').trans HY0.out
  have HZ1 := hid hz1
  have z0 : w1.cell? ⟨w.heap.size, 0, none⟩ = some (.int .i64 0) := by rw [cell_of_row _ _ _ _ _ _ hz1]; rfl
  have f0 := free_of hz1 0
  have z1 : w1.cell? ⟨w.heap.size, 1, none⟩ = some (.int .i64 0) := by rw [cell_of_row _ _ _ _ _ _ hz1]; rfl
  have f1 := free_of hz1 1
  have z2 : w1.cell? ⟨w.heap.size, 2, none⟩ = some (.string ⟨#[]⟩) := by rw [cell_of_row _ _ _ _ _ _ hz1]; rfl
  have f2 := free_of hz1 2
  have y0 : w1.cell? ⟨w.heap.size + 1, 0, none⟩ = some (.int .i64 0) := by rw [cell_of_row _ _ _ _ _ _ hy1]; rfl
  have y1 : w1.cell? ⟨w.heap.size + 1, 1, none⟩ = some (.int .i64 0) := by rw [cell_of_row _ _ _ _ _ _ hy1]; rfl
  have y2 : w1.cell? ⟨w.heap.size + 1, 2, none⟩ = some (.string ⟨#[]⟩) := by rw [cell_of_row _ _ _ _ _ _ hy1]; rfl
  have HE1 : Hid (Ex S w w1) := hid (EX0.out.trans he1 (fun _ q => .inl q))
  have H1 := hid h1
  have c3 := h1.hp.cg.2.2.2.1
  rcases run_look_ok (h1.hp.held m rfl).1 a with ⟨hn, hlk⟩ | ⟨r, hr, hra, hlk⟩
  · have HN := hid hn
    clear h1 he1 CR hn HZ0 HY0 EX0 hz1 hy1
    go_wp2_with fail
    have hz3 := bk_set (bk_set (bk_set HZ1.out 0 (.int .i64 0)) 1 (.int .i64 0)) 2 (.string ⟨#[]⟩)
    refine bodyPost_ret (v := .tuple #[.agg prZ, .int .i64 171]) (results_cellt (p := 4) (u := 5) (ty := 56) rfl _ _ w.heap.size 56 prZ (0, 0) _ rfl hz3 Try.underlying56 rfl (by kernel_rfl) _ rfl) rfl ?_
    have E1 := HE1.out
    exact .inl ⟨HN.out, rfl, H1.out.out O HB.out HU.out (fun k hk => ((bk_other (by omega) _ _).trans (bk_other (by omega) _ _)).trans (bk_other (by omega) _ _)), (⟨E1.os, E1.tape, E1.output, by rw [sz_set, sz_set, sz_set]; exact E1.size, fun k hk hn => by rw [bk_other (by omega), bk_other (by omega), bk_other (by omega)]; exact E1.block k hk hn⟩ : Ex _ w (((w1.setCell ⟨w.heap.size, 0, none⟩ (.int .i64 0)).setCell ⟨w.heap.size, 1, none⟩ (.int .i64 0)).setCell ⟨w.heap.size, 2, none⟩ (.string ⟨#[]⟩)))⟩
  · obtain ⟨i, hi⟩ := List.mem_iff_getElem?.1 hr
    have hil := (List.getElem?_eq_some_iff.1 hi).1
    have r2 := (h1.hp.each i r hi).c.2.2
    have CT := hid (take_any O hO i h1 hil)
    rw [rat_eq hi] at CT
    have HR := hid hr
    have HRA := hid hra
    clear h1 he1 CR hr hra hi HZ0 HY0 EX0 hz1 hy1 z0 f0 y0 z1 f1 y1 z2 f2 y2
    go_wp2_with fail
    refine CT.out.mono ?_
    rintro e w2 ⟨rfl, L', v', i', hL', hr', hE', hP', hq'⟩
    have hz2 := (hE'.block w.heap.size (Array.getElem?_eq_some_iff.1 HZ1.out).1 (fun q => by rcases q with q | q; exact hnS q; exact hnU q)).trans HZ1.out
    obtain ⟨c10, c11, c12⟩ := hr'.c.2.1
    have z0 : w2.cell? ⟨w.heap.size, 0, none⟩ = some (.int .i64 0) := by rw [cell_of_row _ _ _ _ _ _ hz2]; rfl
    have f0 := free_of hz2 0
    have z1 : w2.cell? ⟨w.heap.size, 1, none⟩ = some (.int .i64 0) := by rw [cell_of_row _ _ _ _ _ _ hz2]; rfl
    have f1 := free_of hz2 1
    have z2 : w2.cell? ⟨w.heap.size, 2, none⟩ = some (.string ⟨#[]⟩) := by rw [cell_of_row _ _ _ _ _ _ hz2]; rfl
    have f2 := free_of hz2 2
    have HZ2 := hid hz2
    have HL' := hid hL'
    have HE' := hid hE'
    have HP' := hid hP'
    have HQ' := hid hq'
    clear CT hL' hE' hP' hq' hr' c3 hlk r2 hz2 HZ1
    go_wp2_with fail
    have hz3 := bk_set (bk_set (bk_set HZ2.out 0 (.int .i64 r.x.1)) 1 (.int .i64 r.x.2.1)) 2 (.string r.x.2.2)
    refine bodyPost_ret (v := .tuple #[.agg #[.int .i64 r.x.1, .int .i64 r.x.2.1, .string r.x.2.2], .int .i64 0]) (results_cellt (p := 4) (u := 5) (ty := 56) rfl _ _ w.heap.size 56 #[.int .i64 r.x.1, .int .i64 r.x.2.1, .string r.x.2.2] (0, 0) _ rfl hz3 Try.underlying56 rfl (by kernel_rfl) _ rfl) rfl ?_
    refine .inr ⟨r, HR.out, HRA.out, rfl, L', v', HL'.out.out O (fun k q => HB.out k q.1) HU.out (fun k hk => ((bk_other (by omega) _ _).trans (bk_other (by omega) _ _)).trans (bk_other (by omega) _ _)), ?_, HP'.out, HQ'.out⟩
    have E2 : Ex (SU S U) w w2 := (HE1.out.mono (fun k hk => .inl hk)).trans HE'.out (fun _ q => .inl q)
    exact ⟨E2.os, E2.tape, E2.output, by rw [sz_set, sz_set, sz_set]; exact E2.size, fun k hk hn => by rw [bk_other (by omega), bk_other (by omega), bk_other (by omega)]; exact E2.block k hk hn⟩
theorem eq_fn (n : Nat) (fr : Array Value) (w : World) : (binOp .eql 108 (.func (.func n) #[] fr) .nilFunc).run Try.prog w = .ok (.bool false) w := by
  have h : ∀ d : Nat, (Op.equalIn (d + 1) 108 (.func (.func n) #[] fr) .nilFunc).run Try.prog w = .ok false w := fun d => by simp [Op.equalIn, run_underlying Try.underlying108]
  simp only [binOp]
  simp [Op.equal, Op.maxDepth, h 9999]
theorem eq_fn0 (w : World) : (binOp .eql 108 .nilFunc .nilFunc).run Try.prog w = .ok (.bool true) w := by
  have h : ∀ d : Nat, (Op.equalIn (d + 1) 108 .nilFunc .nilFunc).run Try.prog w = .ok true w := fun d => by simp [Op.equalIn, run_underlying Try.underlying108]
  simp only [binOp]
  simp [Op.equal, Op.maxDepth, h 9999]
/-- A heap that was made. -/
def nhW (w : World) (F : Value) : World := (w.alloc (.map #[] 0)).alloc (.cells #[.pointer (some ⟨w.heap.size + 1, 0, none⟩), F, .slice none 0 0, .map (some w.heap.size), .int .i64 0, .int .i64 (-1)] 144)
set_option maxRecDepth 100000 in
set_option maxHeartbeats 4000000 in
theorem new_ok (w : World) (fid : Nat) (fr : Array Value) :
    Calls Try.prog 42 #[.func (.func fid) #[] fr] w fun e w' => e = .returned (.tuple #[ptr (w.heap.size + 1), .int .i64 0]) ∧ w' = nhW w (.func (.func fid) #[] fr) := by
  have he := eq_fn
  have hmm := run_makeMap (P := Try.prog) 141 w
  go_enter Try.func42, Try.ntmps42
  go_wp2
  go_ret2
  exact ⟨rfl, rfl⟩
set_option maxRecDepth 100000 in
set_option maxHeartbeats 4000000 in
theorem new_nil (w : World) : Calls Try.prog 42 #[.nilFunc] w fun e w' => e = .returned (.tuple #[.pointer none, .int .i64 170]) ∧ w' = w := by
  have he := eq_fn0
  go_enter Try.func42, Try.ntmps42
  go_wp2
  go_ret2
  exact ⟨rfl, rfl⟩
theorem nh_size (w : World) (F : Value) : (nhW w F).heap.size = w.heap.size + 2 := by
  show ((w.heap.push _).push _).size = _
  rw [Array.size_push, Array.size_push]
theorem nh_old (w : World) (F : Value) {k : Nat} (hk : k < w.heap.size) : (nhW w F).heap[k]? = w.heap[k]? := by
  show ((w.heap.push _).push _)[k]? = _
  rw [Array.getElem?_push, if_neg (by rw [Array.size_push]; omega), Array.getElem?_push, if_neg (by omega)]
theorem nh_ex (S : Nat → Prop) (w : World) (F : Value) : Ex S w (nhW w F) := ⟨rfl, rfl, rfl, by rw [nh_size]; omega, fun k hk _ => nh_old w F hk⟩
theorem nh_hp (w : World) (F : Value) : HHp (nhW w F) (w.heap.size + 1) (ptr (w.heap.size + 1)) F (some w.heap.size) [] 0 (-1) (.slice none 0 0) (fun k => w.heap.size ≤ k ∧ k < (nhW w F).heap.size) where
  top := by
    show ((w.heap.push _).push _)[w.heap.size + 1]? = _
    rw [Array.getElem?_push, if_pos (by rw [Array.size_push])]
    rfl
  row := ⟨rfl, .inl ⟨rfl, rfl⟩⟩
  each := fun i r h => by simp at h
  held := fun m hm => by
    cases hm
    refine ⟨⟨#[], 0, ?_, ⟨(fun e he => by cases he), by simp, (fun r h => by cases h)⟩, fun e he => by cases he⟩, Nat.le_refl _, by rw [nh_size]; omega⟩
    show ((w.heap.push _).push _)[w.heap.size]? = _
    rw [Array.getElem?_push, if_neg (by rw [Array.size_push]; omega), Array.getElem?_push, if_pos rfl]
  tk := fun r h => by cases h
  one := by simp
  sg := ⟨by omega, by rw [nh_size]; omega⟩
  sr := fun b hb => by cases hb
  se := fun r h => by cases h
  lt := fun k h => h.2
  few := by omega
  len := by simp
theorem nh_lv (O : Orc fid fr J U Dm Ls) (w : World) (hj : J w) : Lv J U Dm fid fr (nhW w (.func (.func fid) #[] fr)) (w.heap.size + 1) (ptr (w.heap.size + 1)) (some w.heap.size) [] 0 (-1) (.slice none 0 0) (fun k => w.heap.size ≤ k ∧ k < (nhW w (.func (.func fid) #[] fr)).heap.size) :=
  ⟨nh_hp w _, O.stay _ _ hj (fun k hk => nh_old w _ (O.lt _ hj k hk)), fun k hk q => by have := O.lt _ hj k q; omega, fun r h => by cases h⟩
theorem hp_nilq : hp key ([] : List (Rw Pr)) := fun i _ h => by simp at h
end
end Go.Proofs.Ytajdopmhdagehaa.Ds
