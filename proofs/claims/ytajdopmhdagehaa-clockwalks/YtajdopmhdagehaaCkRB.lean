/- The document's clock: first, out. -/
import Derived.Test.YtajdopmhdagehaaCkRA
set_option linter.unusedVariables false
set_option linter.unusedSimpArgs false
namespace Go.Proofs.Ytajdopmhdagehaa.Rc
open Go.Proofs.Ytajdopmhdagehaa
open Go Go.RowKit
section
variable {w : World} {y : Nat} {tk : Int} {md : Nat} {l : List Tr} {v : Value}
theorem HRc.dr (h : HRc w y tk md l v) {w' : World} (hd : Dr w w') : HRc w' y tk md l v := h.below (hd.below _)
/-- k is the first of the least among the first i. -/
def FsI (l : List Tr) (i k : Nat) : Prop := k < i ∧ ∀ j, j < i → (tA l k).2.1 ≤ (tA l j).2.1 ∧ (j < k → (tA l k).2.1 < (tA l j).2.1)
set_option maxRecDepth 100000 in
set_option maxHeartbeats 4000000 in
theorem rfirst_ok (h : HRc w y tk md l v) (hl : l.length < 1152921504606846976) :
    Calls Try.prog 81 #[ptr y] w fun e w' => ∃ b : Int, e = .returned (.int .i64 b) ∧ ((l = [] ∧ b = -1) ∨ ∃ k : Nat, b = (k : Int) ∧ FsI l l.length k) ∧ Dr w w' := by
  have H := hid h
  obtain ⟨pv, cv, hv⟩ := own3_slc h.row
  subst hv
  clear h
  obtain ⟨n, hn⟩ : ∃ n, Hid (l.length = n) := ⟨_, rfl⟩
  rw [hn.out] at H hl
  go_enter Try.func81, Try.ntmps81
  go_wp2_with fail
  go_loopw [3, 4] (fun vb vi wr => ∃ (i : Nat) (b : Int), vi = .int .i64 (i : Int) ∧ vb = .int .i64 b ∧ i ≤ n ∧ Hid ((i = 0 ∧ b = -1) ∨ ∃ k : Nat, b = (k : Int) ∧ FsI l i k) ∧ Hid (Dr w wr)) (fun _ vi _ => n - (intOf vi).toNat)
  case atStart => exact ⟨0, -1, rfl, rfl, Nat.zero_le _, hid (.inl ⟨rfl, rfl⟩), hid (Dr.refl _)⟩
  case round =>
    obtain ⟨i, b, rfl, rfl, hi, HI, HD⟩ := hrel
    have HR := hid (H.out.dr HD.out)
    obtain ⟨c0, c1, c2⟩ := HR.out.c
    by_cases hlt : i < n
    · have hlt' : (i : Int) < (n : Int) := by omega
      have hil : i < l.length := by rw [hn.out]; exact hlt
      obtain ⟨bb, cap, hv, hcap, x0, x1, x2⟩ := HR.out.item hil
      rw [hn.out] at hv hcap
      simp only [Value.slice.injEq, true_and] at hv
      obtain ⟨rfl, rfl⟩ := hv
      rcases HI.out with ⟨h0, hb⟩ | ⟨k, hb, hk⟩
      · subst h0 hb
        go_wp2_with fail
        go_quiet (fail)
        go_wp2_with fail
        refine ⟨⟨1, 0, by go_num, rfl, by omega, hid (.inr ⟨0, rfl, by omega, fun j hj => ?_⟩), hid (HD.out.trans (Dr.one _ _))⟩, by simp [intOf]; omega⟩
        obtain rfl : j = 0 := by omega
        exact ⟨Int.le_refl _, fun h => by omega⟩
      · subst hb
        have hkl : k < l.length := by have := hk.1; omega
        obtain ⟨_, _, hv2, _, y0, y1, y2⟩ := HR.out.item hkl
        simp only [Value.slice.injEq, Option.some.injEq, Addr.mk.injEq, and_true] at hv2
        obtain ⟨rfl, _, rfl⟩ := hv2
        have hg0 : decide ((k : Int) < 0) = false := by simp
        have hg1 : ¬ (k : Int) < 0 := by omega
        have hkn : (k : Int) < (n : Int) := by have := hk.1; omega
        have HK := hid hk
        clear hk
        obtain ⟨xi, Hxi⟩ : ∃ x, Hid ((tA l i).2.1 = x) := ⟨_, rfl⟩
        obtain ⟨xk, Hxk⟩ : ∃ x, Hid ((tA l k).2.1 = x) := ⟨_, rfl⟩
        rw [Hxi.out] at x1
        rw [Hxk.out] at y1
        by_cases hlt2 : xi < xk
        · go_wp2_with fail
          go_quiet (fail)
          go_wp2_with fail
          refine ⟨⟨i + 1, (i : Int), by go_num, rfl, by omega, hid (.inr ⟨i, rfl, by omega, fun j hj => ?_⟩), hid (HD.out.trans (Dr.one _ _))⟩, by simp [intOf]; omega⟩
          rw [Hxi.out]
          by_cases hji : j = i
          · rw [hji, Hxi.out]
            exact ⟨Int.le_refl _, fun h => by omega⟩
          · have := (HK.out.2 j (by omega)).1
            rw [Hxk.out] at this
            exact ⟨by omega, fun _ => by omega⟩
        · have hge2 : xk ≤ xi := by omega
          go_wp2_with fail
          go_quiet (fail)
          go_wp2_with fail
          refine ⟨⟨i + 1, (k : Int), by go_num, rfl, by omega, hid (.inr ⟨k, rfl, by have := HK.out.1; omega, fun j hj => ?_⟩), hid (HD.out.trans (Dr.one _ _))⟩, by simp [intOf]; omega⟩
          by_cases hji : j = i
          · rw [hji, Hxi.out, Hxk.out]
            exact ⟨hge2, fun h => by have := HK.out.1; omega⟩
          · exact HK.out.2 j (by omega)
    · have hin : i = n := by omega
      have hge : ¬ (i : Int) < (n : Int) := by omega
      have HF : Hid ((l = [] ∧ b = -1) ∨ ∃ k : Nat, b = (k : Int) ∧ FsI l l.length k) := hid (by
        rcases HI.out with ⟨h0, hb⟩ | ⟨k, hb, hk⟩
        · exact .inl ⟨List.length_eq_zero_iff.1 (by rw [hn.out]; omega), hb⟩
        · exact .inr ⟨k, hb, by rw [hn.out, ← hin]; exact hk⟩)
      go_wp2_with fail
      go_ret
      exact ⟨b, rfl, HF.out, HD.out⟩
theorem results_cell1 {P : Program} {fn : Func} {p : Tmp} {ty : TypeId} (h : fn.results = #[.cell p ty]) (tmps : Array Value) (w : World) (g : Nat) (t : TypeId) (cs : Array Value) (fr : Nat × Nat) (d : TypeDesc)
    (hp : tmps.getD p undef = .pointer (some ⟨g, 0, none⟩)) (hg : w.heap[g]? = some (.cells cs t fr))
    (hu : P.underlying ty = some d) (hd : (match d with | .struct _ | .array _ _ => true | _ => false) = true) (hi : (P.info? ty).map (·.size) = some cs.size) :
    (results fn tmps).run P w = .ok (.agg cs) w := by
  have hp' : tmps[p]?.getD undef = .pointer (some ⟨g, 0, none⟩) := by simpa using hp
  simp [results, h, hp', asAddr, run_loadVar_row w g t ty cs fr d hg hu hd hi]
abbrev trZ : Array Value := #[.int .i64 0, .int .i64 0, .int .u32 0]
abbrev trA (x : Tr) : Array Value := #[.int .i64 x.1, .int .i64 x.2.1, .int .u32 x.2.2]
/-- What is left when a thing is taken out. -/
def oL (l : List Tr) (i : Nat) : List Tr := l.take i ++ l.drop (i + 1)
theorem src_at {w : World} {b cap : Nat} {cur : Array Value} {l : List Tr} (hg : w.heap[b]? = some (.cells cur 59 (0, 0))) (ht : cur.toList.take (l.length * 3) = flat l) (i m : Nat) (him : i + m ≤ l.length) : ∀ j u, (flat ((l.drop i).take m))[j]? = some u → w.cell? ((⟨b, i * 3, none⟩ : Addr).add j) = some u := fun j u hj => by
  rw [Go.WideShapes.add_plain, cell_of_row _ _ _ _ _ _ hg]
  rw [← flat_take, ← flat_drop, ← ht] at hj
  rw [List.getElem?_take] at hj
  split at hj
  · rw [List.getElem?_drop, List.getElem?_take] at hj
    split at hj
    · rw [← Array.getElem?_toList]; exact hj
    · cases hj
  · cases hj
theorem own3_base {w : World} {base n : Nat} {v : Value} {xs : List Value} (h : w.ownsRow base 59 3 v n xs) : w.ownsRow 0 59 3 v n xs := by
  refine ⟨h.1, ?_⟩
  rcases h.2 with q | ⟨b, cap, cur, hv, hb, hw, q⟩
  · exact .inl q
  · exact .inr ⟨b, cap, cur, hv, Nat.zero_le _, hw, q⟩
set_option maxRecDepth 100000 in
set_option maxHeartbeats 8000000 in
theorem rout_ok (h : HRc w y tk md l v) (i : Nat) (hi : i < l.length) (hroom : l.length * 24 ≤ 140737488355328) :
    Calls Try.prog 80 #[ptr y, .int .i64 (i : Int)] w fun e w' => e = .returned (.agg (trA (tA l i))) ∧ ∃ v', HRc w' y tk md (oL l i) v' ∧ Ex (fun k => k = y) w w' ∧ ∀ b, v'.ownBlock = some b → w.heap.size ≤ b := by
  obtain ⟨c0, c1, c2⟩ := h.c
  obtain ⟨b, cap, hv, hcap, x0, x1, x2⟩ := h.item hi
  have hyl := h.lt
  have hrow : ∃ cur, w.heap[b]? = some (.cells cur 59 (0, 0)) ∧ cur.toList.take (l.length * 3) = flat l := by
    rcases h.row.2 with ⟨_, q⟩ | ⟨b', cap', cur, q, _, hw, q1, q2, q3, q4⟩
    · omega
    · rw [hv] at q
      simp only [Value.slice.injEq, Option.some.injEq, Addr.mk.injEq, and_true] at q
      obtain ⟨rfl, _⟩ := q
      exact ⟨cur, hw, q4⟩
  obtain ⟨cur, hcur, htake⟩ := hrow
  have hbl := (Array.getElem?_eq_some_iff.1 hcur).1
  have HCUR := hid hcur
  have HTAKE := hid htake
  have H := hid h
  subst hv
  obtain ⟨n, hn⟩ : ∃ n, Hid (l.length = n) := ⟨_, rfl⟩
  rw [hn.out] at c2 hi hroom hcap
  have hi' : (i : Int) < (n : Int) := by omega
  obtain ⟨X, HX⟩ : ∃ X, Hid (tA l i = X) := ⟨_, rfl⟩
  rw [HX.out] at x0 x1 x2
  rw [HX.out]
  clear h hcur htake
  go_enter Try.func80, Try.ntmps80
  have hs2 : ((w.alloc (.cells trZ 59)).alloc (.cells (trA X) 59)).heap.size = w.heap.size + 2 := by simp
  have ho2 : ∀ k, k < w.heap.size → ((w.alloc (.cells trZ 59)).alloc (.cells (trA X) 59)).heap[k]? = w.heap[k]? := fun k hk => (heap_alloc_old _ _ (by simp; omega)).trans (heap_alloc_old w _ hk)
  have hz2 : ((w.alloc (.cells trZ 59)).alloc (.cells (trA X) 59)).heap[w.heap.size]? = some (.cells trZ 59 (0, 0)) := (heap_alloc_old _ _ (by simp)).trans (heap_alloc_new w _)
  have hx2 : ((w.alloc (.cells trZ 59)).alloc (.cells (trA X) 59)).heap[w.heap.size + 1]? = some (.cells (trA X) 59 (0, 0)) := by
    have := heap_alloc_new (w.alloc (.cells trZ 59)) (.cells (trA X) 59)
    rw [show (w.alloc (.cells trZ 59)).heap.size = w.heap.size + 1 by simp] at this
    exact this
  have HSRC : Hid (∀ j u, (flat (l.take i))[j]? = some u → ((w.alloc (.cells trZ 59)).alloc (.cells (trA X) 59)).cell? ((⟨b, 0, none⟩ : Addr).add j) = some u) := hid (by
    have := src_at (cap := cap) ((ho2 b hbl).trans HCUR.out) HTAKE.out 0 i (by rw [hn.out]; omega)
    simpa using this)
  have HO2 := hid ho2
  have HZ2 := hid hz2
  have HX2 := hid hx2
  have HS2 := hid hs2
  clear hs2 ho2 hz2 hx2
  go_wp2_with (at_builtin; refine wpList_append_tr rfl _ _ rfl w.heap.size (.slice none 0 0) 0 [] rfl ⟨rfl, .inl ⟨rfl, rfl⟩⟩ ⟨b, 0, none⟩ i cap (l.take i) rfl (by rw [List.length_take, hn.out]; omega) HSRC.out (by omega) (by rw [HS2.out]; omega) ?_)
  intro v1 w3 hown hgr hor
  obtain ⟨p1, c1', hv1⟩ := own3_slc hown
  subst hv1
  have hsz3 : w.heap.size + 2 ≤ w3.heap.size := by have := hgr.size; rw [HS2.out] at this; exact this
  have ho3 : ∀ k, k < w.heap.size + 2 → w3.heap[k]? = ((w.alloc (.cells trZ 59)).alloc (.cells (trA X) 59)).heap[k]? := fun k hk => hgr.block k (by rw [HS2.out]; exact hk) (fun e => by cases e)
  have htop3 := ((ho3 y (by omega)).trans (HO2.out y hyl)).trans H.out.top
  rw [hn.out] at htop3
  have d2 : w3.cell? ⟨y, 2, none⟩ = some (.slice (some ⟨b, 0, none⟩) n cap) := by rw [cell_of_row _ _ _ _ _ _ htop3]; rfl
  have HSRC3 : Hid (∀ j u, (flat ((l.drop (i + 1)).take (n - (i + 1))))[j]? = some u → w3.cell? ((⟨b, (i + 1) * 3, none⟩ : Addr).add j) = some u) := hid (src_at (cap := cap) (((ho3 b (by omega)).trans (HO2.out b hbl)).trans HCUR.out) HTAKE.out (i + 1) (n - (i + 1)) (by rw [hn.out]; omega))
  have HE3 : Hid (Ex (fun k => k = y) w w3) := hid ((((Ex.refl _ w).alloc _).alloc _).trans (Ex.grown (S := fun k => k = y) hgr (fun k hk => by cases hk)) (fun _ q => .inl q))
  have HT3 := hid htop3
  have HO3 := hid ho3
  have HNB : Hid ((Value.slice p1 i c1').ownBlock = none ∨ (Value.slice p1 i c1').ownBlock = some (w.heap.size + 2)) := hid (by
    rcases hor with q | ⟨q, _⟩
    · exact .inl q
    · exact .inr q)
  have HOWN := hid hown
  clear hown hgr hor htop3 ho3 HSRC
  by_cases hc : cap = i + 1
  · subst hc
    obtain rfl : n = i + 1 := by omega
    go_wp2_with (at_builtin; refine wpList_append_tr rfl _ _ rfl w.heap.size (.slice p1 i c1') i _ rfl HOWN.out ⟨b, 0, none⟩ 0 0 ([] : List Tr) rfl rfl (fun j u hj => by simp [flat] at hj) (by omega) (by omega) ?_)
    intro v2 w4 hown2 hgr2 hor2
    obtain ⟨p2, c2', hv2⟩ := own3_slc hown2
    subst hv2
    have hsz4 : w.heap.size + 2 ≤ w4.heap.size := by have := hgr2.size; omega
    have hb1 : ∀ k, (Value.slice p1 i c1').ownBlock = some k → w.heap.size ≤ k := fun k hk => (own3_lt HOWN.out k hk).1
    have hn1 : ∀ k, k < w.heap.size + 2 → some k ≠ (Value.slice p1 i c1').ownBlock := fun k hk e => by
      rcases HNB.out with q | q
      · rw [q] at e; cases e
      · rw [q] at e; cases e; omega
    have ho4 : ∀ k, k < w.heap.size + 2 → w4.heap[k]? = w3.heap[k]? := fun k hk => hgr2.block k (by omega) (hn1 k hk)
    have htop4 := (ho4 y (by omega)).trans HT3.out
    have e2 : w4.cell? ⟨y, 2, none⟩ = some (.slice (some ⟨b, 0, none⟩) (i + 1) (i + 1)) := by rw [cell_of_row _ _ _ _ _ _ htop4]; rfl
    have g2 := free_of htop4 2
    have hz4 := (ho4 w.heap.size (by omega)).trans ((HO3.out w.heap.size (by omega)).trans HZ2.out)
    have hx4 := (ho4 (w.heap.size + 1) (by omega)).trans ((HO3.out (w.heap.size + 1) (by omega)).trans HX2.out)
    have z0 : w4.cell? ⟨w.heap.size, 0, none⟩ = some (.int .i64 0) := by rw [cell_of_row _ _ _ _ _ _ hz4]; rfl
    have z1 : w4.cell? ⟨w.heap.size, 1, none⟩ = some (.int .i64 0) := by rw [cell_of_row _ _ _ _ _ _ hz4]; rfl
    have z2 : w4.cell? ⟨w.heap.size, 2, none⟩ = some (.int .u32 0) := by rw [cell_of_row _ _ _ _ _ _ hz4]; rfl
    have fz0 := free_of hz4 0
    have fz1 := free_of hz4 1
    have fz2 := free_of hz4 2
    have q0 : w4.cell? ⟨w.heap.size + 1, 0, none⟩ = some (.int .i64 X.1) := by rw [cell_of_row _ _ _ _ _ _ hx4]; rfl
    have q1 : w4.cell? ⟨w.heap.size + 1, 1, none⟩ = some (.int .i64 X.2.1) := by rw [cell_of_row _ _ _ _ _ _ hx4]; rfl
    have q2 : w4.cell? ⟨w.heap.size + 1, 2, none⟩ = some (.int .u32 X.2.2) := by rw [cell_of_row _ _ _ _ _ _ hx4]; rfl
    have hown2' : w4.ownsRow w.heap.size 59 3 (.slice p2 i c2') (oL l i).length (flat (oL l i)) := by
      have e1 : flat (l.take i) ++ flat ([] : List Tr) = flat (oL l i) := by
        rw [← flat_append]
        unfold oL
        rw [List.drop_eq_nil_of_le (by rw [hn.out]; omega)]
      have e3 : i = (oL l i).length := by unfold oL; rw [List.length_append, List.length_take, List.length_drop, hn.out]; omega
      rw [← e1, ← e3]
      exact hown2
    have hvy : ∀ k, (Value.slice p2 i c2').ownBlock = some k → w.heap.size + 2 ≤ k := fun k hk => by
      rcases hor2 with q | ⟨q, _⟩
      · rw [q] at hk
        have := hn1 k
        rcases Nat.lt_or_ge k (w.heap.size + 2) with z | z
        · exact absurd hk.symm (this z)
        · exact z
      · rw [q] at hk; cases hk; omega
    have HE4 : Hid (Ex (fun k => k = y) w w4) := hid (HE3.out.trans (Ex.grown (S := fun k => w.heap.size ≤ k) hgr2 (fun k hk => hb1 k hk)) (fun k q => .inr q))
    have HOWN2 := hid hown2'
    have HVY := hid hvy
    have HT4 := hid htop4
    have HZ4 := hid hz4
    clear hown2 hgr2 hor2 hown2' hvy htop4 hz4 hx4 ho4 HOWN d2 c0 c1 c2
    go_wp2_with fail
    have hcy : y ≠ w.heap.size := by omega
    have hz5 := bk_set (bk_set (bk_set ((bk_other hcy 2 (.slice p2 i c2')).trans HZ4.out) 0 (.int .i64 X.1)) 1 (.int .i64 X.2.1)) 2 (.int .u32 X.2.2)
    refine bodyPost_ret (v := .agg (trA X)) (results_cell1 (p := 4) (ty := 59) rfl _ _ w.heap.size 59 (trA X) (0, 0) _ rfl hz5 Try.underlying59 rfl (by kernel_rfl)) rfl ?_
    refine ⟨rfl, _, ⟨?_, own3_keep (own3_base HOWN2.out) fun k hk => ?_⟩, ?_, fun k hk => by have := HVY.out k hk; omega⟩
    · have h5 := bk_set HT4.out 2 (.slice p2 i c2')
      rw [bk_other (Ne.symm hcy), bk_other (Ne.symm hcy), bk_other (Ne.symm hcy)]
      simpa using h5
    · have := HVY.out k hk
      rw [bk_other (by omega), bk_other (by omega), bk_other (by omega), bk_other (by omega)]
    · have E4 := HE4.out
      refine ⟨E4.os, E4.tape, E4.output, by rw [sz_set, sz_set, sz_set, sz_set]; exact E4.size, fun k hk hnk => ?_⟩
      rw [bk_other (by omega), bk_other (by omega), bk_other (by omega), bk_other (Ne.symm hnk)]
      exact E4.block k hk hnk
  · have hc1 : i + 1 < cap := by omega
    have hc2 : ¬ cap - (i + 1) = 0 := by omega
    have hc3 : (cap - (i + 1) == 0) = false := by simp; omega
    go_wp2_with (at_builtin; refine wpList_append_tr rfl _ _ rfl w.heap.size (.slice p1 i c1') i _ rfl HOWN.out ⟨b, (i + 1) * 3, none⟩ (n - (i + 1)) (cap - (i + 1)) ((l.drop (i + 1)).take (n - (i + 1))) rfl (by rw [List.length_take, List.length_drop, hn.out]; omega) HSRC3.out (by omega) (by omega) ?_)
    intro v2 w4 hown2 hgr2 hor2
    obtain ⟨p2, c2', hv2⟩ := own3_slc hown2
    subst hv2
    have hsz4 : w.heap.size + 2 ≤ w4.heap.size := by have := hgr2.size; omega
    have hb1 : ∀ k, (Value.slice p1 i c1').ownBlock = some k → w.heap.size ≤ k := fun k hk => (own3_lt HOWN.out k hk).1
    have hn1 : ∀ k, k < w.heap.size + 2 → some k ≠ (Value.slice p1 i c1').ownBlock := fun k hk e => by
      rcases HNB.out with q | q
      · rw [q] at e; cases e
      · rw [q] at e; cases e; omega
    have ho4 : ∀ k, k < w.heap.size + 2 → w4.heap[k]? = w3.heap[k]? := fun k hk => hgr2.block k (by omega) (hn1 k hk)
    have htop4 := (ho4 y (by omega)).trans HT3.out
    have e2 : w4.cell? ⟨y, 2, none⟩ = some (.slice (some ⟨b, 0, none⟩) n cap) := by rw [cell_of_row _ _ _ _ _ _ htop4]; rfl
    have g2 := free_of htop4 2
    have hz4 := (ho4 w.heap.size (by omega)).trans ((HO3.out w.heap.size (by omega)).trans HZ2.out)
    have hx4 := (ho4 (w.heap.size + 1) (by omega)).trans ((HO3.out (w.heap.size + 1) (by omega)).trans HX2.out)
    have z0 : w4.cell? ⟨w.heap.size, 0, none⟩ = some (.int .i64 0) := by rw [cell_of_row _ _ _ _ _ _ hz4]; rfl
    have z1 : w4.cell? ⟨w.heap.size, 1, none⟩ = some (.int .i64 0) := by rw [cell_of_row _ _ _ _ _ _ hz4]; rfl
    have z2 : w4.cell? ⟨w.heap.size, 2, none⟩ = some (.int .u32 0) := by rw [cell_of_row _ _ _ _ _ _ hz4]; rfl
    have fz0 := free_of hz4 0
    have fz1 := free_of hz4 1
    have fz2 := free_of hz4 2
    have q0 : w4.cell? ⟨w.heap.size + 1, 0, none⟩ = some (.int .i64 X.1) := by rw [cell_of_row _ _ _ _ _ _ hx4]; rfl
    have q1 : w4.cell? ⟨w.heap.size + 1, 1, none⟩ = some (.int .i64 X.2.1) := by rw [cell_of_row _ _ _ _ _ _ hx4]; rfl
    have q2 : w4.cell? ⟨w.heap.size + 1, 2, none⟩ = some (.int .u32 X.2.2) := by rw [cell_of_row _ _ _ _ _ _ hx4]; rfl
    have hown2' : w4.ownsRow w.heap.size 59 3 (.slice p2 (i + (n - (i + 1))) c2') (oL l i).length (flat (oL l i)) := by
      have e1 : flat (l.take i) ++ flat ((l.drop (i + 1)).take (n - (i + 1))) = flat (oL l i) := by
        rw [← flat_append]
        unfold oL
        rw [List.take_of_length_le (l := l.drop (i + 1)) (by rw [List.length_drop, hn.out]; exact Nat.le_refl _)]
      have e3 : i + (n - (i + 1)) = (oL l i).length := by unfold oL; rw [List.length_append, List.length_take, List.length_drop, hn.out]; omega
      rw [← e1, ← e3]
      exact hown2
    have hvy : ∀ k, (Value.slice p2 (i + (n - (i + 1))) c2').ownBlock = some k → w.heap.size + 2 ≤ k := fun k hk => by
      rcases hor2 with q | ⟨q, _⟩
      · rw [q] at hk
        have := hn1 k
        rcases Nat.lt_or_ge k (w.heap.size + 2) with z | z
        · exact absurd hk.symm (this z)
        · exact z
      · rw [q] at hk; cases hk; omega
    have HE4 : Hid (Ex (fun k => k = y) w w4) := hid (HE3.out.trans (Ex.grown (S := fun k => w.heap.size ≤ k) hgr2 (fun k hk => hb1 k hk)) (fun k q => .inr q))
    have HOWN2 := hid hown2'
    have HVY := hid hvy
    have HT4 := hid htop4
    have HZ4 := hid hz4
    clear hown2 hgr2 hor2 hown2' hvy htop4 hz4 hx4 ho4 HOWN d2 c0 c1 c2
    go_wp2_with fail
    have hcy : y ≠ w.heap.size := by omega
    have hz5 := bk_set (bk_set (bk_set ((bk_other hcy 2 (.slice p2 (i + (n - (i + 1))) c2')).trans HZ4.out) 0 (.int .i64 X.1)) 1 (.int .i64 X.2.1)) 2 (.int .u32 X.2.2)
    refine bodyPost_ret (v := .agg (trA X)) (results_cell1 (p := 4) (ty := 59) rfl _ _ w.heap.size 59 (trA X) (0, 0) _ rfl hz5 Try.underlying59 rfl (by kernel_rfl)) rfl ?_
    refine ⟨rfl, _, ⟨?_, own3_keep (own3_base HOWN2.out) fun k hk => ?_⟩, ?_, fun k hk => by have := HVY.out k hk; omega⟩
    · have h5 := bk_set HT4.out 2 (.slice p2 (i + (n - (i + 1))) c2')
      rw [bk_other (Ne.symm hcy), bk_other (Ne.symm hcy), bk_other (Ne.symm hcy)]
      simpa using h5
    · have := HVY.out k hk
      rw [bk_other (by omega), bk_other (by omega), bk_other (by omega), bk_other (by omega)]
    · have E4 := HE4.out
      refine ⟨E4.os, E4.tape, E4.output, by rw [sz_set, sz_set, sz_set, sz_set]; exact E4.size, fun k hk hnk => ?_⟩
      rw [bk_other (by omega), bk_other (by omega), bk_other (by omega), bk_other (Ne.symm hnk)]
      exact E4.block k hk hnk
end
end Go.Proofs.Ytajdopmhdagehaa.Rc
