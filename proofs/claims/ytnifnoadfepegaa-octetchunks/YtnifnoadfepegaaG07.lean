/- Of the road to octetChunks_holds: ChB. -/
import Derived.Test.YtnifnoadfepegaaG06
set_option linter.unusedVariables false
set_option linter.unusedSimpArgs false
namespace Go.Proofs.Ytnifnoadfepegaa
open Go Go.RowKit Go.Shelf
theorem last_keys {M : List (Nat × Obj)} {q : Nat} {o o' : Obj} {Q : Nat → Prop} (h : ∀ p ∈ M ++ [(q, o)], Q p.1) : ∀ p ∈ M ++ [(q, o')], Q p.1 := fun p hp => by
  rcases List.mem_append.1 hp with z | z
  · exact h p (List.mem_append_left _ z)
  · obtain rfl : p = (q, o') := by simpa using z
    exact h (q, o) (List.mem_append_right _ (by simp))
theorem GW.both {B cb S gq : Nat} {w0 w W : World} {vg vw u v : Value} {xs us : List Value} {lk : List (List Int)} {l : List Int} {M : List (Nat × Obj)} {E : Nat → Prop}
    (h : GW B cb w0 vg vw xs us lk lk W) (hE : ∀ b, gwB cb vg vw xs b → ¬ E b) (hM : ∀ p ∈ M, ¬ gwB cb vg vw xs p.1) (hMC : MC w cb M E W)
    (hS : ∀ b, gwB cb vg vw xs b → b < S) (hBS : B ≤ S) (hEl : ∀ i, E i → i < S) (hMS : ∀ p ∈ M, p.1 < S) (hu : W.ownsRow S 5 1 v l.length (l.map (Value.int .u8))) (hw : HB w0 u l) (hSW : S ≤ W.heap.size)
    (hcb : cb < B) (hwB : w.heap.size ≤ B) (hn : lk.length ≤ 16000) (hq : gq < W.heap.size) (hqn : gq ≠ cb) (hqB : gq < B) :
    ∃ pg cg W2 pw cw W4, (Builtin.append_ #[24, 24] 24 #[vg, .slice (some ⟨W.heap.size, 0, none⟩) 1 1]).run Try.prog (W.alloc (.cells #[v] 22)) = .ok (.slice pg (lk.length + 1) cg) W2 ∧
      W2.heap[cb]? = some (.cells #[vg, vw] 33 (0, 0)) ∧
      (W2.setCell ⟨cb, 0, none⟩ (.slice pg (lk.length + 1) cg)).cell? ⟨cb, 1, none⟩ = some vw ∧ MC w cb M E (W2.setCell ⟨cb, 0, none⟩ (.slice pg (lk.length + 1) cg)) ∧ (W2.setCell ⟨cb, 0, none⟩ (.slice pg (lk.length + 1) cg)).heap[gq]? = W.heap[gq]? ∧
      (Builtin.append_ #[24, 24] 24 #[vw, .slice (some ⟨(W2.setCell ⟨cb, 0, none⟩ (.slice pg (lk.length + 1) cg)).heap.size, 0, none⟩) 1 1]).run Try.prog ((W2.setCell ⟨cb, 0, none⟩ (.slice pg (lk.length + 1) cg)).drew.alloc (.cells #[u] 22)) = .ok (.slice pw (lk.length + 1) cw) W4 ∧
      W4.heap[cb]? = some (.cells #[.slice pg (lk.length + 1) cg, vw] 33 (0, 0)) ∧ (∀ p ∈ M, W4.heap[p.1]? = some p.2) ∧ W4.heap[gq]? = W.heap[gq]? ∧
      GW B cb w0 (.slice pg (lk.length + 1) cg) (.slice pw (lk.length + 1) cw) (xs ++ [v]) (us ++ [u]) (lk ++ [l]) (lk ++ [l]) (W4.setCell ⟨cb, 1, none⟩ (.slice pw (lk.length + 1) cw)) ∧
      (∀ b, gwB cb (.slice pg (lk.length + 1) cg) (.slice pw (lk.length + 1) cw) (xs ++ [v]) b → ¬ E b) ∧ (∀ p ∈ M, ¬ gwB cb (.slice pg (lk.length + 1) cg) (.slice pw (lk.length + 1) cw) (xs ++ [v]) p.1) ∧
      MC w cb M E (W4.setCell ⟨cb, 1, none⟩ (.slice pw (lk.length + 1) cw)) ∧ KE E W (W4.setCell ⟨cb, 1, none⟩ (.slice pw (lk.length + 1) cw)) := by
  obtain ⟨vg2, W2, hrun, hcb2, ⟨pg2, cg2, evg2⟩, hgw2, hst2, hnew2⟩ := h.got (S := S) (w := w) hS hBS hu hw.2 (by omega) hSW hcb hwB (by omega) 24
  subst evg2
  obtain ⟨W3, HW3⟩ : ∃ x, W2.setCell ⟨cb, 0, none⟩ (.slice pg2 (lk.length + 1) cg2) = x := ⟨_, rfl⟩
  rw [HW3] at hgw2 hst2
  have hM3 := hMC.st hst2 hM
  have hGM3 : ∀ p ∈ M, ¬ gwB cb (.slice pg2 (lk.length + 1) cg2) vw (xs ++ [v]) p.1 := fun p hp q => (hnew2 p.1 q).elim (hM p hp) (fun z => by have := hMS p hp; omega)
  have hGE3 : ∀ b, gwB cb (.slice pg2 (lk.length + 1) cg2) vw (xs ++ [v]) b → ¬ E b := fun b q => (hnew2 b q).elim (hE b) (fun z e => by have := hEl b e; omega)
  have hK3 : KE E W W3 := hst2.ke (fun i hi => by have := hEl i hi; omega) (fun b q => hE b q)
  have hq3 : W3.heap[gq]? = W.heap[gq]? := hst2.fr gq hq fun q => by
    rcases h.low gq q with z | z
    · exact hqn z
    · omega
  have hlw : (lk.length + 1) * 24 ≤ 140737488355328 := by omega
  have hs3 : W.heap.size ≤ W3.heap.size := hst2.sz
  obtain ⟨vw2, W4, hrun4, hcb4, ⟨pw2, cw2, evw2⟩, hgw4, hst4, hnew4⟩ := (hgw2.keep (C := W3.drew) fun b _ => rfl).want (w := w) hw (by show B ≤ W3.heap.size; omega) hcb hwB hlw 24
  subst evw2
  have hM4 := hM3.drew.st hst4 hGM3
  have hMsz : ∀ p ∈ M, p.1 < W3.heap.size := fun p hp => (Array.getElem?_eq_some_iff.1 (hM3.m p hp).1).1
  have hnb4 : ∀ b, b < W3.heap.size → ¬ gwB cb (.slice pg2 (lk.length + 1) cg2) vw (xs ++ [v]) b → W4.heap[b]? = W3.heap[b]? := fun b hb hx => by
    have h1 := hst4.fr b hb hx
    rwa [heap_setCell_other _ _ _ _ (by simpa using fun e => hx (.inl e))] at h1
  have hq4 : W4.heap[gq]? = W3.heap[gq]? := hnb4 gq (by omega) fun q => by
    rcases hgw2.low gq q with z | z
    · exact hqn z
    · omega
  refine ⟨pg2, cg2, W2, pw2, cw2, W4, hrun, hcb2, ?_, ?_, ?_, ?_, hcb4, fun p hp => (hnb4 p.1 (hMsz p hp) (hGM3 p hp)).trans (hM3.m p hp).1, hq4.trans hq3, hgw4, fun b q => (hnew4 b q).elim (hGE3 b) (fun z e => by have h1 := hEl b e; have z : W3.heap.size ≤ b := z; omega), fun p hp q => (hnew4 p.1 q).elim (hGM3 p hp) (fun z => by have := hMsz p hp; have z : W3.heap.size ≤ p.1 := z; omega), hM4, ?_⟩
  · rw [HW3]
    exact (cell_of_row _ _ _ _ _ _ hgw2.c).trans rfl
  · rw [HW3]; exact hM3
  · rw [HW3]; exact hq3
  · rw [HW3]; exact hrun4
  · exact hK3.trans (KE.trans (B := W3.drew) ⟨Nat.le_refl _, fun i _ => rfl⟩ (hst4.ke (E := E) (fun i hi => by have h1 := hEl i hi; show i < W3.heap.size; omega) (fun b q => hGE3 b q)))
theorem IterW.more {F : Fence} {n : Nat} {P : Program} {g : Nat} {lb : Array Value} {enc : Nat → Value → Array Value} {Fit : Nat → Value → Nat → World → Prop} {D : Nat → Prop} {N : Nat} {w0 : World} (h : IterW F n P g lb enc Fit D N w0) (X : Nat → Prop) (hn : ∀ i, X i → ¬ D i) (hX : ∀ i, X i → i < w0.heap.size) : IterW F n P g lb enc Fit (fun i => D i ∨ X i) N w0 := fun l J Jx W hK hJ hJx hY h0 => by
  refine (h l (fun k E W => J k (fun i => E i ∨ X i) W ∧ (∀ i, X i → ¬ E i) ∧ ∀ i, X i → W.heap[i]? = w0.heap[i]?) (fun s E W => Jx s (fun i => E i ∨ X i) W ∧ (∀ i, X i → ¬ E i) ∧ ∀ i, X i → W.heap[i]? = w0.heap[i]?) W (hK.mono fun i hi => .inl hi) (jn_more hJ X w0 hX) (jn_more hJx X w0 hX) ?_ ⟨h0, hn, fun i hi => hK.2 i (.inr hi)⟩).mono ?_
  · rintro k v E A W1 ⟨q1, q2, q3⟩ hg hf hk hke
    have q4 : ∀ i, X i → W1.heap[i]? = w0.heap[i]? := fun i z => by
      have h1 := hX i z
      have h2 : i < A.heap.size := by
        have h3 := q3 i z
        rw [Array.getElem?_eq_getElem h1] at h3
        exact (Array.getElem?_eq_some_iff.1 h3).1
      exact (hg.block i h2 (by simp)).trans (q3 i z)
    obtain ⟨fn, tmps, assign, body, hy, hR⟩ := hY k v (fun i => E i ∨ X i) A W1 q1 hg hf hk ⟨hke.1, fun i hi => hi.elim (hke.2 i) (fun z => (q4 i z).trans (hK.2 i (.inr z)).symm)⟩
    refine ⟨fn, tmps, assign, body, hy, hR.mono ?_⟩
    rintro e W' (⟨r1, r2, r3⟩ | ⟨r1, r2, r3⟩)
    · exact .inl ⟨r1, ⟨r2, q2, fun i hi => (r3.2 i (.inr hi)).trans (q4 i hi)⟩, r3.mono fun i hi => .inl hi⟩
    · exact .inr ⟨r1, ⟨r2, q2, fun i hi => (r3.2 i (.inr hi)).trans (q4 i hi)⟩, r3.mono fun i hi => .inl hi⟩
  · rintro e W' ⟨hv, hj, hke⟩
    have hab : ∀ i, X i → W'.heap[i]? = w0.heap[i]? := by rcases hj with z | z <;> exact z.2.2
    refine ⟨hv, hj.imp (·.1) (·.1), hke.1, fun i hi => ?_⟩
    rcases hi with z | z
    · exact hke.2 i z
    · exact (hab i z).trans (hK.2 i (.inr z)).symm
theorem own_HLc {B : Nat} {w : World} {v : Value} {xs : List Value} {ls : List (List Int)} (h1 : w.ownsRow B TE 1 v ls.length xs) (hb : ∀ j, j < ls.length → HB w (xs.getD j undef) (ls.getD j [])) : HL w v ls := by
  by_cases h0 : 0 < ls.length
  · obtain ⟨g, cap, rfl, _, hn, hm, hc⟩ := ownsRow_cells h1 h0
    refine ⟨_, cap, rfl, hn, hm, (fun e => by cases e), fun _ => ⟨g, 0, rfl, fun j hj => ⟨xs.getD j undef, ?_, hb j hj⟩⟩⟩
    have hx : xs.length = ls.length := by have := h1.1; omega
    exact hc j _ (by simp [List.getD, List.getElem?_eq_getElem (show j < xs.length by omega)])
  · have e : ls = [] := List.length_eq_zero_iff.1 (by omega)
    subst e
    rcases h1.2 with ⟨rfl, _⟩ | ⟨g, cap, cur, rfl, _, _, hn, hm, _⟩
    · exact HL.nil _
    · exact ⟨_, cap, rfl, hn, hm, (fun e => by cases e), fun h => absurd rfl h⟩
theorem own_HVc {B n : Nat} {w : World} {v : Value} {xs : List Value} (h1 : w.ownsRow B TE 1 v n xs) (hx : xs.length = n) : HV w v xs := by
  subst hx
  by_cases h0 : 0 < xs.length
  · obtain ⟨g, cap, rfl, _, hn, hm, hc⟩ := ownsRow_cells h1 h0
    obtain ⟨_, _, cur, hh⟩ := own_typC h1 (k := g) rfl
    refine ⟨_, cap, rfl, hn, hm, fun _ => ⟨g, 0, rfl, ⟨cur, (0, 0), hh⟩, fun j hj => ?_⟩⟩
    exact hc j _ (by simp [List.getD, List.getElem?_eq_getElem hj])
  · have e : xs = [] := List.length_eq_zero_iff.1 (by omega)
    subst e
    rcases h1.2 with ⟨rfl, _⟩ | ⟨g, cap, cur, rfl, _, _, hn, hm, _⟩
    · exact ⟨_, _, rfl, Nat.le_refl _, Nat.zero_le _, fun h => absurd rfl h⟩
    · exact ⟨_, cap, rfl, hn, hm, fun h => absurd rfl h⟩
theorem GW.same {B cb : Nat} {w0 W : World} {vg vw : Value} {xs us : List Value} {ls : List (List Int)} (h : GW B cb w0 vg vw xs us ls ls W) (hg : w0.grownBy W (some cb)) (hcb : w0.heap.size ≤ cb) : HL W vg ls ∧ HL W vw ls := by
  refine ⟨own_HLc h.g.row fun j hj => HB.of_own (h.g.apt.2.1 j (by rw [h.g.apt.1]; exact hj)) (h.g.byt j hj), own_HLc h.u fun j hj => (h.h j hj).later fun a _ hx => ?_⟩
  have hb := World.block_lt_of_cell? w0 a hx
  exact (World.cell?_of_block (hg.block a.block hb (fun e => by have : a.block = cb := Option.some.inj e; omega))).trans hx
theorem pcL_all {l : List Int} {s k : Nat} : ∀ x ∈ pcL l s k, x.length ≤ l.length := fun x hx => by
  obtain ⟨j, hj, rfl⟩ := List.mem_iff_getElem.1 hx
  rw [pcL_len] at hj
  have h1 := pcL_get l s hj
  rw [List.getD, List.getElem?_eq_getElem (by rw [pcL_len]; exact hj), Option.getD_some] at h1
  rw [h1]
  simp only [chPiece, List.length_drop, List.length_take]
  omega
theorem getD_leC {ls : List (List Int)} {n : Nat} (h : ∀ x ∈ ls, x.length ≤ n) (k : Nat) : (ls.getD k []).length ≤ n := by
  by_cases hk : k < ls.length
  · simp only [List.getD, List.getElem?_eq_getElem hk, Option.getD_some]
    exact h _ (List.getElem_mem hk)
  · simp [List.getD, List.getElem?_eq_none (Nat.le_of_not_lt hk)]
theorem bel_putC {B b : Nat} {w W : World} (h : Below B w W) (hb : B ≤ b) (o : Obj) : Below B w (W.putObj b o) := h.trans ⟨rfl, rfl, rfl, by simp, fun k hk => World.putObj_heap_other (by omega)⟩
theorem cell_putC {b : Nat} {W : World} {a : Addr} (h : a.block ≠ b) (o : Obj) : (W.putObj b o).cell? a = W.cell? a := by simp [World.cell?, World.putObj_heap_other h]
end Go.Proofs.Ytnifnoadfepegaa
