/- gf.addShifted, walked. -/
import Derived.Test.YtmglpcenipnmbaaGfDown
import Derived.Test.YtmglpcenipnmbaaOwns
set_option linter.unusedSimpArgs false
set_option linter.unusedVariables false
namespace Go.Proofs.Ytmglpcenipnmbaa
open Go Go.RowKit

/-- The row of the first n values of a function. -/
def tabL (n : Nat) (f : Nat → Nat) : List Int := (List.range n).map fun i => ((f i : Nat) : Int)
theorem tabL_length (n : Nat) (f : Nat → Nat) : (tabL n f).length = n := by simp [tabL]
theorem tabL_get (n : Nat) (f : Nat → Nat) (i : Nat) (h : i < n) : (tabL n f).getD i 0 = ((f i : Nat) : Int) := by simp [tabL, List.getD, h]
theorem tabL_congr (n : Nat) {f g : Nat → Nat} (h : ∀ i, i < n → f i = g i) : tabL n f = tabL n g := by
  unfold tabL
  refine List.map_congr_left fun i hi => ?_
  rw [h i (List.mem_range.1 hi)]
theorem tabL_set (n : Nat) (f : Nat → Nat) (i v : Nat) : (tabL n f).set i (v : Int) = tabL n (fun j => if j = i then v else f j) := by
  refine List.ext_getElem (by simp [tabL]) fun j h1 h2 => ?_
  simp only [tabL, List.getElem_set, List.getElem_map, List.getElem_range]
  by_cases e : i = j
  · subst e; simp
  · rw [if_neg e, if_neg (fun h => e h.symm)]
theorem tabL_byt (n : Nat) {f : Nat → Nat} (h : ∀ i, f i < 256) : ∀ x ∈ tabL n f, 0 ≤ x ∧ x < 256 := by
  intro x hx
  obtain ⟨i, _, rfl⟩ := List.mem_map.1 hx
  have := h i
  omega
theorem gN_tabL (n : Nat) (f : Nat → Nat) (i : Nat) (h : i < n) : gN (tabL n f) i = f i := by unfold gN; rw [tabL_get n f i h]; simp
theorem gN_out (l : List Int) (i : Nat) (h : l.length ≤ i) : gN l i = 0 := by simp [gN, List.getD, List.getElem?_eq_none h]
/-- A polynomial times c, s powers higher. -/
def sh (P : List Int) (c s i : Nat) : Nat := if s ≤ i then prod (gN P (i - s)) c else 0

set_option maxRecDepth 100000 in
set_option maxHeartbeats 4000000 in
theorem addsh1_any (w : World) (k d c s n cap g bs bt bm F : Nat) (hd : d < 256) (hc : c < 256) (hF : F < 256) (hks : k + s < n) (hn : n ≤ 9223372036854775807) (hs : w.heap[bs]? = some (.cells #[.slice (some ⟨g, 0, none⟩) n cap] 38 (0, 0))) (ht : w.heap[bt]? = some (.cells #[.int .i64 (s : Int)] 3 (0, 0))) (hm : w.heap[bm]? = some (.cells (cells8 (mulsL c)) 61 (0, 0))) (hcl : w.cell? ⟨g, k + s, none⟩ = some (.int .u8 (F : Int))) (hfz : w.frozen? ⟨g, k + s, none⟩ = false) :
    Calls Try.prog 63 #[.int .i64 (k : Int), .int .u8 (d : Int), .pointer (some ⟨bs, 0, none⟩), .pointer (some ⟨bt, 0, none⟩), .pointer (some ⟨bm, 0, none⟩)] w fun e w' => e = .returned (.tuple #[]) ∧ w' = (w.setCell ⟨g, k + s, none⟩ (.int .u8 ((F ^^^ prod d c : Nat) : Int))).drew := by
  have q1 : w.cell? ⟨bs, 0, none⟩ = some (.slice (some ⟨g, 0, none⟩) n cap) := by rw [cell_of_row w bs 0 _ _ _ hs]; rfl
  have q2 : w.cell? ⟨bt, 0, none⟩ = some (.int .i64 (s : Int)) := by rw [cell_of_row w bt 0 _ _ _ ht]; rfl
  have q3 : w.cell? ⟨bm, d, none⟩ = some (.int .u8 ((prod d c : Nat) : Int)) := by
    rw [cell_of_row w bm d _ _ _ hm, ← mulsL_get c d hd]
    exact cells8_get (by rw [mulsL_length]; exact hd)
  have hp := prod_lt c hd
  obtain ⟨u, HU⟩ : ∃ u, Hid (prod d c = u) := ⟨_, rfl⟩
  rw [HU.out] at q3 hp ⊢
  have hxx := u8_xor_nat F u hF hp
  have sz := size_u8
  obtain ⟨j, HJ⟩ : ∃ j, Hid (k + s = j) := ⟨_, rfl⟩
  have hn1 : (k : Int) + (s : Int) = (j : Int) := by have := HJ.out; omega
  rw [HJ.out] at hks hcl hfz ⊢
  clear hs ht hm
  go_enter Try.func63, Try.ntmps63
  go_wp2
  go_region
  all_goals go_wp2
  go_end0
  exact ⟨rfl, rfl⟩

/-- Bytes that do not lie in the block that turned. -/
theorem HB.aside {w w' : World} {p : Option Addr} {c g : Nat} {l : List Int} (h : HB w (.slice p l.length c) l) (hg : w.grownBy w' (some g)) (hne : 0 < l.length → ∀ b off, p = some ⟨b, off, none⟩ → b ≠ g) : HB w' (.slice p l.length c) l := by
  obtain ⟨⟨p', c', e, h2, h3, h6, h4⟩, h5⟩ := h
  simp only [Value.slice.injEq, true_and] at e
  obtain ⟨rfl, rfl⟩ := e
  refine ⟨⟨p, c, rfl, h2, h3, h6, fun hl => ?_⟩, h5⟩
  obtain ⟨b, off, rfl, hh⟩ := h4 hl
  have hb := hne (List.length_pos_iff.2 hl) b off rfl
  exact ⟨b, off, rfl, fun j hj => hg.cell (hh j hj) (by simp; exact hb)⟩
/-- Where bytes lie, there was a block. -/
theorem HB.old {w : World} {p : Option Addr} {c : Nat} {l : List Int} (h : HB w (.slice p l.length c) l) (h0 : 0 < l.length) (b off : Nat) (e : p = some ⟨b, off, none⟩) : b < w.heap.size := by
  obtain ⟨b2, o2, c2, e2, _, _, hc2⟩ := h.ne h0
  simp only [Value.slice.injEq, true_and] at e2
  obtain ⟨rfl, rfl⟩ := e2
  simp only [Option.some.injEq, Addr.mk.injEq, and_true] at e
  obtain ⟨rfl, rfl⟩ := e
  exact World.block_lt_of_cell? w _ (hc2 0 h0)
theorem grown_drew (w : World) (r : Option Nat) : w.grownBy w.drew r := ⟨rfl, rfl, rfl, Nat.le_refl _, fun _ _ _ => rfl⟩
theorem own_drew {w : World} {B n : Nat} {e : TypeId} {v : Value} {xs : List Value} (h : w.ownsRow B e 1 v n xs) : w.drew.ownsRow B e 1 v n xs := own_below h ⟨rfl, rfl, rfl, Nat.le_refl _, fun _ _ => rfl⟩
theorem grown_of_below {a b c : World} {g : Nat} (h : Below a.heap.size a b) (k : b.grownBy c (some g)) : a.grownBy c (some g) :=
  grown_tr ⟨h.os, h.tape, h.output, h.size, fun i hi _ => h.block i hi⟩ k
set_option maxRecDepth 100000 in
set_option maxHeartbeats 4000000 in
theorem addShifted_any (w : World) (B n cap g s c pc : Nat) (p : Option Addr) (P : List Int) (f : Nat → Nat) (hf : ∀ i, f i < 256) (hn : n ≤ 9223372036854775807) (ho : w.ownsRow B 5 1 (.slice (some ⟨g, 0, none⟩) n cap) n ((tabL n f).map (Value.int .u8))) (hP : HB w (.slice p P.length pc) P) (hne : 0 < P.length → ∀ b off, p = some ⟨b, off, none⟩ → b ≠ g) (hc : c < 256) (hs : s + P.length ≤ n) :
    Calls Try.prog 58 #[.slice (some ⟨g, 0, none⟩) n cap, .slice p P.length pc, .int .u8 (c : Int), .int .i64 (s : Int)] w fun e w' => e = .returned (.tuple #[]) ∧ w'.ownsRow B 5 1 (.slice (some ⟨g, 0, none⟩) n cap) n ((tabL n (fun i => f i ^^^ sh P c s i)).map (Value.int .u8)) ∧ w.grownBy w' (some g) := by
  have HP := hid hP
  have HO := hid ho
  have HF := hid hf
  have HNE := hid hne
  have HBO : Hid (B ≤ g ∧ g < w.heap.size) := ho.lt g rfl
  clear hP ho hf hne
  obtain ⟨z, HZ⟩ : ∃ z, Hid (cells8 (zeros8 256) = z) := ⟨_, rfl⟩
  have hz := zero_b256
  rw [HZ.out] at hz
  have HZ0 := hid hz
  clear hz
  obtain ⟨W0, hW0⟩ : ∃ W0, Hid ((w.alloc (.cells #[.slice (some ⟨g, 0, none⟩) n cap] 38)).alloc (.cells #[.int .i64 (s : Int)] 3) = W0) := ⟨_, rfl⟩
  have C := hid (multiples_any W0 c hc)
  obtain ⟨m, Hm⟩ : ∃ m, Hid (cells8 (mulsL c) = m) := ⟨_, rfl⟩
  rw [Hm.out] at C
  have hms : m.size = 256 := by rw [← Hm.out, cells8_size, mulsL_length]
  have HIm : Hid ((Try.prog.info? 61).map (·.size) = some m.size) := by rw [hms]; exact size_b256
  have H1m : Hid (m.all (·.oneCell') = true) := by rw [← Hm.out]; exact cells8_one _
  have HZM : Hid (z.size = m.size) := by rw [hms, ← HZ.out, cells8_size, zeros8_length]; exact rfl
  have B0 : Hid (Below w.heap.size w W0) := by rw [← hW0.out]; exact ((Below.refl _ w).alloc (Nat.le_refl _) _).alloc (by simp) _
  have HS0 : Hid (W0.heap.size = w.heap.size + 2) := by rw [← hW0.out]; show _ = _; simp
  have K0 : Hid (W0.heap[w.heap.size]? = some (.cells #[.slice (some ⟨g, 0, none⟩) n cap] 38 (0, 0))) := by
    rw [← hW0.out]
    exact (Below.heap_alloc _ _ _ (by simp)).trans (heap_alloc_new w _)
  have K1 : Hid (W0.heap[w.heap.size + 1]? = some (.cells #[.int .i64 (s : Int)] 3 (0, 0))) := by
    have := heap_alloc_new (w.alloc (.cells #[.slice (some ⟨g, 0, none⟩) n cap] 38)) (.cells #[.int .i64 (s : Int)] 3)
    rw [World.size_alloc, hW0.out] at this
    exact this
  go_enter Try.func58, Try.ntmps58
  go_wp2_with fail
  rw [hW0.out]
  refine C.out.mono ?_
  rintro e w1 ⟨rfl, hB1⟩
  have B1 := hid hB1
  have hs1 := hB1.size
  rw [HS0.out] at hs1
  clear hB1 C
  have H0q : Hid ((w1.alloc (.cells z 61)).heap[w1.heap.size]? = some (.cells z 61 (0, 0))) := heap_alloc_new w1 _
  obtain ⟨w2, hw2⟩ : ∃ w2, Hid ((w1.alloc (.cells z 61)).setRow w1.heap.size m = w2) := ⟨_, rfl⟩
  have HT2 : Hid (w2.heap[w1.heap.size]? = some (.cells m 61 (0, 0))) := by rw [← hw2.out]; exact setRow_heap _ _ _ _ _ _ H0q.out
  have B2 : Hid (Below W0.heap.size W0 w2) := by rw [← hw2.out]; exact below_setRow (B1.out.alloc B1.out.size _) B1.out.size m
  go_wp2_with (first | (refine wpList_alloc_agg HZ0.out rfl rfl ?_) | (refine wpList_store_row rfl 61 _ _ rfl _ m rfl rfl 61 _ H0q.out HIm.out HZM.out H1m.out ?_))
  rw [hw2.out]
  have hs2 : w2.heap.size = w1.heap.size + 1 := by rw [← hw2.out]; simp [World.setRow]
  have K02 : Hid (w2.heap[w.heap.size]? = some (.cells #[.slice (some ⟨g, 0, none⟩) n cap] 38 (0, 0))) := (B2.out.block _ (by rw [HS0.out]; omega)).trans K0.out
  have K12 : Hid (w2.heap[w.heap.size + 1]? = some (.cells #[.int .i64 (s : Int)] 3 (0, 0))) := (B2.out.block _ (by rw [HS0.out]; omega)).trans K1.out
  have B02 : Hid (Below w.heap.size w w2) := B0.out.trans (B2.out.mono B0.out.size)
  have HO2 := hid (own_below HO.out B02.out)
  clear K0 K1 B0 B1 B2 HO
  refine (down_ash _ p P.length pc (by omega) _ _ _ undef undef (fun K wr => (wr.heap[w.heap.size]? = some (.cells #[.slice (some ⟨g, 0, none⟩) n cap] 38 (0, 0)) ∧ wr.heap[w.heap.size + 1]? = some (.cells #[.int .i64 (s : Int)] 3 (0, 0)) ∧ wr.heap[w1.heap.size]? = some (.cells m 61 (0, 0))) ∧ wr.ownsRow B 5 1 (.slice (some ⟨g, 0, none⟩) n cap) n ((tabL n (fun i => f i ^^^ (if s + K ≤ i then sh P c s i else 0))).map (Value.int .u8)) ∧ w2.grownBy wr (some g)) ?_ ?_).mono ?_
  · refine ⟨⟨K02.out, K12.out, HT2.out⟩, ?_, grown_rfl _ _⟩
    rw [tabL_congr n (g := f) fun i hi => ?_]
    · exact HO2.out
    · split
      · unfold sh
        rw [if_pos (by omega), gN_out P _ (by omega), zero_prod c hc, Nat.xor_zero]
      · rw [Nat.xor_zero]
  · rintro k wr hk ⟨⟨i1, i2, i3⟩, i4, i5⟩
    obtain ⟨b1, o1, c1, e1, _, _, hc1⟩ := HP.out.ne (by omega)
    simp only [Value.slice.injEq] at e1
    obtain ⟨rfl, _, rfl⟩ := e1
    have hb1 := HNE.out (by omega) b1 o1 rfl
    have q0 := hc1 k hk
    have q1 : w2.cell? ⟨b1, o1 + k, none⟩ = some (.int .u8 (P.getD k 0)) := (B02.out.cell (World.block_lt_of_cell? w _ q0)).trans q0
    have q2 : wr.cell? ⟨b1, o1 + k, none⟩ = some (.int .u8 (P.getD k 0)) := i5.cell q1 (by simp; exact hb1)
    obtain ⟨g1, l1⟩ := HP.out.gN k
    rw [g1] at q2
    refine ⟨b1, o1, gN P k, rfl, q2, ?_⟩
    have hcl := i4.cellAt (k + s) (by omega)
    have hfz := i4.frozenAt (k + s)
    have hcv : wr.cell? ⟨g, k + s, none⟩ = some (.int .u8 ((f (k + s) : Nat) : Int)) := by
      rw [hcl, List.getElem?_map]
      simp only [tabL, List.getElem?_map, List.getElem?_range (show k + s < n by omega), Option.map_some]
      rw [if_neg (by omega), Nat.xor_zero]
    rw [← Hm.out] at i3
    refine (addsh1_any wr k (gN P k) c s n cap g w.heap.size (w.heap.size + 1) w1.heap.size (f (k + s)) l1 hc (HF.out _) (by omega) hn i1 i2 i3 hcv hfz).mono ?_
    rintro e w' ⟨rfl, rfl⟩
    have hst := i4.stored (k + s) (.int .u8 ((f (k + s) ^^^ prod (gN P k) c : Nat) : Int))
    have hbo := HBO.out
    refine ⟨rfl, ⟨?_, ?_, ?_⟩, ?_, ?_⟩
    · exact (heap_setCell_other wr ⟨g, k + s, none⟩ _ _ (by simp; omega)).trans i1
    · exact (heap_setCell_other wr ⟨g, k + s, none⟩ _ _ (by simp; omega)).trans i2
    · rw [← Hm.out]
      exact (heap_setCell_other wr ⟨g, k + s, none⟩ _ _ (by simp; omega)).trans i3
    · have h1 := own_drew hst.1
      rw [← List.map_set, tabL_set] at h1
      rw [tabL_congr n (f := fun i => f i ^^^ (if s + k ≤ i then sh P c s i else 0)) (g := fun j => if j = k + s then f (k + s) ^^^ prod (gN P k) c else f j ^^^ (if s + (k + 1) ≤ j then sh P c s j else 0)) fun i hi => ?_]
      · exact h1
      show f i ^^^ (if s + k ≤ i then sh P c s i else 0) = if i = k + s then f (k + s) ^^^ prod (gN P k) c else f i ^^^ (if s + (k + 1) ≤ i then sh P c s i else 0)
      by_cases e : i = k + s
      · subst e
        rw [if_pos rfl, if_pos (by omega)]
        unfold sh
        rw [if_pos (by omega), Nat.add_sub_cancel]
      · rw [if_neg e]
        by_cases e2 : s + (k + 1) ≤ i
        · rw [if_pos e2, if_pos (by omega)]
        · rw [if_neg e2, if_neg (by omega)]
    · exact grown_tr i5 (grown_tr hst.2 (grown_drew _ _))
  · rintro e w4 ⟨rfl, -, i4, i5⟩
    have HR : Hid (w4.ownsRow B 5 1 (.slice (some ⟨g, 0, none⟩) n cap) n ((tabL n (fun i => f i ^^^ sh P c s i)).map (Value.int .u8))) := by
      rw [tabL_congr n (g := fun i => f i ^^^ (if s + 0 ≤ i then sh P c s i else 0)) fun i hi => ?_]
      · exact i4
      · show f i ^^^ sh P c s i = _
        by_cases e : s + 0 ≤ i
        · rw [if_pos e]
        · rw [if_neg e]
          unfold sh
          rw [if_neg (by omega)]
    have HG := hid (grown_of_below B02.out i5)
    clear i4 i5
    go_wp2
    go_end0
    exact ⟨rfl, HR.out, HG.out⟩
end Go.Proofs.Ytmglpcenipnmbaa
