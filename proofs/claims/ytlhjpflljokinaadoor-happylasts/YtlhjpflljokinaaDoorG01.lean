/- Of the road to happyLastsCard_holds: HzR, HzL, HzB, HzA, HpS0, HzPl, HzG. -/
import Derived.Test.YtlhjpflljokinaaDoorG00
import Derived.Test.YtlhjpflljokinaaDoorChecked
import Derived.Laws.Rows
import Derived.BigRegion
import Derived.Laws.CopyOwn
import Derived.Deep.RegionHeld
import Derived.Laws.EntriesVeiled
set_option linter.unusedVariables false
set_option linter.unusedSimpArgs false
namespace Go.Proofs.YtlhjpflljokinaaDoor.Hz
open Go Go.RowKit Go.Proofs.YtlhjpflljokinaaDoor
theorem results_cell1 {P : Program} {fn : Func} {p : Tmp} {ty : TypeId} (h : fn.results = #[.cell p ty]) (tmps : Array Value) (w : World) (g : Nat) (t : TypeId) (cs : Array Value) (fr : Nat × Nat) (d : TypeDesc)
    (hp : tmps.getD p undef = .pointer (some ⟨g, 0, none⟩)) (hg : w.heap[g]? = some (.cells cs t fr))
    (hu : P.underlying ty = some d) (hd : (match d with | .struct _ | .array _ _ => true | _ => false) = true) (hi : (P.info? ty).map (·.size) = some cs.size) :
    (results fn tmps).run P w = .ok (.agg cs) w := by
  have hp' : tmps[p]?.getD undef = .pointer (some ⟨g, 0, none⟩) := by simpa using hp
  simp [results, h, hp', asAddr, run_loadVar_row w g t ty cs fr d hg hu hd hi]
theorem results_cellt {P : Program} {fn : Func} {p u : Tmp} {ty : TypeId} (h : fn.results = #[.cell p ty, .tmp u]) (tmps : Array Value) (w : World) (g : Nat) (t : TypeId) (cs : Array Value) (fr : Nat × Nat) (d : TypeDesc)
    (hp : tmps.getD p undef = .pointer (some ⟨g, 0, none⟩)) (hg : w.heap[g]? = some (.cells cs t fr))
    (hu : P.underlying ty = some d) (hd : (match d with | .struct _ | .array _ _ => true | _ => false) = true) (hi : (P.info? ty).map (·.size) = some cs.size) (x : Value) (hx : tmps.getD u undef = x) :
    (results fn tmps).run P w = .ok (.tuple #[.agg cs, x]) w := by
  have hp' : tmps[p]?.getD undef = .pointer (some ⟨g, 0, none⟩) := by simpa using hp
  have hx' : tmps[u]?.getD undef = x := by simpa using hx
  simp [results, h, hp', hx', asAddr, run_loadVar_row w g t ty cs fr d hg hu hd hi]
end Go.Proofs.YtlhjpflljokinaaDoor.Hz
namespace Go.Proofs.YtlhjpflljokinaaDoor.Hz
open Go Go.RowKit Go.Proofs.YtlhjpflljokinaaDoor Go.Maps
def HN (w : World) (v : Value) (ns : List Nat) : Prop :=
  ∃ (p : Option Addr) (c : Nat), v = .slice p ns.length c ∧ ns.length ≤ c ∧ c ≤ maxLen ∧
    (ns ≠ [] → ∃ b off, p = some ⟨b, off, none⟩ ∧ ∀ j, j < ns.length → w.cell? ⟨b, off + j, none⟩ = some (.int .i64 ((ns.getD j 0 : Nat) : Int)))
theorem HN.open {w : World} {v : Value} {ns : List Nat} (h : HN w v ns) : ∃ (p : Option Addr) (c : Nat), v = .slice p ns.length c ∧ ns.length ≤ c ∧ c ≤ maxLen := by
  obtain ⟨p, c, h1, h2, h3, _⟩ := h
  exact ⟨p, c, h1, h2, h3⟩
theorem HN.ne {w : World} {p : Option Addr} {n c : Nat} {ns : List Nat} (h : HN w (.slice p n c) ns) (hl : 0 < ns.length) :
    ∃ b off, p = some ⟨b, off, none⟩ ∧ b < w.heap.size ∧ ∀ j, j < ns.length → w.cell? ⟨b, off + j, none⟩ = some (.int .i64 ((ns.getD j 0 : Nat) : Int)) := by
  obtain ⟨p', c', h1, h2, h3, h4⟩ := h
  simp only [Value.slice.injEq] at h1
  obtain ⟨rfl, _, rfl⟩ := h1
  obtain ⟨b, off, rfl, hc⟩ := h4 (by intro e; subst e; simp at hl)
  exact ⟨b, off, rfl, World.block_lt_of_cell? w _ (hc 0 hl), hc⟩
theorem HN.below {w w' : World} {v : Value} {ns : List Nat} (h : HN w v ns) (hb : Below w.heap.size w w') : HN w' v ns := by
  obtain ⟨p, c, h1, h2, h3, h4⟩ := h
  refine ⟨p, c, h1, h2, h3, fun hl => ?_⟩
  obtain ⟨b, off, e, hh⟩ := h4 hl
  exact ⟨b, off, e, fun j hj => (hb.cell (World.block_lt_of_cell? w _ (hh j hj))).trans (hh j hj)⟩
structure Lay (w : World) (b : Nat) (v : Value) (Q : List (Nat × Nat)) : Prop where
  map : HT w b 8192 (mk Q)
  nums : HN w v (ks Q)
theorem Lay.below {w w' : World} {b : Nat} {v : Value} {Q : List (Nat × Nat)} (h : Lay w b v Q) (hb : Below w.heap.size w w') : Lay w' b v Q := ⟨h.map.below hb, h.nums.below hb⟩
theorem mk_step (Q : List (Nat × Nat)) (p : Nat × Nat) : mk (Q ++ [p]) = putT (mk Q) p.2 (mk Q p.2 ||| 2 ^ p.1) := by
  funext k
  rw [mk_more]
  unfold putT
  by_cases h : p.2 = k
  · rw [if_pos h, if_pos h.symm, h]
  · rw [if_neg h, if_neg (fun e => h e.symm)]
theorem take_more {ps : List Pr} {k : Nat} (hk : k < ps.length) : (ps.take (k + 1)).map natP = (ps.take k).map natP ++ [natP (ps.getD k (0, 0))] := by
  rw [List.take_succ_eq_append_getElem hk, List.map_append]
  simp [List.getD, List.getElem?_eq_getElem hk]
theorem mayP_iff {p : Pr} : mayP p = true ↔ 0 ≤ p.1 ∧ p.1 < 32 ∧ 0 ≤ p.2 ∧ p.2 < 255 := by
  unfold mayP
  rw [decide_eq_true_eq]
def mayL (ps : List Pr) : Bool := decide (ps.length ≤ 8192) && ps.all mayP
theorem mayL_lt {ps : List Pr} (h : ps.all mayP = true) : (∀ q ∈ ps.map natP, q.1 < 32) ∧ ∀ q ∈ ps.map natP, q.2 < 255 := by
  constructor
  · intro q hq
    obtain ⟨p, hp, rfl⟩ := List.mem_map.1 hq
    have := mayP_iff.1 (List.all_eq_true.1 h p hp)
    unfold natP
    simp only []
    omega
  · intro q hq
    obtain ⟨p, hp, rfl⟩ := List.mem_map.1 hq
    have := mayP_iff.1 (List.all_eq_true.1 h p hp)
    unfold natP
    simp only []
    omega
theorem below_drew {B : Nat} {w W : World} (h : Below B w W) : Below B w W.drew := ⟨h.os, h.tape, h.output, h.size, h.block⟩
theorem sorted_keys {Q : List (Nat × Nat)} (hQ : ∀ p ∈ Q, p.2 < 255) {D : DataW Unit} {w : World} {b N : Nat} (h1 : w.ownsMap Tryd.prog 3 (plainElem Tryd.prog 84) b N D) (h2 : ∀ k : Int, has D (.int .i64 k) = true ↔ ∃ j : Nat, k = (j : Int) ∧ mk Q j ≠ 0) {ss : List Int} (hp : ss.Perm (intKeys D)) :
    ss.mergeSort (fun x y => decide (x ≤ y)) = (ks Q).map fun k : Nat => (k : Int) := by
  obtain ⟨es, e1, e2, e3⟩ := h1.entries (int_keyed Tryd.underlying3)
  subst e1
  have hk : ∀ p ∈ es, ∃ x, p.1 = .int .i64 x := by
    obtain ⟨es', hD', hko⟩ := h1.keysOf
    obtain rfl : es = es' := by simpa using hD'
    intro p hp
    obtain ⟨v, hv⟩ := hko p hp
    obtain ⟨x, _, hx, _⟩ := Maps.keyOf_i64 Tryd.underlying3 hv
    exact ⟨x, hx⟩
  have nd : ((ks Q).map fun k : Nat => (k : Int)).Nodup := by
    rw [List.Nodup, List.pairwise_map]
    refine (ks_srt Q).imp ?_
    intro a b hab
    omega
  have hmem : ∀ x : Int, x ∈ ((ks Q).map fun k : Nat => (k : Int)) ↔ has (.map es) (.int .i64 x) = true := by
    intro x
    rw [h2 x, List.mem_map]
    constructor
    · rintro ⟨k, h, rfl⟩
      obtain ⟨s, hs⟩ := (mem_ks hQ).1 h
      exact ⟨k, rfl, mk_zero.2 ⟨s, hs⟩⟩
    · rintro ⟨k, rfl, h⟩
      exact ⟨k, (mem_ks hQ).2 (mk_zero.1 h), rfl⟩
  have hq := perm_intKeys e2 hk nd hmem
  have hpp : ss.Perm ((ks Q).map fun k : Nat => (k : Int)) := hp.trans hq.symm
  rw [mergeSort_of_perm_i hpp]
  refine List.mergeSort_of_pairwise ?_
  rw [List.pairwise_map]
  refine (ks_srt Q).imp ?_
  intro a b hab
  simp only [decide_eq_true_eq]
  omega
theorem below_grown {W W' : World} {g B : Nat} (h : W.drew.grownBy W' (some g)) (hB : B ≤ g) (hW : B ≤ W.heap.size) : Below B W W' := ⟨h.os, h.tape, h.output, h.size, fun k hk => h.block k (Nat.lt_of_lt_of_le hk hW) (by simp; omega)⟩
theorem keys_any (w : World) (b : Nat) : Calls Tryd.prog 47 #[.map (some b)] w fun e w' => e = .returned (.func (.func 56) #[] #[.pointer (some ⟨w.heap.size, 0, none⟩)]) ∧ w' = w.alloc (.cells #[.map (some b)] 56) :=
  (callsIn_wide (n := 5)).1 (AnyZI.keys_in Tryd.laysKeys Fence.wide 5 trivial rfl (some b) w)
theorem sorts_in (m : Nat) : AnyZI.SortsIn Tryd.prog Tryd.laysSorted_ren Fence.wide m :=
  ⟨fun blk off cap ss W hH hblk hsz => callsIn_wide.2 (AnyM.slices_Sort_int Tryd.laysSlM5_f55 blk off cap ss W hH hblk hsz),
   fun p cap W => callsIn_wide.2 (AnyM.slices_Sort_int_none Tryd.laysSlM5_f55 p cap W)⟩
theorem sorted_any (w : World) (b N : Nat) (D : DataW Unit) (R : Value → Option (DataW Unit × List MemPlace)) (hown : w.ownsMap Tryd.prog 3 R b N D) (hmax : Maps.size D ≤ 1000000) :
    Calls Tryd.prog 46 #[.func (.func 56) #[] #[.pointer (some ⟨w.heap.size, 0, none⟩)]] (w.alloc (.cells #[.map (some b)] 56)) fun e w' => ∃ (v : Value) (ss : List Int), e = .returned v ∧ ss.Perm (intKeys D) ∧ w'.ownsRow (w.heap.size + 1) 3 1 v ss.length ((ss.mergeSort (fun x y => decide (x ≤ y))).map encZ) ∧ Below (w.heap.size + 1) (w.alloc (.cells #[.map (some b)] 56)) w' := by
  have hbl := hown.lt
  have hseq : SeqGives Fence.wide 2 Tryd.prog 56 #[.pointer (some ⟨w.heap.size, 0, none⟩)] encZ (fun ss => ss.Perm (intKeys D)) (Maps.size D) (w.alloc (.cells #[.map (some b)] 56)) :=
    AnyZI.keys_gives (ρ := Tryd.laysKeys_ren) { Tryd.laysKeys with } Fence.wide _ trivial rfl (by omega) w.heap.size b N D _ (by simp) (by simp) (by
      obtain ⟨es, clock, hb, Ft, hs, hD⟩ := hown
      exact ⟨es, clock, (Below.heap_alloc _ _ b hbl).trans hb, Ft, hs, hD⟩)
  have cS := AnyZI.sorted_in Tryd.laysSorted Fence.wide 5 trivial trivial trivial trivial rfl (by omega) (sorts_in _) (enters_of Tryd.func55 (by kernel_rfl) rfl) 56 #[.pointer (some ⟨w.heap.size, 0, none⟩)] trivial (enters_of Tryd.func56 (by kernel_rfl) rfl) _ _ (by unfold maxLen; omega) (by omega) _ hseq
  refine ((callsIn_wide (n := 5)).1 cS).mono ?_
  rintro e w' ⟨v, ss, rfl, hS, hrow, hnil, hb⟩
  have e1 : (w.alloc (.cells #[.map (some b)] 56)).heap.size = w.heap.size + 1 := by simp
  rw [e1] at hrow hb
  exact ⟨v, ss, rfl, hS, hrow, hb⟩
theorem HN.of_own {w : World} {B : Nat} {e : TypeId} {v : Value} {ns : List Nat} (h : w.ownsRow B e 1 v ns.length ((ns.map fun k : Nat => (k : Int)).map encZ)) : HN w v ns := by
  by_cases h0 : 0 < ns.length
  · obtain ⟨g, cap, rfl, _, hn, hm, hc⟩ := ownsRow_cells h h0
    refine ⟨_, cap, rfl, hn, hm, fun _ => ⟨g, 0, rfl, fun j hj => ?_⟩⟩
    exact hc j _ (by simp [List.getD, List.getElem?_eq_getElem hj, encZ])
  · have e : ns = [] := List.length_eq_zero_iff.1 (by omega)
    subst e
    rcases h.2 with ⟨rfl, _⟩ | ⟨g, cap, cur, rfl, _, _, hn, hm, _⟩
    · exact ⟨none, 0, rfl, Nat.le_refl _, Nat.zero_le _, fun h => absurd rfl h⟩
    · exact ⟨_, cap, rfl, hn, hm, fun h => absurd rfl h⟩
theorem row2_set {W : World} {g : Nat} {x y x' y' : Value} {t : TypeId} (h : W.heap[g]? = some (.cells #[x, y] t (0, 0))) : ((W.setCell ⟨g, 0, none⟩ x').setCell ⟨g, 1, none⟩ y').heap[g]? = some (.cells #[x', y'] t (0, 0)) := by
  have h1 := heap_setCell_same W g 0 #[x, y] t x' h
  have h2 := heap_setCell_same (W.setCell ⟨g, 0, none⟩ x') g 1 _ t y' h1
  exact h2
theorem HN.set2 {W : World} {g : Nat} {t : TypeId} {x' y' : Value} {v : Value} {ns : List Nat} (h : HN W v ns) (hg : W.heap[g]? = some (.cells #[.map none, .slice none 0 0] t (0, 0))) : HN ((W.setCell ⟨g, 0, none⟩ x').setCell ⟨g, 1, none⟩ y') v ns := by
  obtain ⟨p, c, h1, h2, h3, h4⟩ := h
  refine ⟨p, c, h1, h2, h3, fun hl => ?_⟩
  obtain ⟨b, off, e, hh⟩ := h4 hl
  have hne : b ≠ g := fun z => by
    subst z
    have := hh 0 (List.length_pos_iff.2 hl)
    rw [cell_of_row _ _ _ _ _ _ hg] at this
    rcases Nat.lt_or_ge (off + 0) 2 with q | q
    · have : off + 0 = 0 ∨ off + 0 = 1 := by omega
      rcases this with z | z <;> rw [z] at this <;> simp at this
    · rw [Array.getElem?_eq_none (by simp; omega)] at this
      cases this
  refine ⟨b, off, e, fun j hj => ?_⟩
  rw [← hh j hj]
  exact World.cell?_of_block (a := ⟨b, off + j, none⟩) ((heap_setCell_other _ _ _ _ hne).trans (heap_setCell_other _ _ _ _ hne))
theorem shl_u32 (a s : Nat) (ha : a < 4294967296) (hs : s < 32) : bits .or .u32 (a : Int) ((2 : Int) ^ s % 4294967296) = ((a ||| 2 ^ s : Nat) : Int) := by
  have hp := pow_lt32 hs
  have e : ((2 : Int) ^ s % 4294967296) = ((2 ^ s : Nat) : Int) := by
    rw [show ((2 : Int) ^ s) = ((2 ^ s : Nat) : Int) by rw [Int.natCast_pow]; rfl]
    generalize 2 ^ s = z at hp ⊢
    omega
  rw [e]
  exact or_u32 a (2 ^ s) ha hp
set_option maxRecDepth 100000 in
set_option maxHeartbeats 4000000 in
theorem lay_any (w : World) (v : Value) (ps : List Pr) (hP : HP w v ps) :
    Calls Tryd.prog 29 #[v] w fun e w' => (mayL ps = true → ∃ b vs, e = .returned (.tuple #[.agg #[.map (some b), vs], .int .i64 0]) ∧ Lay w' b vs (ps.map natP)) ∧ (mayL ps = false → e = .returned (.tuple #[.agg #[.map none, .slice none 0 0], .int .i64 230])) ∧ Below w.heap.size w w' := by
  obtain ⟨n, HLn⟩ : ∃ n, Hid (ps.length = n) := ⟨_, rfl⟩
  have HPH := hid hP
  obtain ⟨p0, c, rfl, hc1, hc2⟩ := hP.open
  unfold maxLen at hc2
  rw [HLn.out] at hc1 HPH ⊢
  clear hP
  obtain ⟨W1, HW1⟩ : ∃ W1, Hid (w.alloc (.cells #[.map none, .slice none 0 0] 59) = W1) := ⟨_, rfl⟩
  have HR1 : Hid (W1.heap[w.heap.size]? = some (.cells #[.map none, .slice none 0 0] 59 (0, 0))) := by rw [← HW1.out]; exact heap_alloc_new w _
  have HS1 : Hid (W1.heap.size = w.heap.size + 1) := by rw [← HW1.out]; refine hid ?_; simp
  have HB1 : Hid (Below w.heap.size w W1) := by rw [← HW1.out]; exact (Below.refl _ w).alloc (Nat.le_refl _) _
  have hfl : (8192 < n) ∨ ¬ (8192 < n) := Classical.em _
  go_enter Tryd.func29, Tryd.ntmps29
  rcases hfl with hbig | hbig
  · have HM : Hid (mayL ps = false) := hid (by unfold mayL; rw [HLn.out, decide_eq_false (by omega)]; rfl)
    go_wp2
    rw [HW1.out]
    refine bodyPost_ret (v := .tuple #[.agg #[.map none, .slice none 0 0], .int .i64 230]) (results_cellt (p := 2) (u := 3) (ty := 59) rfl _ _ w.heap.size 59 _ (0, 0) _ rfl HR1.out Tryd.underlying59 rfl (by kernel_rfl) _ rfl) rfl ?_
    exact ⟨(fun z => by rw [HM.out] at z; cases z), (fun _ => rfl), HB1.out⟩
  · have hmm := run_makeMap (P := Tryd.prog) 56 W1
    obtain ⟨W2, HW2⟩ : ∃ W2, Hid (W1.alloc (.map #[] 0) = W2) := ⟨_, rfl⟩
    have HT2 : Hid (HT W2 (w.heap.size + 1) 0 (mk [])) := by
      have := HT.made W1
      rw [HW2.out, HS1.out] at this
      exact this
    have HR2 : Hid (W2.heap[w.heap.size]? = some (.cells #[.map none, .slice none 0 0] 59 (0, 0))) := by
      rw [← HW2.out]
      refine hid ?_
      rw [← HR1.out]
      exact Below.heap_alloc _ _ _ (by rw [HS1.out]; omega)
    have HS2 : Hid (W2.heap.size = w.heap.size + 2) := by
      have := HS1.out
      rw [← HW2.out]; refine hid ?_; simp; omega
    have HB2 : Hid (Below w.heap.size w W2) := by rw [← HW2.out]; exact HB1.out.alloc (by rw [HS1.out]; omega) _
    rw [HW2.out, HS1.out] at hmm
    go_wp2
    rw [HW1.out, hmm]
    simp only [Result.andThen]
    rw [Oper.upon_value]
    go_wp2
    go_loopw [14] (fun x wr => ∃ k : Nat, k ≤ n ∧ x = .int .i64 k ∧ Hid ((ps.take k).all mayP = true) ∧ Hid (HT wr (w.heap.size + 1) k (mk ((ps.take k).map natP))) ∧ Hid (wr.heap[w.heap.size]? = some (.cells #[.map none, .slice none 0 0] 59 (0, 0))) ∧ Hid (w.heap.size + 2 ≤ wr.heap.size) ∧ Hid (Below w.heap.size w wr)) (fun x _ => n - (intOf x).toNat)
    case atStart => exact ⟨0, Nat.zero_le _, rfl, hid rfl, HT2, HR2, hid (by rw [HS2.out]; exact Nat.le_refl _), HB2⟩
    case round =>
      clear HT2 HR2 HS2 HB2 HR1 HS1 HB1 hmm HW1 HW2
      obtain ⟨k, hk, rfl, HA, HTr, HRr, HSr, HBr⟩ := hrel
      by_cases hkn : k < n
      · obtain ⟨b, off, c', ev, -, -, hbl, hcl⟩ := HPH.out.ne (by rw [HLn.out]; omega)
        simp only [Value.slice.injEq] at ev
        obtain ⟨rfl, -, rfl⟩ := ev
        have hcs := (hcl k (by rw [HLn.out]; exact hkn))
        have hc3 := (HBr.out.cell (World.block_lt_of_cell? w _ hcs.1)).trans hcs.1
        have hc4 := (HBr.out.cell (World.block_lt_of_cell? w _ hcs.2)).trans hcs.2
        have HTK := hid (take_more (k := k) (ps := ps) (by rw [HLn.out]; exact hkn))
        obtain ⟨q, HQ⟩ : ∃ q, Hid (ps.getD k (0, 0) = q) := ⟨_, rfl⟩
        rw [HQ.out] at hc3 hc4 HTK
        obtain ⟨s, m⟩ := q
        simp only [] at hc3 hc4
        clear hcs hcl
        obtain ⟨W3, HW3⟩ : ∃ W3, Hid (wr.alloc (.cells #[.int .i64 s, .int .i64 m] 51) = W3) := ⟨_, rfl⟩
        have CM := hid (mayBe_any W3 (s, m))
        have HB3 : Hid (Below wr.heap.size wr W3) := by rw [← HW3.out]; exact (Below.refl _ wr).alloc (Nat.le_refl _) _
        have HC3 : Hid (W3.heap[wr.heap.size]? = some (.cells #[.int .i64 s, .int .i64 m] 51 (0, 0))) := by rw [← HW3.out]; exact heap_alloc_new wr _
        have HS3 : Hid (wr.heap.size + 1 ≤ W3.heap.size) := by rw [← HW3.out]; refine hid ?_; simp
        go_wp2_with fail
        rw [HW3.out]
        refine CM.out.mono ?_
        rintro e W4 ⟨rfl, hB4⟩
        have HC4 : Hid (W4.heap[wr.heap.size]? = some (.cells #[.int .i64 s, .int .i64 m] 51 (0, 0))) := hid ((hB4.block _ (by have := HS3.out; omega)).trans HC3.out)
        have HB4 : Hid (Below wr.heap.size wr W4) := hid (HB3.out.trans (hB4.mono (by have := HS3.out; omega)))
        have HS4 : Hid (w.heap.size + 2 ≤ W4.heap.size) := hid (by have := HB4.out.size; have := HSr.out; omega)
        have hp0 : W4.cell? ⟨wr.heap.size, 0, none⟩ = some (.int .i64 s) := (cell_of_row _ _ _ _ _ _ HC4.out).trans rfl
        have hp1 : W4.cell? ⟨wr.heap.size, 1, none⟩ = some (.int .i64 m) := (cell_of_row _ _ _ _ _ _ HC4.out).trans rfl
        have HT4 : Hid (HT W4 (w.heap.size + 1) k (mk ((ps.take k).map natP))) := hid (HTr.out.of (HB4.out.block _ (by have := HSr.out; omega)))
        have HR4 : Hid (W4.heap[w.heap.size]? = some (.cells #[.map none, .slice none 0 0] 59 (0, 0))) := hid ((HB4.out.block _ (by have := HSr.out; omega)).trans HRr.out)
        have HBB : Hid (Below w.heap.size w W4) := hid (HBr.out.trans (HB4.out.mono (by have := HSr.out; omega)))
        clear hB4 HB3 HC3 HS3 HTr HRr HBr HB4 HC4 CM HW3 hc3 hc4
        cases hm : mayP (s, m) with
        | false =>
          have HM : Hid (mayL ps = false) := hid (by
            have : ps.all mayP = false := by
              rw [List.all_eq_false]
              refine ⟨ps.getD k (0, 0), ?_, by rw [HQ.out, hm]; decide⟩
              rw [List.getD_eq_getElem?_getD, List.getElem?_eq_getElem (by rw [HLn.out]; exact hkn)]
              exact List.getElem_mem _
            unfold mayL
            rw [this, Bool.and_false])
          have hr0 : W4.cell? ⟨w.heap.size, 0, none⟩ = some (.map none) := (cell_of_row _ _ _ _ _ _ HR4.out).trans rfl
          have hr1 : W4.cell? ⟨w.heap.size, 1, none⟩ = some (.slice none 0 0) := (cell_of_row _ _ _ _ _ _ HR4.out).trans rfl
          have hf0 : W4.frozen? ⟨w.heap.size, 0, none⟩ = false := frozen_of_row _ _ _ _ _ HR4.out
          have hf1 : W4.frozen? ⟨w.heap.size, 1, none⟩ = false := frozen_of_row _ _ _ _ _ HR4.out
          go_wp2
          refine bodyPost_ret (v := .tuple #[.agg #[.map none, .slice none 0 0], .int .i64 230]) (results_cellt (p := 2) (u := 3) (ty := 59) rfl _ _ w.heap.size 59 _ (0, 0) _ rfl (row2_set HR4.out) Tryd.underlying59 rfl (by kernel_rfl) _ rfl) rfl ?_
          exact ⟨(fun z => by rw [HM.out] at z; cases z), (fun _ => rfl), (HBB.out.setCell (p := ⟨w.heap.size, 0, none⟩) (Nat.le_refl _) _).setCell (p := ⟨w.heap.size, 1, none⟩) (Nat.le_refl _) _⟩
        | true =>
          have hm' := mayP_iff.1 hm
          simp only [] at hm'
          obtain ⟨s, rfl⟩ : ∃ s' : Nat, s = (s' : Int) := ⟨s.toNat, by omega⟩
          obtain ⟨m, rfl⟩ : ∃ m' : Nat, m = (m' : Int) := ⟨m.toNat, by omega⟩
          have hs32 : s < 32 := by omega
          have hm255 : m < 255 := by omega
          have HA2 : Hid ((ps.take (k + 1)).all mayP = true) := hid (by
            rw [List.take_succ_eq_append_getElem (by rw [HLn.out]; exact hkn), List.all_append, HA.out]
            have e : ps[k]'(by rw [HLn.out]; exact hkn) = ((s : Int), (m : Int)) := by
              rw [← HQ.out, List.getD_eq_getElem?_getD, List.getElem?_eq_getElem (by rw [HLn.out]; exact hkn)]
              rfl
            simp [e, hm])
          have HLT := mayL_lt HA.out
          have HT4' : HT W4.drew (w.heap.size + 1) k (mk ((ps.take k).map natP)) := HT4.out.of rfl
          have hlook := HT4'.look m (by omega)
          obtain ⟨a, HAm⟩ : ∃ a, Hid (mk ((ps.take k).map natP) m = a) := ⟨_, rfl⟩
          have ha : a < 4294967296 := by rw [← HAm.out]; exact mk_lt HLT.1 m
          rw [HAm.out] at hlook
          have HNZ : Hid (a ||| 2 ^ s ≠ 0) := hid (fun z => by
            have := or_pow_bit a s s
            rw [z] at this
            simp at this)
          obtain ⟨W5, hst, hT5, hG5⟩ := HT4'.store m (a ||| 2 ^ s) (by omega) (or_lt32 ha (pow_lt32 hs32)) HNZ.out (by omega)
          have HT5 : Hid (HT W5 (w.heap.size + 1) (k + 1) (mk ((ps.take (k + 1)).map natP))) := hid (by
            rw [HTK.out, mk_step]
            have e : natP ((s : Int), (m : Int)) = (s, m) := by simp [natP]
            rw [e]
            rw [HAm.out]
            exact hT5)
          have HR5 : Hid (W5.heap[w.heap.size]? = some (.cells #[.map none, .slice none 0 0] 59 (0, 0))) := hid ((hG5.block _ (show w.heap.size < W4.heap.size by have := HS4.out; omega) (by simp)).trans HR4.out)
          have HS5 : Hid (w.heap.size + 2 ≤ W5.heap.size) := hid (Nat.le_trans HS4.out (show W4.heap.size ≤ W5.heap.size from hG5.size))
          have HB5 : Hid (Below w.heap.size w W5) := hid (HBB.out.trans (below_grown hG5 (Nat.le_succ _) (by have := HS4.out; omega)))
          have hor := shl_u32 a s ha hs32
          obtain ⟨r, HR⟩ : ∃ r, Hid (a ||| 2 ^ s = r) := ⟨_, rfl⟩
          rw [HR.out] at hor hst
          clear hT5 hG5 HLT hm hm' HT4 HT4' HR4 HS4 HBB HNZ
          go_wp2_with fail
          go_region
          go_wp2
          exact ⟨⟨k + 1, by omega, by go_num, HA2, HT5, HR5, HS5, HB5⟩, by simp [intOf]; omega⟩
      · obtain rfl : k = n := by omega
        have HAL : Hid (ps.all mayP = true) := by
          have := HA.out
          rw [List.take_of_length_le (by rw [HLn.out]; exact Nat.le_refl _)] at this
          exact this
        have HM : Hid (mayL ps = true) := hid (by unfold mayL; rw [HAL.out, HLn.out, decide_eq_true (by omega)]; rfl)
        have HTr2 : Hid (HT wr (w.heap.size + 1) 8192 (mk (ps.map natP))) := hid (by
          have := HTr.out.mono (N' := 8192) (by omega)
          rw [List.take_of_length_le (by rw [HLn.out]; exact Nat.le_refl _)] at this
          exact this)
        obtain ⟨D, hD1, hD2, hD3⟩ := HTr2.out
        have HD1 := hid hD1
        have HD3 := hid hD3
        have CK := hid (keys_any wr (w.heap.size + 1))
        have CS := hid (sorted_any wr (w.heap.size + 1) 8192 D _ hD1 (Nat.le_trans hD1.size_le (by omega)))
        obtain ⟨W6, HW6⟩ : ∃ W6, Hid (wr.alloc (.cells #[.map (some (w.heap.size + 1))] 56) = W6) := ⟨_, rfl⟩
        rw [HW6.out] at CK CS
        have HB6 : Hid (Below wr.heap.size wr W6) := by rw [← HW6.out]; exact (Below.refl _ wr).alloc (Nat.le_refl _) _
        have HS6 : Hid (W6.heap.size = wr.heap.size + 1) := by rw [← HW6.out]; refine hid ?_; simp
        clear hD1 hD2 hD3 HTr HA
        go_wp2_with fail
        refine CK.out.mono ?_
        rintro e W7 ⟨rfl, hw7⟩
        rw [hw7]
        clear hw7 CK
        go_wp2_with fail
        refine CS.out.mono ?_
        rintro e W8 ⟨vs, ss, rfl, hS, hrow, hb8⟩
        have HSK := sorted_keys (mayL_lt HAL.out).2 HD1.out HD3.out hS
        have hlen : ss.length = (ks (ps.map natP)).length := by
          have := congrArg List.length HSK
          simpa using this
        rw [HSK, hlen] at hrow
        have HNS : Hid (HN W8 vs (ks (ps.map natP))) := hid (HN.of_own hrow)
        have HB8 : Hid (Below wr.heap.size wr W8) := hid (HB6.out.trans (hb8.mono (by omega)))
        have HR8 : Hid (W8.heap[w.heap.size]? = some (.cells #[.map none, .slice none 0 0] 59 (0, 0))) := hid ((HB8.out.block _ (by have := HSr.out; omega)).trans HRr.out)
        have HT8 : Hid (HT W8 (w.heap.size + 1) 8192 (mk (ps.map natP))) := hid (HTr2.out.below HB8.out)
        have HBW : Hid (Below w.heap.size w W8) := hid (HBr.out.trans (HB8.out.mono (by have := HSr.out; omega)))
        have hr0 : W8.cell? ⟨w.heap.size, 0, none⟩ = some (.map none) := (cell_of_row _ _ _ _ _ _ HR8.out).trans rfl
        have hr1 : W8.cell? ⟨w.heap.size, 1, none⟩ = some (.slice none 0 0) := (cell_of_row _ _ _ _ _ _ HR8.out).trans rfl
        have hf0 : W8.frozen? ⟨w.heap.size, 0, none⟩ = false := frozen_of_row _ _ _ _ _ HR8.out
        have hf1 : W8.frozen? ⟨w.heap.size, 1, none⟩ = false := frozen_of_row _ _ _ _ _ HR8.out
        obtain ⟨pn, cn, ev, -, -⟩ := HNS.out.open
        clear HSK hlen hrow hb8 hS CS HD1 HD3 HTr2
        rw [ev] at HNS ⊢
        clear ev
        go_wp2
        refine bodyPost_ret (v := .tuple #[.agg #[.map (some (w.heap.size + 1)), .slice pn (ks (ps.map natP)).length cn], .int .i64 0]) (results_cellt (p := 2) (u := 3) (ty := 59) rfl _ _ w.heap.size 59 _ (0, 0) _ rfl (row2_set HR8.out) Tryd.underlying59 rfl (by kernel_rfl) _ rfl) rfl ?_
        refine ⟨fun _ => ⟨_, _, rfl, ⟨HT8.out.of ?_, HNS.out.set2 HR8.out⟩⟩, (fun z => by rw [HM.out] at z; cases z), (HBW.out.setCell (p := ⟨w.heap.size, 0, none⟩) (Nat.le_refl _) _).setCell (p := ⟨w.heap.size, 1, none⟩) (Nat.le_refl _) _⟩
        exact (heap_setCell_other _ _ _ _ (by simp)).trans (heap_setCell_other _ _ _ _ (by simp))
end Go.Proofs.YtlhjpflljokinaaDoor.Hz
namespace Go.Proofs.YtlhjpflljokinaaDoor.Hz
open Go Go.RowKit Go.Proofs.YtlhjpflljokinaaDoor
def popT : ByteArray := { data := (([0, 1, 1, 2, 1, 2, 2, 3, 1, 2, 2, 3, 2, 3, 3, 4, 1, 2, 2, 3, 2, 3, 3, 4, 2, 3, 3, 4, 3, 4, 4, 5, 1, 2, 2, 3, 2, 3, 3, 4, 2, 3, 3, 4, 3, 4, 4, 5, 2, 3, 3, 4, 3, 4, 4, 5, 3, 4, 4, 5, 4, 5, 5, 6].append [1, 2, 2, 3, 2, 3, 3, 4, 2, 3, 3, 4, 3, 4, 4, 5, 2, 3, 3, 4, 3, 4, 4, 5, 3, 4, 4, 5, 4, 5, 5, 6, 2, 3, 3, 4, 3, 4, 4, 5, 3, 4, 4, 5, 4, 5, 5, 6, 3, 4, 4, 5, 4, 5, 5, 6, 4, 5, 5, 6, 5, 6, 6, 7]).append ([1, 2, 2, 3, 2, 3, 3, 4, 2, 3, 3, 4, 3, 4, 4, 5, 2, 3, 3, 4, 3, 4, 4, 5, 3, 4, 4, 5, 4, 5, 5, 6, 2, 3, 3, 4, 3, 4, 4, 5, 3, 4, 4, 5, 4, 5, 5, 6, 3, 4, 4, 5, 4, 5, 5, 6, 4, 5, 5, 6, 5, 6, 6, 7].append [2, 3, 3, 4, 3, 4, 4, 5, 3, 4, 4, 5, 4, 5, 5, 6, 3, 4, 4, 5, 4, 5, 5, 6, 4, 5, 5, 6, 5, 6, 6, 7, 3, 4, 4, 5, 4, 5, 5, 6, 4, 5, 5, 6, 5, 6, 6, 7, 4, 5, 5, 6, 5, 6, 6, 7, 5, 6, 6, 7, 6, 7, 7, 8])).toArray }
def pc8 (i : Nat) : Nat := (List.range 8).countP fun b => i.testBit b
theorem popT_at : ∀ i, i < 256 → popT.data.toList.getD i 0 = UInt8.ofNat (pc8 i) := by decide +kernel
theorem pc8_le (i : Nat) : pc8 i ≤ 8 := by
  unfold pc8
  exact Nat.le_trans (List.countP_le_length ..) (by simp)
theorem popT_size : popT.size = 256 := by decide +kernel
theorem pop_at (w : World) (i : Nat) (hi : i < 256) : (Instr.index 9 (.string popT) (.int .u32 (i : Int))).run Tryd.prog w = .ok (.int .u8 ((pc8 i : Nat) : Int)) w := by
  rw [run_index_string w 9 popT .u32 i Tryd.underlying9, dif_pos (by rw [popT_size]; omega)]
  congr 2
  have h := popT_at i hi
  have hp := pc8_le i
  have hb : i < popT.data.size := by rw [show popT.data.size = 256 from popT_size]; exact hi
  have e : popT[((i : Int)).toNat]'(by rw [popT_size]; omega) = popT.data[i]'hb := rfl
  have e2 : popT.data.toList.getD i 0 = popT.data[i]'hb := by
    rw [List.getD_eq_getElem?_getD, Array.getElem?_toList, Array.getElem?_eq_getElem hb]
    rfl
  rw [e, ← e2, h]
  simp only [UInt8.toNat_ofNat']
  omega
def pcN (x : Nat) : Nat := pc8 (x / 16777216) + pc8 (x / 65536 % 256) + pc8 (x / 256 % 256) + pc8 (x % 256)
theorem chunk (x j : Nat) : pc8 (x / 2 ^ j % 256) = (List.range 8).countP fun b => x.testBit (j + b) := by
  unfold pc8
  refine List.countP_congr fun b hb => ?_
  have hb8 : b < 8 := List.mem_range.1 hb
  rw [show (256 : Nat) = 2 ^ 8 from rfl, Nat.testBit_mod_two_pow, Nat.testBit_div_two_pow, decide_eq_true hb8, Bool.true_and, Nat.add_comm b j]
theorem range_split (n k : Nat) (f : Nat → Bool) : (List.range (n + k)).countP f = (List.range n).countP f + (List.range k).countP fun b => f (n + b) := by
  rw [List.range_add, List.countP_append, List.countP_map]
  rfl
theorem pcN_eq (x : Nat) (hx : x < 4294967296) : pcN x = (List.range 32).countP fun s => x.testBit s := by
  rw [show (32 : Nat) = 8 + 24 from rfl, range_split, show (24 : Nat) = 8 + 16 from rfl, range_split, show (16 : Nat) = 8 + 8 from rfl, range_split]
  have c0 := chunk x 0
  have c1 := chunk x 8
  have c2 := chunk x 16
  have c3 := chunk x 24
  simp only [Nat.zero_add, Nat.pow_zero, Nat.div_one] at c0
  rw [show (2 : Nat) ^ 8 = 256 from rfl] at c1
  rw [show (2 : Nat) ^ 16 = 65536 from rfl] at c2
  rw [show (2 : Nat) ^ 24 = 16777216 from rfl, Nat.mod_eq_of_lt (show x / 16777216 < 256 by omega)] at c3
  unfold pcN
  rw [c0, c1, c2, c3]
  simp only [← Nat.add_assoc, Nat.reduceAdd]
  omega
theorem and255 (y : Nat) (hy : y < 4294967296) : bits .and .u32 (y : Int) 255 = ((y % 256 : Nat) : Int) := by
  have := and_u32 y 255 hy (by decide)
  rw [show ((255 : Nat) : Int) = 255 from rfl] at this
  rw [this, show y &&& 255 = y % 256 from Nat.and_two_pow_sub_one_eq_mod y 8]
set_option maxRecDepth 100000 in
set_option maxHeartbeats 2000000 in
theorem ones_any (w : World) (x : Nat) (hx : x < 4294967296) :
    Calls Tryd.prog 48 #[.int .u32 (x : Int)] w fun e w' => e = .returned (.int .i64 (((List.range 32).countP fun s => x.testBit s : Nat) : Int)) ∧ Dr w w' := by
  rw [← pcN_eq x hx]
  have h1 := fun W => pop_at W (x / 16777216) (by omega)
  have h2 := fun W => pop_at W (x / 65536 % 256) (by omega)
  have h3 := fun W => pop_at W (x / 256 % 256) (by omega)
  have h4 := fun W => pop_at W (x % 256) (by omega)
  have a2 := and255 (x / 65536) (by omega)
  have a3 := and255 (x / 256) (by omega)
  have a4 := and255 x hx
  go_enter Tryd.func48, Tryd.ntmps48
  rw [show ({ data := (([0, 1, 1, 2, 1, 2, 2, 3, 1, 2, 2, 3, 2, 3, 3, 4, 1, 2, 2, 3, 2, 3, 3, 4, 2, 3, 3, 4, 3, 4, 4, 5, 1, 2, 2, 3, 2, 3, 3, 4, 2, 3, 3, 4, 3, 4, 4, 5, 2, 3, 3, 4, 3, 4, 4, 5, 3, 4, 4, 5, 4, 5, 5, 6].append [1, 2, 2, 3, 2, 3, 3, 4, 2, 3, 3, 4, 3, 4, 4, 5, 2, 3, 3, 4, 3, 4, 4, 5, 3, 4, 4, 5, 4, 5, 5, 6, 2, 3, 3, 4, 3, 4, 4, 5, 3, 4, 4, 5, 4, 5, 5, 6, 3, 4, 4, 5, 4, 5, 5, 6, 4, 5, 5, 6, 5, 6, 6, 7]).append ([1, 2, 2, 3, 2, 3, 3, 4, 2, 3, 3, 4, 3, 4, 4, 5, 2, 3, 3, 4, 3, 4, 4, 5, 3, 4, 4, 5, 4, 5, 5, 6, 2, 3, 3, 4, 3, 4, 4, 5, 3, 4, 4, 5, 4, 5, 5, 6, 3, 4, 4, 5, 4, 5, 5, 6, 4, 5, 5, 6, 5, 6, 6, 7].append [2, 3, 3, 4, 3, 4, 4, 5, 3, 4, 4, 5, 4, 5, 5, 6, 3, 4, 4, 5, 4, 5, 5, 6, 4, 5, 5, 6, 5, 6, 6, 7, 3, 4, 4, 5, 4, 5, 5, 6, 4, 5, 5, 6, 5, 6, 6, 7, 4, 5, 5, 6, 5, 6, 6, 7, 5, 6, 6, 7, 6, 7, 7, 8])).toArray } : ByteArray) = popT from rfl]
  generalize popT = T at h1 h2 h3 h4 ⊢
  have e1 : (x : Int) / 16777216 = ((x / 16777216 : Nat) : Int) := by omega
  have e2 : (x : Int) / 65536 = ((x / 65536 : Nat) : Int) := by omega
  have e3 : (x : Int) / 256 = ((x / 256 : Nat) : Int) := by omega
  have b1 := pc8_le (x / 16777216)
  have b2 := pc8_le (x / 65536 % 256)
  have b3 := pc8_le (x / 256 % 256)
  have b4 := pc8_le (x % 256)
  have HP : Hid (pcN x = pc8 (x / 16777216) + pc8 (x / 65536 % 256) + pc8 (x / 256 % 256) + pc8 (x % 256)) := rfl
  generalize pc8 (x / 16777216) = p1 at h1 b1 HP
  generalize pc8 (x / 65536 % 256) = p2 at h2 b2 HP
  generalize pc8 (x / 256 % 256) = p3 at h3 b3 HP
  generalize pc8 (x % 256) = p4 at h4 b4 HP
  generalize x / 16777216 = q1 at h1 e1
  generalize x / 65536 % 256 = q2 at h2 a2
  generalize x / 65536 = r2 at e2 a2
  generalize x / 256 % 256 = q3 at h3 a3
  generalize x / 256 = r3 at e3 a3
  generalize x % 256 = q4 at h4 a4
  go_wp2_with fail
  go_region
  go_wp2
  go_ret
  refine ⟨?_, Dr.one w 1⟩
  rw [HP.out]
  show Ending.returned (Value.int IntKind.i64 ((p1 : Int) + p2 + p3 + p4)) = _
  congr 2
end Go.Proofs.YtlhjpflljokinaaDoor.Hz
namespace Go.Proofs.YtlhjpflljokinaaDoor.Hz
open Go Go.RowKit Go.Proofs.YtlhjpflljokinaaDoor Go.Maps
def ca (l : List Int) : Array Value := (l.map fun x : Int => Value.int .i64 x).toArray
theorem ca_size (l : List Int) : (ca l).size = l.length := by simp [ca]
theorem ca_at (l : List Int) (i : Nat) (hi : i < l.length) : (ca l)[i]? = some (.int .i64 (l.getD i (-1))) := by simp [ca, List.getD, List.getElem?_eq_getElem hi]
theorem ca_set (l : List Int) (i : Nat) (x : Int) : (ca l).setIfInBounds i (.int .i64 x) = ca (l.set i x) := by simp [ca]
theorem ca_one (l : List Int) : (ca l).all (·.oneCell') = true := by
  rw [Array.all_eq_true_iff_forall_mem]
  intro v hv
  have hv' : v ∈ (l.map fun x : Int => Value.int .i64 x) := by simpa [ca] using hv
  obtain ⟨x, _, rfl⟩ := List.mem_map.1 hv'
  rfl
theorem info_mt : (Tryd.prog.info? 64).map (·.size) = some 32 := by kernel_rfl
theorem size_mt {l : List Int} (h : l.length = 32) : (Tryd.prog.info? 64).map (·.size) = some (ca l).size := by rw [ca_size, h]; exact info_mt
theorem zero_mt : (Tryd.prog.info? 64).map (·.zero) = some (some (.agg (ca (List.replicate 32 0)))) := by kernel_rfl
theorem index_mt (w : World) (l : List Int) (hl : l.length = 32) (i : Nat) (hi : i < 32) : (Instr.index 64 (.agg (ca l)) (.int .i64 (i : Int))).run Tryd.prog w = .ok (.int .i64 (l.getD i (-1))) w := by
  have h1 : (part 3 (ca l) i).run Tryd.prog w = .ok (.int .i64 (l.getD i (-1))) w := by simp [part, ca_at l i (by omega)]
  simp [Instr.index, run_underlying Tryd.underlying64, asIntOf, h1, hi]
def OA (w : World) (g : Nat) (l : List Int) : Prop := w.heap[g]? = some (.cells (ca l) 64 (0, 0))
theorem OA.lt {w : World} {g : Nat} {l : List Int} (h : OA w g l) : g < w.heap.size := (Array.getElem?_eq_some_iff.1 h).1
theorem OA.below {w w' : World} {g : Nat} {l : List Int} (h : OA w g l) (hB : Below w.heap.size w w') : OA w' g l := (hB.block _ h.lt).trans h
theorem OA.cell {w : World} {g : Nat} {l : List Int} (h : OA w g l) {i : Nat} (hi : i < l.length) : w.cell? ⟨g, i, none⟩ = some (.int .i64 (l.getD i (-1))) := by
  rw [cell_of_row w g i _ _ _ h]
  exact ca_at l i hi
theorem OA.free {w : World} {g : Nat} {l : List Int} (h : OA w g l) (i : Nat) : w.frozen? ⟨g, i, none⟩ = false := frozen_of_row w g _ _ _ h
theorem OA.set {w : World} {g : Nat} {l : List Int} (h : OA w g l) (i : Nat) (x : Int) : OA (w.setCell ⟨g, i, none⟩ (.int .i64 x)) g (l.set i x) := by
  have := heap_setCell_same w g i (ca l) 64 (.int .i64 x) h
  rw [ca_set] at this
  exact this
def oL (l : List Int) : Nat → Option Nat := fun s => if l.getD s (-1) = -1 then none else some (l.getD s (-1)).toNat
def OkA (l : List Int) : Prop := l.length = 32 ∧ ∀ x ∈ l, x = -1 ∨ 0 ≤ x ∧ x < 255
def cnt (l : List Int) : Nat := l.countP fun x => decide (x ≠ -1)
theorem cnt_take (l : List Int) (k : Nat) (hk : k < l.length) : cnt (l.take (k + 1)) = cnt (l.take k) + if l.getD k (-1) = -1 then 0 else 1 := by
  unfold cnt
  rw [List.take_succ_eq_append_getElem hk, List.countP_append]
  have e : l.getD k (-1) = l[k] := by simp [List.getD, List.getElem?_eq_getElem hk]
  rw [e]
  by_cases h : l[k] = -1
  · simp [h]
  · simp [h]
theorem cnt_sz {l : List Int} (h : OkA l) : cnt l = Hy.sz 32 (oL l) := by
  unfold cnt Hy.sz
  have e : l = (List.range 32).map fun s => l.getD s (-1) := by
    apply List.ext_getElem
    · simp [h.1]
    · intro i h1 h2
      simp [List.getD, List.getElem?_eq_getElem h1]
  rw [e, List.countP_map, ← e]
  refine List.countP_congr fun s _ => ?_
  unfold oL
  simp only [Function.comp]
  by_cases q : l.getD s (-1) = -1
  · rw [if_pos q, decide_eq_false (fun z => z q)]
    simp
  · rw [if_neg q, decide_eq_true q]
    simp
theorem cnt_le {l : List Int} (h : l.length = 32) : cnt l ≤ 32 := by
  unfold cnt
  exact Nat.le_trans (List.countP_le_length ..) (by omega)
set_option maxRecDepth 100000 in
set_option maxHeartbeats 2000000 in
theorem size_any (w : World) (l : List Int) (hl : l.length = 32) :
    Calls Tryd.prog 32 #[.agg (ca l)] w fun e w' => e = .returned (.int .i64 (cnt l : Int)) ∧ Below w.heap.size w w' := by
  have HIX := hid (fun W => index_mt W l hl)
  have HSZ := hid (size_mt hl)
  have HL := hid hl
  obtain ⟨cl, HCL⟩ : ∃ c, Hid (ca l = c) := ⟨_, rfl⟩
  rw [HCL.out] at HIX HSZ ⊢
  obtain ⟨W1, HW1⟩ : ∃ W1, Hid (w.alloc (.cells cl 64) = W1) := ⟨_, rfl⟩
  have HB1 : Hid (Below w.heap.size w W1) := by rw [← HW1.out]; exact (Below.refl _ w).alloc (Nat.le_refl _) _
  have HC1 : Hid (W1.heap[w.heap.size]? = some (.cells cl 64 (0, 0))) := by rw [← HW1.out]; exact heap_alloc_new w _
  clear hl
  go_enter Tryd.func32, Tryd.ntmps32
  go_wp2_with (refine wpList_load_row rfl 64 _ rfl w.heap.size rfl 64 cl (0, 0) _ (by rw [HW1.out]; exact HC1.out) Tryd.underlying64 rfl HSZ.out ?_)
  rw [HW1.out]
  go_loopw [3, 7] (fun z i wr => ∃ k : Nat, k ≤ 32 ∧ i = .int .i64 (k : Int) ∧ z = .int .i64 ((cnt (l.take k) : Nat) : Int) ∧ Hid (wr = W1)) (fun _ i _ => 32 - (intOf i).toNat)
  case atStart => exact ⟨0, by omega, rfl, rfl, rfl⟩
  case round =>
    obtain ⟨k, hk, rfl, rfl, hwr⟩ := hrel
    have hwo := hwr.out
    rw [hwo]
    clear hwo hwr
    by_cases hlt : k < 32
    · have hix := HIX.out W1 k hlt
      have HS := hid (cnt_take l k (by rw [HL.out]; exact hlt))
      have hle : cnt (l.take k) ≤ 32 := by
        unfold cnt
        exact Nat.le_trans (List.countP_le_length ..) (by rw [List.length_take]; omega)
      obtain ⟨x, HX⟩ : ∃ x, Hid (l.getD k (-1) = x) := ⟨_, rfl⟩
      rw [HX.out] at hix HS
      obtain ⟨a, HAk⟩ : ∃ a, Hid (cnt (l.take k) = a) := ⟨_, rfl⟩
      rw [HAk.out] at HS hle ⊢
      by_cases hx : x = -1
      · subst hx
        have HS2 : Hid (cnt (l.take (k + 1)) = a) := by rw [HS.out, if_pos rfl]; exact rfl
        clear HS
        go_wp2
        exact ⟨⟨k + 1, by omega, by go_num, by rw [HS2.out], trivial⟩, by simp [intOf]; omega⟩
      · have HS2 : Hid (cnt (l.take (k + 1)) = a + 1) := by rw [HS.out, if_neg hx]; exact rfl
        clear HS
        have hxb : (x == -1) = false := by simpa using hx
        go_wp2
        exact ⟨⟨k + 1, by omega, by go_num, by rw [HS2.out]; go_num, trivial⟩, by simp [intOf]; omega⟩
    · have HE : Hid (cnt (l.take k) = cnt l) := by rw [List.take_of_length_le (by rw [HL.out]; omega)]; exact rfl
      go_wp2
      go_ret
      exact ⟨by rw [← HE.out]; rfl, HB1.out⟩
set_option maxRecDepth 100000 in
set_option maxHeartbeats 2000000 in
theorem unmatched_any (w : World) :
    Calls Tryd.prog 50 #[] w fun e w' => e = .returned (.agg (ca (List.replicate 32 (-1)))) ∧ Below w.heap.size w w' := by
  obtain ⟨W1, HW1⟩ : ∃ W1, Hid (w.alloc (.cells (ca (List.replicate 32 0)) 64) = W1) := ⟨_, rfl⟩
  obtain ⟨W2, HW2⟩ : ∃ W2, Hid (W1.alloc (.cells (ca (List.replicate 32 0)) 64) = W2) := ⟨_, rfl⟩
  have HS1 : Hid (W1.heap.size = w.heap.size + 1) := by rw [← HW1.out]; refine hid ?_; simp
  have HB1 : Hid (Below w.heap.size w W1) := by rw [← HW1.out]; exact (Below.refl _ w).alloc (Nat.le_refl _) _
  have HR1 : Hid (OA W1 w.heap.size (List.replicate 32 0)) := by rw [← HW1.out]; exact heap_alloc_new w _
  have HB2 : Hid (Below (w.heap.size + 1) W1 W2) := by rw [← HW2.out, ← HS1.out]; exact (Below.refl _ W1).alloc (Nat.le_refl _) _
  have HO2 : Hid (OA W2 (w.heap.size + 1) (List.replicate 32 0)) := by rw [← HW2.out, ← HS1.out]; exact heap_alloc_new W1 _
  go_enter Tryd.func50, Tryd.ntmps50
  go_wp2
  change Code.wp _ _ _ _ ((w.alloc (.cells (ca (List.replicate 32 0)) 64)).alloc (.cells (ca (List.replicate 32 0)) 64))
  rw [HW1.out, HW2.out]
  go_loopw [3] (fun i wr => ∃ k : Nat, k ≤ 32 ∧ i = .int .i64 (k : Int) ∧ Hid (OA wr (w.heap.size + 1) (List.replicate k (-1) ++ List.replicate (32 - k) 0)) ∧ Hid (Below (w.heap.size + 1) W1 wr)) (fun i _ => 32 - (intOf i).toNat)
  case atStart => exact ⟨0, by omega, rfl, HO2, HB2⟩
  case round =>
    clear HO2 HB2 HW2
    obtain ⟨k, hk, rfl, HO, HB⟩ := hrel
    by_cases hlt : k < 32
    · have hc := HO.out.cell (i := k) (by simp; omega)
      have hf := HO.out.free k
      have HO3 := hid (HO.out.set k (-1))
      have e : (List.replicate k (-1 : Int) ++ List.replicate (32 - k) 0).set k (-1) = List.replicate (k + 1) (-1) ++ List.replicate (32 - (k + 1)) 0 := by
        rw [List.set_append_right _ _ (by simp), List.length_replicate, Nat.sub_self, show 32 - k = (32 - (k + 1)) + 1 by omega, List.replicate_succ, List.set_cons_zero, List.replicate_succ', List.append_assoc]
        rfl
      rw [e] at HO3
      clear e
      have BL3 := hid (HB.out.setCell (p := ⟨w.heap.size + 1, k, none⟩) (Nat.le_refl _) (.int .i64 (-1)))
      generalize (List.replicate k (-1 : Int) ++ List.replicate (32 - k) 0).getD k (-1) = y at hc
      go_wp2
      exact ⟨⟨k + 1, by omega, by go_num, HO3, BL3⟩, by simp [intOf]; omega⟩
    · obtain rfl : k = 32 := by omega
      have HO3 : Hid (OA wr (w.heap.size + 1) (List.replicate 32 (-1))) := by
        have := HO.out
        rw [Nat.sub_self, List.replicate_zero, List.append_nil] at this
        exact this
      have HR3 : Hid (OA wr w.heap.size (List.replicate 32 0)) := hid ((HB.out.block _ (by omega)).trans HR1.out)
      have HBW : Hid (Below w.heap.size w wr) := hid (HB1.out.trans (HB.out.mono (by omega)))
      have HZ : Hid ((Tryd.prog.info? 64).map (·.size) = some (ca (List.replicate 32 (-1))).size) := hid (size_mt (by simp))
      have H1 : Hid ((ca (List.replicate 32 (-1))).all (·.oneCell') = true) := hid (ca_one _)
      have H2 : Hid ((ca (List.replicate 32 0)).size = (ca (List.replicate 32 (-1))).size) := by rw [ca_size, ca_size]; exact hid rfl
      have H3 : Hid ((ca (List.replicate 32 (-1))).size = 32) := by rw [ca_size]; exact hid (by simp)
      unfold OA at HO3 HR3
      obtain ⟨cl, HCL⟩ : ∃ cl, Hid (ca (List.replicate 32 (-1)) = cl) := ⟨_, rfl⟩
      rw [HCL.out] at HO3 HZ H1 H2 H3
      generalize ca (List.replicate 32 0) = c0 at HR3 H2
      go_wp2_with (first
        | (refine wpList_load_row rfl 64 _ rfl (w.heap.size + 1) rfl 64 cl (0, 0) _ HO3.out Tryd.underlying64 rfl HZ.out ?_)
        | (refine wpList_store_row rfl 64 _ _ rfl w.heap.size cl rfl rfl 64 c0 HR3.out HZ.out H2.out H1.out ?_))
      refine bodyPost_ret (v := .agg cl) (results_cell1 (p := 0) (ty := 64) rfl _ _ w.heap.size 64 cl (0, 0) _ rfl ?_ Tryd.underlying64 rfl HZ.out) rfl ?_
      · exact setRow_heap wr w.heap.size c0 cl _ _ HR3.out
      · exact ⟨by rw [HCL.out], below_setRow HBW.out (Nat.le_refl _) _⟩
def orL (Q : List (Nat × Nat)) (ns : List Nat) : Nat := ns.foldl (fun a k => a ||| mk Q k) 0
theorem orL_more (Q : List (Nat × Nat)) (ns : List Nat) (k : Nat) : orL Q (ns ++ [k]) = orL Q ns ||| mk Q k := by
  unfold orL
  rw [List.foldl_append]
  rfl
theorem fold_or_bit (Q : List (Nat × Nat)) : ∀ (ns : List Nat) (a s : Nat), (ns.foldl (fun a k => a ||| mk Q k) a).testBit s = (a.testBit s || ns.any fun k => (mk Q k).testBit s)
  | [], a, s => by simp
  | k :: ns, a, s => by
    rw [List.foldl_cons, fold_or_bit Q ns, Nat.testBit_or, List.any_cons, Bool.or_assoc]
theorem fold_or_lt {Q : List (Nat × Nat)} (hQ : ∀ p ∈ Q, p.1 < 32) : ∀ (ns : List Nat) (a : Nat), a < 4294967296 → ns.foldl (fun a k => a ||| mk Q k) a < 4294967296
  | [], a, h => h
  | k :: ns, a, h => fold_or_lt hQ ns _ (or_lt32 h (mk_lt hQ k))
theorem orL_lt {Q : List (Nat × Nat)} (hQ : ∀ p ∈ Q, p.1 < 32) (ns : List Nat) : orL Q ns < 4294967296 := fold_or_lt hQ ns 0 (by decide)
theorem orL_places {Q : List (Nat × Nat)} (hQ : ∀ p ∈ Q, p.2 < 255) : ((List.range 32).countP fun s => (orL Q (ks Q)).testBit s) = Hy.places Prod.fst 32 Q := by
  unfold Hy.places
  refine List.countP_congr fun s _ => ?_
  unfold orL
  rw [fold_or_bit, Nat.zero_testBit, Bool.false_or, List.any_eq_true, List.any_eq_true]
  constructor
  · rintro ⟨k, h1, h2⟩
    rw [mk_bit] at h2
    exact ⟨(s, k), of_decide_eq_true h2, by simp⟩
  · rintro ⟨p, hp, he⟩
    have e : p.1 = s := by simpa using he
    exact ⟨p.2, (mem_ks hQ).2 ⟨p.1, hp⟩, by rw [mk_bit, ← e]; exact decide_eq_true hp⟩
set_option maxRecDepth 100000 in
set_option maxHeartbeats 2000000 in
theorem used_any (w : World) (b : Nat) (v : Value) (Q : List (Nat × Nat)) (hL : Lay w b v Q) (h1 : ∀ p ∈ Q, p.1 < 32) (h2 : ∀ p ∈ Q, p.2 < 255) :
    Calls Tryd.prog 30 #[.agg #[.map (some b), v]] w fun e w' => e = .returned (.int .i64 ((Hy.places Prod.fst 32 Q : Nat) : Int)) ∧ Below w.heap.size w w' := by
  rw [← orL_places h2]
  have HQ1 := hid h1
  obtain ⟨p, c, rfl, hc1, hc2⟩ := hL.nums.open
  unfold maxLen at hc2
  have hlen := ks_len Q
  obtain ⟨ns, HNS⟩ : ∃ ns, Hid (ks Q = ns) := ⟨_, rfl⟩
  have HKL : Hid (∀ k ∈ ns, k < 255) := fun k hk => ks_lt (by rw [HNS.out]; exact hk)
  obtain ⟨W1, HW1⟩ : ∃ W1, Hid (w.alloc (.cells #[.map (some b), .slice p (ks Q).length c] 59) = W1) := ⟨_, rfl⟩
  have HB1 : Hid (Below w.heap.size w W1) := by rw [← HW1.out]; exact (Below.refl _ w).alloc (Nat.le_refl _) _
  have HC1 : Hid (W1.heap[w.heap.size]? = some (.cells #[.map (some b), .slice p (ks Q).length c] 59 (0, 0))) := by rw [← HW1.out]; exact heap_alloc_new w _
  have HL1 : Hid (Lay W1 b (.slice p (ks Q).length c) Q) := hid (hL.below HB1.out)
  rw [HNS.out] at HL1 hlen hc1 HC1 HW1 ⊢
  have HNN : Hid (HN W1 (.slice p ns.length c) ns) := by
    have := HL1.out.nums
    rw [HNS.out] at this
    exact this
  have HMM : Hid (HT W1 b 8192 (mk Q)) := hid HL1.out.map
  obtain ⟨n, HLn⟩ : ∃ n, Hid (ns.length = n) := ⟨_, rfl⟩
  rw [HLn.out] at hlen hc1 HC1 HNN HW1 ⊢
  have hb0 : W1.cell? ⟨w.heap.size, 0, none⟩ = some (.map (some b)) := (cell_of_row _ _ _ _ _ _ HC1.out).trans rfl
  have hb1 : W1.cell? ⟨w.heap.size, 1, none⟩ = some (.slice p n c) := (cell_of_row _ _ _ _ _ _ HC1.out).trans rfl
  clear hL h1 h2 HL1
  go_enter Tryd.func30, Tryd.ntmps30
  go_wp2
  rw [HW1.out]
  go_loopw [3, 9] (fun z i wr => ∃ k : Nat, k ≤ n ∧ i = .int .i64 (k : Int) ∧ z = .int .u32 ((orL Q (ns.take k) : Nat) : Int) ∧ Hid (wr = W1)) (fun _ i _ => n - (intOf i).toNat)
  case atStart => exact ⟨0, by omega, rfl, rfl, rfl⟩
  case round =>
    obtain ⟨k, hk, rfl, rfl, hwr⟩ := hrel
    have hwo := hwr.out
    rw [hwo]
    clear hwo hwr
    by_cases hlt : k < n
    · obtain ⟨b2, off, rfl, hbl, hcl⟩ := HNN.out.ne (by rw [HLn.out]; omega)
      have hcell := hcl k (by rw [HLn.out]; exact hlt)
      have hk255 : ns.getD k 0 < 255 := HKL.out _ (by
        rw [List.getD_eq_getElem?_getD, List.getElem?_eq_getElem (by rw [HLn.out]; exact hlt)]
        exact List.getElem_mem _)
      have hlook := HMM.out.look (ns.getD k 0) (by omega)
      have HOR : Hid (orL Q (ns.take (k + 1)) = orL Q (ns.take k) ||| mk Q (ns.getD k 0)) := hid (by
        rw [List.take_succ_eq_append_getElem (by rw [HLn.out]; exact hlt), orL_more]
        congr 2
        rw [List.getD_eq_getElem?_getD, List.getElem?_eq_getElem (by rw [HLn.out]; exact hlt)]
        rfl)
      have hor := or_u32 (orL Q (ns.take k)) (mk Q (ns.getD k 0)) (orL_lt HQ1.out _) (mk_lt HQ1.out _)
      rw [← HOR.out] at hor
      generalize mk Q (ns.getD k 0) = m at hlook hor
      generalize ns.getD k 0 = y at hcell hlook hk255
      obtain ⟨a, HA⟩ : ∃ a, Hid (orL Q (ns.take k) = a) := ⟨_, rfl⟩
      rw [HA.out] at hor ⊢
      obtain ⟨r, HR⟩ : ∃ r, Hid (orL Q (ns.take (k + 1)) = r) := ⟨_, rfl⟩
      rw [HR.out] at hor
      clear HOR hcl
      go_wp2
      exact ⟨⟨k + 1, by omega, by go_num, by rw [HR.out], trivial⟩, by simp [intOf]; omega⟩
    · have HE : Hid (orL Q (ns.take k) = orL Q ns) := by rw [List.take_of_length_le (by rw [HLn.out]; omega)]; exact rfl
      have CO := hid (ones_any W1 (orL Q ns) (orL_lt HQ1.out _))
      rw [HE.out]
      clear HE
      obtain ⟨r, HR⟩ : ∃ r, Hid (((List.range 32).countP fun s => (orL Q ns).testBit s) = r) := ⟨_, rfl⟩
      rw [HR.out] at CO
      obtain ⟨x, HX⟩ : ∃ x, Hid (orL Q ns = x) := ⟨_, rfl⟩
      rw [HX.out] at CO ⊢
      go_wp2_with fail
      refine CO.out.mono ?_
      rintro e W4 ⟨rfl, hd⟩
      have HBB : Hid (Below w.heap.size w W4) := hid (HB1.out.trans (hd.below _))
      clear hd CO
      go_wp2
      go_ret
      exact ⟨by rw [HR.out]; rfl, HBB.out⟩
end Go.Proofs.YtlhjpflljokinaaDoor.Hz
namespace Go.Proofs.YtlhjpflljokinaaDoor
open Go Go.RowKit
structure Ex (S : Nat → Prop) (w w' : World) : Prop where
  os : w'.os = w.os
  tape : w'.tape = w.tape
  output : w'.output = w.output
  size : w.heap.size ≤ w'.heap.size
  block : ∀ k, k < w.heap.size → ¬ S k → w'.heap[k]? = w.heap[k]?
theorem Ex.refl (S : Nat → Prop) (w : World) : Ex S w w := ⟨rfl, rfl, rfl, Nat.le_refl _, fun _ _ _ => rfl⟩
theorem Ex.trans {S S' : Nat → Prop} {a b c : World} (h : Ex S a b) (k : Ex S' b c) (hs : ∀ k, S' k → S k ∨ a.heap.size ≤ k) : Ex S a c :=
  ⟨k.os.trans h.os, k.tape.trans h.tape, k.output.trans h.output, Nat.le_trans h.size k.size, fun i hi hn => by
    rw [k.block i (Nat.lt_of_lt_of_le hi h.size) (fun q => by rcases hs i q with q | q; exact hn q; omega), h.block i hi hn]⟩
theorem Ex.mono {S S' : Nat → Prop} {a b : World} (h : Ex S a b) (hs : ∀ k, S k → S' k) : Ex S' a b := ⟨h.os, h.tape, h.output, h.size, fun k hk hn => h.block k hk fun q => hn (hs k q)⟩
theorem Ex.of_below {S : Nat → Prop} {a b : World} (h : Below a.heap.size a b) : Ex S a b := ⟨h.os, h.tape, h.output, h.size, fun k hk _ => h.block k hk⟩
theorem Ex.below {S : Nat → Prop} {a b : World} (h : Ex S a b) {B : Nat} (hB : B ≤ a.heap.size) (hs : ∀ k, S k → B ≤ k) : Below B a b := ⟨h.os, h.tape, h.output, h.size, fun k hk => h.block k (by omega) fun q => by have := hs k q; omega⟩
theorem Ex.drewN {S : Nat → Prop} {a b : World} (h : Ex S a b) (q : Nat) : Ex S a (b.drewN q) := ⟨h.os, h.tape, h.output, h.size, h.block⟩
theorem Ex.drew {S : Nat → Prop} {a b : World} (h : Ex S a b) : Ex S a b.drew := ⟨h.os, h.tape, h.output, h.size, h.block⟩
theorem Ex.grown {S : Nat → Prop} {a b : World} {r : Option Nat} (h : a.grownBy b r) (hs : ∀ k, r = some k → S k) : Ex S a b := ⟨h.os, h.tape, h.output, h.size, fun k hk hn => h.block k hk fun q => hn (hs k q.symm)⟩
theorem Ex.setCell {S : Nat → Prop} {a b : World} (h : Ex S a b) {x o : Nat} (hx : S x) (v : Value) : Ex S a (b.setCell ⟨x, o, none⟩ v) := by
  refine ⟨h.os, h.tape, h.output, by simpa [World.setCell] using h.size, fun k hk hn => ?_⟩
  rw [← h.block k hk hn]
  have : x ≠ k := fun q => hn (q ▸ hx)
  simp [World.setCell, Array.getElem?_modify, this]
theorem Ex.alloc {S : Nat → Prop} {a b : World} (h : Ex S a b) (o : Obj) : Ex S a (b.alloc o) :=
  ⟨h.os, h.tape, h.output, by have := h.size; show a.heap.size ≤ (b.heap.push o).size; rw [Array.size_push]; omega, fun k hk hn => by
    rw [← h.block k hk hn]
    have := h.size
    show (b.heap.push o)[k]? = _
    rw [Array.getElem?_push, if_neg (by omega)]⟩
theorem free_of {w : World} {b : Nat} {cs : Array Value} {T : TypeId} (h : w.heap[b]? = some (.cells cs T (0, 0))) (i : Nat) : w.frozen? ⟨b, i, none⟩ = false := by simp [World.frozen?, h]
end Go.Proofs.YtlhjpflljokinaaDoor
namespace Go.Proofs.YtlhjpflljokinaaDoor.Hy
theorem Gr.more {adj : Nat → Nat → Bool} {all : List Nat} {o o' : Nat → Option Nat} {e e' : Nat → Bool} {s : Nat} {ns : List Nat} {b : Bool} (h : Gr adj all o e s ns b o' e') : ∀ n, e n = true → e' n = true := by
  induction h with
  | nil => exact fun _ h => h
  | skip _ _ ih => exact ih
  | free => exact fun k hk => updS_more _ hk
  | moved _ _ _ _ ih => exact fun k hk => ih k (updS_more _ hk)
  | stuck _ _ _ _ _ ih1 ih2 => exact fun k hk => ih2 k (ih1 k (updS_more _ hk))
theorem Gr.keeps {adj : Nat → Nat → Bool} {all : List Nat} {o o' : Nat → Option Nat} {e e' : Nat → Bool} {s : Nat} {ns : List Nat} {b : Bool} (h : Gr adj all o e s ns b o' e') : ∀ n, e n = true → o' n = o n := by
  induction h with
  | nil => exact fun _ _ => rfl
  | skip _ _ ih => exact ih
  | @free o e s n ns q1 q2 q3 =>
    intro k hk
    unfold updO
    rw [if_neg (fun z => by rw [z, q2] at hk; cases hk)]
  | @moved o e s n ns t o2 e2 q1 q2 q3 _ ih =>
    intro k hk
    unfold updO
    rw [if_neg (fun z => by rw [z, q2] at hk; cases hk)]
    exact ih k (updS_more _ hk)
  | @stuck o e s n ns t o2 e2 b o' e' q1 q2 q3 h1 _ ih1 ih2 => exact fun k hk => (ih2 k (h1.more k (updS_more _ hk))).trans (ih1 k (updS_more _ hk))
theorem Gr.pass {adj : Nat → Nat → Bool} {all : List Nat} {o o' : Nat → Option Nat} {e e' : Nat → Bool} {n : Nat} {r : Bool} {B : Nat} : ∀ (d t : Nat), t + d ≤ B → (∀ k, t ≤ k → k < t + d → adj n k = false ∨ e k = true) → Gr adj all o e n (List.range' (t + d) (B - (t + d))) r o' e' → Gr adj all o e n (List.range' t (B - t)) r o' e'
  | 0, t, _, _, h => h
  | d + 1, t, hB, hk, h => by
    rw [show B - t = (B - (t + 1)) + 1 by omega, List.range'_succ]
    refine .skip (hk t (Nat.le_refl _) (by omega)) ?_
    refine Gr.pass d (t + 1) (by omega) (fun k h1 h2 => hk k (by omega) (by omega)) ?_
    rw [show t + 1 + d = t + (d + 1) by omega]
    exact h
end Go.Proofs.YtlhjpflljokinaaDoor.Hy
namespace Go.Proofs.YtlhjpflljokinaaDoor.Hz
open Go Go.RowKit Go.Proofs.YtlhjpflljokinaaDoor Go.Maps
def bt (e : Nat) : Nat → Bool := fun s => e.testBit s
def adjN (Q : List (Nat × Nat)) : Nat → Nat → Bool := fun n s => decide ((s, n) ∈ Q)
def uns (e : Nat) : Nat := (List.range 32).countP fun s => !e.testBit s
theorem uns_le {e e' : Nat} (h : ∀ s, e.testBit s = true → e'.testBit s = true) : uns e' ≤ uns e := List.countP_mono_left fun s _ hs => by
  cases z : e.testBit s
  · rfl
  · rw [h s z] at hs; cases hs
theorem count_drop {α : Type} {p q : α → Bool} : ∀ {l : List α}, (∀ a ∈ l, q a = true → p a = true) → (∃ a ∈ l, p a = true ∧ q a = false) → l.countP q < l.countP p
  | [], _, h => by obtain ⟨a, h, _⟩ := h; cases h
  | a :: l, hm, h => by
    have h0 : l.countP q ≤ l.countP p := List.countP_mono_left fun b hb => hm b (List.mem_cons_of_mem _ hb)
    rw [List.countP_cons, List.countP_cons]
    obtain ⟨b, hb, h1, h2⟩ := h
    rcases List.mem_cons.1 hb with rfl | hb
    · rw [h1, h2]
      simp
      omega
    · have ih := count_drop (l := l) (fun c hc => hm c (List.mem_cons_of_mem _ hc)) ⟨b, hb, h1, h2⟩
      have h3 := hm a (List.mem_cons_self ..)
      cases hq : q a <;> cases hp : p a <;> simp
      · exact ih
      · omega
      · rw [h3 hq] at hp; cases hp
      · exact ih
theorem uns_lt {e s : Nat} (hs : s < 32) (h : e.testBit s = false) : uns (e ||| 2 ^ s) < uns e := by
  refine count_drop (fun k _ hk => ?_) ⟨s, List.mem_range.2 hs, by rw [h]; rfl, ?_⟩
  · rw [or_pow_bit] at hk
    cases z : e.testBit k
    · rfl
    · rw [z] at hk; cases hk
  · rw [or_pow_bit]
    simp
theorem bt_or (e s : Nat) : bt (e ||| 2 ^ s) = Hy.updS (bt e) s := by
  funext k
  unfold bt Hy.updS
  rw [or_pow_bit]
  by_cases h : k = s
  · rw [if_pos h]
    simp [h]
  · rw [if_neg h, decide_eq_false (fun z => h z.symm), Bool.or_false]
theorem oL_set {l : List Int} {s n : Nat} (hs : s < l.length) : oL (l.set s (n : Int)) = Hy.updO (oL l) s n := by
  funext k
  unfold oL Hy.updO
  by_cases h : k = s
  · subst h
    rw [if_pos rfl]
    have e : (l.set k (n : Int)).getD k (-1) = n := by simp [List.getD, hs]
    rw [e, if_neg (by omega)]
    simp
  · rw [if_neg h]
    have e : (l.set s (n : Int)).getD k (-1) = l.getD k (-1) := by simp [List.getD, List.getElem?_set_ne (fun z => h z.symm)]
    rw [e]
theorem OkA.set {l : List Int} (h : OkA l) {s n : Nat} (hn : n < 255) : OkA (l.set s (n : Int)) := by
  refine ⟨by rw [List.length_set]; exact h.1, fun x hx => ?_⟩
  rcases List.mem_or_eq_of_mem_set hx with q | q
  · exact h.2 x q
  · right; omega
theorem OkA.at {l : List Int} (h : OkA l) (s : Nat) : l.getD s (-1) = -1 ∨ 0 ≤ l.getD s (-1) ∧ l.getD s (-1) < 255 := by
  by_cases hs : s < l.length
  · have e : l.getD s (-1) = l[s] := by simp [List.getD, List.getElem?_eq_getElem hs]
    rw [e]
    exact h.2 _ (List.getElem_mem hs)
  · left
    simp [List.getD, List.getElem?_eq_none (by omega : l.length ≤ s)]
theorem oL_eq {l l' : List Int} (h : OkA l) (h' : OkA l') {s : Nat} (e : oL l s = oL l' s) : l.getD s (-1) = l'.getD s (-1) := by
  have a := h.at s
  have b := h'.at s
  unfold oL at e
  by_cases q : l.getD s (-1) = -1
  · by_cases q' : l'.getD s (-1) = -1
    · rw [q, q']
    · rw [if_pos q, if_neg q'] at e; cases e
  · by_cases q' : l'.getD s (-1) = -1
    · rw [if_neg q, if_pos q'] at e; cases e
    · rw [if_neg q, if_neg q'] at e
      injection e with e
      omega
abbrev fnV (gl gs gm gf : Nat) : Value := .func (.func 57) #[] #[.pointer (some ⟨gl, 0, none⟩), .pointer (some ⟨gs, 0, none⟩), .pointer (some ⟨gm, 0, none⟩), .pointer (some ⟨gf, 0, none⟩)]
structure PW (w : World) (gl gs gm gf b : Nat) (v : Value) (Q : List (Nat × Nat)) (e : Nat) (l : List Int) : Prop where
  lay : w.heap[gl]? = some (.cells #[.map (some b), v] 59 (0, 0))
  seen : w.heap[gs]? = some (.cells #[.int .u32 (e : Int)] 84 (0, 0))
  mt : OA w gm l
  fn : w.heap[gf]? = some (.cells #[fnV gl gs gm gf] 97 (0, 0))
  map : HT w b 8192 (mk Q)
  tab : TabAt 0 Lib.deBruijn32tab w
  ok : OkA l
  el : e < 4294967296
def US (gs gm : Nat) : Nat → Prop := fun k => k = gs ∨ k = gm
theorem PW.ne {w : World} {gl gs gm gf b : Nat} {v : Value} {Q : List (Nat × Nat)} {e : Nat} {l : List Int} (h : PW w gl gs gm gf b v Q e l) : (gs ≠ gm ∧ gl ≠ gs ∧ gl ≠ gm) ∧ (gf ≠ gs ∧ gf ≠ gm) ∧ (b ≠ gs ∧ b ≠ gm) ∧ (0 ≠ gs ∧ 0 ≠ gm) := by
  have t0 := h.tab 0 (by decide)
  have hs := h.seen
  have hm := h.mt
  unfold OA at hm
  refine ⟨⟨fun z => ?_, fun z => ?_, fun z => ?_⟩, ⟨fun z => ?_, fun z => ?_⟩, ⟨fun z => ?_, fun z => ?_⟩, fun z => ?_, fun z => ?_⟩
  · rw [z, hm] at hs; simp at hs
  · have q := h.lay; rw [z, hs] at q; simp at q
  · have q := h.lay; rw [z, hm] at q; simp at q
  · have q := h.fn; rw [z, hs] at q; simp at q
  · have q := h.fn; rw [z, hm] at q; simp at q
  · obtain ⟨D, ⟨es, c, q, _⟩, _⟩ := h.map; rw [z, hs] at q; simp at q
  · obtain ⟨D, ⟨es, c, q, _⟩, _⟩ := h.map; rw [z, hm] at q; simp at q
  · rw [← z] at hs
    rw [cell_of_row _ _ _ _ _ _ hs] at t0
    simp at t0
  · rw [← z] at hm
    rw [cell_of_row _ _ _ _ _ _ hm, ca_at l 0 (by rw [h.ok.1]; omega)] at t0
    simp at t0
theorem TabAt.of {w w' : World} (h : TabAt 0 Lib.deBruijn32tab w) (hb : w'.heap[0]? = w.heap[0]?) : TabAt 0 Lib.deBruijn32tab w' := fun j hj => (World.cell?_of_block (a := ⟨0, j, none⟩) hb).trans (h j hj)
theorem PW.of {w w' : World} {gl gs gm gf b : Nat} {v : Value} {Q : List (Nat × Nat)} {e e' : Nat} {l l' : List Int} (h : PW w gl gs gm gf b v Q e l) (hx : Ex (US gs gm) w w') (hs : w'.heap[gs]? = some (.cells #[.int .u32 (e' : Int)] 84 (0, 0))) (hm : OA w' gm l') (ok : OkA l') (el : e' < 4294967296) : PW w' gl gs gm gf b v Q e' l' := by
  obtain ⟨⟨n1, n2, n3⟩, ⟨n4, n5⟩, ⟨n6, n7⟩, n8, n9⟩ := h.ne
  have lt := fun {k : Nat} {o : Obj} (q : w.heap[k]? = some o) => (Array.getElem?_eq_some_iff.1 q).1
  have l0 : 0 < w.heap.size := World.block_lt_of_cell? w _ (h.tab 0 (by decide))
  exact ⟨(hx.block _ (lt h.lay) (fun q => q.elim n2 n3)).trans h.lay, hs, hm, (hx.block _ (lt h.fn) (fun q => q.elim n4 n5)).trans h.fn, h.map.of (hx.block _ h.map.lt (fun q => q.elim n6 n7)), TabAt.of h.tab (hx.block _ l0 (fun q => q.elim n8 n9)), ok, el⟩
theorem row1_set {W : World} {g : Nat} {x x' : Value} {t : TypeId} (h : W.heap[g]? = some (.cells #[x] t (0, 0))) : (W.setCell ⟨g, 0, none⟩ x').heap[g]? = some (.cells #[x'] t (0, 0)) := heap_setCell_same W g 0 #[x] t x' h
theorem PW.drew {w : World} {gl gs gm gf b : Nat} {v : Value} {Q : List (Nat × Nat)} {e : Nat} {l : List Int} (h : PW w gl gs gm gf b v Q e l) : PW w.drew gl gs gm gf b v Q e l := ⟨h.lay, h.seen, h.mt, h.fn, h.map.of rfl, TabAt.of h.tab rfl, h.ok, h.el⟩
theorem PW.setSeen {w : World} {gl gs gm gf b : Nat} {v : Value} {Q : List (Nat × Nat)} {e : Nat} {l : List Int} (h : PW w gl gs gm gf b v Q e l) (e' : Nat) (he : e' < 4294967296) : PW (w.setCell ⟨gs, 0, none⟩ (.int .u32 (e' : Int))) gl gs gm gf b v Q e' l :=
  h.of ((Ex.refl _ w).setCell (.inl rfl) _) (row1_set h.seen) ((heap_setCell_other _ _ _ _ (fun z => h.ne.1.1 z.symm)).trans h.mt) h.ok he
theorem PW.setM {w : World} {gl gs gm gf b : Nat} {v : Value} {Q : List (Nat × Nat)} {e : Nat} {l : List Int} (h : PW w gl gs gm gf b v Q e l) (s n : Nat) (hn : n < 255) : PW (w.setCell ⟨gm, s, none⟩ (.int .i64 (n : Int))) gl gs gm gf b v Q e (l.set s (n : Int)) :=
  h.of ((Ex.refl _ w).setCell (.inr rfl) _) ((heap_setCell_other _ _ _ _ h.ne.1.1).trans h.seen) (h.mt.set s _) (h.ok.set hn) h.el
theorem tz_any (w : World) (x : Nat) (hx : x < 4294967296) (hT : TabAt 0 Lib.deBruijn32tab w) : Calls Tryd.prog 53 #[.int .u32 (x : Int)] w fun e w' => e = .returned (.int .i64 ((Lib.ctz 32 x : Nat) : Int)) ∧ w' = w :=
  Any7.bits_TrailingZeros32 Tryd.laysTz x hx w fun _ => hT
def seenOf (w : World) (gs : Nat) : Nat := match w.cell? ⟨gs, 0, none⟩ with | some (.int _ e) => e.toNat | _ => 0
theorem PW.seenOf {w : World} {gl gs gm gf b : Nat} {v : Value} {Q : List (Nat × Nat)} {e : Nat} {l : List Int} (h : PW w gl gs gm gf b v Q e l) : seenOf w gs = e := by
  unfold Hz.seenOf
  rw [cell_of_row _ _ _ _ _ _ h.seen]
  simp
def PlQ (gl gs gm gf b : Nat) (v : Value) (Q : List (Nat × Nat)) (e : Nat) (l : List Int) (n : Nat) (w : World) (x : Ending) (w' : World) : Prop :=
  ∃ (r : Bool) (e' : Nat) (l' : List Int), x = .returned (.bool r) ∧ Hy.Gr (adjN Q) (List.range 32) (oL l) (bt e) n (List.range 32) r (oL l') (bt e') ∧ PW w' gl gs gm gf b v Q e' l' ∧ Ex (US gs gm) w w'
theorem adj_bit (Q : List (Nat × Nat)) (n s : Nat) : (mk Q n).testBit s = adjN Q n s := mk_bit Q n s
set_option maxRecDepth 100000 in
set_option maxHeartbeats 8000000 in
theorem place_any (gl gs gm gf b : Nat) (v : Value) (Q : List (Nat × Nat)) (hQ : ∀ p ∈ Q, p.1 < 32) : ∀ (f : Nat) (w : World) (e : Nat) (l : List Int) (n : Nat), uns e ≤ f → PW w gl gs gm gf b v Q e l → n < 255 →
    Calls Tryd.prog 57 #[.int .i64 (n : Int), .pointer (some ⟨gl, 0, none⟩), .pointer (some ⟨gs, 0, none⟩), .pointer (some ⟨gm, 0, none⟩), .pointer (some ⟨gf, 0, none⟩)] w (PlQ gl gs gm gf b v Q e l n w) := by
  intro f
  induction f using Nat.strongRecOn with
  | ind f ih =>
    intro w e l n hu hW hn
    have IH := hid ih
    clear ih
    have HW := hid hW
    have HQ := hid hQ
    have hlay0 : w.cell? ⟨gl, 0, none⟩ = some (.map (some b)) := (cell_of_row _ _ _ _ _ _ hW.lay).trans rfl
    have hlook := hW.map.look n (by omega)
    obtain ⟨m, HM⟩ : ∃ m, Hid (mk Q n = m) := ⟨_, rfl⟩
    rw [HM.out] at hlook
    have hm : m < 4294967296 := by rw [← HM.out]; exact mk_lt hQ n
    have eg : ∀ args w, (callFunc 57 args).run Tryd.prog w = .ok (.enter 57 args) w := enters_of Tryd.func57 (by kernel_rfl) rfl
    have EG := hid eg
    clear eg hQ hW
    go_enter Tryd.func57, Tryd.ntmps57
    go_wp2
    go_loopw [8] (fun _ wr => ∃ (ek : Nat) (lk : List Int) (t : Nat), t ≤ 32 ∧ Hid (PW wr gl gs gm gf b v Q ek lk) ∧ Hid (uns ek ≤ f) ∧ Hid (∀ k, k < t → adjN Q n k = false ∨ bt ek k = true) ∧ Hid (∀ r o' e', Hy.Gr (adjN Q) (List.range 32) (oL lk) (bt ek) n (List.range' t (32 - t)) r o' e' → Hy.Gr (adjN Q) (List.range 32) (oL l) (bt e) n (List.range 32) r o' e') ∧ Hid (Ex (US gs gm) w wr)) (fun _ wr => uns (seenOf wr gs))
    case atStart => exact ⟨e, l, 0, by omega, HW, hu, hid (fun k hk => absurd hk (Nat.not_lt_zero _)), hid (fun r o' e' h => by rw [List.range_eq_range'] ; rw [List.range_eq_range'] at h; exact h), hid (Ex.refl _ _)⟩
    case round =>
      clear hlook hlay0 hu
      obtain ⟨ek, lk, t, ht, HWk, HU, HSk, HC, HX⟩ := hrel
      have hsc : wr.cell? ⟨gs, 0, none⟩ = some (.int .u32 (ek : Int)) := (cell_of_row _ _ _ _ _ _ HWk.out.seen).trans rfl
      have hsf : wr.frozen? ⟨gs, 0, none⟩ = false := frozen_of_row _ _ _ _ _ HWk.out.seen
      have hand := andn_u32 m ek
      obtain ⟨x, HXX⟩ : ∃ x, Hid (andn m ek = x) := ⟨_, rfl⟩
      rw [HXX.out] at hand
      have hxl : x < 4294967296 := by rw [← HXX.out]; exact andn_lt m ek
      have HBX : Hid (∀ i, x.testBit i = (adjN Q n i && !bt ek i)) := hid (fun i => by rw [← HXX.out, andn_bit m ek i hm, ← HM.out, adj_bit]; rfl)
      by_cases hx0 : x = 0
      · have HE : Hid (∀ k, t ≤ k → k < 32 → adjN Q n k = false ∨ bt ek k = true) := hid (fun k _ _ => by
          have := HBX.out k
          rw [hx0, Nat.zero_testBit] at this
          cases z : adjN Q n k
          · exact .inl rfl
          · cases z2 : bt ek k
            · rw [z, z2] at this; cases this
            · exact .inr rfl)
        subst hx0
        go_wp2
        go_ret
        refine ⟨false, ek, lk, rfl, ?_, HWk.out, HX.out⟩
        refine HC.out _ _ _ ?_
        refine Hy.Gr.pass (32 - t) t (by omega) (fun k h1 h2 => HE.out k h1 (by omega)) ?_
        rw [show t + (32 - t) = 32 by omega]
        exact .nil
      · obtain ⟨hs1, hs2, hs3⟩ := ctz_low hx0 hxl
        have CT := hid (tz_any wr x hxl HWk.out.tab)
        obtain ⟨s, HS0⟩ : ∃ s, Hid (Lib.ctz 32 x = s) := ⟨_, rfl⟩
        rw [HS0.out] at hs1 hs2 hs3 CT
        have HS2 := hid hs2
        have HS3 := hid hs3
        have hxb : (((x : Nat) : Int) == 0) = false := by simpa using hx0
        clear hs2 hs3
        have HAD : Hid (adjN Q n s = true ∧ bt ek s = false) := hid (by
          have := HBX.out s
          rw [HS2.out] at this
          cases z : adjN Q n s <;> cases z2 : bt ek s <;> rw [z, z2] at this <;> simp at this ⊢)
        have HPS : Hid (∀ r o' e', Hy.Gr (adjN Q) (List.range 32) (oL lk) (bt ek) n (s :: List.range' (s + 1) (32 - (s + 1))) r o' e' → Hy.Gr (adjN Q) (List.range 32) (oL l) (bt e) n (List.range 32) r o' e') := hid (fun r o' e' h => by
          refine HC.out r o' e' ?_
          by_cases hts : t ≤ s
          · refine Hy.Gr.pass (s - t) t (by omega) (fun k h1 h2 => ?_) ?_
            · have := HBX.out k
              rw [HS3.out k (by omega)] at this
              cases z : adjN Q n k
              · exact .inl rfl
              · cases z2 : bt ek k
                · rw [z, z2] at this; cases this
                · exact .inr rfl
            · rw [show t + (s - t) = s by omega, show 32 - s = (32 - (s + 1)) + 1 by omega, List.range'_succ]
              exact h
          · rcases HSk.out s (by omega) with q | q
            · rw [HAD.out.1] at q; cases q
            · rw [HAD.out.2] at q; cases q)
        have HUL : Hid (uns (ek ||| 2 ^ s) < uns ek) := hid (uns_lt hs1 HAD.out.2)
        have hor := shl_u32 ek s HWk.out.el hs1
        have hel : ek ||| 2 ^ s < 4294967296 := or_lt32 HWk.out.el (pow_lt32 hs1)
        have HW2 := hid ((HWk.out.setSeen _ hel).drew)
        have HX2 : Hid (Ex (US gs gm) w (wr.setCell ⟨gs, 0, none⟩ (.int .u32 ((ek ||| 2 ^ s : Nat) : Int))).drew) := hid ((HX.out.setCell (.inl rfl) _).drew)
        have HB2 := hid (bt_or ek s)
        obtain ⟨e1, HE1⟩ : ∃ e1, Hid (ek ||| 2 ^ s = e1) := ⟨_, rfl⟩
        rw [HE1.out] at hor hel HW2 HX2 HB2 HUL
        have HSE : Hid (seenOf wr gs = ek) := hid HWk.out.seenOf
        have HLow : Hid (∀ k, k < s → adjN Q n k = false ∨ bt ek k = true) := hid (fun k hk => by
          have := HBX.out k
          rw [HS3.out k hk] at this
          cases z : adjN Q n k
          · exact .inl rfl
          · cases z2 : bt ek k
            · rw [z, z2] at this; cases this
            · exact .inr rfl)
        clear HXX HBX HS2 HS3
        go_wp2_with fail
        refine CT.out.mono ?_
        rintro y w3 ⟨rfl, hw3⟩
        rw [hw3]
        clear hw3 CT
        go_wp2_with fail
        go_region
        generalize hW4 : World.drew _ = W4
        rw [hW4] at HW2 HX2
        clear hW4 hsc hsf
        have hmc := HW2.out.mt.cell (i := s) (by rw [HW2.out.ok.1]; exact hs1)
        have hmf := HW2.out.mt.free s
        by_cases hfree : lk.getD s (-1) = -1
        · rw [hfree] at hmc
          have HW5 := hid (HW2.out.drew.setM s n hn)
          have HX5 : Hid (Ex (US gs gm) w (W4.drew.setCell ⟨gm, s, none⟩ (.int .i64 (n : Int)))) := hid (HX2.out.drew.setCell (.inr rfl) _)
          go_wp2_with fail
          go_region
          go_wp2
          go_ret
          refine ⟨true, e1, lk.set s (n : Int), rfl, HPS.out _ _ _ ?_, HW5.out, HX5.out⟩
          rw [oL_set (by rw [HW2.out.ok.1]; exact hs1), HB2.out]
          exact .free HAD.out.1 HAD.out.2 (by unfold oL; rw [if_pos hfree])
        · obtain ⟨u, HUU⟩ : ∃ u : Nat, Hid (lk.getD s (-1) = (u : Int)) := ⟨(lk.getD s (-1)).toNat, hid (by rcases HW2.out.ok.at s with q | q; exact absurd q hfree; omega)⟩
          have hu255 : u < 255 := by
            rcases HW2.out.ok.at s with q | q
            · exact absurd q hfree
            · rw [HUU.out] at q; omega
          have HOU : Hid (oL lk s = some u) := hid (by unfold oL; rw [if_neg hfree, HUU.out]; simp)
          rw [HUU.out] at hmc
          have hub : (((u : Nat) : Int) == -1) = false := by
            have : ¬ ((u : Int) = -1) := by omega
            exact beq_eq_false_iff_ne.2 this
          have hfc : W4.cell? ⟨gf, 0, none⟩ = some (fnV gl gs gm gf) := (cell_of_row _ _ _ _ _ _ HW2.out.fn).trans rfl
          have CI := hid (IH.out (uns e1) (by have := HUL.out; have := HU.out; omega) W4.drew e1 lk u (Nat.le_refl _) HW2.out.drew hu255)
          have HSS : Hid (W4.drew.cell? ⟨gm, s, none⟩ = some (.int .i64 (u : Int)) ∧ W4.drew.cell? ⟨gf, 0, none⟩ = some (fnV gl gs gm gf)) := hid ⟨hmc, hfc⟩
          clear hmc hmf hfc hfree
          have hs1i : (s : Int) < 32 := by omega
          go_wp2_with fail
          refine wp_region_held_drew (S := fun W => W.cell? ⟨gm, s, none⟩ = some (.int .i64 (u : Int)) ∧ W.cell? ⟨gf, 0, none⟩ = some (fnV gl gs gm gf)) (by kernel_rfl) HSS.out (fun hHeld => ?_)
          have HS := hid hHeld
          clear hHeld
          change wpAnyH _ _ _ _ _ _ _ _ (World.drew _)
          refine wpAnyH_take (i := 0) (v := ?_) rfl (by kernel_rfl) (by kernel_rfl) (by kernel_rfl) (fun _ _ _ h => h) (Or.inl ⟨by rfl, ?q0⟩) HS.out ?_
          case q0 => intro w hSw; obtain ⟨z1, z2⟩ := hSw; go_simp; rfl
          simp only [Act.put, List.getElem_toArray, List.getElem_cons_zero, List.getElem_cons_succ, List.setIfInBounds_toArray, List.set_cons_zero, List.set_cons_succ]
          refine wpAnyH_take (i := 1) (v := ?_) rfl (by kernel_rfl) (by kernel_rfl) (by kernel_rfl) (fun _ _ _ h => h) (Or.inl ⟨by rfl, ?q1⟩) HS.out ?_
          case q1 => intro w hSw; obtain ⟨z1, z2⟩ := hSw; go_simp; rfl
          simp only [Act.put, List.getElem_toArray, List.getElem_cons_zero, List.getElem_cons_succ, List.setIfInBounds_toArray, List.set_cons_zero, List.set_cons_succ]
          refine wpAnyH_take (i := 2) (v := ?_) rfl (by kernel_rfl) (by kernel_rfl) (by kernel_rfl) (fun _ _ _ h => h) (Or.inl ⟨by rfl, ?q2⟩) HS.out ?_
          case q2 => intro w hSw; obtain ⟨z1, z2⟩ := hSw; go_simp; rfl
          simp only [Act.put, List.getElem_toArray, List.getElem_cons_zero, List.getElem_cons_succ, List.setIfInBounds_toArray, List.set_cons_zero, List.set_cons_succ]
          refine wpAnyH_take (i := 3) (v := ?_) rfl (by kernel_rfl) (by kernel_rfl) (by kernel_rfl) (fun _ _ _ h => h) (Or.inl ⟨by rfl, ?q3⟩) HS.out ?_
          case q3 => intro w hSw; obtain ⟨z1, z2⟩ := hSw; go_simp; rfl
          simp only [Act.put, List.getElem_toArray, List.getElem_cons_zero, List.getElem_cons_succ, List.setIfInBounds_toArray, List.set_cons_zero, List.set_cons_succ]
          refine wpAnyH_take (i := 4) (v := ?_) rfl (by kernel_rfl) (by kernel_rfl) (by kernel_rfl) (fun _ _ _ h => h) (Or.inl ⟨by rfl, ?q4⟩) HS.out ?_
          case q4 => intro w hSw; obtain ⟨z1, z2⟩ := hSw; go_simp; rfl
          simp only [Act.put, List.getElem_toArray, List.getElem_cons_zero, List.getElem_cons_succ, List.setIfInBounds_toArray, List.set_cons_zero, List.set_cons_succ]
          refine wpAnyH_take (i := 5) (v := ?_) rfl (by kernel_rfl) (by kernel_rfl) (by kernel_rfl) (fun _ _ _ h => h) (Or.inl ⟨by rfl, ?q5⟩) HS.out ?_
          case q5 => intro w hSw; obtain ⟨z1, z2⟩ := hSw; go_simp; rfl
          simp only [Act.put, List.getElem_toArray, List.getElem_cons_zero, List.getElem_cons_succ, List.setIfInBounds_toArray, List.set_cons_zero, List.set_cons_succ]
          refine wpAnyH_take (i := 6) (v := ?_) rfl (by kernel_rfl) (by kernel_rfl) (by kernel_rfl) (fun _ _ _ h => h) (Or.inl ⟨by rfl, ?q6⟩) HS.out ?_
          case q6 => intro w hSw; obtain ⟨z1, z2⟩ := hSw; go_simp; rfl
          simp only [Act.put, List.getElem_toArray, List.getElem_cons_zero, List.getElem_cons_succ, List.setIfInBounds_toArray, List.set_cons_zero, List.set_cons_succ]
          refine wpAnyH_take (i := 7) (v := ?_) rfl (by kernel_rfl) (by kernel_rfl) (by kernel_rfl) (fun _ _ _ h => h) (Or.inl ⟨by rfl, ?q7⟩) HS.out ?_
          case q7 => intro w hSw; obtain ⟨z1, z2⟩ := hSw; go_simp; rfl
          simp only [Act.put, List.getElem_toArray, List.getElem_cons_zero, List.getElem_cons_succ, List.setIfInBounds_toArray, List.set_cons_zero, List.set_cons_succ]
          refine wpAnyH_take (i := 8) (v := ?_) rfl (by kernel_rfl) (by kernel_rfl) (by kernel_rfl) (fun _ _ _ h => h) (Or.inl ⟨by rfl, ?q8⟩) HS.out ?_
          case q8 => intro w hSw; obtain ⟨z1, z2⟩ := hSw; go_simp; rfl
          simp only [Act.put, List.getElem_toArray, List.getElem_cons_zero, List.getElem_cons_succ, List.setIfInBounds_toArray, List.set_cons_zero, List.set_cons_succ]
          refine wpAnyH_ready (rs := [9]) (by kernel_rfl) (by simp) ?_
          refine AllReadyH.cons rfl (fun K hK => ?_) AllReadyH.nil
          replace hK := hid hK
          go_simp
          refine CI.out.mono ?_
          rintro y W5 ⟨r2, e2, l2, rfl, hG, hW5, hX5⟩
          have HG := hid hG
          have HW5 := hid hW5
          have HX5 : Hid (Ex (US gs gm) w W5) := hid (HX2.out.drew.trans hX5 (fun _ q => .inl q))
          have HL5 : Hid (l2.getD s (-1) = (u : Int)) := hid (by
            rw [← HUU.out]
            exact oL_eq HW5.out.ok HW2.out.ok (HG.out.keeps s (by rw [HB2.out]; unfold Hy.updS; rw [if_pos rfl])))
          clear hG hW5 hX5 HS
          have HS := hid (show W5.cell? ⟨gm, s, none⟩ = some (.int .i64 (u : Int)) ∧ W5.cell? ⟨gf, 0, none⟩ = some (fnV gl gs gm gf) from ⟨by rw [← HL5.out]; exact HW5.out.mt.cell (by rw [HW5.out.ok.1]; exact hs1), (cell_of_row _ _ _ _ _ _ HW5.out.fn).trans rfl⟩)
          refine hK.out _ _ HS.out (fun _ => ?_)
          clear hK K
          refine wpAnyH_take (i := 10) (v := ?_) rfl (by kernel_rfl) (by kernel_rfl) (by kernel_rfl) (fun _ _ _ h => h) (Or.inl ⟨by rfl, ?q10⟩) HS.out ?_
          case q10 => intro w hSw; obtain ⟨z1, z2⟩ := hSw; go_simp; rfl
          simp only [Act.put, List.getElem_toArray, List.getElem_cons_zero, List.getElem_cons_succ, List.setIfInBounds_toArray, List.set_cons_zero, List.set_cons_succ]
          refine wpAnyH_done (by kernel_rfl) ?_ _
          clear HS
          cases r2 with
          | true =>
            have hmc := HW5.out.mt.cell (i := s) (by rw [HW5.out.ok.1]; exact hs1)
            have hmf := HW5.out.mt.free s
            have HW6 := hid (HW5.out.setM s n hn)
            have HX6 : Hid (Ex (US gs gm) w (W5.setCell ⟨gm, s, none⟩ (.int .i64 (n : Int)))) := hid (HX5.out.setCell (.inr rfl) _)
            go_wp2
            go_ret
            refine ⟨true, e2, l2.set s (n : Int), rfl, HPS.out _ _ _ ?_, HW6.out, HX6.out⟩
            rw [oL_set (by rw [HW5.out.ok.1]; exact hs1)]
            refine .moved HAD.out.1 HAD.out.2 HOU.out ?_
            have := HG.out
            rw [HB2.out] at this
            exact this
          | false =>
            have HUE : Hid (uns e2 ≤ uns e1) := hid (uns_le fun k hk => HG.out.more k hk)
            have HSE5 : Hid (seenOf W5 gs = e2) := hid HW5.out.seenOf
            go_wp2
            refine ⟨⟨e2, l2, s + 1, by omega, HW5, hid (by have := HUE.out; have := HUL.out; have := HU.out; omega), hid (fun k hk => ?_), hid (fun r o' e' h => ?_), HX5⟩, ?_⟩
            · by_cases q : k = s
              · right
                refine HG.out.more k ?_
                rw [HB2.out, q]
                unfold Hy.updS
                rw [if_pos rfl]
              · rcases HLow.out k (by omega) with z | z
                · exact .inl z
                · right
                  refine HG.out.more k ?_
                  rw [HB2.out]
                  exact Hy.updS_more _ z
            · refine HPS.out r o' e' ?_
              refine .stuck HAD.out.1 HAD.out.2 HOU.out ?_ h
              have := HG.out
              rw [HB2.out] at this
              exact this
            · rw [HSE5.out, HSE.out]
              have := HUE.out
              have := HUL.out
              omega
theorem contains_any (w : World) (g : Nat) (l : List Int) (n : Nat) (x : Int) (hO : OA w g l) (hl : l.length = 32) (hn : n ≤ 32) :
    Calls Tryd.prog 58 #[.slice (some ⟨g, 0, none⟩) n 32, .int .i64 x] w fun e w' => e = .returned (.bool ((l.take n).any fun y => x == y)) ∧ w' = w :=
  Tryd.slices_Contains (Value.int .i64) (fun x y => x == y) (EqlAt.int _ _ _) g 0 n 32 l x w (by omega) (by omega) fun j hj => by
    rw [Nat.zero_add, hO.cell hj]
    simp [List.getD, List.getElem?_eq_getElem hj, getElem!_pos l j hj]
theorem chain5 (w : World) (a1 a2 a3 a4 a5 : Obj) : (((((w.alloc a1).alloc a2).alloc a3).alloc a4).alloc a5).heap[w.heap.size]? = some a1 ∧ (((((w.alloc a1).alloc a2).alloc a3).alloc a4).alloc a5).heap[w.heap.size + 1]? = some a2 ∧ (((((w.alloc a1).alloc a2).alloc a3).alloc a4).alloc a5).heap[w.heap.size + 1 + 1]? = some a3 ∧ (((((w.alloc a1).alloc a2).alloc a3).alloc a4).alloc a5).heap[w.heap.size + 1 + 1 + 1]? = some a4 ∧ (((((w.alloc a1).alloc a2).alloc a3).alloc a4).alloc a5).heap[w.heap.size + 1 + 1 + 1 + 1]? = some a5 := by
  have at1 : ∀ (W : World) (a : Obj) (k : Nat), (W.alloc a).heap[k]? = if k = W.heap.size then some a else W.heap[k]? := fun W a k => by
    show (W.heap.push a)[k]? = _
    rw [Array.getElem?_push]
  have s1 : ∀ (W : World) (a : Obj), (W.alloc a).heap.size = W.heap.size + 1 := fun W a => by simp
  refine ⟨?_, ?_, ?_, ?_, ?_⟩
  · rw [at1, if_neg (by rw [s1, s1, s1, s1]; omega), at1, if_neg (by rw [s1, s1, s1]; omega), at1, if_neg (by rw [s1, s1]; omega), at1, if_neg (by rw [s1]; omega), at1, if_pos rfl]
  · rw [at1, if_neg (by rw [s1, s1, s1, s1]; omega), at1, if_neg (by rw [s1, s1, s1]; omega), at1, if_neg (by rw [s1, s1]; omega), at1, if_pos (by rw [s1])]
  · rw [at1, if_neg (by rw [s1, s1, s1, s1]; omega), at1, if_neg (by rw [s1, s1, s1]; omega), at1, if_pos (by rw [s1, s1])]
  · rw [at1, if_neg (by rw [s1, s1, s1, s1]; omega), at1, if_pos (by rw [s1, s1, s1])]
  · rw [at1, if_pos (by rw [s1, s1, s1, s1])]
theorem any_oL {l : List Int} (h : OkA l) {n : Nat} : (l.take 32).any (fun y => (n : Int) == y) = true ↔ ∃ s, oL l s = some n := by
  rw [List.take_of_length_le (by rw [h.1]; exact Nat.le_refl _), List.any_eq_true]
  constructor
  · rintro ⟨x, hx, he⟩
    obtain ⟨s, hs, rfl⟩ := List.getElem_of_mem hx
    have e : (n : Int) = l[s] := by simpa using he
    refine ⟨s, ?_⟩
    unfold oL
    have e2 : l.getD s (-1) = l[s] := by simp [List.getD, List.getElem?_eq_getElem hs]
    rw [e2, ← e, if_neg (by omega)]
    simp
  · rintro ⟨s, hs⟩
    unfold oL at hs
    by_cases q : l.getD s (-1) = -1
    · rw [if_pos q] at hs; cases hs
    · rw [if_neg q] at hs
      injection hs with hs
      by_cases hsl : s < l.length
      · have e2 : l.getD s (-1) = l[s] := by simp [List.getD, List.getElem?_eq_getElem hsl]
        refine ⟨l[s], List.getElem_mem hsl, ?_⟩
        rw [e2] at hs q
        have := h.2 _ (List.getElem_mem hsl)
        rw [beq_iff_eq]
        omega
      · exact absurd (by simp [List.getD, List.getElem?_eq_none (by omega : l.length ≤ s)]) q
def GwI (Q : List (Nat × Nat)) (fx : Nat) (l : List Int) (ns : List Nat) (i : Nat) (ei : Nat) (li : List Int) : Prop :=
  ∃ X, Hy.GI Q 32 (bt fx) X (oL li) ∧ Hy.Held (adjN Q) 32 (bt fx) (bt ei) (oL li) ∧ (∀ n ∈ ns.take i, X n = true ∨ ∃ s, bt fx s = true ∧ oL li s = some n) ∧ ∀ s, bt fx s = true → oL li s = oL l s
theorem adjN_iff (Q : List (Nat × Nat)) : ∀ s n, s < 32 → (adjN Q n s = true ↔ (s, n) ∈ Q) := fun s n _ => by unfold adjN; rw [decide_eq_true_eq]
theorem GwI.start {Q : List (Nat × Nat)} {fx : Nat} {l : List Int} (ns : List Nat) (h1 : ∀ p ∈ Q, p.1 < 32) (hM : Hy.OkM Q (oL l)) : GwI Q fx l ns 0 fx l := by
  obtain ⟨X, hX⟩ := Hy.gi_start (F := bt fx) h1 hM.inj hM.pair
  exact ⟨X, hX, Hy.held_start _ _ _ _, fun n hn => by simp at hn, fun _ _ => rfl⟩
theorem take_next {ns : List Nat} {i n : Nat} (hi : i < ns.length) (hn : ns.getD i 0 = n) : ns.take (i + 1) = ns.take i ++ [n] := by
  rw [List.take_succ_eq_append_getElem hi, ← hn]
  simp [List.getD, List.getElem?_eq_getElem hi]
theorem GwI.skip {Q : List (Nat × Nat)} {fx : Nat} {l : List Int} {ns : List Nat} {i ei n : Nat} {li : List Int} (h : GwI Q fx l ns i ei li) (hi : i < ns.length) (hn : ns.getD i 0 = n) (ha : ∃ s, oL li s = some n) : GwI Q fx l ns (i + 1) ei li := by
  obtain ⟨X, g, hh, hp, hk⟩ := h
  refine ⟨X, g, hh, fun m hm => ?_, hk⟩
  rw [take_next hi hn] at hm
  rcases List.mem_append.1 hm with q | q
  · exact hp m q
  · rw [List.mem_singleton] at q
    subst q
    obtain ⟨s, hs⟩ := ha
    cases z : bt fx s
    · exact .inl (g.inX s m z hs)
    · exact .inr ⟨s, z, hs⟩
theorem GwI.fail {Q : List (Nat × Nat)} {fx : Nat} {l : List Int} {ns : List Nat} {i ei e' n : Nat} {li l' : List Int} (h : GwI Q fx l ns i ei li) (h1 : ∀ p ∈ Q, p.1 < 32) (hi : i < ns.length) (hn : ns.getD i 0 = n) (hg : Hy.Gr (adjN Q) (List.range 32) (oL li) (bt ei) n (List.range 32) false (oL l') (bt e')) : GwI Q fx l ns (i + 1) e' l' := by
  obtain ⟨X, g, hh, hp, hk⟩ := h
  obtain ⟨q1, q2, q3⟩ := Hy.gi_fail h1 (adjN_iff Q) g hh hg
  rw [← q1] at q2 q3
  refine ⟨_, q2, q3, fun m hm => ?_, fun s hs => by rw [q1]; exact hk s hs⟩
  rw [take_next hi hn] at hm
  rcases List.mem_append.1 hm with q | q
  · rcases hp m q with z | ⟨s, z1, z2⟩
    · exact .inl (Hy.withX_old z)
    · exact .inr ⟨s, z1, by rw [q1]; exact z2⟩
  · rw [List.mem_singleton] at q
    subst q
    exact .inl (Hy.withX_new X m)
theorem GwI.won {Q : List (Nat × Nat)} {fx : Nat} {l : List Int} {ns : List Nat} {i ei e' n : Nat} {li l' : List Int} (h : GwI Q fx l ns i ei li) (h1 : ∀ p ∈ Q, p.1 < 32) (hi : i < ns.length) (hn : ns.getD i 0 = n) (ha : ¬ ∃ s, oL li s = some n) (hg : Hy.Gr (adjN Q) (List.range 32) (oL li) (bt ei) n (List.range 32) true (oL l') (bt e')) : GwI Q fx l ns (i + 1) fx l' := by
  obtain ⟨X, g, hh, hp, hk⟩ := h
  obtain ⟨q2, q3⟩ := Hy.gi_won h1 (adjN_iff Q) g hh (fun s z => ha ⟨s, z⟩) hg
  refine ⟨_, q2, Hy.held_start _ _ _ _, fun m hm => ?_, fun s hs => (q3 s hs).trans (hk s hs)⟩
  rw [take_next hi hn] at hm
  rcases List.mem_append.1 hm with q | q
  · rcases hp m q with z | ⟨s, z1, z2⟩
    · exact .inl (Hy.withX_old z)
    · exact .inr ⟨s, z1, by rw [q3 s z1]; exact z2⟩
  · rw [List.mem_singleton] at q
    subst q
    exact .inl (Hy.withX_new X m)
theorem GwI.last {Q : List (Nat × Nat)} {fx ei : Nat} {l li : List Int} (h : GwI Q fx l (ks Q) (ks Q).length ei li) (h1 : ∀ p ∈ Q, p.1 < 32) (h2 : ∀ p ∈ Q, p.2 < 255) : Hy.Gwn Q 32 (bt fx) (oL l) (oL li) := by
  obtain ⟨X, g, hh, hp, hk⟩ := h
  rw [List.take_of_length_le (Nat.le_refl _)] at hp
  refine ⟨⟨g.inj, g.pair⟩, hk, fun m hm hA => ?_⟩
  refine Hy.gi_end h1 g (fun p hq => hp p.2 ((mem_ks h2).2 ⟨p.1, hq⟩)) m hm fun s n hs => ?_
  rw [hk s hs]
  exact hA s n hs
set_option maxRecDepth 100000 in
set_option maxHeartbeats 8000000 in
theorem grown_any (w : World) (b : Nat) (v : Value) (Q : List (Nat × Nat)) (l : List Int) (fx : Nat) (hL : Lay w b v Q) (hT : TabAt 0 Lib.deBruijn32tab w) (h1 : ∀ p ∈ Q, p.1 < 32) (h2 : ∀ p ∈ Q, p.2 < 255) (hok : OkA l) (hM : Hy.OkM Q (oL l)) (hfx : fx < 4294967296) :
    Calls Tryd.prog 49 #[.agg #[.map (some b), v], .agg (ca l), .int .u32 (fx : Int)] w fun e w' => ∃ l', e = .returned (.agg (ca l')) ∧ OkA l' ∧ Hy.Gwn Q 32 (bt fx) (oL l) (oL l') ∧ Below w.heap.size w w' := by
  have HSZ := hid (size_mt hok.1)
  obtain ⟨p, c, rfl, hc1, hc2⟩ := hL.nums.open
  unfold maxLen at hc2
  have hlen := ks_len Q
  obtain ⟨ns, HNS⟩ : ∃ ns, Hid (ks Q = ns) := ⟨_, rfl⟩
  have HKL : Hid (∀ k ∈ ns, k < 255) := fun k hk => ks_lt (by rw [HNS.out]; exact hk)
  have HQ1 := hid h1
  have HQ2 := hid h2
  have HI0 := hid (GwI.start (fx := fx) ns h1 hM)
  have HTT := hid hT
  have HLL := hid hL
  have HOK := hid hok
  rw [HNS.out] at HLL hlen hc1 ⊢
  obtain ⟨nn, HLn⟩ : ∃ n, Hid (ns.length = n) := ⟨_, rfl⟩
  rw [HLn.out] at HLL hlen hc1 ⊢
  obtain ⟨cl, HCL⟩ : ∃ cl, Hid (ca l = cl) := ⟨_, rfl⟩
  rw [HCL.out] at HSZ ⊢
  clear hL hT h1 h2 hok hM
  obtain ⟨W5, HW5⟩ : ∃ W5, Hid (((((w.alloc (.cells #[.map (some b), .slice p nn c] 59)).alloc (.cells cl 64)).alloc (.cells (ca (List.replicate 32 0)) 64)).alloc (.cells #[.int .u32 (fx : Int)] 84)).alloc (.cells #[fnV w.heap.size (w.heap.size + 1 + 1 + 1) (w.heap.size + 1) (w.heap.size + 1 + 1 + 1 + 1)] 97) = W5) := ⟨_, rfl⟩
  have HB5 : Hid (Below w.heap.size w W5) := by
    rw [← HW5.out]
    exact hid (((((((Below.refl _ w).alloc (Nat.le_refl _) _).alloc (by simp) _).alloc (by simp; omega) _).alloc (by simp; omega) _).alloc (by simp; omega) _))
  have HCH := hid (chain5 w (.cells #[.map (some b), .slice p nn c] 59) (.cells cl 64) (.cells (ca (List.replicate 32 0)) 64) (.cells #[.int .u32 (fx : Int)] 84) (.cells #[fnV w.heap.size (w.heap.size + 1 + 1 + 1) (w.heap.size + 1) (w.heap.size + 1 + 1 + 1 + 1)] 97))
  rw [HW5.out] at HCH
  have HPW : Hid (PW W5 w.heap.size (w.heap.size + 1 + 1 + 1) (w.heap.size + 1) (w.heap.size + 1 + 1 + 1 + 1) b (.slice p nn c) Q fx l) := hid
    ⟨HCH.out.1, HCH.out.2.2.2.1, by unfold OA; rw [HCL.out]; exact HCH.out.2.1, HCH.out.2.2.2.2, HLL.out.map.below HB5.out, fun j hj => (HB5.out.cell (World.block_lt_of_cell? w _ (HTT.out j hj))).trans (HTT.out j hj), HOK.out, hfx⟩
  have HRS : Hid (OA W5 (w.heap.size + 1 + 1) (List.replicate 32 0)) := hid HCH.out.2.2.1
  have HNW : Hid (HN w (.slice p nn c) ns) := by
    have := HLL.out.nums
    rw [HNS.out] at this
    exact this
  clear HCH HLL HTT
  go_enter Tryd.func49, Tryd.ntmps49
  go_wp2
  change Code.wp _ _ _ _ (((((w.alloc (.cells #[.map (some b), .slice p nn c] 59)).alloc (.cells cl 64)).alloc (.cells (ca (List.replicate 32 0)) 64)).alloc (.cells #[.int .u32 (fx : Int)] 84)).alloc (.cells #[fnV w.heap.size (w.heap.size + 1 + 1 + 1) (w.heap.size + 1) (w.heap.size + 1 + 1 + 1 + 1)] 97))
  rw [HW5.out]
  obtain ⟨gm, HGM⟩ : ∃ g, Hid (w.heap.size + 1 = g) := ⟨_, rfl⟩
  obtain ⟨gr, HGR⟩ : ∃ g, Hid (w.heap.size + 1 + 1 = g) := ⟨_, rfl⟩
  obtain ⟨gs, HGS⟩ : ∃ g, Hid (w.heap.size + 1 + 1 + 1 = g) := ⟨_, rfl⟩
  obtain ⟨gf, HGF⟩ : ∃ g, Hid (w.heap.size + 1 + 1 + 1 + 1 = g) := ⟨_, rfl⟩
  rw [HGF.out, HGS.out] at HPW
  rw [HGR.out] at HRS
  rw [HGM.out] at HPW
  rw [HGF.out, HGS.out, HGR.out, HGM.out]
  obtain ⟨gl, HGL⟩ : ∃ g, Hid (w.heap.size = g) := ⟨_, rfl⟩
  rw [HGL.out] at HPW HB5 ⊢
  have HGE : Hid (gl ≤ gm ∧ gl ≤ gr ∧ gl ≤ gs ∧ gr ≠ gs ∧ gr ≠ gm) := hid (by rw [← HGL.out, ← HGM.out, ← HGR.out, ← HGS.out]; omega)
  clear HW5
  go_loopw [16] (fun x wr => ∃ (i ei : Nat) (li : List Int), i ≤ nn ∧ x = .int .i64 (i : Int) ∧ Hid (PW wr gl gs gm gf b (.slice p nn c) Q ei li) ∧ Hid (GwI Q fx l ns i ei li) ∧ Hid (OA wr gr (List.replicate 32 0)) ∧ Hid (Below gl w wr)) (fun x _ => nn - (intOf x).toNat)
  case atStart => exact ⟨0, fx, l, Nat.zero_le _, rfl, HPW, HI0, HRS, HB5⟩
  case round =>
    clear HPW HI0 HRS HB5
    obtain ⟨i, ei, li, hi, rfl, HPW, HI, HRS, HB⟩ := hrel
    have HNN : Hid (HN wr (.slice p nn c) ns) := hid (HNW.out.below (by rw [HGL.out]; exact HB.out))
    by_cases hlt : i < nn
    · obtain ⟨b2, off, rfl, hbl, hcl⟩ := HNN.out.ne (by rw [HLn.out]; omega)
      have hcell := hcl i (by rw [HLn.out]; exact hlt)
      have hn255 : ns.getD i 0 < 255 := HKL.out _ (by
        rw [List.getD_eq_getElem?_getD, List.getElem?_eq_getElem (by rw [HLn.out]; exact hlt)]
        exact List.getElem_mem _)
      obtain ⟨n, HN1⟩ : ∃ n, Hid (ns.getD i 0 = n) := ⟨_, rfl⟩
      rw [HN1.out] at hcell hn255
      have CC := hid (contains_any wr gm li 32 (n : Int) HPW.out.mt HPW.out.ok.1 (Nat.le_refl _))
      have HAN := hid (any_oL HPW.out.ok (n := n))
      cases hany : (li.take 32).any (fun y => (n : Int) == y) with
      | true =>
        rw [hany] at CC HAN
        have HI2 : Hid (GwI Q fx l ns (i + 1) ei li) := hid (HI.out.skip (by rw [HLn.out]; exact hlt) HN1.out (HAN.out.1 rfl))
        clear HAN hany hcl
        go_wp2_with fail
        refine CC.out.mono ?_
        rintro y w3 ⟨rfl, hw3⟩
        rw [hw3]
        clear hw3 CC
        go_wp2
        exact ⟨⟨i + 1, ei, li, by omega, by go_num, HPW, HI2, HRS, HB⟩, by simp [intOf]; omega⟩
      | false =>
        rw [hany] at CC HAN
        have HNO : Hid (¬ ∃ s, oL li s = some n) := hid (fun z => by have := HAN.out.2 z; cases this)
        have hfc : wr.cell? ⟨gf, 0, none⟩ = some (fnV gl gs gm gf) := (cell_of_row _ _ _ _ _ _ HPW.out.fn).trans rfl
        have CP := hid (place_any gl gs gm gf b (.slice (some ⟨b2, off, none⟩) nn c) Q HQ1.out (uns ei) wr ei li n (Nat.le_refl _) HPW.out hn255)
        clear HAN hany hcl
        go_wp2_with fail
        refine CC.out.mono ?_
        rintro y w3 ⟨rfl, hw3⟩
        rw [hw3]
        clear hw3 CC
        go_wp2_with fail
        refine CP.out.mono ?_
        rintro y W4 ⟨r, e', l', rfl, hG, hW4, hX4⟩
        have HG := hid hG
        have HP4 := hid hW4
        have HR4 : Hid (OA W4 gr (List.replicate 32 0)) := hid ((hX4.block _ HRS.out.lt (fun q => q.elim HGE.out.2.2.2.1 HGE.out.2.2.2.2)).trans HRS.out)
        have HB4 : Hid (Below gl w W4) := hid (HB.out.trans (hX4.below (by
          have := HRS.out.lt
          have := HGE.out
          omega) (fun k q => by
          have := HGE.out
          rcases q with q | q <;> omega)))
        clear hG hW4 hX4 CP hcell hfc
        cases r with
        | true =>
          have HI2 : Hid (GwI Q fx l ns (i + 1) fx l') := hid (HI.out.won HQ1.out (by rw [HLn.out]; exact hlt) HN1.out HNO.out HG.out)
          have hsc : W4.cell? ⟨gs, 0, none⟩ = some (.int .u32 (e' : Int)) := (cell_of_row _ _ _ _ _ _ HP4.out.seen).trans rfl
          have hsf : W4.frozen? ⟨gs, 0, none⟩ = false := frozen_of_row _ _ _ _ _ HP4.out.seen
          have HP5 := hid (HP4.out.setSeen fx hfx)
          have HR5 : Hid (OA (W4.setCell ⟨gs, 0, none⟩ (.int .u32 (fx : Int))) gr (List.replicate 32 0)) := hid ((heap_setCell_other _ _ _ _ HGE.out.2.2.2.1).trans HR4.out)
          have HB5 : Hid (Below gl w (W4.setCell ⟨gs, 0, none⟩ (.int .u32 (fx : Int)))) := hid (HB4.out.setCell (p := ⟨gs, 0, none⟩) (by have := HGE.out; exact this.2.2.1) _)
          go_wp2
          exact ⟨⟨i + 1, fx, l', by omega, by go_num, HP5, HI2, HR5, HB5⟩, by simp [intOf]; omega⟩
        | false =>
          have HI2 : Hid (GwI Q fx l ns (i + 1) e' l') := hid (HI.out.fail HQ1.out (by rw [HLn.out]; exact hlt) HN1.out HG.out)
          go_wp2
          exact ⟨⟨i + 1, e', l', by omega, by go_num, HP4, HI2, HR4, HB4⟩, by simp [intOf]; omega⟩
    · obtain rfl : i = nn := by omega
      have HGW : Hid (Hy.Gwn Q 32 (bt fx) (oL l) (oL li)) := hid (by
        have := HI.out
        rw [← HLn.out, ← HNS.out] at this
        exact this.last HQ1.out HQ2.out)
      have HOKi : Hid (OkA li) := hid HPW.out.ok
      have HMi : Hid (OA wr gm li) := hid HPW.out.mt
      have HZ : Hid ((Tryd.prog.info? 64).map (·.size) = some (ca li).size) := hid (size_mt HOKi.out.1)
      have H1 : Hid ((ca li).all (·.oneCell') = true) := hid (ca_one _)
      have H2 : Hid ((ca (List.replicate 32 0)).size = (ca li).size) := by rw [ca_size, ca_size, HOKi.out.1]; exact hid rfl
      unfold OA at HMi HRS
      obtain ⟨cx, HCX⟩ : ∃ cx, Hid (ca li = cx) := ⟨_, rfl⟩
      rw [HCX.out] at HMi HZ H1 H2
      generalize ca (List.replicate 32 0) = c0 at HRS H2
      go_wp2_with (first
        | (refine wpList_load_row rfl 64 _ rfl gm rfl 64 cx (0, 0) _ HMi.out Tryd.underlying64 rfl HZ.out ?_)
        | (refine wpList_store_row rfl 64 _ _ rfl gr cx rfl rfl 64 c0 HRS.out HZ.out H2.out H1.out ?_))
      refine bodyPost_ret (v := .agg cx) (results_cell1 (p := 6) (ty := 64) rfl _ _ gr 64 cx (0, 0) _ rfl (setRow_heap wr gr c0 cx _ _ HRS.out) Tryd.underlying64 rfl HZ.out) rfl ?_
      exact ⟨li, by rw [HCX.out], HOKi.out, HGW.out, by rw [HGL.out]; exact below_setRow HB.out HGE.out.2.1 _⟩
end Go.Proofs.YtlhjpflljokinaaDoor.Hz
