/- Of the road to cutSegments_holds: CsG, ApartG, CsL. -/
import Derived.Test.YtjfebbhnjcnepaaG07
import Derived.Test.YtjfebbhnjcnepaaG06
import Derived.Deep.RegionHeld3
import Derived.Laws.AppendOwnNone
set_option linter.unusedVariables false
set_option linter.unusedSimpArgs false
namespace Go.Proofs.Ytjfebbhnjcnepaa
open Go Go.RowKit Go.Shelf
attribute [local go_sem] Oper.semAt_some
def csL (l : List Int) (s n : Nat) : List (List Int) := (List.range n).map fun i => pcP l s i
theorem csL_len (l : List Int) (s n : Nat) : (csL l s n).length = n := by simp [csL]
theorem csL_succ (l : List Int) (s n : Nat) : csL l s (n + 1) = csL l s n ++ [pcP l s n] := by simp [csL, List.range_succ]
theorem csN_pos {t : Bool} {l : List Int} {d : Int} {s k : Nat} (h : k < csN t l d s) : t = true ∧ (l.length : Int) = d ∧ k < pcN l.length s := by
  unfold csN at h
  split at h
  · rename_i q; exact ⟨q.1, q.2, h⟩
  · omega
theorem cs_seg {a b c d e f g h : Int} {l : List Int} (hf : Ft a b c d e f g h) (hd : (l.length : Int) = d) {k : Nat} (hk : k < pcN l.length c.toNat) :
    sgE true l.length d e (k : Int) = 0 ∧ sgL true l c d e f (k : Int) = pcP l c.toNat k := by
  obtain ⟨⟨h1, h2, h3, h4, h5, h6, h7, h8, h9⟩, hs⟩ := hf
  obtain ⟨s, rfl⟩ : ∃ s : Nat, c = (s : Int) := ⟨c.toNat, by omega⟩
  simp only [shR, List.cons.injEq] at hs
  obtain ⟨-, -, -, -, he, hfv, -⟩ := hs
  rw [Int.toNat_natCast] at hk ⊢
  have hl : 1 ≤ l.length := by omega
  have hs1 : 1 ≤ s := by omega
  have hup := pcN_up (size := s) hl
  rw [hd, ← he] at hup
  have hE : sgE true l.length d e (k : Int) = 0 := by
    unfold sgE szE
    rw [if_pos rfl, if_pos hd, if_pos rfl, if_pos ⟨by omega, by omega⟩]
  refine ⟨hE, ?_⟩
  unfold sgL
  rw [if_pos hE]
  unfold pcP
  have e1 : ((k : Int) * (s : Int)).toNat = pcAt s k := by unfold pcAt; rw [← Int.natCast_mul, Int.toNat_natCast]
  rw [e1]
  have e2 : (szV true e (k : Int) (s : Int) f).toNat = min s (l.length - pcAt s k) := by
    unfold szV
    rw [if_pos rfl, if_pos ⟨by omega, by omega⟩]
    have hm := Nat.div_add_mod (l.length - 1) s
    have hlt := Nat.mod_lt (l.length - 1) (show 0 < s by omega)
    have hN : pcN l.length s = (l.length - 1) / s + 1 := rfl
    by_cases q : (k : Int) = e - 1
    · rw [if_pos q, hfv, ← hd]
      unfold tlI
      rw [show ((l.length : Nat) : Int) - 1 = ((l.length - 1 : Nat) : Int) by omega, ← Int.natCast_emod]
      have hk2 : k = (l.length - 1) / s := by omega
      unfold pcAt
      rw [hk2, Nat.mul_comm]
      omega
    · rw [if_neg q]
      have hk2 : k + 1 ≤ (l.length - 1) / s := by omega
      have h3 := Nat.mul_le_mul_right s hk2
      unfold pcAt
      rw [Nat.mul_comm s] at hm
      rw [Nat.add_mul] at h3
      omega
  rw [e2]
theorem pcN_le {len s : Nat} (hs : 1 ≤ s) (hl : 1 ≤ len) : pcN len s ≤ len := by
  unfold pcN
  have := Nat.div_le_self (len - 1) s
  omega
def allocs (w : World) : List (Array Value × TypeId) → World
  | [] => w
  | o :: os => allocs (w.alloc (.cells o.1 o.2)) os
theorem allocs_below : ∀ (os : List (Array Value × TypeId)) (w : World), Below w.heap.size w (allocs w os) ∧ (allocs w os).heap.size = w.heap.size + os.length
  | [], w => ⟨Below.refl _ w, rfl⟩
  | o :: os, w => by
    have h := allocs_below os (w.alloc (.cells o.1 o.2))
    have hz : (w.alloc (.cells o.1 o.2)).heap.size = w.heap.size + 1 := by simp
    rw [hz] at h
    exact ⟨(below_alloc w _).trans (h.1.mono (by omega)), by rw [allocs, h.2, List.length_cons]; omega⟩
theorem allocs_at : ∀ (os : List (Array Value × TypeId)) (w : World) (i : Nat) (o : Array Value × TypeId), os[i]? = some o → (allocs w os).heap[w.heap.size + i]? = some (.cells o.1 o.2 (0, 0))
  | [], w, i, o, h => by simp at h
  | p :: os, w, 0, o, h => by
    simp at h
    subst h
    have hz : (w.alloc (.cells p.1 p.2)).heap.size = w.heap.size + 1 := by simp
    have hb := (allocs_below os (w.alloc (.cells p.1 p.2))).1
    rw [allocs, Nat.add_zero, hb.block w.heap.size (by omega)]
    exact heap_alloc_new w _
  | p :: os, w, i + 1, o, h => by
    have hz : (w.alloc (.cells p.1 p.2)).heap.size = w.heap.size + 1 := by simp
    have := allocs_at os (w.alloc (.cells p.1 p.2)) i o (by simpa using h)
    rw [hz] at this
    rw [allocs, ← this]
    congr 1
    omega
theorem out_region_N {P : Program} {ops : Array Oper} {K : Act → World → Prop} {Qq : Exit → Act → World → Prop} {S : World → Prop} {id : Nat} {a : Act} {w : World} (hm : P.follows .mixedOrders = true) (k : Nat)
    (h : Ev.wpN P ops (fun e a' w' => e = .normal ∧ Exit.then K Qq e a' w') S (fun j => j == k) ops.size false (Array.replicate ops.size false) a w.drew) : (Code.region id ops true).wp P (Exit.then K Qq) a w :=
  Code.wp_mono (fun e a w q => q.2) (wp_region_any hm (Ev.wpAny_of_N (W := fun j => j == k) (S := S) _ false _ _ _ h))
theorem results_listC {fn : Func} {p q : Tmp} (h : fn.results = #[.cell p 32, .cell q 4]) (tmps : Array Value) (w : World) (g g' : Nat) (pv : Option Addr) (n c : Nat) (b : Bool)
    (hp : tmps.getD p undef = .pointer (some ⟨g, 0, none⟩)) (hq : tmps.getD q undef = .pointer (some ⟨g', 0, none⟩)) (hc : w.cell? ⟨g, 0, none⟩ = some (.slice pv n c)) (hc' : w.cell? ⟨g', 0, none⟩ = some (.bool b)) : (results fn tmps).run Try.prog w = .ok (.tuple #[.slice pv n c, .bool b]) w := by
  have hp' : tmps[p]?.getD undef = .pointer (some ⟨g, 0, none⟩) := by simpa using hp
  have hq' : tmps[q]?.getD undef = .pointer (some ⟨g', 0, none⟩) := by simpa using hq
  simp only [results, h]
  simp [hp', hq', asAddr]
  clear hp hp' hq hq'
  go_simp
set_option maxRecDepth 100000 in
set_option maxHeartbeats 8000000 in
theorem gone_ok (w0 w : World) (a b c d e f g h : Int) (v : Value) (l : List Int) (gf : Nat) (lb : Array Value) (D : Nat → Prop) (most : Int) (hv0 : HB w0 v l) (hw0 : Below w0.heap.size w0 w) (hD0 : ∀ i, D i → w0.heap.size ≤ i)
    (hit : ItS l c.toNat (csN (ftB a b c d e f g h) l d c.toNat) gf lb D w) (hm : 1 ≤ most) :
    Calls Try.prog 8 #[shV [a, b, c, d, e, f, g, h], v, .func (.func gf) #[] lb, .int .i64 most] w fun r w' => ∃ n vg xs, n = min (csN (ftB a b c d e f g h) l d c.toNat) most.toNat ∧ r = .returned (.tuple #[vg, .bool true]) ∧ PX w.heap.size w' vg xs (csL l c.toNat n) ∧ Below w.heap.size w w' := by
  have hmx : Try.prog.follows .mixedOrders = true := by kernel_rfl
  have HV := hid hv0
  have BW0 := hid hw0
  have HD0 := hid hD0
  have IT := hid hit
  obtain ⟨p, cc, rfl, hlc, hcm⟩ := hv0.open
  obtain ⟨L, HL⟩ : ∃ x, Hid (l.length = x) := ⟨_, rfl⟩
  obtain ⟨N, HN⟩ : ∃ x, Hid (csN (ftB a b c d e f g h) l d c.toNat = x) := ⟨_, rfl⟩
  obtain ⟨s, HS⟩ : ∃ x, Hid (c.toNat = x) := ⟨_, rfl⟩
  obtain ⟨mN, HmN⟩ : ∃ x, Hid (most.toNat = x) := ⟨_, rfl⟩
  rw [HmN.out]
  obtain ⟨t, HT⟩ : ∃ x, Hid (ftB a b c d e f g h = x) := ⟨_, rfl⟩
  rw [HN.out] at IT ⊢
  rw [HS.out] at IT ⊢
  rw [HL.out] at HV ⊢
  obtain ⟨wA, HWA⟩ : ∃ x, Hid (allocs w [(#[Value.int .i64 a, .int .i64 b, .int .i64 c, .int .i64 d, .int .i64 e, .int .i64 f, .int .i64 g, .int .i64 h], 23), (#[.slice p L cc], 24), (#[.int .i64 most], 3), (#[.slice none 0 0], 32), (#[.bool false], 4), (#[.slice none 0 0], 32), (#[.bool true], 4)] = x) := ⟨_, rfl⟩
  clear hv0 hw0 hD0 hit
  refine (callsIn_wide (n := 3)).1 ?_
  refine callsIn_of_wp_marks Try.func8 rfl trivial (wpIn_wide.2 ?_) rfl
  simp only [Try.ntmps8, List.size_toArray, List.length_cons, List.length_nil, Nat.reduceAdd, Nat.reduceSub, Array.replicate_succ, Array.replicate_zero, List.push_toArray, List.append_toArray, List.nil_append, List.cons_append]
  rw [shV8]
  go_wp2_with fail
  obtain ⟨b1, Hb1⟩ : ∃ x, Hid (w.heap.size + 1 = x) := ⟨_, rfl⟩
  obtain ⟨b2, Hb2⟩ : ∃ x, Hid (b1 + 1 = x) := ⟨_, rfl⟩
  obtain ⟨b3, Hb3⟩ : ∃ x, Hid (b2 + 1 = x) := ⟨_, rfl⟩
  obtain ⟨b4, Hb4⟩ : ∃ x, Hid (b3 + 1 = x) := ⟨_, rfl⟩
  obtain ⟨b5, Hb5⟩ : ∃ x, Hid (b4 + 1 = x) := ⟨_, rfl⟩
  obtain ⟨b6, Hb6⟩ : ∃ x, Hid (b5 + 1 = x) := ⟨_, rfl⟩
  obtain ⟨b0, Hb0⟩ : ∃ x, Hid (w.heap.size = x) := ⟨_, rfl⟩
  have SZ : Hid (w.heap.size = b0 ∧ b1 = b0 + 1 ∧ b2 = b0 + 2 ∧ b3 = b0 + 3 ∧ b4 = b0 + 4 ∧ b5 = b0 + 5 ∧ b6 = b0 + 6 ∧ wA.heap.size = b0 + 7) := hid (by
    have h0 := Hb0.out; have h1 := Hb1.out; have h2 := Hb2.out; have h3 := Hb3.out; have h4 := Hb4.out; have h5 := Hb5.out; have h6 := Hb6.out
    have hz := (allocs_below [(#[Value.int .i64 a, .int .i64 b, .int .i64 c, .int .i64 d, .int .i64 e, .int .i64 f, .int .i64 g, .int .i64 h], 23), (#[.slice p L cc], 24), (#[.int .i64 most], 3), (#[.slice none 0 0], 32), (#[.bool false], 4), (#[.slice none 0 0], 32), (#[.bool true], 4)] w).2
    rw [HWA.out] at hz
    simp only [List.length_cons, List.length_nil] at hz
    omega)
  have BA : Hid (Below w.heap.size w wA) := hid (by rw [← HWA.out]; exact (allocs_below _ w).1)
  have at' : ∀ (i : Nat) (o : Array Value × TypeId), [(#[Value.int .i64 a, .int .i64 b, .int .i64 c, .int .i64 d, .int .i64 e, .int .i64 f, .int .i64 g, .int .i64 h], 23), (#[.slice p L cc], 24), (#[.int .i64 most], 3), (#[.slice none 0 0], 32), (#[.bool false], 4), (#[.slice none 0 0], 32), (#[.bool true], 4)][i]? = some o → wA.heap[w.heap.size + i]? = some (.cells o.1 o.2 (0, 0)) := fun i o hi => by
    rw [← HWA.out]; exact allocs_at _ w i o hi
  have X0 := at' 0 _ rfl
  have X1 := at' 1 _ rfl
  have X2 := at' 2 _ rfl
  have X3 := at' 3 _ rfl
  have X4 := at' 4 _ rfl
  have X5 := at' 5 _ rfl
  have X6 := at' 6 _ rfl
  rw [show w.heap.size + 0 = b0 by have := SZ.out; omega] at X0
  rw [show w.heap.size + 1 = b1 by have := SZ.out; omega] at X1
  rw [show w.heap.size + 2 = b2 by have := SZ.out; omega] at X2
  rw [show w.heap.size + 3 = b3 by have := SZ.out; omega] at X3
  rw [show w.heap.size + 4 = b4 by have := SZ.out; omega] at X4
  rw [show w.heap.size + 5 = b5 by have := SZ.out; omega] at X5
  rw [show w.heap.size + 6 = b6 by have := SZ.out; omega] at X6
  clear at'
  obtain ⟨M, HM⟩ : ∃ M : List (Nat × Obj), Hid (M = [(b0, .cells #[Value.int .i64 a, .int .i64 b, .int .i64 c, .int .i64 d, .int .i64 e, .int .i64 f, .int .i64 g, .int .i64 h] 23 (0, 0)), (b1, .cells #[.slice p L cc] 24 (0, 0)), (b2, .cells #[.int .i64 most] 3 (0, 0)), (b3, .cells #[.slice none 0 0] 32 (0, 0)), (b4, .cells #[.bool false] 4 (0, 0)), (b6, .cells #[.bool true] 4 (0, 0))]) := ⟨_, rfl⟩
  have m0 : Hid ((b0, Obj.cells #[Value.int .i64 a, .int .i64 b, .int .i64 c, .int .i64 d, .int .i64 e, .int .i64 f, .int .i64 g, .int .i64 h] 23 (0, 0)) ∈ M) := hid (by rw [HM.out]; simp)
  have m1 : Hid ((b1, Obj.cells #[.slice p L cc] 24 (0, 0)) ∈ M) := hid (by rw [HM.out]; simp)
  have m2 : Hid ((b2, Obj.cells #[.int .i64 most] 3 (0, 0)) ∈ M) := hid (by rw [HM.out]; simp)
  have m3 : Hid ((b3, Obj.cells #[.slice none 0 0] 32 (0, 0)) ∈ M) := hid (by rw [HM.out]; simp)
  have m4 : Hid ((b4, Obj.cells #[.bool false] 4 (0, 0)) ∈ M) := hid (by rw [HM.out]; simp)
  have m6 : Hid ((b6, Obj.cells #[.bool true] 4 (0, 0)) ∈ M) := hid (by rw [HM.out]; simp)
  have HMl : Hid (∀ p ∈ M, b0 ≤ p.1 ∧ p.1 ≤ b6 ∧ p.1 ≠ b5) := hid (by
    have := SZ.out
    rw [HM.out]
    intro p hp
    simp only [List.mem_cons, List.not_mem_nil, or_false] at hp
    rcases hp with rfl | rfl | rfl | rfl | rfl | rfl <;> (simp only; omega))
  have HDl : Hid (∀ i, D i → i < w.heap.size) := hid IT.out.lt
  obtain ⟨B, HB7⟩ : ∃ x, Hid (wA.heap.size = x) := ⟨_, rfl⟩
  have HmM : Hid ((mN : Int) = most ∧ 1 ≤ mN) := hid (by have := HmN.out; omega)
  have HN5 : Hid (N ≤ 16777216) := hid (by
    rw [← HN.out]
    unfold csN
    split
    · rename_i q
      have hft : Ft a b c d e f g h := of_decide_eq_true q.1
      have hok := hft.1
      unfold OkS at hok
      have h2 := q.2
      have := pcN_le (len := l.length) (s := c.toNat) (by omega) (by omega)
      omega
    · omega)
  have M0 : Hid (MO w D M D wA) := hid ⟨fun p hp => by
    have hnd : ¬ D p.1 := fun q => by have h1 := HDl.out _ q; have h2 := HMl.out p hp; have := SZ.out; omega
    refine ⟨?_, hnd⟩
    rw [HM.out] at hp
    simp only [List.mem_cons, List.not_mem_nil, or_false] at hp
    rcases hp with rfl | rfl | rfl | rfl | rfl | rfl <;> assumption, fun i hi => .inl hi, ⟨BA.out.os, BA.out.tape, BA.out.output⟩, BA.out.size, fun i hi _ => BA.out.block i hi⟩
  have HB5 : Hid (b5 < B ∧ w.heap.size ≤ b5 ∧ B = b6 + 1) := hid (by have := SZ.out; have := HB7.out; omega)
  have G0 : Hid (GOI B b5 w D M [] D wA) := hid ⟨.slice none 0 0, [], ⟨⟨GO.start X5, fun b hb q => by
    have only : b = b5 := by
      rcases hb with e | e | ⟨j, hj, _⟩
      · exact e
      · cases e
      · simp at hj
    have := HDl.out b q; have := SZ.out; omega⟩, fun q hq z => by
    have only : q.1 = b5 := by
      rcases z with e | e | ⟨j, hj, _⟩
      · exact e
      · cases e
      · simp at hj
    exact (HMl.out q hq).2.2 only⟩, M0.out⟩
  have K0 : Hid (KE D w wA) := hid ⟨BA.out.size, fun i hi => BA.out.block i (HDl.out i hi)⟩
  have HLOW : Hid (∀ {vg : Value} {xs : List Value} {ls : List (List Int)} {W : World}, GO B b5 vg xs ls W → ∀ b, goB b5 vg xs b → w.heap.size ≤ b) := hid fun hg b hb => by
    rcases hg.low b hb with e | e <;> (have := HB5.out; omega)
  have fin : ∀ (W : World) (d' : Nat), wA.heap.size ≤ d' → KE D wA W → (W.os = w.os ∧ W.tape = w.tape ∧ W.output = w.output) → w.heap.size ≤ W.heap.size → (∀ i, i < w.heap.size → ¬ D i → W.heap[i]? = w.heap[i]?) → Below w.heap.size w (W.putObj d' (.deferred none)) := fun W d' hd hke ho hs hg => by
    refine Below.trans (b := W) ⟨ho.1, ho.2.1, ho.2.2, hs, fun i hi => ?_⟩ ?_
    · by_cases q : D i
      · exact (hke.2 i q).trans (K0.out.2 i q)
      · exact hg i hi q
    · have := BA.out.size
      exact bel_putC (Below.refl _ W) (by omega) _
  clear X0 X1 X2 X3 X4 X5 X6
  rename_i Kx hKx
  have HKx := hid hKx
  clear hKx
  rw [show ((((((w.alloc (.cells #[Value.int .i64 a, .int .i64 b, .int .i64 c, .int .i64 d, .int .i64 e, .int .i64 f, .int .i64 g, .int .i64 h] 23)).alloc (.cells #[.slice p L cc] 24)).alloc (.cells #[.int .i64 most] 3)).alloc (.cells #[.slice none 0 0] 32)).alloc (.cells #[.bool false] 4)).alloc (.cells #[.slice none 0 0] 32)).alloc (.cells #[.bool true] 4) = wA from HWA.out, Hb1.out, Hb2.out, Hb3.out, Hb4.out, Hb5.out, Hb6.out, Hb0.out]
  refine (wpIn_wide (n := 3)).1 ?_
  apply range_fitW rfl (by decide) (gf := gf) (lb := lb) rfl trivial IT.out.en (IT.out.it (3 - 1)) K0.out (fun i hi => Nat.lt_of_lt_of_le (HDl.out i hi) BA.out.size) (fun _ _ => rfl)
    (fun k E W => (k ≤ N ∧ k < mN) ∧ GOI B b5 w D M (csL l s k) E W)
    (fun c E W => ∃ n vg xs, (c = Code.ret ∧ n = min N mN) ∧ ((GO B b5 vg xs (csL l s n) W ∧ ∀ b, goB b5 vg xs b → ¬ E b) ∧ MO w D [(b3, .cells #[vg] 32 (0, 0)), (b4, .cells #[.bool true] 4 (0, 0))] E W))
    (jn_GOI B b5 w D M (fun k => csL l s k) (fun k => k ≤ N ∧ k < mN))
    (jn_ex fun n => jn_ex fun vg => jn_ex fun xs => jn_and (jn_un (jn_GO B b5 w D [(b3, .cells #[vg] 32 (0, 0)), (b4, .cells #[.bool true] 4 (0, 0))] vg xs (csL l s n))) (fun c => c = Code.ret ∧ n = min N mN))
    ⟨⟨Nat.zero_le _, HmM.out.2⟩, G0.out⟩ (fitS_cs l s)
  case hassign =>
    intro l' k v W K hK
    gi_wp2
    exact hK
  case hstop =>
    rintro d' c' W hd ⟨n, vg, xs, ⟨rfl, hn⟩, ⟨hgo, hgE⟩, hmo⟩ hdf hke
    have c3 := hmo.cell (b := b3) (t := 32) (v := vg) (by simp)
    have c4 := hmo.cell (b := b4) (t := 4) (v := .bool true) (by simp)
    have n3 : b3 ≠ d' := fun e => (hmo.m (b3, .cells #[vg] 32 (0, 0)) (by simp)).2 (.inr e)
    have n4 : b4 ≠ d' := fun e => (hmo.m (b4, .cells #[.bool true] 4 (0, 0)) (by simp)).2 (.inr e)
    obtain ⟨pg, cg, eg⟩ := own_slc hgo.g.row
    subst eg
    have HGO := hid (hgo.keep (C := W.putObj d' (.deferred none)) fun b hb => World.putObj_heap_other (fun e => hgE b hb (.inr e)))
    have HBL := hid (fin W d' hd hke hmo.o hmo.s hmo.g)
    clear hgo hgE hmo
    refine wpIn_wide.2 ?_
    go_wp2_with fail
    refine ⟨by simp, .inl ⟨_, _, rfl, run_takeDeferred hdf, ?_⟩⟩
    refine ⟨_, results_listC rfl _ _ b3 b4 pg _ cg true rfl rfl ?_ ?_, n, _, xs, hn, rfl, HGO.out.g.low (by have := HB5.out; omega), HBL.out⟩
    · exact (World.cell?_of_block (a := ⟨b3, 0, none⟩) (World.putObj_heap_other n3)).trans c3
    · exact (World.cell?_of_block (a := ⟨b4, 0, none⟩) (World.putObj_heap_other n4)).trans c4
  case hbody =>
    rintro lp k v E A W hlp hE hr ⟨⟨hkN0, hkm⟩, vg, xs, ⟨hgo, hgM⟩, hmo⟩ hEl hcar hAW hf hDE hke hk
    obtain ⟨⟨hgW, hgE⟩, hMW⟩ := hcar _ (jn_GO B b5 w D M vg xs (csL l s k)) ⟨hgo, hmo⟩
    have HGS := hid hgo.1.lt
    have HGO := hid hgW
    have HGE := hid hgE
    have HMO := hid hMW
    have HGM := hid hgM
    have HEL := hid hEl
    have HMA := hid fun p hp => (Array.getElem?_eq_some_iff.1 (hmo.m p hp).1).1
    have HAB : Hid (B ≤ A.heap.size) := hid (by have := HMA.out _ m6.out; have := HB5.out; show B ≤ A.heap.size; simp only at *; omega)
    obtain ⟨ht, hLd, hkp⟩ := csN_pos (show k < csN (ftB a b c d e f g h) l d c.toNat by rw [HN.out]; exact hk)
    have hft : Ft a b c d e f g h := of_decide_eq_true ht
    have hseg := cs_seg hft hLd hkp
    rw [HS.out] at hseg
    have hvW : HB W (.slice p L cc) l := HV.out.later fun ad _ hx => by
      have hb := World.block_lt_of_cell? w0 ad hx
      have h2 := BW0.out.size
      exact (World.cell?_of_block ((hMW.g ad.block (by omega) (fun q => by have := HD0.out _ q; omega)).trans (BW0.out.block ad.block hb))).trans hx
    have hP : BytI (pcP l s k) := fun x hx => HV.out.2 x (List.mem_of_mem_take (List.mem_of_mem_drop hx))
    have HP := hid hP
    have hf0 : W.ownsRow A.heap.size 5 1 v (pcP l s k).length ((pcP l s k).map (Value.int .u8)) := hf
    obtain ⟨LP, HLP⟩ : ∃ x, Hid ((pcP l s k).length = x) := ⟨_, rfl⟩
    rw [HLP.out] at hf0
    obtain ⟨pv, cv, ev⟩ := own_slc hf0
    subst ev
    have HF := hid hf0
    obtain ⟨pg, cg, eg⟩ := own_slc hgW.g.row
    rw [csL_len] at eg
    subst eg
    have CR : Hid (Calls Try.prog 17 #[.agg #[Value.int .i64 a, .int .i64 b, .int .i64 c, .int .i64 d, .int .i64 e, .int .i64 f, .int .i64 g, .int .i64 h], .slice p L cc, .int .i64 (k : Int)] W fun r w' => ∃ v', r = .returned (.tuple #[v', .int .i64 0]) ∧ w'.ownsRow W.heap.size 5 1 v' LP ((pcP l s k).map (Value.int .u8)) ∧ Below W.heap.size W w') := by
      have := rsegment_any W a b c d e f g h (k : Int) (.slice p L cc) l hvW
      rw [ht, hseg.1, hseg.2, shV8, HLP.out] at this
      exact hid this
    have x0 := hMW.at m0.out
    have c00 : W.cell? ⟨b0, 0, none⟩ = some (.int .i64 a) := (cell_of_row _ _ _ _ _ _ x0).trans rfl
    have c01 : W.cell? ⟨b0, 1, none⟩ = some (.int .i64 b) := (cell_of_row _ _ _ _ _ _ x0).trans rfl
    have c02 : W.cell? ⟨b0, 2, none⟩ = some (.int .i64 c) := (cell_of_row _ _ _ _ _ _ x0).trans rfl
    have c03 : W.cell? ⟨b0, 3, none⟩ = some (.int .i64 d) := (cell_of_row _ _ _ _ _ _ x0).trans rfl
    have c04 : W.cell? ⟨b0, 4, none⟩ = some (.int .i64 e) := (cell_of_row _ _ _ _ _ _ x0).trans rfl
    have c05 : W.cell? ⟨b0, 5, none⟩ = some (.int .i64 f) := (cell_of_row _ _ _ _ _ _ x0).trans rfl
    have c06 : W.cell? ⟨b0, 6, none⟩ = some (.int .i64 g) := (cell_of_row _ _ _ _ _ _ x0).trans rfl
    have c07 : W.cell? ⟨b0, 7, none⟩ = some (.int .i64 h) := (cell_of_row _ _ _ _ _ _ x0).trans rfl
    have c1 : W.cell? ⟨b1, 0, none⟩ = some (.slice p L cc) := hMW.cell m1.out
    have c5 : W.cell? ⟨b5, 0, none⟩ = some (.slice pg k cg) := (cell_of_row _ _ _ _ _ _ hgW.c).trans rfl
    clear hgW hgE hMW hgo hgM hmo hcar hf hf0 hP hvW hseg hft hLd hkp ht hEl x0
    gi_wp2
    refine ⟨trivial, callRC (CR.out.mono ?_)⟩
    rintro e1 w1 ⟨v', rfl, ho1, hB1⟩
    obtain ⟨pu, cu, eu⟩ := own_slc ho1
    subst eu
    have B1 := hid hB1
    obtain ⟨⟨hg1, he1⟩, hm1⟩ := (jn_GO B b5 w D M (.slice pg k cg) xs (csL l s k)).grown (s := ()) ⟨⟨HGO.out, HGE.out⟩, HMO.out⟩ (grown_below (r := none) hB1)
    have HG1 := hid hg1
    have HE1 := hid he1
    have HM1 := hid hm1
    have HF1 : Hid (w1.ownsRow A.heap.size 5 1 (.slice pv LP cv) LP ((pcP l s k).map (Value.int .u8))) := hid (own_ofL HF.out fun b e => hB1.block b (own_typC HF.out e).1)
    have CS : Hid (Calls Try.prog 16 #[.slice pv LP cv, .slice pu LP cu] w1 fun e w' => e = .returned (.bool true) ∧ Dr w1 w') := hid ((sameBytes_any w1 _ _ _ _ (HB.of_own (by rw [HLP.out]; exact HF1.out) HP.out) (HB.of_own (by rw [HLP.out]; exact ho1) HP.out)).mono fun e w' ⟨q1, q2⟩ => ⟨by rw [q1]; simp, q2⟩)
    have c5 : w1.cell? ⟨b5, 0, none⟩ = some (.slice pg k cg) := (cell_of_row _ _ _ _ _ _ hg1.c).trans rfl
    have c6 : w1.cell? ⟨b6, 0, none⟩ = some (.bool true) := hm1.cell m6.out
    clear hg1 he1 hm1 ho1 hB1 CR c00 c01 c02 c03 c04 c05 c06 c07 c1
    gi_wp2
    refine ⟨trivial, callRC (CS.out.mono ?_)⟩
    rintro e2 w2 ⟨rfl, hd2⟩
    have HH2 : Hid (w2.heap = w1.heap) := hid hd2.heap
    have HD2 := hid hd2
    have c6 : w2.cell? ⟨b6, 0, none⟩ = some (.bool true) := by rw [hd2.cell]; exact HM1.out.cell m6.out
    have f6 : w2.frozen? ⟨b6, 0, none⟩ = false := by simp [World.frozen?, hd2.heap, HM1.out.at m6.out]
    have c5 : w2.cell? ⟨b5, 0, none⟩ = some (.slice pg k cg) := by rw [hd2.cell]; exact (cell_of_row _ _ _ _ _ _ HG1.out.c).trans rfl
    have n56 : ¬ (b5 = b6) := by have := SZ.out; omega
    have n65 : ¬ (b6 = b5) := by have := SZ.out; omega
    have n26 : ¬ (b2 = b6) := by have := SZ.out; omega
    have n25 : ¬ (b2 = b5) := by have := SZ.out; omega
    have hs2 : w2.heap.size = w1.heap.size := by rw [HH2.out]
    have hx6 : w2.heap[b6]? = some (.cells #[.bool true] 4 (0, 0)) := by rw [HH2.out]; exact HM1.out.at m6.out
    have hk3 : ∀ i, (w2.setCell ⟨b6, 0, none⟩ (.bool true)).heap[i]? = w1.heap[i]? := fun i => (set_same hx6 i).trans (by rw [HH2.out])
    obtain ⟨W3, HW3⟩ : ∃ x, Hid (w2.setCell ⟨b6, 0, none⟩ (.bool true) = x) := ⟨_, rfl⟩
    rw [HW3.out] at hk3
    have hs3 : W3.heap.size = w1.heap.size := by rw [← HW3.out]; simp; exact hs2
    have hg3 : GO B b5 (.slice pg k cg) xs (csL l s k) W3 := HG1.out.keep fun b _ => hk3 b
    have st3 : StO (fun _ => False) w1 W3 := ⟨by omega, fun b _ _ => hk3 b, by rw [← HW3.out]; exact ⟨(HD2.out.below 0).os, (HD2.out.below 0).tape, (HD2.out.below 0).output⟩⟩
    have hm3 : MO w D M E W3 := HM1.out.st st3 (fun _ h => h.elim) (fun _ _ h => h)
    have hf3 : W3.ownsRow A.heap.size 5 1 (.slice pv LP cv) (pcP l s k).length ((pcP l s k).map (Value.int .u8)) := by rw [HLP.out]; exact own_ofL HF1.out fun b _ => hk3 b
    have hAw : A.heap.size ≤ w1.heap.size := Nat.le_trans hAW B1.out.size
    obtain ⟨vg2, W5, hrun, hcb5, hkp5, ⟨pg2, cg2, evg2⟩, hgo5, hst5, hnew5⟩ := hg3.got (S := A.heap.size) HGS.out HAB.out hf3 HP.out (by have := HAB.out; omega) (by omega) HB5.out.1 (by rw [csL_len]; have := HN5.out; omega) 32
    rw [csL_len] at evg2
    subst evg2
    have HRUN := hid hrun
    rw [hs3, ← hs2, ← HW3.out] at HRUN
    have HGO5 := hid hgo5
    rw [← csL_succ] at HGO5
    have HST5 := hid hst5
    have HNEW5 := hid hnew5
    have HM3 := hid hm3
    have hng : ∀ {b : Nat} {o : Obj}, (b, o) ∈ M → (Value.slice pg k cg).ownBlock ≠ some b := fun hm e => HGM.out _ hm (.inr (.inl e))
    have kb : ∀ {b : Nat} {o : Obj}, (b, o) ∈ M → W5.heap[b]? = some o := fun hm => (hkp5 _ (by have := (Array.getElem?_eq_some_iff.1 (HM3.out.m _ hm).1).1; exact this) (hng hm)).trans (HM3.out.at hm)
    have d5 : W5.cell? ⟨b5, 0, none⟩ = some (.slice pg k cg) := (cell_of_row _ _ _ _ _ _ hcb5).trans rfl
    have g5 : W5.frozen? ⟨b5, 0, none⟩ = false := by simp [World.frozen?, hcb5]
    have d6 : W5.cell? ⟨b6, 0, none⟩ = some (.bool true) := (cell_of_row _ _ _ _ _ _ (kb m6.out)).trans rfl
    have d2 : W5.cell? ⟨b2, 0, none⟩ = some (.int .i64 most) := (cell_of_row _ _ _ _ _ _ (kb m2.out)).trans rfl
    have HX5 : Hid ((∀ {b : Nat} {o : Obj}, (b, o) ∈ M → W5.heap[b]? = some o)) := hid kb
    clear CS
    obtain ⟨W6, HW6⟩ : ∃ x, Hid (W5.setCell ⟨b5, 0, none⟩ (.slice pg2 (k + 1) cg2) = x) := ⟨_, rfl⟩
    rw [HW6.out] at HGO5 HST5
    have HM6 : Hid (MO w D M E W6) := hid (HM3.out.st HST5.out (HLOW.out HGO.out) HGM.out)
    have HGM6 : Hid (∀ p ∈ M, ¬ goB b5 (.slice pg2 (k + 1) cg2) (xs ++ [.slice pv LP cv]) p.1) := hid fun p hp q => (HNEW5.out p.1 q).elim (HGM.out p hp) (fun z => by have := HMA.out p hp; omega)
    have HGE6 : Hid (∀ b, goB b5 (.slice pg2 (k + 1) cg2) (xs ++ [.slice pv LP cv]) b → ¬ E b) := hid fun b q => (HNEW5.out b q).elim (HE1.out b) (fun z e => by have := HEL.out b e; omega)
    have HK6 : Hid (KE E W W6) := hid (by
      have k1 : KE E W w1 := ⟨B1.out.size, fun i hi => B1.out.block i (by have := HEL.out i hi; omega)⟩
      have k2 : KE E w1 W3 := ⟨by omega, fun i _ => hk3 i⟩
      exact (k1.trans k2).trans (HST5.out.ke (fun i hi => by have := HEL.out i hi; omega) HE1.out))
    clear hs2 hx6 hk3 hs3 hg3 st3 hm3 hf3 hAw hrun hcb5 hkp5 hgo5 hst5 hnew5 hng kb
    by_cases hq : (k : Int) + 1 ≥ most
    case neg =>
      gi_wp2_with (gi_at_builtin; refine wpListIn_appC (.tmp 44) (.tmp 46) rfl rfl rfl rfl HRUN.out ?_)
      rw [HW6.out]
      exact ⟨HK6.out, ⟨by omega, by have := HmM.out.1; omega⟩, _, _, ⟨⟨HGO5.out, HGE6.out⟩, HGM6.out⟩, HM6.out⟩
    case pos =>
      gi_wp2_with (gi_at_builtin; refine wpListIn_appC (.tmp 44) (.tmp 46) rfl rfl rfl rfl HRUN.out ?_)
      rw [HW6.out]
      have x3 := HM6.out.at m3.out
      have x4 := HM6.out.at m4.out
      have c3 : W6.cell? ⟨b3, 0, none⟩ = some (.slice none 0 0) := HM6.out.cell m3.out
      have c4 : W6.cell? ⟨b4, 0, none⟩ = some (.bool false) := HM6.out.cell m4.out
      have f3 : W6.frozen? ⟨b3, 0, none⟩ = false := by simp [World.frozen?, x3]
      have f4 : W6.frozen? ⟨b4, 0, none⟩ = false := by simp [World.frozen?, x4]
      have c5 : W6.cell? ⟨b5, 0, none⟩ = some (.slice pg2 (k + 1) cg2) := (cell_of_row _ _ _ _ _ _ HGO5.out.c).trans rfl
      have c6 : W6.cell? ⟨b6, 0, none⟩ = some (.bool true) := HM6.out.cell m6.out
      have n53 : ¬ (b5 = b3) := by have := SZ.out; omega
      have n54 : ¬ (b5 = b4) := by have := SZ.out; omega
      have n63 : ¬ (b6 = b3) := by have := SZ.out; omega
      have n64 : ¬ (b6 = b4) := by have := SZ.out; omega
      have n43 : ¬ (b4 = b3) := by have := SZ.out; omega
      have n34 : ¬ (b3 = b4) := by have := SZ.out; omega
      obtain ⟨W8, HW8⟩ : ∃ x, Hid (((W6.setCell ⟨b3, 0, none⟩ (.slice pg2 (k + 1) cg2)).setCell ⟨b4, 0, none⟩ (.bool true)).drew = x) := ⟨_, rfl⟩
      have y3 : W8.heap[b3]? = some (.cells #[.slice pg2 (k + 1) cg2] 32 (0, 0)) := by
        rw [← HW8.out]
        exact (heap_setCell_other _ ⟨b4, 0, none⟩ b3 _ (by simpa using n34)).trans ((bk_setC x3).trans rfl)
      have y4 : W8.heap[b4]? = some (.cells #[.bool true] 4 (0, 0)) := by
        rw [← HW8.out]
        exact (bk_setC (cs := #[.bool false]) (t := 4) ((heap_setCell_other W6 ⟨b3, 0, none⟩ b4 _ (by simpa using n43)).trans x4)).trans rfl
      have st8 : StO (fun b => b = b3 ∨ b = b4) W6 W8 := by
        refine ⟨by rw [← HW8.out]; show _ ≤ ((W6.setCell _ _).setCell _ _).heap.size; simp, fun b _ hx => ?_, by rw [← HW8.out]; exact ⟨rfl, rfl, rfl⟩⟩
        rw [← HW8.out]
        exact (heap_setCell_other _ ⟨b4, 0, none⟩ b _ (by simpa using fun e => hx (.inr e))).trans (heap_setCell_other _ ⟨b3, 0, none⟩ b _ (by simpa using fun e => hx (.inl e)))
      have e3 := (HM6.out.m _ m3.out).2
      have e4 := (HM6.out.m _ m4.out).2
      have HM8 : Hid (MO w D [(b3, .cells #[.slice pg2 (k + 1) cg2] 32 (0, 0)), (b4, .cells #[.bool true] 4 (0, 0))] E W8) := hid (HM6.out.wr st8 (fun b hb => by have := SZ.out; rcases hb with e | e <;> omega) (fun p hp => by
        simp only [List.mem_cons, List.not_mem_nil, or_false] at hp
        rcases hp with rfl | rfl
        · exact ⟨y3, e3⟩
        · exact ⟨y4, e4⟩))
      have HG8 : Hid (GO B b5 (.slice pg2 (k + 1) cg2) (xs ++ [.slice pv LP cv]) (csL l s (k + 1)) W8) := hid (HGO5.out.keep fun b hb => st8.fr b (HGO5.out.lt b hb) (fun e => by
        rcases e with rfl | rfl
        · exact HGM6.out _ m3.out hb
        · exact HGM6.out _ m4.out hb))
      have HK8 : Hid (KE E W W8) := hid (HK6.out.trans (st8.ke (fun i hi => by have := HEL.out i hi; have := HK6.out.1; omega) (fun b hb => by
        rcases hb with rfl | rfl
        · exact e3
        · exact e4)))
      have HSS : Hid ((fun V : World => V.cell? ⟨b5, 0, none⟩ = some (.slice pg2 (k + 1) cg2) ∧ V.cell? ⟨b6, 0, none⟩ = some (.bool true)) W6.drew) := hid ⟨c5, c6⟩
      clear x3 x4 y3 y4 st8 e3 e4
      refine in_region_N hmx (by kernel_rfl) 3 (S := fun V : World => V.cell? ⟨b5, 0, none⟩ = some (.slice pg2 (k + 1) cg2) ∧ V.cell? ⟨b6, 0, none⟩ = some (.bool true)) ?_
      change Ev.wpN _ _ _ _ _ _ _ _ _ (World.drew _)
      refine Ev.wpN_load (i := 0) (v := ?_) rfl (by kernel_rfl) (by kernel_rfl) (by kernel_rfl) (fun _ _ _ h => by cases h.1) (by rfl) (by kernel_rfl) (Or.inl ⟨by rfl, ?q0⟩) HSS.out ?_
      case q0 => intro w hSw; obtain ⟨hz0, hz1⟩ := hSw; go_simp; rfl
      simp only [Act.put, List.getElem_toArray, List.getElem_cons_zero, List.getElem_cons_succ, List.setIfInBounds_toArray, List.set_cons_zero, List.set_cons_succ]
      refine Ev.wpN_load (i := 1) (v := ?_) rfl (by kernel_rfl) (by kernel_rfl) (by kernel_rfl) (fun _ _ _ h => by cases h.1) (by rfl) (by kernel_rfl) (Or.inl ⟨by rfl, ?q1⟩) HSS.out ?_
      case q1 => intro w hSw; obtain ⟨hz0, hz1⟩ := hSw; go_simp; rfl
      simp only [Act.put, List.getElem_toArray, List.getElem_cons_zero, List.getElem_cons_succ, List.setIfInBounds_toArray, List.set_cons_zero, List.set_cons_succ]
      refine Ev.wpN_step (i := 2) (by kernel_rfl) rfl rfl ?_
      go_simp
      try simp only [Act.put, List.getElem_toArray, List.getElem_cons_zero, List.getElem_cons_succ, List.setIfInBounds_toArray, List.set_cons_zero, List.set_cons_succ]
      refine Ev.wpN_step (i := 3) (by kernel_rfl) rfl rfl ?_
      go_simp
      refine Ev.wpN_end (by kernel_rfl) ⟨rfl, ?_⟩
      rename_i K hK
      refine hK _ _ ?_
      clear hK K
      gi_wp2
      rw [HW8.out]
      exact ⟨HK8.out, k + 1, ⟨rfl, by have := HmM.out.1; omega⟩, _, ⟨_, HG8.out, HGE6.out⟩, HM8.out⟩
  case hdone =>
    rintro d' W hd ⟨⟨-, hNm⟩, vg, xs, ⟨⟨hgo, hgE⟩, hgM⟩, hmo⟩ hdf hke
    obtain ⟨pg, cg, eg⟩ := own_slc hgo.g.row
    rw [csL_len] at eg
    subst eg
    have HGO := hid hgo
    have HMO := hid hmo
    have HGM := hid hgM
    have HGE := hid hgE
    have HKE := hid hke
    have x0 := hmo.at m0.out
    have c00 : W.cell? ⟨b0, 0, none⟩ = some (.int .i64 a) := (cell_of_row _ _ _ _ _ _ x0).trans rfl
    have c01 : W.cell? ⟨b0, 1, none⟩ = some (.int .i64 b) := (cell_of_row _ _ _ _ _ _ x0).trans rfl
    have c02 : W.cell? ⟨b0, 2, none⟩ = some (.int .i64 c) := (cell_of_row _ _ _ _ _ _ x0).trans rfl
    have c03 : W.cell? ⟨b0, 3, none⟩ = some (.int .i64 d) := (cell_of_row _ _ _ _ _ _ x0).trans rfl
    have c04 : W.cell? ⟨b0, 4, none⟩ = some (.int .i64 e) := (cell_of_row _ _ _ _ _ _ x0).trans rfl
    have c05 : W.cell? ⟨b0, 5, none⟩ = some (.int .i64 f) := (cell_of_row _ _ _ _ _ _ x0).trans rfl
    have c06 : W.cell? ⟨b0, 6, none⟩ = some (.int .i64 g) := (cell_of_row _ _ _ _ _ _ x0).trans rfl
    have c07 : W.cell? ⟨b0, 7, none⟩ = some (.int .i64 h) := (cell_of_row _ _ _ _ _ _ x0).trans rfl
    have CF := hid (rfits_any W a b c d e f g h)
    rw [HT.out] at CF
    clear hgo hgE hgM hmo hke x0
    refine HKx.out _ _ ?_
    go_wp2_with fail
    refine CF.out.mono ?_
    rintro e1 w1 ⟨rfl, hB1⟩
    have HG1 := HGO.out.keep (C := w1) fun b hb => hB1.block b (HGO.out.lt b hb)
    have st1 : StO (fun _ => False) W w1 := ⟨hB1.size, fun b hb _ => hB1.block b hb, hB1.os, hB1.tape, hB1.output⟩
    have HM1 := HMO.out.st st1 (fun _ h => h.elim) (fun _ _ h => h)
    have x0 := HM1.at m0.out
    have x3 := HM1.at m3.out
    have x4 := HM1.at m4.out
    have c03 : w1.cell? ⟨b0, 3, none⟩ = some (.int .i64 d) := (cell_of_row _ _ _ _ _ _ x0).trans rfl
    have c04 : w1.cell? ⟨b0, 4, none⟩ = some (.int .i64 e) := (cell_of_row _ _ _ _ _ _ x0).trans rfl
    have c1 : w1.cell? ⟨b1, 0, none⟩ = some (.slice p L cc) := HM1.cell m1.out
    have c3 : w1.cell? ⟨b3, 0, none⟩ = some (.slice none 0 0) := HM1.cell m3.out
    have c4 : w1.cell? ⟨b4, 0, none⟩ = some (.bool false) := HM1.cell m4.out
    have f3 : w1.frozen? ⟨b3, 0, none⟩ = false := by simp [World.frozen?, x3]
    have f4 : w1.frozen? ⟨b4, 0, none⟩ = false := by simp [World.frozen?, x4]
    have c5 : w1.cell? ⟨b5, 0, none⟩ = some (.slice pg N cg) := (cell_of_row _ _ _ _ _ _ HG1.c).trans rfl
    have n53 : ¬ (b5 = b3) := by have := SZ.out; omega
    have n54 : ¬ (b5 = b4) := by have := SZ.out; omega
    have n43 : ¬ (b4 = b3) := by have := SZ.out; omega
    have n34 : ¬ (b3 = b4) := by have := SZ.out; omega
    obtain ⟨W8, HW8⟩ : ∃ x, Hid (((w1.setCell ⟨b3, 0, none⟩ (.slice pg N cg)).setCell ⟨b4, 0, none⟩ (.bool true)).drew = x) := ⟨_, rfl⟩
    have Y3 : Hid (W8.heap[b3]? = some (.cells #[.slice pg N cg] 32 (0, 0))) := hid (by
      rw [← HW8.out]
      exact (heap_setCell_other _ ⟨b4, 0, none⟩ b3 _ (by simpa using n34)).trans ((bk_setC x3).trans rfl))
    have Y4 : Hid (W8.heap[b4]? = some (.cells #[.bool true] 4 (0, 0))) := hid (by
      rw [← HW8.out]
      exact (bk_setC (cs := #[.bool false]) (t := 4) ((heap_setCell_other w1 ⟨b3, 0, none⟩ b4 _ (by simpa using n43)).trans x4)).trans rfl)
    have st8 : StO (fun b => b = b3 ∨ b = b4) w1 W8 := by
      refine ⟨by rw [← HW8.out]; show _ ≤ ((w1.setCell _ _).setCell _ _).heap.size; simp, fun b _ hx => ?_, by rw [← HW8.out]; exact ⟨rfl, rfl, rfl⟩⟩
      rw [← HW8.out]
      exact (heap_setCell_other _ ⟨b4, 0, none⟩ b _ (by simpa using fun e => hx (.inr e))).trans (heap_setCell_other _ ⟨b3, 0, none⟩ b _ (by simpa using fun e => hx (.inl e)))
    have HM8 : MO w D [] (fun i => D i ∨ i = d') W8 := HM1.wr st8 (fun b hb => by have := SZ.out; rcases hb with e | e <;> omega) (fun p hp => by simp at hp)
    have hx3 : ∀ b, b = b3 ∨ b = b4 → ¬ goB b5 (.slice pg N cg) xs b := fun b e => by
      rcases e with rfl | rfl
      · exact HGM.out _ m3.out
      · exact HGM.out _ m4.out
    have N3 : Hid (b3 ≠ d') := hid fun e => (HMO.out.m _ m3.out).2 (.inr e)
    have N4 : Hid (b4 ≠ d') := hid fun e => (HMO.out.m _ m4.out).2 (.inr e)
    have hdw : d' < w1.heap.size := by have := (Array.getElem?_eq_some_iff.1 hdf).1; have := hB1.size; omega
    have HD8 : Hid (W8.heap[d']? = some (.deferred (some []))) := hid ((st8.fr d' hdw (fun e => by
      rcases e with e | e
      · exact N3.out e.symm
      · exact N4.out e.symm)).trans ((hB1.block d' (Array.getElem?_eq_some_iff.1 hdf).1).trans hdf))
    have HG8 : Hid (GO B b5 (.slice pg N cg) xs (csL l s N) (W8.putObj d' (.deferred none))) := hid ((HG1.keep (C := W8) fun b hb => st8.fr b (HG1.lt b hb) (fun e => hx3 b e hb)).keep fun b hb => World.putObj_heap_other (fun e => HGE.out b hb (.inr e)))
    have hke8 : KE D wA W8 := HKE.out.trans ((st1.ke (fun i hi => by have := HDl.out i hi; have := BA.out.size; have := HKE.out.1; omega) (fun _ h => h.elim)).trans (st8.ke (fun i hi => by have := HDl.out i hi; have := BA.out.size; have := HKE.out.1; have := hB1.size; omega) (fun b hb q => by have := HDl.out b q; have := SZ.out; omega)))
    have HBL := hid (fin W8 d' hd hke8 HM8.o HM8.s HM8.g)
    have HSS : Hid ((fun V : World => V.cell? ⟨b5, 0, none⟩ = some (.slice pg N cg)) w1.drew) := hid c5
    have hNe : (t = true → (L : Int) = d → (N : Int) = e) ∧ ((t = false ∨ ¬ ((L : Int) = d)) → N = 0) := by
      have hN := HN.out
      rw [HT.out] at hN
      unfold csN at hN
      rw [HL.out] at hN
      constructor
      · rintro rfl hL
        rw [if_pos ⟨rfl, hL⟩] at hN
        have hft : Ft a b c d e f g h := of_decide_eq_true HT.out
        have hok := hft.1
        unfold OkS at hok
        have h2 := hft.2
        simp only [shR, List.cons.injEq] at h2
        obtain ⟨-, -, -, -, he, -⟩ := h2
        have := pcN_up (len := L) (size := c.toNat) (by omega)
        rw [hN, show ((c.toNat : Nat) : Int) = c by omega, hL] at this
        rw [he, this]
      · intro hor
        rw [if_neg (fun q => hor.elim (fun z => by rw [z] at q; exact absurd q.1 (by decide)) (fun z => z q.2))] at hN
        exact hN.symm
    clear hB1 HG1 st1 HM1 x0 x3 x4 st8 HM8 hx3 hdw hke8 hdf hd CF
    have HNe := hid hNe
    clear hNe
    cases t with
    | false =>
      have hN0 : (N : Int) = 0 := by have := HNe.out.2 (.inl rfl); omega
      go_wp2_with fail
      refine out_region_N hmx 6 (S := fun V : World => V.cell? ⟨b5, 0, none⟩ = some (.slice pg N cg)) ?_
      change Ev.wpN _ _ _ _ _ _ _ _ _ (World.drew _)
      refine Ev.wpN_load (i := 0) (v := ?_) rfl (by kernel_rfl) (by kernel_rfl) (by kernel_rfl) (fun _ _ _ h => by cases h.1) (by rfl) (by kernel_rfl) (Or.inl ⟨by rfl, ?q0⟩) HSS.out ?_
      case q0 => intro w hSw; have hz0 := hSw; go_simp; rfl
      simp only [Act.put, List.getElem_toArray, List.getElem_cons_zero, List.getElem_cons_succ, List.setIfInBounds_toArray, List.set_cons_zero, List.set_cons_succ]
      refine Ev.wpN_load (i := 1) (v := ?_) rfl (by kernel_rfl) (by kernel_rfl) (by kernel_rfl) (fun _ _ _ h => by cases h.1) (by rfl) (by kernel_rfl) (Or.inl ⟨by rfl, ?q1⟩) HSS.out ?_
      case q1 => intro w hSw; have hz0 := hSw; go_simp; rfl
      simp only [Act.put, List.getElem_toArray, List.getElem_cons_zero, List.getElem_cons_succ, List.setIfInBounds_toArray, List.set_cons_zero, List.set_cons_succ]
      refine Ev.wpN_load (i := 2) (v := ?_) rfl (by kernel_rfl) (by kernel_rfl) (by kernel_rfl) (fun _ _ _ h => by cases h.1) (by rfl) (by kernel_rfl) (Or.inl ⟨by rfl, ?q2⟩) HSS.out ?_
      case q2 => intro w hSw; have hz0 := hSw; go_simp; rfl
      simp only [Act.put, List.getElem_toArray, List.getElem_cons_zero, List.getElem_cons_succ, List.setIfInBounds_toArray, List.set_cons_zero, List.set_cons_succ]
      refine Ev.wpN_load (i := 3) (v := ?_) rfl (by kernel_rfl) (by kernel_rfl) (by kernel_rfl) (fun _ _ _ h => by cases h.1) (by rfl) (by kernel_rfl) (Or.inl ⟨by rfl, ?q3⟩) HSS.out ?_
      case q3 => intro w hSw; have hz0 := hSw; go_simp; rfl
      simp only [Act.put, List.getElem_toArray, List.getElem_cons_zero, List.getElem_cons_succ, List.setIfInBounds_toArray, List.set_cons_zero, List.set_cons_succ]
      refine Ev.wpN_load (i := 4) (v := ?_) rfl (by kernel_rfl) (by kernel_rfl) (by kernel_rfl) (fun _ _ _ h => by cases h.1) (by rfl) (by kernel_rfl) (Or.inl ⟨by rfl, ?q4⟩) HSS.out ?_
      case q4 => intro w hSw; have hz0 := hSw; go_simp; rfl
      simp only [Act.put, List.getElem_toArray, List.getElem_cons_zero, List.getElem_cons_succ, List.setIfInBounds_toArray, List.set_cons_zero, List.set_cons_succ]
      refine Ev.wpN_step (i := 5) (by kernel_rfl) rfl rfl ?_
      go_simp
      try simp only [Act.put, List.getElem_toArray, List.getElem_cons_zero, List.getElem_cons_succ, List.setIfInBounds_toArray, List.set_cons_zero, List.set_cons_succ]
      refine Ev.wpN_step (i := 6) (by kernel_rfl) rfl rfl ?_
      go_simp
      refine Ev.wpN_end (by kernel_rfl) ⟨rfl, ?_⟩
      rename_i K hK
      refine hK _ _ ?_
      clear hK K
      go_wp2_with fail
      rw [HW8.out]
      refine ⟨by simp, .inl ⟨_, _, rfl, run_takeDeferred HD8.out, ?_⟩⟩
      refine ⟨_, results_listC rfl _ _ b3 b4 pg _ cg true rfl rfl ?_ ?_, N, _, xs, (by omega), rfl, HG8.out.g.low (by have := HB5.out; omega), HBL.out⟩
      · exact (World.cell?_of_block (a := ⟨b3, 0, none⟩) (World.putObj_heap_other N3.out)).trans ((cell_of_row _ _ _ _ _ _ Y3.out).trans rfl)
      · exact (World.cell?_of_block (a := ⟨b4, 0, none⟩) (World.putObj_heap_other N4.out)).trans ((cell_of_row _ _ _ _ _ _ Y4.out).trans rfl)
    | true =>
      by_cases hLd : (L : Int) = d
      · have hNE := HNe.out.1 rfl hLd
        go_wp2_with fail
        refine out_region_N hmx 6 (S := fun V : World => V.cell? ⟨b5, 0, none⟩ = some (.slice pg N cg)) ?_
        change Ev.wpN _ _ _ _ _ _ _ _ _ (World.drew _)
        refine Ev.wpN_load (i := 0) (v := ?_) rfl (by kernel_rfl) (by kernel_rfl) (by kernel_rfl) (fun _ _ _ h => by cases h.1) (by rfl) (by kernel_rfl) (Or.inl ⟨by rfl, ?q0⟩) HSS.out ?_
        case q0 => intro w hSw; have hz0 := hSw; go_simp; rfl
        simp only [Act.put, List.getElem_toArray, List.getElem_cons_zero, List.getElem_cons_succ, List.setIfInBounds_toArray, List.set_cons_zero, List.set_cons_succ]
        refine Ev.wpN_load (i := 1) (v := ?_) rfl (by kernel_rfl) (by kernel_rfl) (by kernel_rfl) (fun _ _ _ h => by cases h.1) (by rfl) (by kernel_rfl) (Or.inl ⟨by rfl, ?q1⟩) HSS.out ?_
        case q1 => intro w hSw; have hz0 := hSw; go_simp; rfl
        simp only [Act.put, List.getElem_toArray, List.getElem_cons_zero, List.getElem_cons_succ, List.setIfInBounds_toArray, List.set_cons_zero, List.set_cons_succ]
        refine Ev.wpN_load (i := 2) (v := ?_) rfl (by kernel_rfl) (by kernel_rfl) (by kernel_rfl) (fun _ _ _ h => by cases h.1) (by rfl) (by kernel_rfl) (Or.inl ⟨by rfl, ?q2⟩) HSS.out ?_
        case q2 => intro w hSw; have hz0 := hSw; go_simp; rfl
        simp only [Act.put, List.getElem_toArray, List.getElem_cons_zero, List.getElem_cons_succ, List.setIfInBounds_toArray, List.set_cons_zero, List.set_cons_succ]
        refine Ev.wpN_load (i := 3) (v := ?_) rfl (by kernel_rfl) (by kernel_rfl) (by kernel_rfl) (fun _ _ _ h => by cases h.1) (by rfl) (by kernel_rfl) (Or.inl ⟨by rfl, ?q3⟩) HSS.out ?_
        case q3 => intro w hSw; have hz0 := hSw; go_simp; rfl
        simp only [Act.put, List.getElem_toArray, List.getElem_cons_zero, List.getElem_cons_succ, List.setIfInBounds_toArray, List.set_cons_zero, List.set_cons_succ]
        refine Ev.wpN_load (i := 4) (v := ?_) rfl (by kernel_rfl) (by kernel_rfl) (by kernel_rfl) (fun _ _ _ h => by cases h.1) (by rfl) (by kernel_rfl) (Or.inl ⟨by rfl, ?q4⟩) HSS.out ?_
        case q4 => intro w hSw; have hz0 := hSw; go_simp; rfl
        simp only [Act.put, List.getElem_toArray, List.getElem_cons_zero, List.getElem_cons_succ, List.setIfInBounds_toArray, List.set_cons_zero, List.set_cons_succ]
        refine Ev.wpN_step (i := 5) (by kernel_rfl) rfl rfl ?_
        go_simp
        try simp only [Act.put, List.getElem_toArray, List.getElem_cons_zero, List.getElem_cons_succ, List.setIfInBounds_toArray, List.set_cons_zero, List.set_cons_succ]
        refine Ev.wpN_step (i := 6) (by kernel_rfl) rfl rfl ?_
        go_simp
        refine Ev.wpN_end (by kernel_rfl) ⟨rfl, ?_⟩
        rename_i K hK
        refine hK _ _ ?_
        clear hK K
        go_wp2_with fail
        rw [HW8.out]
        refine ⟨by simp, .inl ⟨_, _, rfl, run_takeDeferred HD8.out, ?_⟩⟩
        refine ⟨_, results_listC rfl _ _ b3 b4 pg _ cg true rfl rfl ?_ ?_, N, _, xs, (by omega), rfl, HG8.out.g.low (by have := HB5.out; omega), HBL.out⟩
        · exact (World.cell?_of_block (a := ⟨b3, 0, none⟩) (World.putObj_heap_other N3.out)).trans ((cell_of_row _ _ _ _ _ _ Y3.out).trans rfl)
        · exact (World.cell?_of_block (a := ⟨b4, 0, none⟩) (World.putObj_heap_other N4.out)).trans ((cell_of_row _ _ _ _ _ _ Y4.out).trans rfl)
      · have hN0 : (N : Int) = 0 := by have := HNe.out.2 (.inr hLd); omega
        go_wp2_with fail
        refine out_region_N hmx 6 (S := fun V : World => V.cell? ⟨b5, 0, none⟩ = some (.slice pg N cg)) ?_
        change Ev.wpN _ _ _ _ _ _ _ _ _ (World.drew _)
        refine Ev.wpN_load (i := 0) (v := ?_) rfl (by kernel_rfl) (by kernel_rfl) (by kernel_rfl) (fun _ _ _ h => by cases h.1) (by rfl) (by kernel_rfl) (Or.inl ⟨by rfl, ?q0⟩) HSS.out ?_
        case q0 => intro w hSw; have hz0 := hSw; go_simp; rfl
        simp only [Act.put, List.getElem_toArray, List.getElem_cons_zero, List.getElem_cons_succ, List.setIfInBounds_toArray, List.set_cons_zero, List.set_cons_succ]
        refine Ev.wpN_load (i := 1) (v := ?_) rfl (by kernel_rfl) (by kernel_rfl) (by kernel_rfl) (fun _ _ _ h => by cases h.1) (by rfl) (by kernel_rfl) (Or.inl ⟨by rfl, ?q1⟩) HSS.out ?_
        case q1 => intro w hSw; have hz0 := hSw; go_simp; rfl
        simp only [Act.put, List.getElem_toArray, List.getElem_cons_zero, List.getElem_cons_succ, List.setIfInBounds_toArray, List.set_cons_zero, List.set_cons_succ]
        refine Ev.wpN_load (i := 2) (v := ?_) rfl (by kernel_rfl) (by kernel_rfl) (by kernel_rfl) (fun _ _ _ h => by cases h.1) (by rfl) (by kernel_rfl) (Or.inl ⟨by rfl, ?q2⟩) HSS.out ?_
        case q2 => intro w hSw; have hz0 := hSw; go_simp; rfl
        simp only [Act.put, List.getElem_toArray, List.getElem_cons_zero, List.getElem_cons_succ, List.setIfInBounds_toArray, List.set_cons_zero, List.set_cons_succ]
        refine Ev.wpN_load (i := 3) (v := ?_) rfl (by kernel_rfl) (by kernel_rfl) (by kernel_rfl) (fun _ _ _ h => by cases h.1) (by rfl) (by kernel_rfl) (Or.inl ⟨by rfl, ?q3⟩) HSS.out ?_
        case q3 => intro w hSw; have hz0 := hSw; go_simp; rfl
        simp only [Act.put, List.getElem_toArray, List.getElem_cons_zero, List.getElem_cons_succ, List.setIfInBounds_toArray, List.set_cons_zero, List.set_cons_succ]
        refine Ev.wpN_load (i := 4) (v := ?_) rfl (by kernel_rfl) (by kernel_rfl) (by kernel_rfl) (fun _ _ _ h => by cases h.1) (by rfl) (by kernel_rfl) (Or.inl ⟨by rfl, ?q4⟩) HSS.out ?_
        case q4 => intro w hSw; have hz0 := hSw; go_simp; rfl
        simp only [Act.put, List.getElem_toArray, List.getElem_cons_zero, List.getElem_cons_succ, List.setIfInBounds_toArray, List.set_cons_zero, List.set_cons_succ]
        refine Ev.wpN_step (i := 5) (by kernel_rfl) rfl rfl ?_
        go_simp
        try simp only [Act.put, List.getElem_toArray, List.getElem_cons_zero, List.getElem_cons_succ, List.setIfInBounds_toArray, List.set_cons_zero, List.set_cons_succ]
        refine Ev.wpN_step (i := 6) (by kernel_rfl) rfl rfl ?_
        go_simp
        refine Ev.wpN_end (by kernel_rfl) ⟨rfl, ?_⟩
        rename_i K hK
        refine hK _ _ ?_
        clear hK K
        go_wp2_with fail
        rw [HW8.out]
        refine ⟨by simp, .inl ⟨_, _, rfl, run_takeDeferred HD8.out, ?_⟩⟩
        refine ⟨_, results_listC rfl _ _ b3 b4 pg _ cg true rfl rfl ?_ ?_, N, _, xs, (by omega), rfl, HG8.out.g.low (by have := HB5.out; omega), HBL.out⟩
        · exact (World.cell?_of_block (a := ⟨b3, 0, none⟩) (World.putObj_heap_other N3.out)).trans ((cell_of_row _ _ _ _ _ _ Y3.out).trans rfl)
        · exact (World.cell?_of_block (a := ⟨b4, 0, none⟩) (World.putObj_heap_other N4.out)).trans ((cell_of_row _ _ _ _ _ _ Y4.out).trans rfl)
end Go.Proofs.Ytjfebbhnjcnepaa
namespace Go.Proofs.Ytjfebbhnjcnepaa
open Go.RowKit
def InU (us : List Value) (b : Nat) : Prop := ∃ j, j < us.length ∧ (us.getD j undef).ownBlock = some b
structure BG (us : List Value) (B : Nat) (w w' : World) : Prop where
  bel : Below B w w'
  loc : ∀ b, b < w.heap.size → ¬ InU us b → w'.heap[b]? = w.heap[b]?
theorem BG.refl (us : List Value) (B : Nat) (w : World) : BG us B w w := ⟨Below.refl _ _, fun _ _ _ => rfl⟩
theorem BG.size {us : List Value} {B : Nat} {w w' : World} (h : BG us B w w') : w.heap.size ≤ w'.heap.size := h.bel.size
theorem BG.drew {us : List Value} {B : Nat} {w w' : World} (h : BG us B w w') : BG us B w w'.drew := ⟨h.bel.drew, h.loc⟩
theorem BG.alloc {us : List Value} {B : Nat} {w w' : World} (h : BG us B w w') (hB : B ≤ w'.heap.size) (o : Obj) : BG us B w (w'.alloc o) :=
  ⟨h.bel.alloc hB o, fun b q n => (heap_alloc_old w' o (Nat.lt_of_lt_of_le q h.size)).trans (h.loc b q n)⟩
theorem BG.setCell {us : List Value} {B : Nat} {w w' : World} (h : BG us B w w') {g i : Nat} (hp : B ≤ g) (u : Value) (hT : InU us g) : BG us B w (w'.setCell ⟨g, i, none⟩ u) :=
  ⟨h.bel.setCell hp u, fun b q n => by
    have e := h.loc b q n
    rw [← e]
    have : g ≠ b := fun x => n (x ▸ hT)
    simp [World.setCell, Array.getElem?_modify, this]⟩
theorem BG.grown {us : List Value} {B : Nat} {w w' w2 : World} {row : Option Nat} (h : BG us B w w') (hg : w'.grownBy w2 row) (hB : B ≤ w'.heap.size) (hr : ∀ k, row = some k → B ≤ k) (hT : ∀ k, row = some k → InU us k ∨ w.heap.size ≤ k) : BG us B w w2 :=
  ⟨h.bel.grown hg hB hr, fun b q n => by
    have e := h.loc b q n
    rw [← e]
    refine hg.block b (Nat.lt_of_lt_of_le q h.size) (fun x => ?_)
    rcases hT b x.symm with h2 | h2
    · exact n h2
    · omega⟩
set_option maxHeartbeats 4000000 in
theorem apart_anyG (B : Nat) (w : World) (v : Value) (us : List Value) (ls : List (List Int)) (hv : HV w v us) (ha : Apt B w us ls) (hB : B ≤ w.heap.size) (hn : us.length ≤ 5864062014634) (hls : ∀ k, (ls.getD k []).length ≤ 140737488351232) :
    Calls Try.prog 9 #[v] w fun e w' => e = .returned (.bool true) ∧ BG us B w w' := by
  obtain ⟨p, c, e, hlc, hm, hcell⟩ := id hv
  unfold maxLen at hm
  subst e
  have A : Hid (0 < us.length → ∃ b off, p = some ⟨b, off, none⟩) := fun h0 => by
    obtain ⟨b, off, e, _⟩ := hcell (by intro e; subst e; simp at h0)
    exact ⟨b, off, e⟩
  have HV0 := hid hv
  have HA0 := hid (Ph1.start ha)
  have HLS := hid hls
  clear hcell hv ha hls
  go_enter Try.func9, Try.ntmps9
  go_wp2
  go_loopw [3] (fun k wr => ∃ K : Nat, K ≤ us.length ∧ k = .int .i64 K ∧ Hid (Ph1 B wr us ls K 0) ∧ Hid (HV wr (.slice p us.length c) us) ∧ Hid (BG us B w wr)) (fun k _ => us.length - (intOf k).toNat)
  case atStart => exact ⟨0, Nat.zero_le _, rfl, HA0, HV0, BG.refl _ _ _⟩
  case round =>
    clear HA0 HV0
    obtain ⟨K, hK, rfl, HP, HVr, HBr⟩ := hrel
    by_cases hlt : K < us.length
    · obtain ⟨b, off, rfl⟩ := A.out (by omega)
      have hcells : Hid (∀ wz, HV wz (.slice (some ⟨b, off, none⟩) us.length c) us → wz.cell? ⟨b, off + K, none⟩ = some (us.getD K undef)) := by
        intro wz hz
        obtain ⟨p', c', e', _, _, h4⟩ := hz
        obtain ⟨b', off', e2, _, hc⟩ := h4 (by intro e; subst e; simp at hlt)
        simp only [Value.slice.injEq, true_and] at e'
        rw [← e'.1] at e2
        simp only [Option.some.injEq, Addr.mk.injEq, and_true] at e2
        obtain ⟨rfl, rfl⟩ := e2
        exact hc K hlt
      obtain ⟨n, HN⟩ : ∃ n, Hid ((ls.getD K []).length = n) := ⟨_, rfl⟩
      have hn2 : n ≤ 140737488351232 := by rw [← HN.out]; exact HLS.out K
      obtain ⟨pk, ck, HU⟩ : ∃ pk ck, Hid (us.getD K undef = .slice pk n ck) := by
        obtain ⟨pk, ck, e⟩ := HP.out.slice K hlt
        rw [HN.out] at e
        exact ⟨pk, ck, e⟩
      go_wp2
      go_loopw [4] (fun i wz => ∃ I : Nat, I ≤ n ∧ i = .int .i64 I ∧ Hid (Ph1 B wz us ls K I) ∧ Hid (HV wz (.slice (some ⟨b, off, none⟩) us.length c) us) ∧ Hid (BG us B w wz)) (fun i _ => n - (intOf i).toNat)
      case atStart => exact ⟨0, Nat.zero_le _, rfl, HP, HVr, HBr⟩
      case round =>
        clear HP HVr HBr
        obtain ⟨I, hI, rfl, HP, HVr, HBr⟩ := hrel
        have hc1 := hcells.out wr HVr.out
        rw [HU.out] at hc1
        by_cases hli : I < n
        · obtain ⟨g, ck', e, hck, hck2, hgB, hBT, hcc⟩ := HP.out.some K hlt (by rw [HN.out]; omega)
          rw [HU.out, HN.out] at e
          simp only [Value.slice.injEq, true_and] at e
          obtain ⟨rfl, rfl⟩ := e
          obtain ⟨⟨z, hz⟩, hfz⟩ := hcc I (by rw [HN.out]; exact hli)
          rw [HN.out] at hck2
          unfold maxLen at hck
          have HBT := hid hBT
          have hgb : b ≠ g := (HVr.out.block (by omega)).ne hBT (by decide)
          have hbg : g ≠ b := Ne.symm hgb
          clear hcc hBT
          go_wp2
          go_region_held3 (fun w' => w'.cell? ⟨b, off + K, none⟩ = some (.slice (some ⟨g, 0, none⟩) n ck)) (go_keep) ((go_at_call 11; refine (mark_eq _ (K + 1) I _ _ (wrap_succ K (by omega)) rfl (by omega) (by omega)).mono ?_; rintro e wz ⟨rfl, hw⟩; have hw' := hw.symm; subst hw'; clear hw))
          have hst := HP.out.step hlt (by rw [HN.out]; exact hli) HU.out
          have HP2 := hid hst.1.drew
          have HV2 := hid (HVr.out.grown hst.2 (fun g' e => by cases e; exact HBT.out)).drew
          have HB2 := hid (HBr.out.setCell (g := g) (i := I) hgB (.int .u8 (mkB (K + 1) I)) ⟨K, hlt, by rw [HU.out]; rfl⟩).drew
          clear hst
          go_wp2
          exact ⟨⟨I + 1, by omega, by go_num, HP2, HV2, HB2⟩, by simp [intOf]; omega⟩
        · have HP2 := hid (HP.out.next (by rw [HN.out]; omega))
          go_wp2
          exact ⟨⟨K + 1, by omega, by go_num, HP2, HVr, HBr⟩, by simp [intOf]; omega⟩
    · have hKn : K = us.length := by omega
      have HPl : Hid (Pool B wr us ls 0 0 []) := by
        have := HP.out
        rw [hKn] at this
        exact this.pool
      obtain ⟨N, HN⟩ : ∃ N, Hid (wr.heap.size = N) := ⟨_, rfl⟩
      have HNu : Hid (∀ j b, j < us.length → (us.getD j undef).ownBlock = some b → b < N) := fun j b hj hb => by rw [← HN.out]; exact (HPl.out.2.1.2.1 j b hj hb).1
      have HNv : Hid (∀ b off n c', Value.slice p us.length c = .slice (some ⟨b, off, none⟩) n c' → 0 < us.length → b < N) := fun b off n c' e h0 => by
        rw [← HN.out]
        have h1 := HVr.out
        rw [e] at h1
        obtain ⟨cur, fz, hh⟩ := h1.block h0
        exact (Array.getElem?_eq_some_iff.1 hh).1
      have HNW : Hid (w.heap.size ≤ N) := by rw [← HN.out]; exact HBr.out.size
      have HNB : Hid (B ≤ N) := by rw [← HN.out]; exact Nat.le_trans hB HBr.out.size
      have HNs : Hid (N ≤ wr.heap.size) := by rw [HN.out]; exact Nat.le_refl N
      clear HP hKn HN
      go_wp2
      go_loopw [5, 6] (fun gs k wz => ∃ (K : Nat) (gl : List Value), K ≤ us.length ∧ k = .int .i64 K ∧ Hid (Pool B wz us ls K K gl) ∧ Hid (wz.ownsRow N 24 1 gs K gl) ∧ Hid (HV wz (.slice p us.length c) us) ∧ Hid (BG us B w wz) ∧ Hid (N ≤ wz.heap.size)) (fun _ k _ => us.length - (intOf k).toNat)
      case atStart => exact ⟨0, [], Nat.zero_le _, rfl, HPl, World.ownsRow_nil _ _ _ _, HVr, HBr, HNs⟩
      case round =>
        clear HPl HVr HBr HNs hlt hK
        obtain ⟨K, gl, hK, rfl, HP, HG, HVr, HBr, HNs⟩ := hrel
        by_cases hlt : K < us.length
        · obtain ⟨b, off, rfl⟩ := A.out (by omega)
          obtain ⟨n, HNn⟩ : ∃ n, Hid ((ls.getD K []).length = n) := ⟨_, rfl⟩
          have hn2 : n ≤ 140737488351232 := by rw [← HNn.out]; exact HLS.out K
          obtain ⟨pk, ck, HU⟩ : ∃ pk ck, Hid (us.getD K undef = .slice pk n ck) := by
            obtain ⟨pk, ck, e⟩ := HP.out.2.1.2.2 K hlt
            rw [HNn.out] at e
            exact ⟨pk, ck, e⟩
          have hc1 := HVr.out.cellAt K hlt
          rw [HU.out] at hc1
          have HC := hid (Cur.start HP.out hlt)
          rw [HU.out] at HC
          go_wp2
          go_loopw [7, 8] (fun g i wz => ∃ m : Nat, m ≤ 70 ∧ i = .int .i64 m ∧ Hid (Cur B wz us ls K gl g m) ∧ Hid (∀ k, g.ownBlock = some k → InU us k ∨ N ≤ k) ∧ Hid (wz.ownsRow N 24 1 u5 K gl) ∧ Hid (HV wz (.slice (some ⟨b, off, none⟩) us.length c) us) ∧ Hid (BG us B w wz) ∧ Hid (N ≤ wz.heap.size)) (fun _ i _ => 70 - (intOf i).toNat)
          case atStart => exact ⟨0, Nat.zero_le _, rfl, HC, (fun k e => .inl ⟨K, hlt, by rw [HU.out]; exact e⟩), HG, HVr, HBr, HNs⟩
          case round =>
            clear HC HG HVr HBr HNs hc1
            obtain ⟨m, hm70, rfl, HC, HIN, HG, HVr, HBr, HNs⟩ := hrel
            have hc1 := HVr.out.cellAt K hlt
            rw [HU.out] at hc1
            by_cases hlm : m < 70
            · have hlm2 : (m : Int) < 70 := by omega
              go_wp2_with fail
              refine (mark_eq wr (K + 1) (n + m) _ _ (by omega) (by omega) (by omega) (by omega)).mono ?_
              rintro e wz ⟨rfl, hw⟩
              have hw' := hw.symm
              subst hw'
              clear hw
              have HCa := hid (HC.out.alloc hlt (.cells #[.int .u8 (mkB (K + 1) (n + m))] 5))
              have HO := HCa.out.2.1
              rw [HNn.out] at HO
              have HOh := hid HO
              clear HO
              go_wp2_with (at_builtin; refine wpList_append_byte rfl _ _ rfl B _ (n + m) _ rfl HOh.out ⟨wr.heap.size, 0, none⟩ 1 (mkB (K + 1) (n + m)) rfl (by simp) ?q1 ?q2 ?_)
              case q1 => omega
              case q2 => have := HBr.out.size; simp; omega
              intro g' w2 hown2 hgr2 hd2
              have hBT := own_BT HOh.out
              have hal := World.grownBy_alloc wr (.cells #[.int .u8 (mkB (K + 1) (n + m))] 5) none
              have HC2 := hid (HCa.out.step hlt (by rw [HNn.out]; exact hown2) hgr2 (by rw [World.size_alloc]; exact hd2))
              have HG2 : Hid (w2.ownsRow N 24 1 u5 K gl) := by
                have h1 := HG.out.alloc (.cells #[.int .u8 (mkB (K + 1) (n + m))] 5)
                refine h1.kept hgr2 ?_
                cases hx : u7.ownBlock with
                | none => cases hy : u5.ownBlock <;> simp
                | some q =>
                  obtain ⟨cur, fz, hh⟩ := hBT q hx
                  exact .inr (own_block_ne h1 hh (by decide))
              have HV2 := hid ((HVr.out.grown hal (fun g e => by cases e)).grown hgr2 hBT)
              have HB2 := hid ((HBr.out.alloc (Nat.le_trans hB HBr.out.size) (.cells #[.int .u8 (mkB (K + 1) (n + m))] 5)).grown hgr2 (by have := HBr.out.size; simp; omega) (fun k e => (HOh.out.lt k e).1) (fun k e => (HIN.out k e).imp id (fun q => Nat.le_trans HNW.out q)))
              have HIN2 : Hid (∀ k, g'.ownBlock = some k → InU us k ∨ N ≤ k) := fun k e => by
                rcases hd2 with hd | hd
                · exact HIN.out k (hd ▸ e)
                · right
                  have h2 := HNs.out
                  have h3 := hd.1.symm.trans e
                  simp only [Option.some.injEq] at h3
                  omega
              have HN2 : Hid (N ≤ w2.heap.size) := by have h1 := hgr2.size; have h2 := HNs.out; simp at h1; exact Nat.le_trans h2 (by omega)
              clear hown2 hgr2 hd2 hBT hal
              go_wp2
              exact ⟨⟨m + 1, by omega, by go_num, HC2, HIN2, HG2, HV2, HB2, HN2⟩, by simp [intOf]; omega⟩
            · have e70 : m = 70 := by omega
              subst e70
              have HPn := hid (HC.out.finish hlt)
              have HOg := HC.out.2.1
              rw [HNn.out] at HOg
              obtain ⟨pg, cg, eg, _, _⟩ : ∃ pg cg, u7 = .slice pg (n + 70) cg ∧ True ∧ True := by
                rcases HOg.2 with ⟨_, e⟩ | ⟨g', cap, cur, e, _⟩
                · omega
                · exact ⟨_, _, e, trivial, trivial⟩
              subst eg
              obtain ⟨i0, hi, hz0, hz1, hz2⟩ := info_parts info_bytes
              have HGa := hid (HG.out.alloc (.cells #[.slice pg (n + 70) cg] 24))
              have hal := World.grownBy_alloc wr (.cells #[.slice pg (n + 70) cg] 24) none
              have tr : ∀ x : Option Nat, x = none ∨ x ≠ none := fun x => by cases x <;> simp
              have HPa := hid (HPn.out.grown hal (fun i _ => tr _) (fun j _ _ => tr _) (by omega))
              have HVa := hid (HVr.out.grown hal (fun g e => by cases e))
              have HBa := hid (HBr.out.alloc (Nat.le_trans hB HBr.out.size) (.cells #[.slice pg (n + 70) cg] 24))
              clear HOg tr hal
              go_wp2_with (at_builtin; refine wpList_append_own _ rfl _ _ 32 rfl N 24 i0 (.slice none 0 0) 1 24 Try.underlying32 hi hz0 hz1 hz2 rfl (by decide) _ K gl rfl HGa.out ⟨wr.heap.size, 0, none⟩ 1 1 [_] rfl rfl (cell_one_new _ _ _) ?q1 ?q2 ?q3 ?q4 ?_)
              case q1 => intro u hu; simp only [List.mem_singleton] at hu; subst hu; rfl
              case q2 => unfold maxLen; omega
              case q3 => omega
              case q4 => have := HNs.out; simp; omega
              intro gs' w2 hown2 hgr2 _
              have hlo : ∀ g, u5.ownBlock = some g → N ≤ g := fun g e => (HGa.out.lt g e).1
              have HP2 : Hid (Pool B w2 us ls (K + 1) (K + 1) (gl ++ [.slice pg (n + 70) cg])) := by
                refine HPa.out.grown hgr2 (fun i hi => ?_) (fun j hj _ => ?_) (by omega)
                · cases hx : u5.ownBlock with
                  | none => cases hy : ((gl ++ [Value.slice pg (n + 70) cg]).getD i undef).ownBlock <;> simp
                  | some q =>
                    obtain ⟨cur, fz, hh⟩ := own_BT HGa.out q hx
                    exact .inr (own_block_ne (HPa.out.2.2.1 i hi).1 hh (by decide))
                · cases hx : (us.getD j undef).ownBlock with
                  | none => exact .inl rfl
                  | some q =>
                    right
                    intro e
                    have h1 := HNu.out j q hj hx
                    have h2 := hlo q e.symm
                    omega
              have HV2 := hid (HVa.out.apart hgr2 hlo HNv.out)
              have HB2 := hid (HBa.out.grown hgr2 (by have := HBr.out.size; simp; omega) (fun k e => Nat.le_trans HNB.out (hlo k e)) (fun k e => .inr (Nat.le_trans HNW.out (hlo k e))))
              have HG2 : Hid (w2.ownsRow N 24 1 gs' (K + 1) (gl ++ [.slice pg (n + 70) cg])) := hown2
              have HN2 : Hid (N ≤ w2.heap.size) := by have h1 := hgr2.size; have h2 := HNs.out; simp at h1; exact Nat.le_trans h2 (by omega)
              clear hown2 hgr2 hlo
              go_wp2
              exact ⟨⟨K + 1, _, by omega, by go_num, HP2, HG2, HV2, HB2, HN2⟩, by simp [intOf]; omega⟩
        · have hKn : K = us.length := by omega
          subst hKn
          obtain ⟨pg, cg, eg⟩ : ∃ pg cg, u5 = .slice pg us.length cg := by
            rcases HG.out.2 with ⟨e, e2⟩ | ⟨g', cap, cur, e, _⟩
            · exact ⟨none, 0, by rw [e, e2]⟩
            · exact ⟨_, _, e⟩
          subst eg
          go_wp2
          go_loop [9] (fun k => ∃ Q : Nat, Q ≤ us.length ∧ k = .int .i64 Q) (fun k => us.length - (intOf k).toNat)
          case atStart => exact ⟨0, Nat.zero_le _, rfl⟩
          case round =>
            obtain ⟨Q, hQ, rfl⟩ := hrel
            by_cases hlq : Q < us.length
            · obtain ⟨b, off, rfl⟩ := A.out (by omega)
              obtain ⟨n, HNn⟩ : ∃ n, Hid ((ls.getD Q []).length = n) := ⟨_, rfl⟩
              have hn2 : n ≤ 140737488351232 := by rw [← HNn.out]; exact HLS.out Q
              have hc1 := HVr.out.cellAt Q hlq
              obtain ⟨hrow, hu⟩ := HP.out.2.2.1 Q hlq
              rw [HNn.out] at hrow hu
              obtain ⟨pk, ck, HU⟩ : ∃ pk ck, Hid (us.getD Q undef = .slice pk n ck) := by
                obtain ⟨pk, ck, e⟩ := HP.out.2.1.2.2 Q hlq
                rw [HNn.out] at e
                exact ⟨pk, ck, e⟩
              rw [HU.out] at hc1 hu
              obtain ⟨gg, capg, eg, _, hcg1, hcg2, hgc⟩ := ownsRow_cells HG.out (by omega)
              simp only [Value.slice.injEq, true_and] at eg
              obtain ⟨rfl, rfl⟩ := eg
              have hgl : gl.length = us.length := HP.out.1
              have hc2 := hgc Q (gl.getD Q undef) (by simp [List.getD, List.getElem?_eq_getElem (show Q < gl.length by omega)])
              rw [Nat.zero_add] at hc2
              obtain ⟨gq, capq, eq, _, hq1, hq2, hqc⟩ := ownsRow_cells hrow (by omega)
              rw [eq] at hc2
              have HQ : Hid (∀ I, I < n + 70 → wr.cell? ⟨gq, I, none⟩ = some (.int .u8 (mkB (Q + 1) I))) := fun I hI => by
                have hjl : I < (marksL (Q + 1) (n + 70)).length := by rw [marksL_length]; exact hI
                have := hqc I (.int .u8 (mkB (Q + 1) I)) (by rw [List.getElem?_map, List.getElem?_eq_getElem hjl, ← getD_of_lt hjl, marksL_getD _ _ _ hI]; rfl)
                rwa [Nat.zero_add] at this
              have HUc : Hid (∀ I, I < n → ∃ b' off', pk = some ⟨b', off', none⟩ ∧ wr.cell? ⟨b', off' + I, none⟩ = some (.int .u8 (mkB (Q + 1) I)) ∧ n ≤ ck) := fun I hI => by
                obtain ⟨b', off', c', e, h1, h2, hh⟩ := hu.ne (by rw [marksL_length]; omega)
                rw [marksL_length] at e hh h1
                simp only [Value.slice.injEq, true_and] at e
                obtain ⟨rfl, rfl⟩ := e
                have := hh I hI
                rw [marksL_getD _ _ _ hI] at this
                exact ⟨b', off', rfl, this, h1⟩
              unfold maxLen at hcg2 hq2
              clear hrow hu hgc hqc eq hgl
              go_wp2
              go_loop [10] (fun i => ∃ I : Nat, I ≤ n + 70 ∧ i = .int .i64 I) (fun i => n + 70 - (intOf i).toNat)
              case atStart => exact ⟨0, Nat.zero_le _, rfl⟩
              case round =>
                obtain ⟨I, hI, rfl⟩ := hrel
                by_cases hli : I < n + 70
                · have hx1 := HQ.out I hli
                  have hli2 : (I : Int) < (n : Int) + 70 := by omega
                  go_wp2_with fail
                  refine (mark_eq wr (Q + 1) I _ _ (by omega) rfl (by omega) (by omega)).mono ?_
                  rintro e wz ⟨rfl, hw⟩
                  have hw' := hw.symm
                  subst hw'
                  clear hw
                  obtain ⟨x, HX⟩ : ∃ x, Hid (mkB (Q + 1) I = x) := ⟨_, rfl⟩
                  rw [HX.out] at hx1 ⊢
                  have hxx : (x != x) = false := by simp
                  by_cases hln : I < n
                  · have hdn : decide ((I : Int) < (n : Int)) = true := by simp; omega
                    have hln2 : (I : Int) < (n : Int) := by omega
                    obtain ⟨b', off', rfl, hx2, _⟩ := HUc.out I hln
                    rw [HX.out] at hx2
                    go_wp2
                    exact ⟨⟨I + 1, by omega, by go_num⟩, by simp [intOf]; omega⟩
                  · have hdn : decide ((I : Int) < (n : Int)) = false := by simp; omega
                    go_wp2
                    exact ⟨⟨I + 1, by omega, by go_num⟩, by simp [intOf]; omega⟩
                · have hli2 : ¬ ((I : Int) < (n : Int) + 70) := by omega
                  go_wp2
                  exact ⟨⟨Q + 1, by omega, by go_num⟩, by simp [intOf]; omega⟩
            · go_wp2
              go_ret
              exact ⟨rfl, HBr.out⟩
end Go.Proofs.Ytjfebbhnjcnepaa
namespace Go.Proofs.Ytjfebbhnjcnepaa
open Go Go.RowKit Go.Shelf
theorem run_stFS (w : World) (a : Addr) (fn : Fn) (fi ca : Array Value) (m : Mode) : (store a (.func fn fi ca) m).run Try.prog w = stored Try.prog w a (.func fn fi ca) m := run_store _ w a _ m rfl
attribute [local go_sem] Oper.semAt_some run_stFS
theorem slice_hL (W : World) (b n c hi : Nat) (h1 : hi ≤ c) (h2 : 0 < c) : (Instr.slice 24 (.slice (some ⟨b, 0, none⟩) n c) none (some (.int .i64 (hi : Int))) none).run Try.prog W = .ok (.slice (some ⟨b, 0, none⟩) hi c) W := by
  have elm : Try.prog.elem 24 = 5 := by kernel_rfl
  have h := run_slice_h (P := Try.prog) W 24 (some ⟨b, 0, none⟩) n c (by rw [elm]; exact Try.underlying24) .i64 (hi : Int) (by omega) (by omega)
  rw [h, elm, size_u8, Result.andThen_ok, Int.toNat_natCast]
  unfold sliced
  rw [if_neg (by omega)]
  simp [Go.WideShapes.add_plain]
theorem yieldsIf_slC {P : Program} {ops : Array Oper} {S : World → Prop} {op : Oper} {a : Act} (hw : Region.wanted op (yielded ops a.tmps) = true) (t : TypeId) (x : Operand) (lo hi : Option Operand) (ht : P.underlying t = some (.slice (P.elem t))) (ho : op.op = .slice t x lo hi none) (vx : Value) (vl vh : Option Value) (hx : a.eval x = vx) (hl : lo.map a.eval = vl) (hh : hi.map a.eval = vh) (v : Value)
    (hr : ∀ w, S w → (Instr.slice t vx vl vh none).run P w = .ok v w) : YieldsIf P ops S op v a :=
  .inl ⟨hw, fun w hS => by
    unfold execOp
    simp only [ho, Sem.run_bind, Option.map_none, hx, hl, hh, run_sliceAt_slice w t _ _ _ _ ht, hr w hS, Result.andThen_ok]
    rfl⟩
theorem ch_held {P : Program} {ops : Array Oper} {Q : Exit → Act → World → Prop} {S : World → Prop} {id : Nat} {a : Act} {w : World} (hm : P.follows .mixedOrders = true) (hS : S w.drew)
    (h : S w.drew → wpAnyH P .any ops (fun e a' w' => e = .normal ∧ Q e a' w') S ops.size (Array.replicate ops.size false) a w.drew) : (Code.region id ops true).wp P Q a w :=
  Code.wp_mono (fun _ _ _ q => q.2) (wp_region_held_drew hm hS h)
theorem keyed3 {P : Nat → Nat → Array Value → World → Prop} {K : Act → World → Prop} {G : Prop} (A : Nat → Nat → Array Value → Act) (hkey : ∀ d gf lb W', P d gf lb W' → K (A d gf lb) W') (main : (∀ d gf lb W', P d gf lb W' → K (A d gf lb) W') → G) : G := main hkey
theorem elm22 : Try.prog.elem 24 = 5 := by kernel_rfl
theorem results_tmpC {P : Program} {fn : Func} {p : Tmp} (h : fn.results = #[.tmp p]) (tmps : Array Value) (w : World) (v : Value) (hp : tmps.getD p undef = v) : (results fn tmps).run P w = .ok v w := by
  have hp' : tmps[p]?.getD undef = v := by simpa using hp
  simp [results, h, hp']
theorem jn_MO {β : Type} (w : World) (D : Nat → Prop) (M : List (Nat × Obj)) (R : β → Prop) : JN (fun s E W => R s ∧ MO w D M E W) where
  more := fun s E A C ⟨r, q⟩ hg => ⟨r, q.more hg⟩
  turn := fun s E A C b ⟨r, q⟩ hE hg _ => ⟨r, q.turn hE hg⟩
  less := fun s E E' A ⟨r, q⟩ hl => ⟨r, q.less hl⟩
theorem MO.bel {w W : World} {D E : Nat → Prop} {M : List (Nat × Obj)} (h : MO w D M E W) (hk : KE D w W) : Below w.heap.size w W :=
  ⟨h.o.1, h.o.2.1, h.o.2.2, h.s, fun i hi => by
    by_cases q : D i
    · exact hk.2 i q
    · exact h.g i hi q⟩
theorem app_rows {w : World} {base B' n m c : Nat} {v : Value} {p : Option Addr} {xs us : List Value} (ty : TypeId) (hown : w.ownsRow base 24 1 v n xs) (hsrc : w.ownsRow B' 24 1 (.slice p m c) m us) (h1 : ∀ u ∈ us, u.oneCell' = true) (hn : (n + m) * 24 ≤ 140737488355328) (hbase : base ≤ w.heap.size) :
    ∃ v' w', (Builtin.append_ #[32, 32] ty #[v, .slice p m c]).run Try.prog w = .ok v' w' ∧ w'.ownsRow base 24 1 v' (n + m) (xs ++ us) ∧ w.grownBy w' v.ownBlock := by
  obtain ⟨i0, hi, hz0, hz1, hz2⟩ := info_parts info_bytes
  have hul : us.length = m := by have := hsrc.1; omega
  rcases hsrc.2 with ⟨e, h0⟩ | ⟨gg, cap, cur, e, _⟩
  · subst h0
    have e2 : us = [] := List.length_eq_zero_iff.1 hul
    subst e2
    rw [e, List.append_nil]
    exact ⟨v, w, run_append_owned_none (P := Try.prog) (w := w) base 32 ty 24 i0 1 Try.underlying32 hi v n xs hown, hown, ⟨rfl, rfl, rfl, Nat.le_refl _, fun _ _ _ => rfl⟩⟩
  · simp only [Value.slice.injEq] at e
    obtain ⟨rfl, -, rfl⟩ := e
    have hnews : ∀ j u, us[j]? = some u → w.cell? ((⟨gg, 0, none⟩ : Addr).add j) = some u := by
      intro j u hj
      have hjm : j < m := by
        have := (List.getElem?_eq_some_iff.1 hj).1
        omega
      have h5 := hsrc.cellAt j (by omega)
      rw [Go.WideShapes.add_plain, Nat.zero_add, h5]
      exact hj
    obtain ⟨v', w', hr, h2, h3, _⟩ := run_append_own (P := Try.prog) w base 32 ty 24 i0 (.slice none 0 0) 1 24 Try.underlying32 hi hz0 hz1 hz2 rfl (by decide) v n xs hown ⟨gg, 0, none⟩ m c us (by omega) hnews h1 (by unfold maxLen; omega) hn hbase
    exact ⟨v', w', hr, h2, h3⟩
section
variable {ops : Array Oper} {Q : Exit → Act → World → Prop} {o : Oper} {rest : List Oper} {a : Act} {w w' : World}
theorem wpList_appR {v v' : Value} {p : Option Addr} {m c : Nat} (s x : Operand) (hg : o.guard = none)
    (ho : o.op = .call { callee := .builtin .append, args := #[s, x], argTypes := #[32, 32] }) (hs : a.eval s = v) (hx : a.eval x = .slice p m c)
    (hr : (Builtin.append_ #[32, 32] o.type #[v, .slice p m c]).run Try.prog w = .ok v' w') (h : wpList Try.prog ops Q rest (a.put o.dst v') w') : wpList Try.prog ops Q (o :: rest) a w := by
  refine wpList_plain hg fun K hK => ?_
  unfold Oper.wp
  simp [execOp, ho, resolve, invoke, builtin, hs, hx, hr, Result.andThen]
  exact hK _ _ h
end
theorem csL_le {l : List Int} {s k : Nat} : ∀ x ∈ csL l s k, x.length ≤ l.length := fun x hx => by
  simp only [csL, List.mem_map] at hx
  obtain ⟨i, -, rfl⟩ := hx
  rw [pcP_length]
  omega
theorem csgetD_le {ls : List (List Int)} {n : Nat} (h : ∀ x ∈ ls, x.length ≤ n) (k : Nat) : (ls.getD k []).length ≤ n := by
  by_cases hk : k < ls.length
  · simp only [List.getD, List.getElem?_eq_getElem hk, Option.getD_some]
    exact h _ (List.getElem_mem hk)
  · simp [List.getD, List.getElem?_eq_none (Nat.le_of_not_lt hk)]
theorem px_one {B : Nat} {w : World} {v : Value} {xs : List Value} {ls : List (List Int)} (h : PX B w v xs ls) : ∀ u ∈ xs, u.oneCell' = true := fun u hu => by
  obtain ⟨j, hj, rfl⟩ := List.mem_iff_getElem.1 hu
  have := h.apt.2.1 j hj
  obtain ⟨p, c, e⟩ := own_slc this
  simp only [List.getD, List.getElem?_eq_getElem hj, Option.getD_some] at e
  rw [e]
  rfl
set_option maxRecDepth 100000 in
set_option maxHeartbeats 8000000 in
theorem cslaw_any (w : World) (a b c d e f g h : Int) (v : Value) (l : List Int) (lv : Nat) (hv : HB w v l) (hl : l.length ≤ 140737488351232) (hlv : lv < 65536) :
    Calls Try.prog 3 #[shV [a, b, c, d, e, f, g, h], v, .int .u16 (lv : Int)] w fun r w' => r = .returned (.bool true) ∧ Below w.heap.size w w' := by
  have hmx : Try.prog.follows .mixedOrders = true := by kernel_rfl
  have HV := hid hv
  have HLL := hid hl
  obtain ⟨p, cc, rfl, hlc, hcm⟩ := hv.open
  obtain ⟨L, HL⟩ : ∃ x, Hid (l.length = x) := ⟨_, rfl⟩
  obtain ⟨N, HN⟩ : ∃ x, Hid (csN (ftB a b c d e f g h) l d c.toNat = x) := ⟨_, rfl⟩
  obtain ⟨s, HS⟩ : ∃ x, Hid (c.toNat = x) := ⟨_, rfl⟩
  rw [HL.out] at HV hl ⊢
  obtain ⟨W0, HW0⟩ : ∃ x, Hid (allocs w [(#[Value.int .i64 a, .int .i64 b, .int .i64 c, .int .i64 d, .int .i64 e, .int .i64 f, .int .i64 g, .int .i64 h], 23), (#[.slice p L cc], 24)] = x) := ⟨_, rfl⟩
  obtain ⟨b0, Hb0⟩ : ∃ x, Hid (w.heap.size = x) := ⟨_, rfl⟩
  obtain ⟨b1, Hb1⟩ : ∃ x, Hid (b0 + 1 = x) := ⟨_, rfl⟩
  have BW0 : Hid (Below w.heap.size w W0) := hid (by rw [← HW0.out]; exact (allocs_below _ w).1)
  have SZ0 : Hid (w.heap.size = b0 ∧ b1 = b0 + 1 ∧ W0.heap.size = b0 + 2) := hid (by
    have h0 := Hb0.out; have h1 := Hb1.out
    have hz := (allocs_below [(#[Value.int .i64 a, .int .i64 b, .int .i64 c, .int .i64 d, .int .i64 e, .int .i64 f, .int .i64 g, .int .i64 h], 23), (#[.slice p L cc], 24)] w).2
    rw [HW0.out] at hz
    simp only [List.length_cons, List.length_nil] at hz
    omega)
  have X0 : Hid (W0.heap[b0]? = some (.cells #[Value.int .i64 a, .int .i64 b, .int .i64 c, .int .i64 d, .int .i64 e, .int .i64 f, .int .i64 g, .int .i64 h] 23 (0, 0))) := hid (by
    rw [← HW0.out, ← Hb0.out]
    exact allocs_at [(#[Value.int .i64 a, .int .i64 b, .int .i64 c, .int .i64 d, .int .i64 e, .int .i64 f, .int .i64 g, .int .i64 h], 23), (#[.slice p L cc], 24)] w 0 _ rfl)
  have X1 : Hid (W0.heap[b1]? = some (.cells #[.slice p L cc] 24 (0, 0))) := hid (by
    rw [← HW0.out, ← Hb1.out, ← Hb0.out]
    exact allocs_at [(#[Value.int .i64 a, .int .i64 b, .int .i64 c, .int .i64 d, .int .i64 e, .int .i64 f, .int .i64 g, .int .i64 h], 23), (#[.slice p L cc], 24)] w 1 _ rfl)
  have CL := hid (lent_any W0 _ l (HV.out.below BW0.out) (by rw [HL.out]; exact hl))
  clear hv
  refine (callsIn_wide (n := 3)).1 ?_
  refine callsIn_of_wp_marks Try.func3 rfl trivial (wpIn_wide.2 ?_) rfl
  simp only [Try.ntmps3, List.size_toArray, List.length_cons, List.length_nil, Nat.reduceAdd, Nat.reduceSub, Array.replicate_succ, Array.replicate_zero, List.push_toArray, List.append_toArray, List.nil_append, List.cons_append]
  rw [shV8]
  go_wp2_with fail
  rw [show (w.alloc (.cells #[Value.int .i64 a, .int .i64 b, .int .i64 c, .int .i64 d, .int .i64 e, .int .i64 f, .int .i64 g, .int .i64 h] 23)).alloc (.cells #[.slice p L cc] 24) = W0 from HW0.out, Hb0.out, Hb1.out]
  refine CL.out.mono ?_
  rintro e1 w1 ⟨vx, rfl, hox, hB1⟩
  obtain ⟨gx, cx, ex, hgx, hgx1, hcx, hcx2, hx0, hfx⟩ := lent_part hox HV.out.2
  rw [HL.out] at ex
  subst ex
  rw [HL.out] at hcx hx0 hfx
  have OX := hid hox
  have HX0 := hid hx0
  have HFX := hid hfx
  have HGX : Hid (W0.heap.size ≤ gx ∧ gx < w1.heap.size) := hid ⟨hgx, hgx1⟩
  have B1 := hid hB1
  have BW1 : Hid (Below w.heap.size w w1) := hid (BW0.out.trans (hB1.mono BW0.out.size))
  have hsl := fun W => slice_hL W gx (L + 70) cx L (by omega) (by omega)
  have HSL := hid hsl
  clear hsl hox hx0 hfx hgx hgx1 hB1 CL
  have S0 : Hid ((fun V : World => Below w1.heap.size w1 V) w1.drew) := hid (Below.refl _ w1).drew
  have YY0 := hid ((B1.out.block b0 (by have := SZ0.out; omega)).trans X0.out)
  have YY1 := hid ((B1.out.block b1 (by have := SZ0.out; omega)).trans X1.out)
  have HC : Hid (∀ V : World, Below w1.heap.size w1 V → (∀ i x, #[Value.int .i64 a, .int .i64 b, .int .i64 c, .int .i64 d, .int .i64 e, .int .i64 f, .int .i64 g, .int .i64 h][i]? = some x → V.cell? ⟨b0, i, none⟩ = some x) ∧ V.cell? ⟨b1, 0, none⟩ = some (.slice p L cc)) := hid fun V hV => by
    have lt : ∀ {b : Nat} {o : Obj}, w1.heap[b]? = some o → b < w1.heap.size := fun h => (Array.getElem?_eq_some_iff.1 h).1
    refine ⟨fun i x hi => ?_, ?_⟩
    · rw [cell_of_row _ _ _ _ _ _ ((hV.block b0 (lt YY0.out)).trans YY0.out)]; exact hi
    · rw [cell_of_row _ _ _ _ _ _ ((hV.block b1 (lt YY1.out)).trans YY1.out)]; rfl
  have c0 := (HC.out w1 (Below.refl _ w1)).2
  have CT : Hid (∀ V : World, Below w1.heap.size w1 V → Calls Try.prog 5 #[.agg #[Value.int .i64 a, .int .i64 b, .int .i64 c, .int .i64 d, .int .i64 e, .int .i64 f, .int .i64 g, .int .i64 h], .slice (some ⟨gx, 0, none⟩) L cx] V fun r w' => ∃ gf lb D, r = .returned (.func (.func gf) #[] lb) ∧ ItS l s N gf lb D w' ∧ (∀ i, D i → V.heap.size ≤ i) ∧ Below V.heap.size V w') := hid fun V hV => by
    have := segmentsI_any V a b c d e f g h (.slice (some ⟨gx, 0, none⟩) L cx) l (HX0.out.below hV)
    rw [HN.out, HS.out, shV8] at this
    refine this.mono ?_
    rintro r w' ⟨gf, lb, D, h1, h2, h3, h4⟩
    exact ⟨gf, lb, D, h1, h2, h3, h4⟩
  go_wp2_with fail
  rename_i Kx hKx
  have HKx := hid hKx
  clear hKx c0
  refine keyed3 (P := fun dd gf lb W => ∃ D, W.heap[dd]? = some (.cells #[.func (.func gf) #[] lb] 28 (0, 0)) ∧ w1.heap.size ≤ dd ∧ ItS l s N gf lb D W ∧ (∀ i, D i → w1.heap.size ≤ i ∧ i ≠ dd) ∧ Below w1.heap.size w1 W) (K := Kx) ?A0 ?key0 (fun key => ?main0)
  case main0 =>
    refine ch_held (S := fun V : World => Below w1.heap.size w1 V) hmx S0.out (fun hHeld => ?_)
    clear hHeld
    change wpAnyH _ _ _ _ _ _ _ _ (World.drew _)
    refine wpAnyH_take (i := 0) (v := ?_) rfl (by kernel_rfl) (by kernel_rfl) (by kernel_rfl) (fun _ _ _ h => by cases h.1) (Or.inl ⟨by rfl, ?q0⟩) S0.out ?_
    case q0 => intro V hSw; have hz := HC.out V hSw; have z0 := hz.1 0 _ rfl; have z1 := hz.1 1 _ rfl; have z2 := hz.1 2 _ rfl; have z3 := hz.1 3 _ rfl; have z4 := hz.1 4 _ rfl; have z5 := hz.1 5 _ rfl; have z6 := hz.1 6 _ rfl; have z7 := hz.1 7 _ rfl; have z8 := hz.2; clear hz hSw; go_simp; rfl
    simp only [Act.put, List.getElem_toArray, List.getElem_cons_zero, List.getElem_cons_succ, List.setIfInBounds_toArray, List.set_cons_zero, List.set_cons_succ]
    refine wpAnyH_take (i := 1) (v := ?_) rfl (by kernel_rfl) (by kernel_rfl) (by kernel_rfl) (fun _ _ _ h => by cases h.1) (Or.inl ⟨by rfl, ?q1⟩) S0.out ?_
    case q1 => intro V hSw; have hz := HC.out V hSw; have z0 := hz.1 0 _ rfl; have z1 := hz.1 1 _ rfl; have z2 := hz.1 2 _ rfl; have z3 := hz.1 3 _ rfl; have z4 := hz.1 4 _ rfl; have z5 := hz.1 5 _ rfl; have z6 := hz.1 6 _ rfl; have z7 := hz.1 7 _ rfl; have z8 := hz.2; clear hz hSw; go_simp; rfl
    simp only [Act.put, List.getElem_toArray, List.getElem_cons_zero, List.getElem_cons_succ, List.setIfInBounds_toArray, List.set_cons_zero, List.set_cons_succ]
    refine wpAnyH_take (i := 2) (v := ?_) rfl (by kernel_rfl) (by kernel_rfl) (by kernel_rfl) (fun _ _ _ h => by cases h.1) (Or.inl ⟨by rfl, ?q2⟩) S0.out ?_
    case q2 => intro V hSw; have hz := HC.out V hSw; have z0 := hz.1 0 _ rfl; have z1 := hz.1 1 _ rfl; have z2 := hz.1 2 _ rfl; have z3 := hz.1 3 _ rfl; have z4 := hz.1 4 _ rfl; have z5 := hz.1 5 _ rfl; have z6 := hz.1 6 _ rfl; have z7 := hz.1 7 _ rfl; have z8 := hz.2; clear hz hSw; go_simp; rfl
    simp only [Act.put, List.getElem_toArray, List.getElem_cons_zero, List.getElem_cons_succ, List.setIfInBounds_toArray, List.set_cons_zero, List.set_cons_succ]
    refine wpAnyH_take (i := 3) (v := ?_) rfl (by kernel_rfl) (by kernel_rfl) (by kernel_rfl) (fun _ _ _ h => by cases h.1) (Or.inl ⟨by rfl, ?q3⟩) S0.out ?_
    case q3 => intro V hSw; have hz := HC.out V hSw; have z0 := hz.1 0 _ rfl; have z1 := hz.1 1 _ rfl; have z2 := hz.1 2 _ rfl; have z3 := hz.1 3 _ rfl; have z4 := hz.1 4 _ rfl; have z5 := hz.1 5 _ rfl; have z6 := hz.1 6 _ rfl; have z7 := hz.1 7 _ rfl; have z8 := hz.2; clear hz hSw; go_simp; rfl
    simp only [Act.put, List.getElem_toArray, List.getElem_cons_zero, List.getElem_cons_succ, List.setIfInBounds_toArray, List.set_cons_zero, List.set_cons_succ]
    refine wpAnyH_take (i := 4) rfl (by kernel_rfl) (by kernel_rfl) (by kernel_rfl) (fun _ _ _ h => by cases h.1) (yieldsIf_slC (by rfl) 24 _ _ _ (by rw [elm22]; exact Try.underlying24) rfl (.slice (some ⟨gx, 0, none⟩) (L + 70) cx) none (some (.int .i64 (L : Int))) rfl rfl rfl (.slice (some ⟨gx, 0, none⟩) L cx) (fun W _ => HSL.out W)) S0.out ?_
    simp only [Act.put, List.getElem_toArray, List.getElem_cons_zero, List.getElem_cons_succ, List.setIfInBounds_toArray, List.set_cons_zero, List.set_cons_succ]
    refine wpAnyH_ready (rs := [5, 6]) (by kernel_rfl) (by simp) ?_
    refine AllReadyH.cons rfl (fun K hK => ?_) (AllReadyH.cons rfl (fun K hK => ?_) AllReadyH.nil)
    · replace hK := hid hK
      go_simp
      refine (CT.out _ S0.out).mono ?_
      rintro e2 w2 ⟨gf, lb, D, rfl, hit, hDl, hB2⟩
      have S2 : Hid (Below w1.heap.size w1 w2) := hid (S0.out.trans (hB2.mono S0.out.size))
      refine hK.out _ _ S2.out (fun _ => ?_)
      clear hK K
      refine wpAnyH_ready (rs := [6]) (by kernel_rfl) (by simp) ?_
      refine AllReadyH.cons rfl (fun K hK => ?_) AllReadyH.nil
      replace hK := hid hK
      go_simp
      obtain ⟨Wa, HWa⟩ : ∃ x, Hid (w2.alloc (.cells #[.nilFunc] 28) = x) := ⟨_, rfl⟩
      rw [HWa.out]
      have Ra : Hid (Wa.heap[w2.heap.size]? = some (.cells #[.nilFunc] 28 (0, 0))) := hid (by rw [← HWa.out]; exact heap_alloc_new w2 _)
      have Ba : Below w2.heap.size w2 Wa := by rw [← HWa.out]; exact below_alloc _ _
      have Sa : Hid (Below w1.heap.size w1 Wa) := hid (S2.out.trans (Ba.mono S2.out.size))
      have hdl : w1.heap.size ≤ w2.heap.size := S2.out.size
      have hDa : ∀ i, D i → w1.heap.size ≤ i ∧ i ≠ w2.heap.size := fun i hi => ⟨Nat.le_trans (Nat.le_trans S0.out.size (Nat.le_refl _)) (hDl i hi), by have := hit.lt i hi; omega⟩
      have ITa := hid (hit.kept ⟨Ba.size, fun i hi => Ba.block i (hit.lt i hi)⟩)
      refine hK.out _ _ Sa.out (fun _ => ?_)
      clear hK K hit hDl hB2 Ba
      refine wpAnyH_ready (rs := [7]) (by kernel_rfl) (by simp) ?_
      refine AllReadyH.cons rfl (fun K hK => ?_) AllReadyH.nil
      replace hK := hid hK
      have cz : Wa.cell? ⟨w2.heap.size, 0, none⟩ = some .nilFunc := (cell_of_row _ _ _ _ _ _ Ra.out).trans rfl
      have fz : Wa.frozen? ⟨w2.heap.size, 0, none⟩ = false := by simp [World.frozen?, Ra.out]
      go_simp
      obtain ⟨Wz, HWz⟩ : ∃ x, Hid (Wa.setCell ⟨w2.heap.size, 0, none⟩ (.func (.func gf) #[] lb) = x) := ⟨_, rfl⟩
      rw [HWz.out]
      have Rz : Hid (Wz.heap[w2.heap.size]? = some (.cells #[.func (.func gf) #[] lb] 28 (0, 0))) := hid (by rw [← HWz.out]; exact (bk_setC Ra.out).trans rfl)
      have Sz : Hid (Below w1.heap.size w1 Wz) := hid (by rw [← HWz.out]; exact Sa.out.setCell (p := ⟨w2.heap.size, 0, none⟩) hdl _)
      have Kz : Hid (KE D Wa Wz) := hid ⟨by rw [← HWz.out]; simp, fun i hi => by rw [← HWz.out]; exact heap_setCell_other _ _ _ _ (by simpa using (hDa i hi).2)⟩
      have hP : ∃ D, Wz.heap[w2.heap.size]? = some (.cells #[.func (.func gf) #[] lb] 28 (0, 0)) ∧ w1.heap.size ≤ w2.heap.size ∧ ItS l s N gf lb D Wz ∧ (∀ i, D i → w1.heap.size ≤ i ∧ i ≠ w2.heap.size) ∧ Below w1.heap.size w1 Wz := ⟨D, Rz.out, hdl, ITa.out.kept Kz.out, hDa, Sz.out⟩
      refine hK.out _ _ Sz.out (fun _ => ?_)
      clear hK K
      try simp only [Act.put, List.getElem_toArray, List.getElem_cons_zero, List.getElem_cons_succ, List.setIfInBounds_toArray, List.set_cons_zero, List.set_cons_succ]
      refine wpAnyH_done (by kernel_rfl) ⟨rfl, ?_⟩ _
      show Kx _ _
      clear cz fz Rz Sz Kz HWz hDa hdl
      clear Ra Sa ITa S2 HWa
      revert hP
      generalize w2.heap.size = dd
      intro hP
      exact key dd gf lb Wz hP
    · replace hK := hid hK
      go_simp
      obtain ⟨Wb, HWb⟩ : ∃ x, Hid ((w1.drew.alloc (.cells #[.nilFunc] 28)) = x) := ⟨_, rfl⟩
      rw [show (w1.alloc (.cells #[.nilFunc] 28)).drew = Wb from HWb.out]
      have Rb : Hid (Wb.heap[w1.heap.size]? = some (.cells #[.nilFunc] 28 (0, 0))) := hid (by rw [← HWb.out]; exact heap_alloc_new w1.drew _)
      have Sb : Hid (Below w1.heap.size w1 Wb) := hid (by rw [← HWb.out]; exact S0.out.trans ((below_alloc w1.drew _).mono (Nat.le_refl _)))
      have hlb : w1.heap.size < Wb.heap.size := (Array.getElem?_eq_some_iff.1 Rb.out).1
      refine hK.out _ _ Sb.out (fun _ => ?_)
      clear hK K
      refine wpAnyH_ready (rs := [5]) (by kernel_rfl) (by simp) ?_
      refine AllReadyH.cons rfl (fun K hK => ?_) AllReadyH.nil
      replace hK := hid hK
      go_simp
      refine (CT.out _ Sb.out).mono ?_
      rintro e2 Wa ⟨gf, lb, D, rfl, hit, hDl, hB2⟩
      have Ra : Hid (Wa.heap[w1.heap.size]? = some (.cells #[.nilFunc] 28 (0, 0))) := hid ((hB2.block _ hlb).trans Rb.out)
      have Sa : Hid (Below w1.heap.size w1 Wa) := hid (Sb.out.trans (hB2.mono Sb.out.size))
      have hdl : w1.heap.size ≤ w1.heap.size := Nat.le_refl _
      have hDa : ∀ i, D i → w1.heap.size ≤ i ∧ i ≠ w1.heap.size := fun i hi => by have := hDl i hi; omega
      have ITa := hid hit
      refine hK.out _ _ Sa.out (fun _ => ?_)
      clear hK K hit hDl hB2 hlb
      refine wpAnyH_ready (rs := [7]) (by kernel_rfl) (by simp) ?_
      refine AllReadyH.cons rfl (fun K hK => ?_) AllReadyH.nil
      replace hK := hid hK
      have cz : Wa.cell? ⟨w1.heap.size, 0, none⟩ = some .nilFunc := (cell_of_row _ _ _ _ _ _ Ra.out).trans rfl
      have fz : Wa.frozen? ⟨w1.heap.size, 0, none⟩ = false := by simp [World.frozen?, Ra.out]
      go_simp
      obtain ⟨Wz, HWz⟩ : ∃ x, Hid (Wa.setCell ⟨w1.heap.size, 0, none⟩ (.func (.func gf) #[] lb) = x) := ⟨_, rfl⟩
      rw [HWz.out]
      have Rz : Hid (Wz.heap[w1.heap.size]? = some (.cells #[.func (.func gf) #[] lb] 28 (0, 0))) := hid (by rw [← HWz.out]; exact (bk_setC Ra.out).trans rfl)
      have Sz : Hid (Below w1.heap.size w1 Wz) := hid (by rw [← HWz.out]; exact Sa.out.setCell (p := ⟨w1.heap.size, 0, none⟩) hdl _)
      have Kz : Hid (KE D Wa Wz) := hid ⟨by rw [← HWz.out]; simp, fun i hi => by rw [← HWz.out]; exact heap_setCell_other _ _ _ _ (by simpa using (hDa i hi).2)⟩
      have hP : ∃ D, Wz.heap[w1.heap.size]? = some (.cells #[.func (.func gf) #[] lb] 28 (0, 0)) ∧ w1.heap.size ≤ w1.heap.size ∧ ItS l s N gf lb D Wz ∧ (∀ i, D i → w1.heap.size ≤ i ∧ i ≠ w1.heap.size) ∧ Below w1.heap.size w1 Wz := ⟨D, Rz.out, hdl, ITa.out.kept Kz.out, hDa, Sz.out⟩
      refine hK.out _ _ Sz.out (fun _ => ?_)
      clear hK K
      try simp only [Act.put, List.getElem_toArray, List.getElem_cons_zero, List.getElem_cons_succ, List.setIfInBounds_toArray, List.set_cons_zero, List.set_cons_succ]
      refine wpAnyH_done (by kernel_rfl) ⟨rfl, ?_⟩ _
      show Kx _ _
      clear cz fz Rz Sz Kz HWz hDa hdl
      clear Ra Sa ITa Sb Rb
      have hPd : ∀ dd, w1.heap.size = dd → _ := fun dd hdd => key dd gf lb Wz (by rw [← hdd]; exact hP)
      exact hPd _ rfl
  rintro dA gf lb W3 ⟨D, hX3, hdA, hit, hDl, hB3⟩
  refine HKx.out _ _ ?_
  clear HKx Kx CT HC HSL S0
  have X3 := hid hX3
  have IT := hid hit
  have HDl := hid hDl
  have B3 := hid hB3
  have BW3 : Hid (Below w.heap.size w W3) := hid (BW1.out.trans (hB3.mono BW1.out.size))
  have c0 : W3.cell? ⟨dA, 0, none⟩ = some (.func (.func gf) #[] lb) := (cell_of_row _ _ _ _ _ _ hX3).trans rfl
  have c1 : W3.cell? ⟨b1, 0, none⟩ = some (.slice p L cc) := by
    rw [cell_of_row _ _ _ _ _ _ ((hB3.block b1 (Array.getElem?_eq_some_iff.1 YY1.out).1).trans YY1.out)]; rfl
  have heq := eql_func_nilC W3 (.func gf) #[] lb
  have C4 := hid (kept_any W3 _ _ (lent l) l (HFX.out.below hB3) (HV.out.below BW3.out) HLL.out)
  have HDA := hid hdA
  clear hX3 hdA hit hDl hB3
  go_wp2_with fail
  refine C4.out.mono ?_
  rintro e4 w4 ⟨rfl, hB4⟩
  simp only [decide_true]
  have B4 := hid hB4
  have OX4 := hid (own_ofL (w' := w4) OX.out fun b e => by have h1 := (own_typC OX.out e).1; exact (hB4.block b (Nat.lt_of_lt_of_le h1 B3.out.size)).trans (B3.out.block b h1))
  have C5 := hid (over_any w4 _ _ _ _ OX4.out (by rw [lent_length]; have := HLL.out; omega))
  rw [lent_length, HL.out] at C5
  clear hB4 C4 c0 c1 heq
  go_wp2_with fail
  refine C5.out.mono ?_
  rintro e5 w5 ⟨rfl, -, hgr⟩
  have hgr : w4.grownBy w5 (some gx) := hgr
  have BW4 := hid (BW3.out.trans (B4.out.mono BW3.out.size))
  have BW5 : Hid (Below w.heap.size w w5) := hid (BW4.out.grown hgr BW4.out.size (fun k e => by cases e; have := HGX.out; have := BW0.out.size; omega))
  have HW5 : Hid (∀ i, w1.heap.size ≤ i → i < W3.heap.size → w5.heap[i]? = W3.heap[i]?) := hid fun i h1 h2 => (hgr.block i (Nat.lt_of_lt_of_le h2 B4.out.size) (by intro e; cases e; have := HGX.out; omega)).trans (B4.out.block i h2)
  have KE5 : Hid (KE D W3 w5) := hid ⟨Nat.le_trans B4.out.size hgr.size, fun i hi => HW5.out i (HDl.out i hi).1 (IT.out.lt i hi)⟩
  have hdA3 : dA < W3.heap.size := (Array.getElem?_eq_some_iff.1 X3.out).1
  have X5 : Hid (w5.heap[dA]? = some (.cells #[.func (.func gf) #[] lb] 28 (0, 0))) := hid ((HW5.out dA HDA.out hdA3).trans X3.out)
  have low : ∀ b o, W0.heap[b]? = some o → b < W0.heap.size → w5.heap[b]? = some o := fun b o ho hb => by
    have h1 := B1.out.size
    have h3 := B3.out.size
    have h4 := B4.out.size
    rw [hgr.block b (by omega) (by intro e; cases e; have := HGX.out; omega), B4.out.block b (by omega), B3.out.block b (by omega), B1.out.block b hb]
    exact ho
  have U0 := hid (low b0 _ X0.out (by have := SZ0.out; omega))
  have U1 := hid (low b1 _ X1.out (by have := SZ0.out; omega))
  have CG : Hid (∀ (W : World) (most : Int), Below w.heap.size w W → KE D W3 W → 1 ≤ most → Calls Try.prog 8 #[.agg #[Value.int .i64 a, .int .i64 b, .int .i64 c, .int .i64 d, .int .i64 e, .int .i64 f, .int .i64 g, .int .i64 h], .slice p L cc, .func (.func gf) #[] lb, .int .i64 most] W fun r w' => ∃ n pg cg xs, n = min N most.toNat ∧ r = .returned (.tuple #[.slice pg n cg, .bool true]) ∧ PX W.heap.size w' (.slice pg n cg) xs (csL l s n) ∧ Below W.heap.size W w') := hid fun W most hB hk hm => by
    have hdw : ∀ i, D i → w.heap.size ≤ i := fun i hi => by have h1 := (HDl.out i hi).1; have h2 := BW1.out.size; omega
    have h0 := gone_ok w W a b c d e f g h (.slice p L cc) l gf lb D most HV.out hB hdw (by rw [HN.out, HS.out]; exact IT.out.kept hk) hm
    rw [HN.out, HS.out, shV8] at h0
    refine h0.mono ?_
    rintro r w' ⟨n, vg, xs, hn, h1, h2, h3⟩
    obtain ⟨pg, cg, eg⟩ := own_slc h2.row
    rw [csL_len] at eg
    subst eg
    exact ⟨n, pg, cg, xs, hn, h1, h2, h3⟩
  have HC5 : Hid (∀ V : World, Below w5.heap.size w5 V → (∀ i x, #[Value.int .i64 a, .int .i64 b, .int .i64 c, .int .i64 d, .int .i64 e, .int .i64 f, .int .i64 g, .int .i64 h][i]? = some x → V.cell? ⟨b0, i, none⟩ = some x) ∧ V.cell? ⟨b1, 0, none⟩ = some (.slice p L cc) ∧ V.cell? ⟨dA, 0, none⟩ = some (.func (.func gf) #[] lb)) := hid fun V hV => by
    have lt : ∀ {b : Nat} {o : Obj}, w5.heap[b]? = some o → b < w5.heap.size := fun h => (Array.getElem?_eq_some_iff.1 h).1
    refine ⟨fun i x hi => ?_, ?_, ?_⟩
    · rw [cell_of_row _ _ _ _ _ _ ((hV.block b0 (lt U0.out)).trans U0.out)]; exact hi
    · rw [cell_of_row _ _ _ _ _ _ ((hV.block b1 (lt U1.out)).trans U1.out)]; rfl
    · rw [cell_of_row _ _ _ _ _ _ ((hV.block dA (lt X5.out)).trans X5.out)]; rfl
  have hq := HC5.out w5 (Below.refl _ w5)
  have c00 := hq.1 0 _ rfl
  have c01 := hq.1 1 _ rfl
  have c02 := hq.1 2 _ rfl
  have c03 := hq.1 3 _ rfl
  have c04 := hq.1 4 _ rfl
  have c05 := hq.1 5 _ rfl
  have c06 := hq.1 6 _ rfl
  have c07 := hq.1 7 _ rfl
  have c1 := hq.2.1
  have cA := hq.2.2
  clear low hq hgr C5 hdA3 OX4 OX
  go_wp2_with fail
  refine (CG.out w5 _ BW5.out KE5.out (by omega)).mono ?_
  rintro e6 w6 ⟨n1, p1, q1, xs1, hn1, rfl, hpx1, hB6⟩
  have P1 := hid hpx1
  have B6 := hid hB6
  have HN1 : Hid (n1 ≤ N) := hid (by omega)
  have BW6 : Hid (Below w.heap.size w w6) := hid (BW5.out.trans (hB6.mono BW5.out.size))
  have KE6 : Hid (KE D W3 w6) := hid ⟨Nat.le_trans KE5.out.1 hB6.size, fun i hi => (hB6.block i (by have := IT.out.lt i hi; have := KE5.out.1; omega)).trans (KE5.out.2 i hi)⟩
  have hq := HC5.out w6 hB6
  clear c00 c01 c02 c03 c04 c05 c06 c07 c1 cA
  have c00 := hq.1 0 _ rfl
  have c01 := hq.1 1 _ rfl
  have c02 := hq.1 2 _ rfl
  have c03 := hq.1 3 _ rfl
  have c04 := hq.1 4 _ rfl
  have c05 := hq.1 5 _ rfl
  have c06 := hq.1 6 _ rfl
  have c07 := hq.1 7 _ rfl
  have c1 := hq.2.1
  have cA := hq.2.2
  clear hq hpx1 hB6 hn1
  go_wp2_with fail
  refine (CG.out w6 _ BW6.out KE6.out (by omega)).mono ?_
  rintro e7 w7 ⟨n2, p2, q2, xs2, hn2, rfl, hpx2, hB7⟩
  have P2 := hid hpx2
  have B7 := hid hB7
  have HN2 : Hid (n2 ≤ N) := hid (by omega)
  have BW7 : Hid (Below w.heap.size w w7) := hid (BW6.out.trans (hB7.mono BW6.out.size))
  have KE7 : Hid (KE D W3 w7) := hid ⟨Nat.le_trans KE6.out.1 hB7.size, fun i hi => (hB7.block i (by have := IT.out.lt i hi; have := KE6.out.1; omega)).trans (KE6.out.2 i hi)⟩
  have B57 : Hid (Below w5.heap.size w5 w7) := hid (B6.out.trans (hB7.mono B6.out.size))
  obtain ⟨W8, HW8⟩ : ∃ x, Hid (w7.alloc (.cells #[.bool true] 4) = x) := ⟨_, rfl⟩
  obtain ⟨bg, Hbg⟩ : ∃ x, Hid (w7.heap.size = x) := ⟨_, rfl⟩
  have B8 : Hid (Below w7.heap.size w7 W8) := hid (by rw [← HW8.out]; exact below_alloc _ _)
  have X8 : Hid (W8.heap[bg]? = some (.cells #[.bool true] 4 (0, 0))) := hid (by rw [← HW8.out, ← Hbg.out]; exact heap_alloc_new w7 _)
  have S8 : Hid (W8.heap.size = bg + 1) := hid (by rw [← HW8.out, ← Hbg.out]; simp)
  have BW8 : Hid (Below w.heap.size w W8) := hid (BW7.out.trans (B8.out.mono BW7.out.size))
  have B58 : Hid (Below w5.heap.size w5 W8) := hid (B57.out.trans (B8.out.mono B57.out.size))
  have KE8 : Hid (KE D W3 W8) := hid ⟨Nat.le_trans KE7.out.1 B8.out.size, fun i hi => (B8.out.block i (by have := IT.out.lt i hi; have := KE7.out.1; omega)).trans (KE7.out.2 i hi)⟩
  have IT8 := hid (IT.out.kept KE8.out)
  have HD3 : Hid (∀ i, D i → i < W3.heap.size ∧ W3.heap.size ≤ w5.heap.size) := hid fun i hi => ⟨IT.out.lt i hi, KE5.out.1⟩
  have hq := HC5.out W8 B58.out
  clear c00 c01 c02 c03 c04 c05 c06 c07 c1 cA
  have cA := hq.2.2
  rw [← HW8.out] at cA
  clear hq hpx2 hB7 hn2
  go_wp2_with fail
  rw [Hbg.out, HW8.out]
  rename_i Ky hKy
  have HKy := hid hKy
  clear hKy cA
  refine keyedC (P := fun dd W => MO W8 D [(bg, .cells #[.bool true] 4 (0, 0))] (fun i => D i ∨ i = dd) W ∧ W8.heap.size ≤ dd ∧ W.heap[dd]? = some (.deferred (some [])) ∧ KE D W8 W) (K := Ky) ?A1 ?key1 (fun key => ?main1)
  case main1 =>
    refine (wpIn_wide (n := 3)).1 ?_
    have M0 : MO W8 D [(bg, .cells #[.bool true] 4 (0, 0))] D W8 := ⟨fun q hq => by
      obtain rfl := List.mem_singleton.1 hq
      refine ⟨X8.out, fun z => ?_⟩
      have h1 := HD3.out bg z
      have h2 := B57.out.size
      have h3 := Hbg.out
      omega, fun i hi => .inl hi, ⟨rfl, rfl, rfl⟩, Nat.le_refl _, fun _ _ _ => rfl⟩
    apply range_fitW rfl (by decide) (gf := gf) (lb := lb) rfl trivial IT8.out.en (IT8.out.it (3 - 1)) ⟨Nat.le_refl _, fun _ _ => rfl⟩ IT8.out.lt (fun _ _ => rfl)
      (fun k E W => k = 0 ∧ MO W8 D [(bg, .cells #[.bool true] 4 (0, 0))] E W)
      (fun c E W => c = Code.exit 0 ∧ MO W8 D [(bg, .cells #[.bool true] 4 (0, 0))] E W)
      (jn_MO W8 D [(bg, .cells #[.bool true] 4 (0, 0))] (fun k : Nat => k = 0)) (jn_MO W8 D [(bg, .cells #[.bool true] 4 (0, 0))] (fun c : Code => c = Code.exit 0)) ⟨rfl, M0⟩ (fitS_cs l s)
    case hassign =>
      intro l' k v W K hK
      gi_wp2
      exact hK
    case hdone =>
      rintro dd W hd ⟨-, hmo⟩ hdf hke
      exact key dd W ⟨hmo, hd, hdf, hke⟩
    case hstop =>
      rintro dd c' W hd ⟨rfl, hmo⟩ hdf hke
      have hP := hid (key dd W ⟨hmo, hd, hdf, hke⟩)
      clear key
      refine wpIn_wide.2 ?_
      go_wp2_with fail
      exact hP.out
    case hbody =>
      rintro lp k v E A W hlp hE hr ⟨rfl, hmo⟩ hEl hcar hAW hf hDE hke hk
      obtain ⟨-, hMW⟩ := hcar _ (jn_MO W8 D [(bg, .cells #[.bool true] 4 (0, 0))] (fun _ : Unit => True)) ⟨trivial, hmo⟩
      have HMW := hid hMW
      have HEL := hid hEl
      have HAW := hid hAW
      have BL := hid (hMW.bel hke)
      have BWW : Hid (Below w.heap.size w W) := hid (BW8.out.trans (BL.out.mono BW8.out.size))
      have KEW : Hid (KE D W3 W) := hid (KE8.out.trans hke)
      have B5W : Hid (Below w5.heap.size w5 W) := hid (B58.out.trans (BL.out.mono B58.out.size))
      have CR := hid (CG.out W 2 BWW.out KEW.out (by omega))
      have hq := HC5.out W B5W.out
      have c00 := hq.1 0 _ rfl
      have c01 := hq.1 1 _ rfl
      have c02 := hq.1 2 _ rfl
      have c03 := hq.1 3 _ rfl
      have c04 := hq.1 4 _ rfl
      have c05 := hq.1 5 _ rfl
      have c06 := hq.1 6 _ rfl
      have c07 := hq.1 7 _ rfl
      have c1 := hq.2.1
      have cA := hq.2.2
      clear hq hMW hmo hcar hEl hAW hf hke
      gi_wp2
      refine ⟨trivial, callRC (CR.out.mono ?_)⟩
      rintro e9 w9 ⟨n9, p9, q9, xs9, hn9, rfl, -, hB9⟩
      have hn9' : (n9 : Int) > 0 := by omega
      have hn92 : 0 < n9 := by omega
      clear hn9
      have hM9 : MO W8 D [(bg, .cells #[.bool true] 4 (0, 0))] E w9 := ((jn_MO W8 D [(bg, .cells #[.bool true] 4 (0, 0))] (fun _ : Unit => True)).grown (s := ()) ⟨trivial, HMW.out⟩ (grown_below (r := none) hB9)).2
      have cg := hM9.cell (b := bg) (t := 4) (v := .bool true) (by simp)
      have xg := hM9.at (b := bg) (o := .cells #[.bool true] 4 (0, 0)) (by simp)
      have fg : w9.frozen? ⟨bg, 0, none⟩ = false := by simp [World.frozen?, xg]
      have st9 : StO (fun _ => False) w9 (w9.setCell ⟨bg, 0, none⟩ (.bool true)) := ⟨by simp, fun b _ _ => set_same xg b, ⟨rfl, rfl, rfl⟩⟩
      have HM10 := hid (hM9.st st9 (fun _ h => h.elim) (fun _ _ h => h))
      have HK10 : Hid (KE E W (w9.setCell ⟨bg, 0, none⟩ (.bool true))) := hid (KE.trans (B := w9) ⟨hB9.size, fun i hi => hB9.block i (by have := HEL.out i hi; have := HAW.out; omega)⟩ ⟨by simp, fun i _ => set_same xg i⟩)
      clear CR hM9 xg st9 hB9 c00 c01 c02 c03 c04 c05 c06 c07 c1 cA
      gi_wp2
      exact ⟨HK10.out, rfl, HM10.out⟩
  rintro dd W9 ⟨hmo, hd, hdf, hke⟩
  refine HKy.out _ _ ?_
  clear HKy Ky
  have BL := hid (hmo.bel hke)
  have BW9 : Hid (Below w.heap.size w W9) := hid (BW8.out.trans (BL.out.mono BW8.out.size))
  have KE9 : Hid (KE D W3 W9) := hid (KE8.out.trans hke)
  have B59 : Hid (Below w5.heap.size w5 W9) := hid (B58.out.trans (BL.out.mono B58.out.size))
  have CR := hid (CG.out W9 1048576 BW9.out KE9.out (by omega))
  have hq := HC5.out W9 B59.out
  have c00 := hq.1 0 _ rfl
  have c01 := hq.1 1 _ rfl
  have c02 := hq.1 2 _ rfl
  have c03 := hq.1 3 _ rfl
  have c04 := hq.1 4 _ rfl
  have c05 := hq.1 5 _ rfl
  have c06 := hq.1 6 _ rfl
  have c07 := hq.1 7 _ rfl
  have c1 := hq.2.1
  have cA := hq.2.2
  have B89 := hid hmo.s
  have X9 := hid (hmo.at (b := bg) (o := .cells #[.bool true] 4 (0, 0)) (by simp))
  have HDF := hid hdf
  have HDD := hid hd
  clear hq hmo hd hdf hke
  go_wp2_with fail
  refine CR.out.mono ?_
  rintro e10 w10 ⟨n3, p3, q3, xs3, hn3, rfl, hpx3, hB10⟩
  have B10 := hid hB10
  have BW10 : Hid (Below w.heap.size w w10) := hid (BW9.out.trans (hB10.mono BW9.out.size))
  have HN3 : Hid (n3 ≤ N) := hid (by omega)
  have P1a : PX w5.heap.size w10 (.slice p1 n1 q1) xs1 (csL l s n1) := P1.out.below ((B7.out.trans ((B8.out.trans ((BL.out.trans (hB10.mono BL.out.size)).mono B8.out.size)).mono B7.out.size)))
  have P2a : PX w6.heap.size w10 (.slice p2 n2 q2) xs2 (csL l s n2) := P2.out.below (B8.out.trans ((BL.out.trans (hB10.mono BL.out.size)).mono B8.out.size))
  have hN5 : N ≤ 16777216 := by
    rw [← HN.out]
    unfold csN
    split
    · rename_i q
      have hft : Ft a b c d e f g h := of_decide_eq_true q.1
      have hok := hft.1
      unfold OkS at hok
      have h2 := q.2
      have := pcN_le (len := l.length) (s := c.toNat) (by omega) (by omega)
      omega
    · omega
  have h1n : n1 ≤ N := HN1.out
  have h2n : n2 ≤ N := HN2.out
  have P3a := hpx3
  have r1 : w10.ownsRow w5.heap.size 24 1 (.slice p1 n1 q1) n1 xs1 := by have := P1a.row; rwa [csL_len] at this
  have r2 : w10.ownsRow w6.heap.size 24 1 (.slice p2 n2 q2) n2 xs2 := by have := P2a.row; rwa [csL_len] at this
  have r3 : w10.ownsRow W9.heap.size 24 1 (.slice p3 n3 q3) n3 xs3 := by have := P3a.row; rwa [csL_len] at this
  have h3n : n3 ≤ N := HN3.out
  obtain ⟨v1, w11, hr1, ho1, hg1⟩ := app_rows (w := w10) (base := w10.heap.size) (n := 0) (v := .slice none 0 0) (xs := []) 32 (World.ownsRow_nil _ _ _ _) r1 (px_one P1a) (by omega) (Nat.le_refl _)
  rw [Nat.zero_add, List.nil_append] at ho1
  have b11 : Below w10.heap.size w10 w11 := (Below.refl _ _).grown hg1 (Nat.le_refl _) (fun k e => by cases e)
  obtain ⟨v2, w12, hr2, ho2, hg2⟩ := app_rows (w := w11) (base := w10.heap.size) 32 ho1 (own_ofL r2 fun b e => b11.block b (own_typC r2 e).1) (px_one P2a) (by omega) b11.size
  have b12 : Below w10.heap.size w10 w12 := b11.grown hg2 b11.size (fun k e => (own_typC ho1 e).2.1)
  obtain ⟨v3, w13, hr3, ho3, hg3⟩ := app_rows (w := w12) (base := w10.heap.size) 32 ho2 (own_ofL r3 fun b e => b12.block b (own_typC r3 e).1) (px_one P3a) (by omega) b12.size
  have b13 : Below w10.heap.size w10 w13 := b12.grown hg3 b12.size (fun k e => (own_typC ho2 e).2.1)
  have HR1 := hid hr1
  have HR2 := hid hr2
  have HR3 := hid hr3
  have B13 := hid b13
  have BW13 : Hid (Below w.heap.size w w13) := hid (BW10.out.trans (b13.mono BW10.out.size))
  have X13 : Hid (w13.heap[bg]? = some (.cells #[.bool true] 4 (0, 0))) := hid ((b13.block bg (by have := (Array.getElem?_eq_some_iff.1 X9.out).1; have := B10.out.size; omega)).trans ((B10.out.block bg (Array.getElem?_eq_some_iff.1 X9.out).1).trans X9.out))
  have D13 : Hid (w13.heap[dd]? = some (.deferred (some []))) := hid ((b13.block dd (by have := (Array.getElem?_eq_some_iff.1 HDF.out).1; have := B10.out.size; omega)).trans ((B10.out.block dd (Array.getElem?_eq_some_iff.1 HDF.out).1).trans HDF.out))
  obtain ⟨a1, e1, ev1⟩ := own_slc ho1
  obtain ⟨a2, e2, ev2⟩ := own_slc ho2
  obtain ⟨a3, e3, ev3⟩ := own_slc ho3
  subst ev1
  subst ev2
  subst ev3
  have l1 := P1a.len
  have l2 := P2a.len
  have l3 := P3a.len
  rw [csL_len] at l1 l2 l3
  have y1 : w5.heap.size ≤ w6.heap.size := B6.out.size
  have y2 : w6.heap.size ≤ w7.heap.size := B7.out.size
  have y3 : w7.heap.size ≤ W9.heap.size := Nat.le_trans B8.out.size BL.out.size
  have A1 := (P1a.below b13).apt
  have A2 := ((P2a.below b13).low y1).apt
  have A3 := ((P3a.below b13).low (show w5.heap.size ≤ W9.heap.size by omega)).apt
  have z1 := P1.out.lies.2
  have z2 := P2.out.lies.2
  have z3 := P3a.lies.2
  have A12 := apt_app A1 A2 fun i j b hi hj e e' => by
    have h1 := (z1 i hi b e).2
    have h2 := (z2 j hj b e').1
    omega
  have A123 := apt_app A12 A3 fun i j b hi hj e e' => by
    have h2 := (z3 j hj b e').1
    rw [getD_app] at e
    split at e
    · have h1 := (z1 i (by assumption) b e).2
      omega
    · rw [List.length_append] at hi
      have h1 := (z2 _ (by omega) b e).2
      omega
  have HVv := own_HVc ho3 (by simp only [List.length_append]; omega)
  have HLS : ∀ x ∈ csL l s n1 ++ csL l s n2 ++ csL l s n3, x.length ≤ 140737488351232 := fun x hx => by
    have h0 := HLL.out
    rcases List.mem_append.1 hx with z | z
    · rcases List.mem_append.1 z with z | z
      · have := csL_le x z; omega
      · have := csL_le x z; omega
    · have := csL_le x z; omega
  have CA := hid (apart_anyG w5.heap.size w13 _ _ _ HVv A123 (by have := b13.size; have := B10.out.size; omega) (by simp only [List.length_append]; omega) (fun k => csgetD_le HLS k))
  have NU : Hid (∀ b o, w13.heap[b]? = some o → (∀ cs t fr, o ≠ .cells cs t fr) → ¬ InU (xs1 ++ xs2 ++ xs3) b) := hid fun b o hb hno hin => by
    obtain ⟨j, hj, e⟩ := hin
    have := A123.2.1 j hj
    obtain ⟨_, _, cur, h⟩ := own_typC this e
    rw [h] at hb
    exact hno _ _ _ (Option.some.inj hb).symm
  have cg : w13.cell? ⟨bg, 0, none⟩ = some (.bool true) := (cell_of_row _ _ _ _ _ _ X13.out).trans rfl
  clear CR r1 r2 r3 hr1 hr2 hr3 ho1 ho2 ho3 hg1 hg2 hg3 b11 b12 b13 l1 l2 l3 y1 y2 y3 A1 A2 A3 A12 A123 z1 z2 z3 HVv HLS P1a P2a P3a hpx3 hB10 c00 c01 c02 c03 c04 c05 c06 c07 c1 cA
  have HNN := hid (And.intro hn3 (And.intro hN5 (And.intro h1n (And.intro h2n h3n))))
  clear hn3 hN5 h1n h2n h3n
  go_wp2_with (first | refine wpList_appR (.tmp 83) (.tmp 84) rfl rfl rfl rfl HR1.out ?_ | refine wpList_appR (.tmp 86) (.tmp 87) rfl rfl rfl rfl HR2.out ?_ | refine wpList_appR (.tmp 89) (.tmp 90) rfl rfl rfl rfl HR3.out ?_ | fail)
  refine CA.out.mono ?_
  rintro e14 w14 ⟨rfl, hbg⟩
  have D14 : Hid (w14.heap[dd]? = some (.deferred (some []))) := hid ((hbg.loc dd (Array.getElem?_eq_some_iff.1 D13.out).1 (NU.out dd _ D13.out (fun _ _ _ e => by cases e))).trans D13.out)
  have BW14 : Hid (Below w.heap.size w w14) := hid (BW13.out.trans (hbg.bel.mono BW5.out.size))
  have CW := hid (awake_any w14)
  clear hbg CA NU cg
  go_wp2_with fail
  refine CW.out.mono ?_
  rintro e15 w15 ⟨rfl, hB15⟩
  have D15 : Hid (w15.heap[dd]? = some (.deferred (some []))) := hid ((hB15.block dd (Array.getElem?_eq_some_iff.1 D14.out).1).trans D14.out)
  have BW15 : Hid (Below w.heap.size w w15) := hid (BW14.out.trans (hB15.mono BW14.out.size))
  clear hB15 CW
  go_wp2_with fail
  refine ⟨by simp, .inl ⟨_, _, rfl, run_takeDeferred D15.out, ?_⟩⟩
  refine ⟨_, results_tmpC rfl _ _ (.bool true) rfl, rfl, ?_⟩
  exact bel_putC BW15.out (by have := HDD.out; have := BW8.out.size; omega) _
end Go.Proofs.Ytjfebbhnjcnepaa
