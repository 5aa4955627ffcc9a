/- HeapLies, walked. -/
import Derived.Test.YtcgkcappfjhikaaHmA
import Derived.Test.YtcgkcappfjhikaaHpRefS
set_option linter.unusedVariables false
set_option linter.unusedSimpArgs false
namespace Go.Proofs.Ytcgkcappfjhikaa
open Go Go.RowKit
/-- The order's own, and that nothing that came in has turned. -/
def LJ (w0 : World) (bl bs ba bt : Nat) (vl : Value) (l : List Int) (vt : Value) (nt : Nat) (f : Nat → Bool) (c : Nat) (w : World) : Prop := LiJ bl bs ba bt vl l vt nt f c w ∧ ∀ k, k < w0.heap.size → w.heap[k]? = w0.heap[k]?
theorem lies_orc2 {w0 : World} {bl bs ba bt : Nat} {vl : Value} {l : List Int} {vt : Value} {nt : Nat} {f : Nat → Bool} (hbig : l.length ≤ 17592186043904) (hnt : nt ≤ 140737488355328) (hl : I.HB w0 vl l) (ht : HBo w0 vt nt f) (h1 : bl = w0.heap.size) (h2 : bt = w0.heap.size + 1) (h3 : w0.heap.size + 2 ≤ ba) (h4 : bs = ba + 1) :
    OrcF 29 #[.pointer (some ⟨bl, 0, none⟩), .pointer (some ⟨bs, 0, none⟩), .pointer (some ⟨ba, 0, none⟩), .pointer (some ⟨bt, 0, none⟩)] (LJ w0 bl bs ba bt vl l vt nt f) (fun k => k < ba + 2) (fun x => x ∈ l) (fun _ _ _ => True) := by
  have ol : ∀ k, 0 < l.length → vl.ownBlock = some k → k < w0.heap.size := fun k h0 q => by
    obtain ⟨b, off, c', e, _, _, hh⟩ := hl.ne h0
    rw [e] at q
    cases q
    exact World.block_lt_of_cell? w0 ⟨b, off + 0, none⟩ (hh 0 h0)
  have ot : ∀ k, 0 < nt → vt.ownBlock = some k → k < w0.heap.size := fun k h0 q => by
    obtain ⟨p, c', e, hh⟩ := ht
    obtain ⟨b, off, e2, h3⟩ := hh h0
    rw [e, e2] at q
    cases q
    exact World.block_lt_of_cell? w0 ⟨b, off + 0, none⟩ (h3 0 h0)
  have hU : ∀ k, LiU bl bs ba bt vl l vt nt k → k < ba + 2 := fun k hk => by
    rcases hk with q | q | q | q | ⟨h0, q⟩ | ⟨h0, q⟩
    · omega
    · omega
    · omega
    · omega
    · have := ol k h0 q; omega
    · have := ot k h0 q; omega
  refine ⟨fun c w a b hJ ha hb => ?_, fun c w w' h hk => ⟨h.1.stay (fun k q => hk k (hU k q)), fun k q => (hk k (by omega)).trans (h.2 k q)⟩, fun c w h k hk => ?_, fun c c' w hc h => ⟨?_, h.2⟩, fun args w => enters_of Try.func29 (by kernel_rfl) rfl args w⟩
  · refine (lies1_any hJ.1 hbig hnt a b ha hb ⟨by omega, by omega, by omega, fun h0 e => by have := ol _ h0 e; omega, fun h0 e => by have := ot _ h0 e; omega⟩).mono fun e w' ⟨r, q1, q2, q3⟩ => ⟨r, q1, trivial, ⟨q2, fun k hk => ?_⟩, q3.mono (fun k hk => by have : k = ba := hk; omega)⟩
    have hlt : k < w.heap.size := by
      have h5 := hJ.2 k hk
      rw [Array.getElem?_eq_getElem hk] at h5
      exact (Array.getElem?_eq_some_iff.1 h5).1
    rw [q3.block k hlt (fun e => by omega)]
    exact hJ.2 k hk
  · have := (Array.getElem?_eq_some_iff.1 h.1.xs).1
    omega
  · obtain ⟨a, ha, hac⟩ := h.1.xa
    exact ⟨h.1.xl, h.1.xs, ⟨a, ha, by omega⟩, h.1.xt, h.1.hl, h.1.ht⟩
theorem LJ.hd {w0 : World} {bl bs ba bt : Nat} {vl : Value} {l : List Int} {vt : Value} {nt : Nat} {f : Nat → Bool} {c : Nat} {w : World} (h : LJ w0 bl bs ba bt vl l vt nt f c w) {vd : Value} {ds : List Int} (hd : I.HB w0 vd ds) : I.HB w vd ds := HB_stay hd (fun h0 k hv => h.2 k (by
    obtain ⟨b, off, c', e, _, _, hh⟩ := hd.ne h0
    rw [e] at hv
    cases hv
    exact World.block_lt_of_cell? w0 ⟨b, off + 0, none⟩ (hh 0 h0)))
theorem LJ.cl {w0 : World} {bl bs ba bt : Nat} {vl : Value} {l : List Int} {vt : Value} {nt : Nat} {f : Nat → Bool} {c : Nat} {w : World} (h : LJ w0 bl bs ba bt vl l vt nt f c w) : w.cell? ⟨bl, 0, none⟩ = some vl ∧ w.cell? ⟨bs, 0, none⟩ = some (.bool false) := ⟨by rw [cell_of_row _ _ _ _ _ _ h.1.xl]; rfl, by rw [cell_of_row _ _ _ _ _ _ h.1.xs]; rfl⟩
/-- The cells of a list. -/
theorem HB_at {w : World} {p : Option Addr} {n c : Nat} {l : List Int} (h : I.HB w (.slice p n c) l) (hn : l.length = n) {i : Nat} (hi : i < n) : ∃ b off, p = some ⟨b, off, none⟩ ∧ w.cell? ⟨b, off + i, none⟩ = some (.int .i64 (l.getD i 0)) := by
  subst hn
  obtain ⟨b, off, c', e', _, _, hh⟩ := h.ne (by omega)
  simp only [Value.slice.injEq, true_and] at e'
  exact ⟨b, off, e'.1, hh i hi⟩
theorem info_bool17 : (Try.prog.info? 4).map (fun i => (i.zero, i.size, i.bytes)) = some (some (Value.bool false), 1, 1) := by kernel_rfl
/-- A row of n + 1 bools that is the call's own. -/
def GN (w : World) (b n : Nat) (g : Nat → Bool) : Prop := ∃ cur : Array Value, w.heap[b]? = some (.cells cur 4 (0, 0)) ∧ cur.size = n + 1 ∧ ∀ t, t < n + 1 → cur[t]? = some (.bool (g t))
theorem GN.of {w w' : World} {b n : Nat} {g : Nat → Bool} (h : GN w b n g) (hk : w'.heap[b]? = w.heap[b]?) : GN w' b n g := by
  obtain ⟨cur, h1, h2⟩ := h
  exact ⟨cur, hk.trans h1, h2⟩
theorem GN.cell {w : World} {b n : Nat} {g : Nat → Bool} (h : GN w b n g) {t : Nat} (ht : t < n + 1) : w.cell? ⟨b, t, none⟩ = some (.bool (g t)) := by
  obtain ⟨cur, h1, h2, h3⟩ := h
  rw [cell_of_row _ _ _ _ _ _ h1]
  exact h3 t ht
theorem GN.set {w : World} {b n : Nat} {g : Nat → Bool} (h : GN w b n g) {t : Nat} (ht : t < n + 1) : GN (w.setCell ⟨b, t, none⟩ (.bool true)) b n (fun k => if k = t then true else g k) := by
  obtain ⟨cur, h1, h2, h3⟩ := h
  refine ⟨_, bk_set h1 t (.bool true), by simpa using h2, fun k hk => ?_⟩
  show _ = some (Value.bool (if k = t then true else g k))
  by_cases e : k = t
  · subst e
    rw [if_pos rfl]
    simp [h2, hk]
  · rw [if_neg e]
    rw [← h3 k hk]
    simp [Array.getElem?_setIfInBounds, Ne.symm e]
theorem GN.made {w : World} {B b n : Nat} (h : w.ownsRow B 4 1 (.slice (some ⟨b, 0, none⟩) (n + 1) (n + 1)) (n + 1) (madeCells (Value.bool false).cells ((n + 1) * 1)).toList) : GN w b n (fun _ => false) := by
  rcases h.2 with ⟨q, _⟩ | ⟨b', cap, cur, hv, _, hw, q1, q2, q3, q4⟩
  · cases q
  · simp only [Value.slice.injEq, Option.some.injEq, Addr.mk.injEq, true_and, and_true] at hv
    obtain ⟨rfl, rfl⟩ := hv
    have hs : cur.size = n + 1 := by simpa using q3
    refine ⟨cur, hw, hs, fun t ht => ?_⟩
    rw [show (Value.bool false).cells = #[Value.bool false] from rfl, toList_madeCells_one, List.take_of_length_le (by simp [hs])] at q4
    rw [← Array.getElem?_toList, q4, List.getElem?_replicate, if_pos (by omega)]
theorem LvF_eq {J : Nat → World → Prop} {U : Nat → Prop} {Dm : Int → Prop} {fid : Nat} {fr : Array Value} {Ls : Int → Int → Bool → Prop} {w : World} {g : Nat} {sf : Value} {mp : Option Nat} {L : List (Rw Int)} {nx : Nat} {lo : Int} {v : Value} {S : Nat → Prop} (O : OrcF fid fr J U Dm Ls) {c : Nat} (h : Lv (J c) U Dm fid fr w g sf mp L nx lo v S) {w' : World} (hk : ∀ k, S k ∨ U k → w'.heap[k]? = w.heap[k]?) : Lv (J c) U Dm fid fr w' g sf mp L nx lo v S :=
  ⟨h.hp.of (fun k q => hk k (.inl q)), O.stay _ _ _ h.j (fun k q => hk k (.inr q)), h.ap, h.dm⟩
theorem idxL_mem {l : List Int} {n : Nat} {p : Nat × Int} (h : p ∈ idxL l n) : p.1 < n ∧ p.2 = l.getD p.1 0 := by
  obtain ⟨k, hk, rfl⟩ := List.mem_map.1 h
  exact ⟨List.mem_range.1 hk, rfl⟩
theorem fuel_j (A n m j k : Nat) (hj : j < m) (hk : k ≤ n) : A + 183 * (m - (j + 1)) + 183 ≤ A + 183 * (m - j) := by omega
theorem idxL_snd (l : List Int) : (idxL l l.length).map (·.2) = l := by
  unfold idxL
  rw [List.map_map]
  apply List.ext_getElem?
  intro i
  rw [List.getElem?_map]
  by_cases hi : i < l.length
  · rw [List.getElem?_eq_getElem (by simpa using hi), List.getElem?_eq_getElem hi]
    simp [List.getD, List.getElem?_eq_getElem hi]
  · rw [List.getElem?_eq_none (by simpa using hi), List.getElem?_eq_none (by omega)]
    rfl
/-- The heap of HeapLies. -/
abbrev LvL (w0 : World) (ba : Nat) (vl : Value) (l : List Int) (vt : Value) (nt : Nat) (f : Nat → Bool) (c : Nat) (w : World) (G Mm : Nat) (L : List (Rw Int)) (nx : Nat) (v : Value) (S : Nat → Prop) : Prop :=
  Lv (LJ w0 w0.heap.size (ba + 1) ba (w0.heap.size + 1) vl l vt nt f c) (fun k => k < ba + 2) (fun x => x ∈ l) 29 #[.pointer (some ⟨w0.heap.size, 0, none⟩), .pointer (some ⟨ba + 1, 0, none⟩), .pointer (some ⟨ba, 0, none⟩), .pointer (some ⟨w0.heap.size + 1, 0, none⟩)] w G (ptr G) (some Mm) L nx (-1) v S
set_option maxRecDepth 100000 in
set_option maxHeartbeats 8000000 in
theorem hlies_walk (w : World) (vl : Value) (l : List Int) (vt : Value) (nt : Nat) (f : Nat → Bool) (vd : Value) (ds : List Int) (hl : I.HB w vl l) (ht : HBo w vt nt f) (hd : I.HB w vd ds) (hbig : l.length ≤ 17592186043904) (hnt : nt ≤ 140737488355328) (hdb : ds.length ≤ 17592186043904) :
    Calls Try.prog 6 #[vl, vt, vd] w fun e w' => e = .returned (.bool true) ∧ Below w.heap.size w w' := by
  have hmf : ∀ (fn : Fn) (first cap : Array Value) (w : World), (Instr.makeFunc fn first cap).run Try.prog w = .ok (.func fn first cap) w := fun _ _ _ _ => rfl
  have HL := hid hl
  have HT := hid ht
  have HD := hid hd
  obtain ⟨pl, cl, hvl, _, _⟩ := hl.open
  obtain ⟨pt, ct, hvt, _⟩ := id ht
  obtain ⟨pd, cd, hvd, _, _⟩ := hd.open
  subst hvl hvt hvd
  clear hl ht hd
  obtain ⟨n, hn⟩ : ∃ n, Hid (l.length = n) := ⟨_, rfl⟩
  obtain ⟨m, hm⟩ : ∃ n, Hid (ds.length = n) := ⟨_, rfl⟩
  obtain ⟨A, hA⟩ : ∃ A, Hid (183 * (n + 1) = A) := ⟨_, rfl⟩
  obtain ⟨B, hB⟩ : ∃ A, Hid (183 * m = A) := ⟨_, rfl⟩
  have hbn : n ≤ 17592186043904 := by rw [← hn.out]; exact hbig
  have hbm : m ≤ 17592186043904 := by rw [← hm.out]; exact hdb
  have hA1 : A ≤ 4000000000000000 := by rw [← hA.out]; omega
  have hB1 : B ≤ 4000000000000000 := by rw [← hB.out]; omega
  rw [hn.out] at hbig
  rw [hm.out] at hdb
  -- the boxes
  obtain ⟨w0, HW0⟩ : ∃ w0, Hid ((w.alloc (.cells #[.slice pl n cl] 42)).alloc (.cells #[.slice pt nt ct] 68) = w0) := ⟨_, rfl⟩
  have hs0 : w0.heap.size = w.heap.size + 2 := by rw [← HW0.out]; show ((w.heap.push _).push _).size = _; rw [Array.size_push, Array.size_push]
  have B0 : Below w.heap.size w w0 := by rw [← HW0.out]; exact ((Below.refl _ _).alloc (Nat.le_refl _) _).alloc (by simp) _
  have x1 : w0.heap[w.heap.size]? = some (.cells #[.slice pl n cl] 42 (0, 0)) := by rw [← HW0.out]; exact (heap_alloc_old _ _ (by simp)).trans (heap_alloc_new w _)
  have x2 : w0.heap[w.heap.size + 1]? = some (.cells #[.slice pt nt ct] 68 (0, 0)) := by
    rw [← HW0.out]
    show ((w.heap.push _).push _)[w.heap.size + 1]? = _
    rw [Array.getElem?_push, if_pos (by rw [Array.size_push])]
  have C0 := hid (lives_any w0)
  have HX1 := hid x1
  have HX2 := hid x2
  have HB0 := hid B0
  have HS0 := hid hs0
  clear x1 x2 B0 hs0
  rw [hn.out, hm.out]
  go_enter Try.func6, Try.ntmps6
  go_wp2_with fail
  rw [HW0.out]
  refine C0.out.mono ?_
  rintro e w1 ⟨rfl, hb1⟩
  have hs1 : w.heap.size + 2 ≤ w1.heap.size := by have := hb1.size; have := HS0.out; omega
  have HB1 := hid hb1
  clear hb1 C0 HW0
  go_wp2_with fail
  obtain ⟨ba, Hba⟩ : ∃ ba, Hid (w1.heap.size = ba) := ⟨_, rfl⟩
  rw [Hba.out] at hs1
  obtain ⟨w2, HW2⟩ : ∃ w2, Hid ((w1.alloc (.cells #[.int .i64 0] 3)).alloc (.cells #[.bool false] 4) = w2) := ⟨_, rfl⟩
  have hs2 : w2.heap.size = ba + 2 := by rw [← HW2.out, ← Hba.out]; show ((w1.heap.push _).push _).size = _; rw [Array.size_push, Array.size_push]
  have hold2 : ∀ k, k < ba → w2.heap[k]? = w1.heap[k]? := fun k hk => by
    rw [← Hba.out] at hk
    rw [← HW2.out]
    exact (heap_alloc_old _ _ (by simp; omega)).trans (heap_alloc_old w1 _ hk)
  have y1 : w2.heap[ba]? = some (.cells #[.int .i64 ((0 : Nat) : Int)] 3 (0, 0)) := by rw [← HW2.out, ← Hba.out]; exact (heap_alloc_old _ _ (by simp)).trans (heap_alloc_new w1 _)
  have y2 : w2.heap[ba + 1]? = some (.cells #[.bool false] 4 (0, 0)) := by
    rw [← HW2.out, ← Hba.out]
    show ((w1.heap.push _).push _)[w1.heap.size + 1]? = _
    rw [Array.getElem?_push, if_pos (by rw [Array.size_push])]
  have hsame2 : ∀ k, k < w.heap.size → w2.heap[k]? = w.heap[k]? := fun k hk => (hold2 k (by omega)).trans ((HB1.out.block k (by have := HS0.out; omega)).trans (HB0.out.block k hk))
  have HJ2 : Hid (LJ w w.heap.size (ba + 1) ba (w.heap.size + 1) (.slice pl n cl) l (.slice pt nt ct) nt f (4 * A + B + 1) w2) := by
    have hl2 : I.HB w2 (.slice pl n cl) l := by
      have q := HL.out
      rw [hn.out] at q
      exact HB_stay q (fun h0 k hv => hsame2 k (by
        obtain ⟨b, off, c', e, _, _, hh⟩ := q.ne h0
        rw [e] at hv
        cases hv
        exact World.block_lt_of_cell? w ⟨b, off + 0, none⟩ (hh 0 h0)))
    have ht2 : HBo w2 (.slice pt nt ct) nt f := HBo_stay HT.out (fun h0 k hv => hsame2 k (by
        obtain ⟨p, c', e, hh⟩ := HT.out
        obtain ⟨b, off, e2, h3⟩ := hh h0
        rw [e, e2] at hv
        cases hv
        exact World.block_lt_of_cell? w ⟨b, off + 0, none⟩ (h3 0 h0)))
    exact hid ⟨⟨(hold2 _ (by omega)).trans ((HB1.out.block _ (by have := HS0.out; omega)).trans HX1.out), y2, ⟨0, y1, by omega⟩, (hold2 _ (by omega)).trans ((HB1.out.block _ (by have := HS0.out; omega)).trans HX2.out), hl2, ht2⟩, hsame2⟩
  have O := lies_orc2 (w0 := w) (bl := w.heap.size) (bs := ba + 1) (ba := ba) (bt := w.heap.size + 1) (vl := .slice pl n cl) (l := l) (vt := .slice pt nt ct) (nt := nt) (f := f) (by rw [hn.out]; exact hbig) hnt (by have q := HL.out; rw [hn.out] at q; exact q) HT.out rfl rfl hs1 rfl
  have hO := lies_ord
  have E2 : Hid (Ex (fun k => k < ba + 2) w w2) := hid (by
    have e1 : Below w.heap.size w w1 := HB0.out.trans (HB1.out.mono (by have := HS0.out; omega))
    rw [← HW2.out]
    exact ((Ex.of_below e1).alloc _).alloc _)
  have HS2 := hid hs2
  have HSAME2 := hid hsame2
  clear hold2 y1 y2 hsame2 hs2 HX1 HX2
  have C3 := hid (new_ok w2 29 #[.pointer (some ⟨w.heap.size, 0, none⟩), .pointer (some ⟨ba + 1, 0, none⟩), .pointer (some ⟨ba, 0, none⟩), .pointer (some ⟨w.heap.size + 1, 0, none⟩)])
  have L3 := hid (nh_f O w2 HJ2.out)
  rw [HW2.out, Hba.out]
  refine C3.out.mono ?_
  rintro e w3 ⟨rfl, hw3⟩
  have hE3 : Ex (fun k => k < ba + 2) w2 w3 := by rw [hw3]; exact nh_ex _ _ _
  rw [← hw3] at L3
  have E3 : Hid (Ex (fun k => k < ba + 2) w w3) := hid (E2.out.trans hE3 (fun _ q => .inl q))
  have hs3 : ba + 2 ≤ w3.heap.size := by have := hE3.size; have := HS2.out; omega
  clear hw3 C3 hE3
  obtain ⟨S0, HSS0⟩ : ∃ S0, Hid ((fun k => w2.heap.size ≤ k ∧ k < w3.heap.size) = S0) := ⟨_, rfl⟩
  rw [HSS0.out] at L3
  have hlow0 : Hid (∀ k, S0 k → ba + 2 ≤ k ∧ k < w3.heap.size) := hid (by rw [← HSS0.out]; intro k hk; have := HS2.out; omega)
  clear HSS0
  obtain ⟨G, HG⟩ : ∃ G, Hid (w2.heap.size + 1 = G) := ⟨_, rfl⟩
  obtain ⟨Mm, HMm⟩ : ∃ M, Hid (w2.heap.size = M) := ⟨_, rfl⟩
  rw [HG.out, HMm.out] at L3
  rw [HG.out]
  clear HG HMm HW2 Hba HJ2 E2 HSAME2 HB1 HB0
  -- Sorted
  have c3 := L3.out.j.cl.1
  have hl3 := L3.out.j.1.hl
  have hA6 : 366 * (l.length + 1) = 2 * A := by rw [hn.out, ← hA.out]; omega
  have CSo := sorted_f O hO (2 * A + B + 1) w3 _ l hl3 (O.mono _ _ _ (by omega) L3.out.j) (fun x hx => hx) (by rw [hn.out]; omega)
  have CSo := hid CSo
  clear hl3
  go_wp2_with fail
  refine CSo.out.mono ?_
  rintro e w4 ⟨vs, rfl, R, hos, hso, hJ4, hE4⟩
  have L4 := hid (L3.out.exJ hE4 hJ4)
  have E4 : Hid (Ex (fun k => k < ba + 2) w w4) := hid (E3.out.trans hE4 (fun _ q => .inl q))
  have hs4 : w3.heap.size ≤ w4.heap.size := hE4.size
  have HRP : Hid ((R.map (·.x)).Perm l) := hid (by
    have h1 := hso.1.map (·.2)
    have e1 : (R.map prR).map (·.2) = R.map (·.x) := by rw [List.map_map]; rfl
    have e2 : (idxL l l.length).map (·.2) = l := idxL_snd l
    rw [e1, e2] at h1
    exact h1)
  rw [hn.out] at hos
  have HOS := hid hos
  have HSGE : Hid (∀ b, vs.ownBlock = some b → w3.heap.size ≤ b ∧ b < w4.heap.size) := hid (own_ge hos)
  obtain ⟨ps, cs, hvs⟩ := own_slc hos
  subst hvs
  obtain ⟨Ms, HMs⟩ : ∃ M, Hid (R.map (·.x) = M) := ⟨_, rfl⟩
  rw [HMs.out] at HOS HRP
  clear hos hso hJ4 hE4 CSo c3 L3 E3
  have c4 := L4.out.j.cl.1
  go_wp2_with fail
  go_loopw [14] (fun vi wr => ∃ (i : Nat) (L : List (Rw Int)) (v' : Value) (S : Nat → Prop), vi = .int .i64 (i : Int) ∧ i ≤ n ∧ Hid (LvL w ba (.slice pl n cl) l (.slice pt nt ct) nt f (B + 183 * (n + 1) + 183 * (n - i)) wr G Mm L i v' S) ∧ Hid ((L.map prR).Perm (idxL l i)) ∧ Hid (∀ k, S k → ba + 2 ≤ k) ∧ Hid (∀ b, (Value.slice ps n cs).ownBlock = some b → ¬ S b) ∧ Hid (wr.ownsRow w3.heap.size 3 1 (.slice ps n cs) n (Ms.map (Value.int .i64))) ∧ Hid (Ex (fun k => k < ba + 2) w wr)) (fun vi _ => n - (intOf vi).toNat)
  case atStart => exact ⟨0, [], _, S0, rfl, Nat.zero_le _, hid (L4.out.mono O (by
      have h := fuel_a B n
      have e : 366 * (n + 1) = 2 * A := by rw [← hA6, hn.out]
      rw [e] at h
      omega)), hid (List.Perm.refl _), hid (fun k hk => (hlow0.out k hk).1), hid (fun b hb q => by have := (HSGE.out b hb).1; have := (hlow0.out b q).2; omega), HOS, E4⟩
  case round =>
    clear L4 HOS E4 c4
    obtain ⟨i, L, v', S, rfl, hi, HLv, HPM, HLOW, HNS, HOS, HEX⟩ := hrel
    have c5 := HLv.out.j.cl.1
    by_cases hlt : i < n
    · have hlt' : (i : Int) < (n : Int) := by omega
      have hlen : L.length = i := by have := HPM.out.length_eq; rw [idxL_length, List.length_map] at this; exact this
      obtain ⟨bb, off, rfl, hci⟩ := HB_at HLv.out.j.1.hl hn.out hlt
      have hil : i < l.length := by rw [hn.out]; exact hlt
      have hDx := getD_mem hil
      have HSU := hid (idxL_succ l i)
      obtain ⟨x, HX⟩ : ∃ x, Hid (l.getD i 0 = x) := ⟨_, rfl⟩
      rw [HX.out] at hci hDx HSU
      have CP := hid (push_f O hO (B + 183 * (n + 1) + 183 * (n - (i + 1))) (HLv.out.mono O (fuel_b B n i hlt)) rfl x hDx (by omega))
      clear hDx hlen
      go_wp2_with fail
      refine CP.out.mono ?_
      rintro e w5 ⟨rfl, L', v2, S', b', hL', hE', hP', hq', hs'⟩
      have HL' := hid hL'
      have HPM' : Hid ((L'.map prR).Perm (idxL l (i + 1))) := hid (by
        rw [HSU.out]
        refine (hP'.map prR).trans ?_
        rw [List.map_cons]
        exact ((HPM.out.cons _).trans (List.perm_append_comm (l₁ := [(i, x)]))))
      have hwr := O.lt _ _ HLv.out.j (ba + 1) (by omega)
      have HLOW' : Hid (∀ k, S' k → ba + 2 ≤ k) := hid fun k hk => by
        rcases hs' k hk with q | q
        · exact HLOW.out k q
        · omega
      have hclt := own_ge HOS.out
      have HNS' : Hid (∀ b, (Value.slice ps n cs).ownBlock = some b → ¬ S' b) := hid fun b hb q => by
        rcases hs' b q with z | z
        · exact HNS.out b hb z
        · have := (hclt b hb).2; omega
      have HOS' := hid (own_ex HOS.out hE' (fun b hb q => by
        rcases q with q | q
        · exact HNS.out b hb q
        · have h1 := (hclt b hb).1
          have h2 : b < ba + 2 := q
          omega))
      have HEX' : Hid (Ex (fun k => k < ba + 2) w w5) := hid (HEX.out.trans hE' (fun k hk => by
        rcases hk with z | z
        · exact .inr (by have := HLOW.out k z; omega)
        · exact .inl z))
      have hlen' : L'.length = i + 1 := by have := HPM'.out.length_eq; rw [idxL_length, List.length_map] at this; exact this
      have CL := len_ok hL'.hp
      rw [hlen'] at CL
      have CL := hid CL
      clear CP hL' hE' hP' hq' hs' hci hlen' hclt HOS HNS HEX HLOW HLv HPM hwr c5
      go_wp2_with fail
      refine CL.out.mono ?_
      rintro e w6 ⟨rfl, hw6⟩
      rw [hw6]
      clear hw6 CL
      go_wp2_with fail
      exact ⟨⟨i + 1, L', v2, S', by go_num, by omega, HL', HPM', HLOW', HNS', HOS', HEX'⟩, by simp [intOf]; omega⟩
    · have hin : n = i := by omega
      subst hin
      have hge : ¬ (n : Int) < (n : Int) := by omega
      obtain ⟨ib, hib, hzb0, hzb1, hzb2⟩ := info_parts info_bool17
      have hwz := O.lt _ _ HLv.out.j (ba + 1) (by omega)
      obtain ⟨w6, hmk, hown6, hgr6⟩ := run_make_full (P := Try.prog) wr wr.heap.size 68 4 ib (.bool false) 1 Try.underlying68 hib hzb0 hzb1 .i64 .i64 (n + 1) (by rw [hzb2]; omega) (by unfold maxLen; omega) (Nat.le_refl _)
      have hmk2 : (Instr.makeSlice 68 (.int .i64 ((n : Int) + 1)) (.int .i64 ((n : Int) + 1))).run Try.prog wr = .ok (.slice (some ⟨wr.heap.size, 0, none⟩) (n + 1) (n + 1)) w6 := hmk
      have hk6 : ∀ k, k < wr.heap.size → w6.heap[k]? = wr.heap[k]? := fun k hk => hgr6.block k hk (by simp)
      have HG6 := hid (GN.made hown6)
      have hs6 : wr.heap.size < w6.heap.size := (own_ge hown6 _ rfl).2
      have L6 : Hid (LvL w ba (.slice pl n cl) l (.slice pt nt ct) nt f (183 * (n + 1) + 183 * (m - 0)) w6 G Mm L n v' S) := hid (LvF_eq O (HLv.out.mono O (by rw [Nat.sub_zero, hB.out]; omega)) (fun k hk => by
        rcases hk with q | q
        · exact hk6 k (HLv.out.hp.lt k q)
        · have : k < ba + 2 := q
          exact hk6 k (by omega)))
      have E6 : Hid (Ex (fun k => k < ba + 2) w w6) := hid (HEX.out.trans (Ex.grown (S := fun _ => False) hgr6 (fun k e => by cases e)) (fun k hk => hk.elim))
      have hps := own_ge HOS.out
      have HOS6 := hid (own_ex HOS.out (Ex.grown (S := fun _ => False) hgr6 (fun k e => by cases e)) (fun b hb q => q))
      have HS6 : Hid (∀ k, S k → ba + 2 ≤ k ∧ k < wr.heap.size) := hid fun k hk => ⟨HLOW.out k hk, HLv.out.hp.lt k hk⟩
      have HNS6 : Hid (∀ b, (Value.slice ps n cs).ownBlock = some b → w3.heap.size ≤ b ∧ b < wr.heap.size ∧ ¬ S b) := hid fun b hb => ⟨(hps b hb).1, (hps b hb).2, HNS.out b hb⟩
      have HGR : Hid (∀ t, t < n → ∃ r ∈ L, r.t = t) := hid fun t ht => by
        have : (t, l.getD t 0) ∈ L.map prR := HPM.out.symm.subset (List.mem_map.2 ⟨t, List.mem_range.2 ht, rfl⟩)
        obtain ⟨r, hr, e⟩ := List.mem_map.1 this
        exact ⟨r, hr, congrArg (·.1) e⟩
      obtain ⟨N2, HN2⟩ : ∃ N, Hid (wr.heap.size = N) := ⟨_, rfl⟩
      obtain ⟨N6, HN6⟩ : ∃ N, Hid (w6.heap.size = N) := ⟨_, rfl⟩
      rw [HN2.out] at hmk2 HG6 hs6 HS6 HNS6 hwz
      rw [HN6.out] at hs6
      clear hmk hown6 hgr6 hk6 hps HLv HEX HOS HNS HLOW
      go_wp2_with fail
      go_loopw [17, 19] (fun vo vj wz => ∃ (j : Nat) (Q : List (Nat × Int)) (L : List (Rw Int)) (v' : Value) (S : Nat → Prop) (g : Nat → Bool), vj = .int .i64 (j : Int) ∧ j ≤ m ∧ N6 ≤ wz.heap.size ∧ Hid (LvL w ba (.slice pl n cl) l (.slice pt nt ct) nt f (183 * (n + 1) + 183 * (m - j)) wz G Mm L n v' S) ∧ Hid ((Q ++ L.map prR).Perm (idxL l n)) ∧ Hid (∀ k, S k → ba + 2 ≤ k ∧ k < N2) ∧ Hid (∀ b, (Value.slice ps n cs).ownBlock = some b → w3.heap.size ≤ b ∧ b < N2 ∧ ¬ S b) ∧ Hid (wz.ownsRow w3.heap.size 3 1 (.slice ps n cs) n (Ms.map (Value.int .i64))) ∧ Hid (GN wz N2 n g) ∧ Hid (∀ t, t < n → (g t = false ↔ ∃ r ∈ L, r.t = t)) ∧ Hid (wz.ownsRow N6 3 1 vo Q.length ((Q.map (·.2)).map (Value.int .i64))) ∧ Hid (Ex (fun k => k < ba + 2) w wz)) (fun _ vj _ => m - (intOf vj).toNat)
      case atStart => exact ⟨0, [], L, v', S, fun _ => false, rfl, Nat.zero_le _, by rw [HN6.out]; exact Nat.le_refl _, L6, HPM, HS6, HNS6, HOS6, HG6, hid (fun t ht => ⟨fun _ => HGR.out t ht, fun _ => rfl⟩), hid (World.ownsRow_nil _ _ _ _), E6⟩
      case round =>
        clear L6 HPM HS6 HNS6 HOS6 HG6 HGR E6 c5
        obtain ⟨j, Q, L, v', S, g, rfl, hj, hNz, HLv, HPM, HLOW, HNS, HOS, HG, HGR, HO, HEX⟩ := hrel
        have c6 := HLv.out.j.cl.1
        have hlL : Q.length + L.length = n := by have := HPM.out.length_eq; rw [idxL_length, List.length_append, List.length_map] at this; exact this
        by_cases hlt : j < m
        · have hlt' : (j : Int) < (m : Int) := by omega
          have hd6 : I.HB wr (.slice pd m cd) ds := by have q := HLv.out.j.hd HD.out; rw [hm.out] at q; exact q
          obtain ⟨bd, offd, rfl, hcd⟩ := HB_at hd6 hm.out hlt
          obtain ⟨d, HDd⟩ : ∃ d, Hid (ds.getD j 0 = d) := ⟨_, rfl⟩
          rw [HDd.out] at hcd
          obtain ⟨tt, Htt, htt⟩ : ∃ tt : Nat, pkV d (n + 1) = (tt : Int) ∧ tt < n + 1 := by
            have := pkV_in d (n + 1) (by omega)
            exact ⟨(pkV d (n + 1)).toNat, by omega, by omega⟩
          have CPK : Hid (∀ W : World, Calls Try.prog 12 #[.int .i64 d, .int .i64 ((n : Int) + 1)] W fun e w' => e = .returned (.int .i64 (tt : Int)) ∧ w' = W) := hid fun W => by
            have := pick_any W d (n + 1) (by omega) (by omega)
            rw [Htt] at this
            exact this
          have CD : Hid (∀ q : Nat, _) := hid fun q : Nat => drop_f O hO (183 * (n + 1) + 183 * (m - (j + 1))) ((LvF_eq O HLv.out (w' := wr.drewN q) (fun k _ => rfl)).mono O (fuel_j _ n m j L.length hlt (by omega))) rfl (tt : Int)
          clear Htt hd6
          go_wp2_with fail
          go_quiet ((go_at_call 12; exact Calls.quiet_of_same (CPK.out _)))
          go_wp2_with fail
          refine (CD.out _).mono ?_
          rintro e w7 hcase
          have hN2S : ¬ S N2 := fun q => by have := (HLOW.out N2 q).2; omega
          have hogN := own_ge HO.out
          rcases hcase with ⟨hno, rfl, hL7, hE7⟩ | ⟨r, hr, hrt, rfl, L', v2, hL', hE', hP', _⟩
          · have hE : Ex S wr w7 := ⟨hE7.os, hE7.tape, hE7.output, hE7.size, hE7.block⟩
            have HL7 := hid (hL7.mono O (Nat.le_add_right _ _))
            have HG7 := hid (HG.out.of (hE.block N2 (by omega) hN2S))
            have HO7 := hid (own_ex HO.out hE (fun b hb q => by have := (hogN b hb).1; have := (HLOW.out b q).2; omega))
            have HOS7 := hid (own_ex HOS.out hE (fun b hb q => (HNS.out b hb).2.2 q))
            have HEX7 : Hid (Ex (fun k => k < ba + 2) w w7) := hid (HEX.out.trans hE (fun k hk => .inr (by have := (HLOW.out k hk).1; omega)))
            have hs7 : wr.heap.size ≤ w7.heap.size := hE.size
            have c7 := hL7.j.cl.1
            by_cases htn : tt < n
            · have htn' : ¬ (n : Int) ≤ (tt : Int) := by omega
              have hgt : g tt = true := by
                cases hq : g tt with
                | true => rfl
                | false =>
                  obtain ⟨r, hr, e⟩ := (HGR.out tt htn).1 hq
                  exact absurd (by rw [e] : (r.t : Int) = tt) (hno r hr)
              have cg := HG7.out.cell htt
              rw [hgt] at cg
              have htt' : (tt : Int) < (n : Int) + 1 := by omega
              clear hno hL7 hE7 hE HLv HG HO HOS HEX CD CPK hogN hcd hgt c6
              go_wp2_with fail
              exact ⟨⟨j + 1, Q, L, v', S, g, by go_num, by omega, by omega, HL7, HPM, HLOW, HNS, HOS7, HG7, HGR, HO7, HEX7⟩, by simp [intOf]; omega⟩
            · have htn' : (n : Int) ≤ (tt : Int) := by omega
              clear hno hL7 hE7 hE HLv HG HO HOS HEX CD CPK hogN hcd c6
              go_wp2_with fail
              exact ⟨⟨j + 1, Q, L, v', S, g, by go_num, by omega, by omega, HL7, HPM, HLOW, HNS, HOS7, HG7, HGR, HO7, HEX7⟩, by simp [intOf]; omega⟩
          · have hE : Ex (SU S (fun k => k < ba + 2)) wr w7 := ⟨hE'.os, hE'.tape, hE'.output, hE'.size, hE'.block⟩
            have hrt' : r.t = tt := by omega
            have hmem : prR r ∈ idxL l n := HPM.out.subset (List.mem_append.2 (.inr (List.mem_map.2 ⟨r, hr, rfl⟩)))
            have hix := idxL_mem hmem
            have htn : tt < n := by have := hix.1; rw [← hrt']; exact this
            have hrx : l.getD tt 0 = r.x := by rw [← hrt']; exact hix.2.symm
            have htn' : ¬ (n : Int) ≤ (tt : Int) := by omega
            have hgt : g tt = false := (HGR.out tt htn).2 ⟨r, hr, hrt'⟩
            have HL7 := hid hL'
            have hNU : ¬ SU S (fun k => k < ba + 2) N2 := fun q => by
              rcases q with q | q
              · exact hN2S q
              · have : N2 < ba + 2 := q
                omega
            have HG7 := hid (HG.out.of (hE.block N2 (by omega) hNU))
            have HO7 := hid (own_ex HO.out hE (fun b hb q => by
              have := (hogN b hb).1
              rcases q with q | q
              · have := (HLOW.out b q).2; omega
              · have : b < ba + 2 := q
                omega))
            have HOS7 := hid (own_ex HOS.out hE (fun b hb q => by
              rcases q with q | q
              · exact (HNS.out b hb).2.2 q
              · have : b < ba + 2 := q
                have := (HNS.out b hb).1
                omega))
            have HEX7 : Hid (Ex (fun k => k < ba + 2) w w7) := hid (HEX.out.trans hE (fun k hk => by
              rcases hk with z | z
              · exact .inr (by have := (HLOW.out k z).1; omega)
              · exact .inl z))
            have hs7 : wr.heap.size ≤ w7.heap.size := hE.size
            have c7 := hL'.j.cl.1
            obtain ⟨bb, off, rfl, hci⟩ := HB_at hL'.j.1.hl hn.out htn
            rw [hrx] at hci
            have cg := HG7.out.cell htt
            rw [hgt] at cg
            have htt' : (tt : Int) < (n : Int) + 1 := by omega
            have htt2 : (tt : Int) < (n : Int) := by omega
            have fz : w7.frozen? ⟨N2, tt, none⟩ = false := by
              obtain ⟨cur, hcur, _⟩ := HG7.out
              exact free_of hcur tt
            have HPM' : Hid (((Q ++ [prR r]) ++ L'.map prR).Perm (idxL l n)) := hid (by
              refine List.Perm.trans ?_ HPM.out
              rw [List.append_assoc]
              refine List.Perm.append_left Q ?_
              exact ((hP'.map prR).symm))
            have HGR' : Hid (∀ t, t < n → ((if t = tt then true else g t) = false ↔ ∃ r ∈ L', r.t = t)) := hid fun t ht => by
              have hnd : ((r :: L').map (·.t)).Nodup := (hP'.map (·.t)).nodup_iff.1 HLv.out.hp.one
              rw [List.map_cons, List.nodup_cons] at hnd
              by_cases e : t = tt
              · rw [if_pos e]
                refine ⟨fun q => (by cases q), fun ⟨r2, h2, e2⟩ => ?_⟩
                exact absurd (List.mem_map.2 ⟨r2, h2, by show r2.t = r.t; omega⟩) hnd.1
              · rw [if_neg e, HGR.out t ht]
                refine ⟨fun ⟨r2, h2, e2⟩ => ?_, fun ⟨r2, h2, e2⟩ => ⟨r2, hP'.symm.subset (List.mem_cons_of_mem _ h2), e2⟩⟩
                rcases List.mem_cons.1 (hP'.subset h2) with q | q
                · rw [q] at e2; omega
                · exact ⟨r2, q, e2⟩
            obtain ⟨pq, cq, hvq⟩ := own_slc HO7.out
            subst hvq
            have hN27 : N2 < w7.heap.size := by omega
            have HO8 : Hid ((w7.setCell ⟨N2, tt, none⟩ (.bool true)).ownsRow N6 3 1 (.slice pq Q.length cq) Q.length ((Q.map (·.2)).map (Value.int .i64))) := hid (ownsRow_setCell_other HO7.out (fun e => by have := (hogN N2 e).1; omega) _)
            have hQn : Q.length ≤ n := by omega
            have CY : Hid (((w7.setCell ⟨N2, tt, none⟩ (.bool true)).alloc (.cells #[.int .i64 r.x] 3)).cell? ⟨w7.heap.size, 0, none⟩ = some (.int .i64 r.x)) := hid (by
              have q := cell_of_row _ _ 0 _ _ _ (heap_alloc_new (w7.setCell ⟨N2, tt, none⟩ (.bool true)) (.cells #[.int .i64 r.x] 3))
              rw [sz_set] at q
              exact q)
            clear hE' hE HLv HG HO HOS HEX CD CPK hcd hgt c6 hix hmem hrx HPM HGR hrt hr hL'
            go_wp2_with (at_builtin; refine I.wpList_append_byte rfl _ _ rfl N6 _ Q.length _ rfl (HO8.out.alloc _) ⟨w7.heap.size, 0, none⟩ 1 r.x rfl CY.out ?q1 ?q2 ?_)
            case q1 => omega
            case q2 => first | omega | (show N6 ≤ ((w7.setCell ⟨N2, tt, none⟩ (.bool true)).heap.push _).size; rw [Array.size_push, sz_set]; omega) | (simp; omega)
            intro v9 w9 hown9 hgr9 hor9
            have HGE := own_ge HO8.out
            have hz : (w7.setCell ⟨N2, tt, none⟩ (.bool true)).heap.size = w7.heap.size := sz_set _ _ _ _
            have hk9 : ∀ x, x < N6 → w9.heap[x]? = (w7.setCell ⟨N2, tt, none⟩ (.bool true)).heap[x]? := fun x hx => (hgr9.block x (by show x < ((w7.setCell ⟨N2, tt, none⟩ (.bool true)).heap.push _).size; rw [Array.size_push, hz]; omega) (fun e => by have := (HGE x e.symm).1; omega)).trans (heap_alloc_old _ _ (by rw [hz]; omega))
            have hk9' : ∀ x, x < N6 → x ≠ N2 → w9.heap[x]? = w7.heap[x]? := fun x hx hne => (hk9 x hx).trans (bk_other (Ne.symm hne) _ _)
            have hs9 : w7.heap.size ≤ w9.heap.size := by
              have h1 := hgr9.size
              have h2 : ((w7.setCell ⟨N2, tt, none⟩ (.bool true)).heap.push (Obj.cells #[Value.int .i64 r.x] 3)).size ≤ w9.heap.size := h1
              rw [Array.size_push, hz] at h2
              omega
            have HO9 : Hid (w9.ownsRow N6 3 1 v9 (Q ++ [prR r]).length (((Q ++ [prR r]).map (·.2)).map (Value.int .i64))) := hid (by
              have e : ((Q ++ [prR r]).map (·.2)).map (Value.int .i64) = (Q.map (·.2)).map (Value.int .i64) ++ [.int .i64 r.x] := by simp [prR]
              have e2 : (Q ++ [prR r]).length = Q.length + 1 := by simp
              rw [e, e2, List.map_map]
              exact hown9)
            have L9 := hid (LvF_eq O HL7.out (w' := w9) (fun k hk => by
              rcases hk with q | q
              · have := HLOW.out k q.1
                exact hk9' k (by omega) (by omega)
              · have : k < ba + 2 := q
                exact hk9' k (by omega) (by omega)))
            have HG9 : Hid (GN w9 N2 n (fun k => if k = tt then true else g k)) := hid ((HG7.out.set htt).of (hk9 N2 hs6))
            have HLOW9 : Hid (∀ k, (S k ∧ k ≠ r.b) → ba + 2 ≤ k ∧ k < N2) := hid fun k hk => HLOW.out k hk.1
            have HNS9 : Hid (∀ b, (Value.slice ps n cs).ownBlock = some b → w3.heap.size ≤ b ∧ b < N2 ∧ ¬ (S b ∧ b ≠ r.b)) := hid fun b hb => ⟨(HNS.out b hb).1, (HNS.out b hb).2.1, fun q => (HNS.out b hb).2.2 q.1⟩
            have E79 : Ex (fun k => k = N2 ∨ N6 ≤ k) w7 w9 := ⟨hgr9.os, hgr9.tape, hgr9.output, hs9, fun k hk hn => hk9' k (by omega) (fun e => hn (.inl e))⟩
            have HOS9 := hid (own_ex HOS7.out E79 (fun b hb q => by
              have := (HNS.out b hb).2.1
              rcases q with q | q <;> omega))
            have HEX9 : Hid (Ex (fun k => k < ba + 2) w w9) := hid (HEX7.out.trans E79 (fun k hk => .inr (by rcases hk with q | q <;> omega)))
            obtain ⟨p9, c9, hv9⟩ := own_slc hown9
            subst hv9
            clear hown9 hgr9 hor9 hk9 hk9' HGE HL7 HO8 HO7 HOS7 HEX7 E79 HG7
            go_wp2_with fail
            exact ⟨⟨j + 1, Q ++ [prR r], L', v2, _, _, by go_num, by omega, by omega, L9, HPM', HLOW9, HNS9, HOS9, HG9, HGR', HO9, HEX9⟩, by simp [intOf]; omega⟩
        · have hjm : m = j := by omega
          subst hjm
          have hge2 : ¬ (m : Int) < (m : Int) := by omega
          have CL := len_ok HLv.out.hp
          obtain ⟨k0, hk0⟩ : ∃ k, Hid (L.length = k) := ⟨_, rfl⟩
          rw [hk0.out] at CL hlL
          have CL := hid CL
          have hk0n : k0 ≤ n := by omega
          have L0 : Hid (LvL w ba (.slice pl n cl) l (.slice pt nt ct) nt f (183 * L.length) wr G Mm L n v' S) := hid (HLv.out.mono O (by
            rw [hk0.out]
            omega))
          clear HLv
          go_wp2_with fail
          refine CL.out.mono ?_
          rintro e w7 ⟨rfl, hw7⟩
          rw [hw7]
          clear hw7 CL
          go_wp2_with fail
          go_loopw [17, 23] (fun vo vk wz => ∃ (k : Nat) (Q : List (Nat × Int)) (L : List (Rw Int)) (v' : Value) (S : Nat → Prop), vk = .int .i64 (k : Int) ∧ k ≤ n ∧ N6 ≤ wz.heap.size ∧ Hid (L.length = k) ∧ Hid (LvL w ba (.slice pl n cl) l (.slice pt nt ct) nt f (183 * L.length) wz G Mm L n v' S) ∧ Hid ((Q ++ L.map prR).Perm (idxL l n)) ∧ Hid (∀ k, S k → ba + 2 ≤ k ∧ k < N2) ∧ Hid (∀ b, (Value.slice ps n cs).ownBlock = some b → w3.heap.size ≤ b ∧ b < N2 ∧ ¬ S b) ∧ Hid (wz.ownsRow w3.heap.size 3 1 (.slice ps n cs) n (Ms.map (Value.int .i64))) ∧ Hid (wz.ownsRow N6 3 1 vo Q.length ((Q.map (·.2)).map (Value.int .i64))) ∧ Hid (Ex (fun k => k < ba + 2) w wz)) (fun _ vk _ => (intOf vk).toNat)
          case atStart => exact ⟨k0, Q, L, v', S, rfl, hk0n, hNz, hk0, L0, HPM, HLOW, HNS, HOS, HO, HEX⟩
          case round =>
            clear L0 HPM HLOW HNS HOS HO HEX HG HGR c6 hk0 hlL hk0n hNz
            obtain ⟨k, Q, L, v', S, rfl, hk, hNz, hkL, HLv, HPM, HLOW, HNS, HOS, HO, HEX⟩ := hrel
            have hlL : Q.length + k = n := by have := HPM.out.length_eq; rw [idxL_length, List.length_append, List.length_map, hkL.out] at this; exact this
            have c6 := HLv.out.j.cl.1
            by_cases hlt : 0 < k
            · have hlt' : (0 : Int) < (k : Int) := by omega
              have hl0 : 0 < L.length := by rw [hkL.out]; exact hlt
              have CP := hid (pop_f O hO (183 * (L.length - 1)) (HLv.out.mono O (by
                obtain ⟨q, hq⟩ : ∃ q, L.length = q + 1 := ⟨L.length - 1, by omega⟩
                have h := fuel_d 0 (n + 1) q (by have := hkL.out; omega)
                rw [hq]
                omega)) hl0)
              have mr := rat_mem hl0
              obtain ⟨r, HR⟩ : ∃ r, Hid (rat L 0 = r) := ⟨_, rfl⟩
              rw [HR.out] at CP mr
              go_wp2_with fail
              refine CP.out.mono ?_
              rintro e w7 ⟨rfl, L', v2, hL', hE, hP', _⟩
              have hogN := own_ge HO.out
              have hL1 : L'.length = L.length - 1 := by have := hP'.length_eq; rw [List.length_cons] at this; omega
              have HL7 : Hid (LvL w ba (.slice pl n cl) l (.slice pt nt ct) nt f (183 * L'.length) w7 G Mm L' n v2 (fun k => S k ∧ k ≠ r.b)) := hid (by rw [hL1]; exact hL')
              have hkL' : Hid (L'.length = k - 1) := hid (by rw [hL1, hkL.out])
              have HO7 := hid (own_ex HO.out hE (fun b hb q => by
                have := (hogN b hb).1
                rcases q with q | q
                · have := (HLOW.out b q).2; omega
                · have : b < ba + 2 := q
                  omega))
              have HOS7 := hid (own_ex HOS.out hE (fun b hb q => by
                rcases q with q | q
                · exact (HNS.out b hb).2.2 q
                · have : b < ba + 2 := q
                  have := (HNS.out b hb).1
                  omega))
              have HEX7 : Hid (Ex (fun k => k < ba + 2) w w7) := hid (HEX.out.trans hE (fun k hk => by
                rcases hk with z | z
                · exact .inr (by have := (HLOW.out k z).1; omega)
                · exact .inl z))
              have hs7 : wr.heap.size ≤ w7.heap.size := hE.size
              have HPM' : Hid (((Q ++ [prR r]) ++ L'.map prR).Perm (idxL l n)) := hid (by
                refine List.Perm.trans ?_ HPM.out
                rw [List.append_assoc]
                refine List.Perm.append_left Q ?_
                exact ((hP'.map prR).symm))
              obtain ⟨pq, cq, hvq⟩ := own_slc HO7.out
              subst hvq
              clear CP hL' hE hP' mr HO HOS HEX HLv HPM c6 hL1 hl0
              go_wp2_with (at_builtin; refine I.wpList_append_byte rfl _ _ rfl N6 _ Q.length _ rfl (HO7.out.alloc _) ⟨w7.heap.size, 0, none⟩ 1 r.x rfl (by simp) ?q1 ?q2 ?_)
              case q1 => omega
              case q2 => first | omega | (show N6 ≤ (w7.heap.push _).size; rw [Array.size_push]; omega) | (simp; omega)
              intro v9 w9 hown9 hgr9 hor9
              have HGE := own_ge HO7.out
              have hk9 : ∀ x, x < N6 → w9.heap[x]? = w7.heap[x]? := fun x hx => (hgr9.block x (by simp; omega) (fun e => by have := (HGE x e.symm).1; omega)).trans (heap_alloc_old _ _ (by omega))
              have hs9 : w7.heap.size ≤ w9.heap.size := by
                have := hgr9.size
                simp at this
                omega
              have HO9 : Hid (w9.ownsRow N6 3 1 v9 (Q ++ [prR r]).length (((Q ++ [prR r]).map (·.2)).map (Value.int .i64))) := hid (by
                have e : ((Q ++ [prR r]).map (·.2)).map (Value.int .i64) = (Q.map (·.2)).map (Value.int .i64) ++ [.int .i64 r.x] := by simp [prR]
                have e2 : (Q ++ [prR r]).length = Q.length + 1 := by simp
                rw [e, e2, List.map_map]
                exact hown9)
              have L9 := hid (LvF_eq O HL7.out (w' := w9) (fun k hk => by
                rcases hk with q | q
                · have := HLOW.out k q.1
                  exact hk9 k (by omega)
                · have : k < ba + 2 := q
                  exact hk9 k (by omega)))
              have HLOW9 : Hid (∀ k, (S k ∧ k ≠ r.b) → ba + 2 ≤ k ∧ k < N2) := hid fun k hk => HLOW.out k hk.1
              have HNS9 : Hid (∀ b, (Value.slice ps n cs).ownBlock = some b → w3.heap.size ≤ b ∧ b < N2 ∧ ¬ (S b ∧ b ≠ r.b)) := hid fun b hb => ⟨(HNS.out b hb).1, (HNS.out b hb).2.1, fun q => (HNS.out b hb).2.2 q.1⟩
              have E79 : Ex (fun k => N6 ≤ k) w7 w9 := ⟨hgr9.os, hgr9.tape, hgr9.output, hs9, fun k hk hn => hk9 k (by omega)⟩
              have HOS9 := hid (own_ex HOS7.out E79 (fun b hb q => by
                have := (HNS.out b hb).2.1
                omega))
              have HEX9 : Hid (Ex (fun k => k < ba + 2) w w9) := hid (HEX7.out.trans E79 (fun k hk => .inr (by omega)))
              obtain ⟨p9, c9, hv9⟩ := own_slc hown9
              subst hv9
              clear hown9 hgr9 hor9 hk9 HGE HL7 HO7 HOS7 HEX7 E79
              go_wp2_with fail
              exact ⟨⟨k - 1, Q ++ [prR r], L', v2, _, by go_num, by omega, by omega, hkL', L9, HPM', HLOW9, HNS9, HOS9, HO9, HEX9⟩, by simp [intOf]; omega⟩
            · have hk0 : k = 0 := by omega
              subst hk0
              have hL0 : L = [] := List.length_eq_zero_iff.1 hkL.out
              subst hL0
              have hQn : Q.length = n := by omega
              have HOP : Hid ((Q.map (·.2)).Perm l) := hid (by
                have q := HPM.out
                rw [List.map_nil, List.append_nil, ← hn.out] at q
                have h1 := q.map (·.2)
                rw [idxL_snd] at h1
                exact h1)
              obtain ⟨Os, HOs⟩ : ∃ O, Hid (Q.map (·.2) = O) := ⟨_, rfl⟩
              rw [HOs.out] at HOP HO
              rw [hQn] at HO
              obtain ⟨po, co, hvo⟩ := own_slc HO.out
              subst hvo
              have hMsl : Ms.length = n := HRP.out.length_eq.trans hn.out
              have hOsl : Os.length = n := HOP.out.length_eq.trans hn.out
              have HBS : Hid (I.HB wr (.slice ps n cs) Ms) := hid (I.HB.of_own (v := .slice ps n cs) (l := Ms) (by rw [hMsl]; exact HOS.out) (fun x hx => HL.out.2 x (HRP.out.subset hx)))
              have HBO : Hid (I.HB wr (.slice po n co) Os) := hid (I.HB.of_own (v := .slice po n co) (l := Os) (by rw [hOsl]; exact HO.out) (fun x hx => HL.out.2 x (HOP.out.subset hx)))
              have HBL : Hid (I.HB wr (.slice pl n cl) l) := hid HLv.out.j.1.hl
              have HCL : Hid (wr.cell? ⟨w.heap.size, 0, none⟩ = some (.slice pl n cl) ∧ wr.cell? ⟨ba + 1, 0, none⟩ = some (.bool false)) := hid HLv.out.j.cl
              have HSM : Hid (∀ k, k < w.heap.size → wr.heap[k]? = w.heap[k]?) := hid HLv.out.j.2
              have CL : Hid (Calls Try.prog 23 #[ptr G] wr fun e w' => e = .returned (.int .i64 (0 : Int)) ∧ w' = wr) := hid (len_ok HLv.out.hp)
              have hle0 : ¬ (0 : Int) < ((0 : Nat) : Int) := by omega
              clear HLv HPM HLOW HNS HOS HO hkL hlL hQn HOs hMsl hOsl
              go_wp2_with fail
              refine CL.out.mono ?_
              rintro e w7 ⟨rfl, hw7⟩
              rw [hw7]
              clear hw7 CL
              go_wp2_with fail
              go_loopw [26] (fun vi wz => ∃ i : Nat, vi = .int .i64 (i : Int) ∧ i ≤ n ∧ Hid (I.HB wz (.slice ps n cs) Ms) ∧ Hid (I.HB wz (.slice po n co) Os) ∧ Hid (I.HB wz (.slice pl n cl) l) ∧ Hid (wz.cell? ⟨w.heap.size, 0, none⟩ = some (.slice pl n cl) ∧ wz.cell? ⟨ba + 1, 0, none⟩ = some (.bool false)) ∧ Hid (∀ k, k < w.heap.size → wz.heap[k]? = w.heap[k]?) ∧ Hid (Ex (fun k => k < ba + 2) w wz)) (fun vi _ => n - (intOf vi).toNat)
              case atStart => exact ⟨0, rfl, Nat.zero_le _, HBS, HBO, HBL, HCL, HSM, HEX⟩
              case round =>
                clear HBS HBO HBL HCL HSM HEX c6
                obtain ⟨i, rfl, hi, HBS, HBO, HBL, HCL, HSM, HEX⟩ := hrel
                obtain ⟨c7, c8⟩ := HCL.out
                by_cases hlt : i < n
                · have hlt' : (i : Int) < (n : Int) := by omega
                  have e1 : cntN Ms (l.getD i 0) = cntN l (l.getD i 0) := HRP.out.count_eq _
                  have e2 : cntN Os (l.getD i 0) = cntN l (l.getD i 0) := HOP.out.count_eq _
                  obtain ⟨cc, HCC⟩ : ∃ c, Hid (cntN l (l.getD i 0) = c) := ⟨_, rfl⟩
                  obtain ⟨bb, off, rfl, hci⟩ := HB_at HBL.out hn.out hlt
                  obtain ⟨x, HX⟩ : ∃ x, Hid (l.getD i 0 = x) := ⟨_, rfl⟩
                  rw [HCC.out, HX.out] at e1 e2
                  rw [HX.out] at HCC hci
                  have C1 : ∀ q : Nat, Calls Try.prog 30 #[.slice ps n cs, .int .i64 x] (wr.drewN q) fun e w' => e = .returned (.int .i64 (cc : Int)) ∧ w' = wr.drewN q := fun q => by
                    have h := count_any (wr.drewN q) _ Ms x (HB_stay HBS.out (fun _ _ _ => rfl)) (by rw [HRP.out.length_eq, hn.out]; omega)
                    rw [e1] at h
                    exact h
                  have C2 : ∀ q : Nat, Calls Try.prog 30 #[.slice po n co, .int .i64 x] (wr.drewN q) fun e w' => e = .returned (.int .i64 (cc : Int)) ∧ w' = wr.drewN q := fun q => by
                    have h := count_any (wr.drewN q) _ Os x (HB_stay HBO.out (fun _ _ _ => rfl)) (by rw [HOP.out.length_eq, hn.out]; omega)
                    rw [e2] at h
                    exact h
                  have C3 : ∀ q : Nat, Calls Try.prog 30 #[.slice (some ⟨bb, off, none⟩) n cl, .int .i64 x] (wr.drewN q) fun e w' => e = .returned (.int .i64 (cc : Int)) ∧ w' = wr.drewN q := fun q => by
                    have h := count_any (wr.drewN q) _ l x (HB_stay HBL.out (fun _ _ _ => rfl)) (by rw [hn.out]; omega)
                    rw [HCC.out] at h
                    exact h
                  have C1 := hid C1
                  have C2 := hid C2
                  have C3 := hid C3
                  clear e1 e2 HCC
                  go_wp2_with fail
                  go_quiet ((go_at_call 30; first | with_reducible exact Calls.quiet_of_same (C1.out _) | with_reducible exact Calls.quiet_of_same (C2.out _) | with_reducible exact Calls.quiet_of_same (C3.out _)))
                  go_wp2_with fail
                  exact ⟨⟨i + 1, by go_num, by omega, hid (HB_stay HBS.out (fun _ _ _ => rfl)), hid (HB_stay HBO.out (fun _ _ _ => rfl)), hid (HB_stay HBL.out (fun _ _ _ => rfl)), hid ⟨HCL.out.1, HCL.out.2⟩, hid (fun k hk => HSM.out k hk), hid (HEX.out.drewN _)⟩, by simp [intOf]; omega⟩
                · have hin : n = i := by omega
                  subst hin
                  have hge3 : ¬ (n : Int) < (n : Int) := by omega
                  go_wp2_with fail
                  go_ret
                  exact ⟨rfl, ⟨HEX.out.os, HEX.out.tape, HEX.out.output, HEX.out.size, HSM.out⟩⟩
end Go.Proofs.Ytcgkcappfjhikaa
