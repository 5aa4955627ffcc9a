/- Of the road to serverTicksUpto_holds: SvNew, SvS, SvStep, SvEndL, SvTick, Clone, SvKeep, CmpB, SvCmp, SvBy. -/
import Derived.Test.YthmhpenjegfbcaaG00
import Derived.Maps.RangeRun
import Derived.Deep.RegionHeld
import Derived.OrdersHeld
import Derived.Test.YthmhpenjegfbcaaChecked
import Derived.Lib.BytesEntry
import Derived.Lib.Bytealg
import Derived.Sort.Grow
set_option linter.unusedVariables false
set_option linter.unusedSimpArgs false
namespace Go.Proofs.Ythmhpenjegfbcaa
open Go Go.RowKit
def HSt (w : World) (g b : Nat) (room tick used : Int) : Prop := w.heap[g]? = some (.cells #[.pointer (some ⟨g, 0, none⟩), .int .i64 room, .int .i64 tick, .int .i64 used, .map (some b)] 66 (0, 0))
def rmB (n : Int) : Bool := decide (0 ≤ n ∧ n ≤ 1073741824)
set_option maxRecDepth 100000 in
set_option maxHeartbeats 4000000 in
theorem isRoom_any (w : World) (t : Int) : Calls Try.prog 32 #[.int .i64 t] w fun e w' => e = .returned (.bool (rmB t)) ∧ w' = w := by
  go_enter Try.func32, Try.ntmps32
  go_wp2
  all_goals go_ret
  all_goals (refine ⟨?_, rfl⟩; simp [rmB]; try omega)
set_option maxRecDepth 100000 in
set_option maxHeartbeats 4000000 in
theorem empty_any (w : World) (room tick : Int) : Calls Try.prog 18 #[.int .i64 room, .int .i64 tick] w fun e w' => ∃ g b c, e = .returned (.pointer (some ⟨g, 0, none⟩)) ∧ HSt w' g b room tick 0 ∧ w'.heap[b]? = some (.map #[] c) ∧ w.heap.size ≤ g ∧ w.heap.size ≤ b ∧ Below w.heap.size w w' := by
  have hmm := @run_makeMap Try.prog
  go_enter Try.func18, Try.ntmps18
  go_wp2
  go_ret
  refine ⟨w.heap.size + 1, w.heap.size, 0, rfl, ?_, ?_, by omega, Nat.le_refl _, ((Below.refl _ w).alloc (Nat.le_refl _) _).alloc (by simp) _⟩
  · have h := heap_alloc_new (w.alloc (.map #[] 0)) (.cells #[.pointer (some ⟨w.heap.size + 1, 0, none⟩), .int .i64 room, .int .i64 tick, .int .i64 0, .map (some w.heap.size)] 66)
    have e : (w.alloc (.map #[] 0)).heap.size = w.heap.size + 1 := by simp
    rw [e] at h
    exact h
  · exact (Below.heap_alloc _ _ _ (by simp)).trans (heap_alloc_new w _)
set_option maxRecDepth 100000 in
set_option maxHeartbeats 4000000 in
theorem snew_ok (w : World) (room : Int) (h : rmB room = true) : Calls Try.prog 11 #[.int .i64 room] w fun e w' => ∃ g b c, e = .returned (.tuple #[.pointer (some ⟨g, 0, none⟩), .int .i64 0]) ∧ HSt w' g b room 0 0 ∧ w'.heap[b]? = some (.map #[] c) ∧ w.heap.size ≤ g ∧ w.heap.size ≤ b ∧ Below w.heap.size w w' := by
  have C1 := isRoom_any w room
  rw [h] at C1
  clear h
  go_enter Try.func11, Try.ntmps11
  go_wp2_with (go_at_call 32; refine C1.mono ?_; rintro e w' ⟨rfl, hw'⟩; subst hw')
  refine (empty_any _ room 0).mono ?_
  rintro e w1 ⟨g, b, c, rfl, h1, h2, h3, h4, h5⟩
  have H := hid (And.intro h1 (And.intro h2 (And.intro h3 (And.intro h4 h5))))
  clear h1 h2 h3 h4 h5
  go_wp2
  go_ret2
  exact ⟨g, b, c, rfl, H.out⟩
theorem info_sv : ∃ j, Try.prog.info? 66 = some j := Option.isSome_iff_exists.1 (by kernel_rfl)
theorem eq_sv (a : Addr) (w : World) : (binOp .eql 36 (.pointer (some a)) (.pointer (some a))).run Try.prog w = .ok (.bool true) w := by
  obtain ⟨j, hj⟩ := info_sv
  exact run_eql_ptr_same w a Try.underlying36 hj
theorem HSt.c {w : World} {g b : Nat} {room tick used : Int} (h : HSt w g b room tick used) : w.cell? ⟨g, 0, none⟩ = some (.pointer (some ⟨g, 0, none⟩)) ∧ w.cell? ⟨g, 1, none⟩ = some (.int .i64 room) ∧ w.cell? ⟨g, 2, none⟩ = some (.int .i64 tick) ∧ w.cell? ⟨g, 3, none⟩ = some (.int .i64 used) ∧ w.cell? ⟨g, 4, none⟩ = some (.map (some b)) := by
  refine ⟨?_, ?_, ?_, ?_, ?_⟩ <;> (rw [cell_of_row _ _ _ _ _ _ h]; rfl)
set_option maxRecDepth 100000 in
set_option maxHeartbeats 4000000 in
theorem made_yes (w : World) (g b : Nat) (room tick used : Int) (h : HSt w g b room tick used) : Calls Try.prog 20 #[.pointer (some ⟨g, 0, none⟩)] w fun e w' => e = .returned (.bool true) ∧ w' = w := by
  have c0 := h.c.1
  have heq := eq_sv
  clear h
  go_enter Try.func20, Try.ntmps20
  go_wp2
  go_ret
  exact ⟨rfl, rfl⟩
set_option maxRecDepth 100000 in
set_option maxHeartbeats 4000000 in
theorem ends_none (w : World) (g b c : Nat) (room tick used : Int) (h : HSt w g b room tick used) (hb : w.heap[b]? = some (.map #[] c)) (k : Nat) (caps : Array Value) : Calls Try.prog 21 #[.pointer (some ⟨g, 0, none⟩), .func (.func k) #[] caps] w fun e w' => e = .returned (.tuple #[]) ∧ Below w.heap.size w w' := by
  have c4 := h.c.2.2.2.2
  have hg : g < w.heap.size := (Array.getElem?_eq_some_iff.1 h).1
  have hr : ∀ x, (Instr.range 64 (.map (some b))).run Try.prog (w.alloc (.cells #[x] 69)) = .ok (.pointer (some ⟨w.heap.size + 1, 0, none⟩)) ((w.alloc (.cells #[x] 69)).alloc (.mapIter (some b) c #[] c)) := fun x => by
    have hb1 : (w.alloc (.cells #[x] 69)).heap[b]? = some (.map #[] c) := (Below.heap_alloc _ _ _ (Array.getElem?_eq_some_iff.1 hb).1).trans hb
    have := run_range_map (P := Try.prog) _ 64 _ _ b #[] c Try.underlying64 hb1
    simpa using this
  clear h
  go_enter Try.func21, Try.ntmps21
  go_wp2
  obtain ⟨W2, HW2⟩ : ∃ x, Hid ((w.alloc (.cells #[.func (.func k) #[] caps] 69)).alloc (.mapIter (some b) c #[] c) = x) := ⟨_, rfl⟩
  rw [HW2.out]
  have hn : ∀ ty, (Instr.next (.pointer (some ⟨w.heap.size + 1, 0, none⟩)) false ty).run Try.prog W2 = .ok (.tuple #[.bool false]) W2 := fun ty => by
    have h1 : W2.heap[w.heap.size + 1]? = some (.mapIter (some b) c #[] c) := by
      rw [← HW2.out]
      have := heap_alloc_new (w.alloc (.cells #[.func (.func k) #[] caps] 69)) (.mapIter (some b) c #[] c)
      simpa using this
    have h2 : W2.heap[b]? = some (.map #[] c) := by
      have hlt := (Array.getElem?_eq_some_iff.1 hb).1
      rw [← HW2.out]
      exact (Below.heap_alloc _ _ _ (by simp; omega)).trans ((Below.heap_alloc _ _ _ hlt).trans hb)
    rcases run_next_at (P := Try.prog) W2 ty (w.heap.size + 1) b c c #[] #[] c h1 h2 (fun x hx => by simp at hx) (Nat.le_refl _) with ⟨_, h⟩ | ⟨e, he, _⟩
    · exact h
    · simp [leftOf] at he
  have BB : Hid (Below w.heap.size w W2) := by
    rw [← HW2.out]
    exact hid (((Below.refl _ w).alloc (Nat.le_refl _) _).alloc (by simp) _)
  clear hr hb c4
  refine wp_loop_rounds 1 ?_
  rw [rounds_succ]
  go_wp2
  go_end0
  exact ⟨rfl, BB.out⟩
theorem HSt.setTick {w : World} {g b : Nat} {room tick used : Int} (h : HSt w g b room tick used) (t : Int) : HSt (w.setCell ⟨g, 2, none⟩ (.int .i64 t)) g b room t used := by
  unfold HSt at h ⊢
  simp [World.setCell, Array.getElem?_modify, h]
theorem HSt.setUsed {w : World} {g b : Nat} {room tick used : Int} (h : HSt w g b room tick used) (t : Int) : HSt (w.setCell ⟨g, 3, none⟩ (.int .i64 t)) g b room tick t := by
  unfold HSt at h ⊢
  simp [World.setCell, Array.getElem?_modify, h]
theorem HSt.ne {w : World} {g b c : Nat} {es : Array MapEntry} {room tick used : Int} (h : HSt w g b room tick used) (hb : w.heap[b]? = some (.map es c)) : b ≠ g := fun e => by
  unfold HSt at h
  rw [e, h] at hb
  cases hb
set_option maxRecDepth 100000 in
set_option maxHeartbeats 4000000 in
theorem tick_none (w : World) (g b c : Nat) (room used t : Int) (h : HSt w g b room 0 used) (hb : w.heap[b]? = some (.map #[] c)) (h0 : 0 < t) (h9 : t ≤ 1099511627776) : Calls Try.prog 7 #[.pointer (some ⟨g, 0, none⟩), .int .i64 t] w fun e w' => e = .returned (.int .i64 0) ∧ Ex (fun k => k = g) w w' := by
  have hg : g < w.heap.size := (Array.getElem?_eq_some_iff.1 h).1
  have hbl : b < w.heap.size := (Array.getElem?_eq_some_iff.1 hb).1
  obtain ⟨W1, HW1⟩ : ∃ x, Hid (w.alloc (.cells #[.int .i64 t] 3) = x) := ⟨_, rfl⟩
  have E1 : Hid (Ex (fun k => k = g) w W1) := by rw [← HW1.out]; exact (Ex.refl _ w).alloc _
  have h1 : HSt W1 g b room 0 used := by rw [← HW1.out]; exact (Below.heap_alloc _ _ _ hg).trans h
  have hb1 : W1.heap[b]? = some (.map #[] c) := by rw [← HW1.out]; exact (Below.heap_alloc _ _ _ hbl).trans hb
  have CM := hid (made_yes W1 g b room 0 used h1)
  have c2 := h1.c.2.2.1
  have f2 : W1.frozen? ⟨g, 2, none⟩ = false := free_of h1 2
  have ct : W1.cell? ⟨w.heap.size, 0, none⟩ = some (.int .i64 t) := by rw [← HW1.out, cell_of_row _ _ _ _ _ _ (heap_alloc_new w _)]; rfl
  have HH := hid h1
  have HBB := hid hb1
  have d1 : decide (t < 0) = false := decide_eq_false (by omega)
  have d2 : decide (1099511627776 < t) = false := decide_eq_false (by omega)
  have d3 : decide (0 < t) = true := decide_eq_true (by omega)
  have CE := hid fun n : Nat => ends_none ((W1.drewN n).setCell ⟨g, 2, none⟩ (.int .i64 t)) g b c room t used (HSt.setTick (w := W1.drewN n) h1 t) ((heap_setCell_ne (w := W1.drewN n) (h1.ne hb1) _ _).trans hb1) 22 #[.pointer (some ⟨w.heap.size, 0, none⟩)]
  clear h1 hb1 h hb
  go_enter Try.func7, Try.ntmps7
  go_wp2_with fail
  rw [HW1.out]
  refine CM.out.mono ?_
  rintro e w' ⟨rfl, hw'⟩
  subst hw'
  go_wp2_with fail
  go_quiet (fail)
  go_wp2_with fail
  go_quiet (fail)
  go_wp2_with fail
  refine (CE.out _).mono ?_
  rintro e w2 ⟨rfl, hb2⟩
  have E2 : Hid (Ex (fun k => k = g) w w2) := hid (Ex.trans (S' := fun _ => False) (Ex.setCell (x := g) (Ex.drewN E1.out _) rfl _) (Ex.of_below hb2) (fun k hk => hk.elim))
  clear hb2
  go_wp2
  go_ret
  exact ⟨rfl, E2.out⟩
structure Kp where
  sp : Sp
  bs : List Int
  ls : List Lz
structure En where
  hb : Nat
  bv : Value
  b : Nat
  cap : Nat
  k : Kp
def En.S (x : En) (k : Nat) : Prop := k = x.hb ∨ k = x.b ∨ x.bv.ownBlock = some k
def OBy (w : World) (bv : Value) (bs : List Int) : Prop := w.ownsRow 0 5 1 bv bs.length (bs.map (Value.int .u8)) ∧ ∀ x ∈ bs, 0 ≤ x ∧ x < 256
theorem OBy.of {w w' : World} {bv : Value} {bs : List Int} (h : OBy w bv bs) (hk : ∀ k, bv.ownBlock = some k → w'.heap[k]? = w.heap[k]?) : OBy w' bv bs := by
  refine ⟨⟨h.1.1, ?_⟩, h.2⟩
  rcases h.1.2 with q | ⟨b, cap, cur, hv, hb, hw, q⟩
  · exact .inl q
  · exact .inr ⟨b, cap, cur, hv, hb, (hk b (by rw [hv]; rfl)).trans hw, q⟩
theorem OBy.hb {w : World} {bv : Value} {bs : List Int} (h : OBy w bv bs) : HB w bv bs := HB.of_own h.1 h.2
theorem OBy.slc {w : World} {bv : Value} {bs : List Int} (h : OBy w bv bs) : ∃ p c, bv = .slice p bs.length c := own_slc h.1
structure HEn (w : World) (x : En) : Prop where
  hd : HHd w x.hb x.bv x.b x.cap x.k.ls.length
  row : ORl w x.b x.cap x.k.ls
  by' : OBy w x.bv x.k.bs
  cm : x.cap ≤ maxLen
  ok : x.k.sp.ok
  few : x.k.ls.length ≤ 1048576
  some : 0 < x.k.ls.length
theorem HEn.of {w w' : World} {x : En} (h : HEn w x) (hk : ∀ k, x.S k → w'.heap[k]? = w.heap[k]?) : HEn w' x where
  hd := (hk _ (.inl rfl)).trans h.hd
  row := h.row.of (hk _ (.inr (.inl rfl)))
  by' := h.by'.of fun k q => hk k (.inr (.inr q))
  cm := h.cm
  ok := h.ok
  few := h.few
  some := h.some
theorem HEn.kinds {w : World} {x y : En} (hx : HEn w x) (hy : HEn w y) : x.hb ≠ y.b ∧ (∀ k, y.bv.ownBlock = Option.some k → k ≠ x.hb ∧ k ≠ x.b) := by
  have h1 : x.hb ≠ y.b := fun e => by
    have q1 := hx.hd
    obtain ⟨tl, q2, _⟩ := hy.row
    unfold HHd at q1
    rw [e, q2] at q1
    simp at q1
  refine ⟨h1, fun k hk => ?_⟩
  rcases hy.by'.1.2 with ⟨q, _⟩ | ⟨b, cap, cur, hv, hb, hw, q⟩
  · rw [q] at hk; cases hk
  · rw [hv] at hk
    cases hk
    constructor
    · intro e
      have q1 := hx.hd
      unfold HHd at q1
      rw [← e] at q1
      rw [show (⟨b, 0, none⟩ : Addr).block = b from rfl, hw] at q1
      simp at q1
    · intro e
      obtain ⟨tl, q2, _⟩ := hx.row
      rw [← e, show (⟨b, 0, none⟩ : Addr).block = b from rfl, hw] at q2
      simp at q2
def usedL (Z : List (MapEntry × En)) : Int := (Z.map fun z => (z.2.k.bs.length : Int)).sum
structure HZ (w : World) (g b c : Nat) (room tick : Int) (Z : List (MapEntry × En)) (S : Nat → Prop) : Prop where
  top : HSt w g b room tick (usedL Z)
  mp : w.heap[b]? = some (.map (Z.map (·.1)).toArray c)
  key : ∀ z ∈ Z, z.1.key = spV z.2.k.sp ∧ z.1.val = .pointer (some ⟨z.2.hb, 0, none⟩)
  each : ∀ z ∈ Z, HEn w z.2
  born : (Z.map (·.1.born)).Nodup
  old : ∀ z ∈ Z, z.1.born < c
  one : (Z.map (·.2.k.sp)).Nodup
  hbs : (Z.map (·.2.hb)).Nodup
  bbs : (Z.map (·.2.b)).Nodup
  sg : S g
  sb : S b
  se : ∀ z ∈ Z, ∀ k, z.2.S k → S k
  lt : ∀ k, S k → k < w.heap.size
section
variable {w : World} {g b c : Nat} {room tick : Int} {Z : List (MapEntry × En)} {S : Nat → Prop}
theorem HZ.of (h : HZ w g b c room tick Z S) {w' : World} (hk : ∀ k, S k → w'.heap[k]? = w.heap[k]?) : HZ w' g b c room tick Z S where
  top := (hk g h.sg).trans h.top
  mp := (hk b h.sb).trans h.mp
  key := h.key
  each := fun z hz => (h.each z hz).of fun k q => hk k (h.se z hz k q)
  born := h.born
  old := h.old
  one := h.one
  hbs := h.hbs
  bbs := h.bbs
  sg := h.sg
  sb := h.sb
  se := h.se
  lt := fun k hS => by
    have h1 := h.lt k hS
    have h2 := hk k hS
    rw [Array.getElem?_eq_getElem h1] at h2
    exact (Array.getElem?_eq_some_iff.1 h2).1
theorem HZ.ex (h : HZ w g b c room tick Z S) {U : Nat → Prop} {w' : World} (he : Ex U w w') (hd : ∀ k, S k → ¬ U k) : HZ w' g b c room tick Z S := h.of fun k hk => he.block k (h.lt k hk) (hd k hk)
theorem HZ.below (h : HZ w g b c room tick Z S) {w' : World} (he : Below w.heap.size w w') : HZ w' g b c room tick Z S := h.of fun k hk => he.block k (h.lt k hk)
theorem HZ.spk (h : HZ w g b c room tick Z S) : SpK (Z.map (·.1)).toArray := fun e he => by
  simp only [List.toList_toArray, List.mem_map] at he
  obtain ⟨z, hz, rfl⟩ := he
  exact ⟨_, (h.each z hz).ok, (h.key z hz).1⟩
theorem HZ.keys (h : HZ w g b c room tick Z S) : ((Z.map (·.1)).toArray.toList.map (·.key)).Nodup := by
  rw [List.toList_toArray, List.map_map]
  have e : Z.map ((fun x => x.key) ∘ fun x => x.1) = (Z.map (·.2.k.sp)).map spV := by
    rw [List.map_map]
    exact List.map_congr_left fun z hz => (h.key z hz).1
  rw [e]
  refine List.Pairwise.map spV (R := fun a b => a ∈ Z.map (·.2.k.sp) ∧ b ∈ Z.map (·.2.k.sp) ∧ a ≠ b) (fun a b q e => ?_) ?_
  · obtain ⟨⟨za, ha, rfl⟩, ⟨zb, hb, rfl⟩, hne⟩ : (∃ z ∈ Z, z.2.k.sp = a) ∧ (∃ z ∈ Z, z.2.k.sp = b) ∧ a ≠ b := ⟨List.mem_map.1 q.1, List.mem_map.1 q.2.1, q.2.2⟩
    exact hne (spV_inj (h.each za ha).ok (h.each zb hb).ok e)
  · have := h.one
    unfold List.Nodup at this
    exact this.imp_of_mem fun ha hb hne => ⟨ha, hb, hne⟩
end
end Go.Proofs.Ythmhpenjegfbcaa
namespace Go.Proofs.Ythmhpenjegfbcaa
open Go Go.RowKit
def setLs (x : En) (ls : List Lz) : En := { x with k := { x.k with ls := ls } }
section
variable {w w' : World} {g b c : Nat} {room tick : Int} {A B : List (MapEntry × En)} {z : MapEntry × En} {S : Nat → Prop}
theorem HZ.notTop {Z : List (MapEntry × En)} (h : HZ w g b c room tick Z S) {y : MapEntry × En} (hy : y ∈ Z) {k : Nat} (hk : y.2.S k) : k ≠ g ∧ k ≠ b := by
  have hE := h.each y hy
  have ht := h.top
  have hm := h.mp
  unfold HSt at ht
  have hc : ∃ cs T, w.heap[k]? = some (.cells cs T (0, 0)) ∧ T ≠ 66 := by
    rcases hk with rfl | rfl | hk
    · exact ⟨_, _, hE.hd, by decide⟩
    · obtain ⟨tl, q, _⟩ := hE.row
      exact ⟨_, _, q, by decide⟩
    · rcases hE.by'.1.2 with ⟨q, _⟩ | ⟨b', cap, cur, hv, hb, hw, q⟩
      · rw [q] at hk; cases hk
      · rw [hv] at hk
        cases hk
        exact ⟨_, _, hw, by decide⟩
  obtain ⟨cs, T, q, hT⟩ := hc
  constructor
  · rintro rfl
    rw [ht] at q
    simp at q
    exact hT q.2.symm
  · rintro rfl
    rw [hm] at q
    simp at q
theorem HZ.apart (h : HZ w g b c room tick (A ++ z :: B) S) {y : MapEntry × En} (hy : y ∈ A ++ B) {k : Nat} (hk : y.2.S k) : k ≠ z.2.hb ∧ k ≠ z.2.b := by
  have hz : z ∈ A ++ z :: B := List.mem_append.2 (.inr (List.mem_cons_self ..))
  have hy' : y ∈ A ++ z :: B := by
    rcases List.mem_append.1 hy with q | q
    · exact List.mem_append.2 (.inl q)
    · exact List.mem_append.2 (.inr (List.mem_cons_of_mem _ q))
  have hEz := h.each z hz
  have hEy := h.each y hy'
  have nd : ∀ {f : MapEntry × En → Nat}, ((A ++ z :: B).map f).Nodup → f y ≠ f z := fun {f} hn e => by
    rw [List.map_append, List.map_cons, List.nodup_append] at hn
    obtain ⟨n1, n2, n3⟩ := hn
    rcases List.mem_append.1 hy with q | q
    · exact n3 _ (List.mem_map.2 ⟨y, q, rfl⟩) _ (List.mem_cons_self ..) e
    · exact (List.nodup_cons.1 n2).1 (e ▸ List.mem_map.2 ⟨y, q, rfl⟩)
  have n1 := nd h.hbs
  have n2 := nd h.bbs
  rcases hk with rfl | rfl | hk
  · exact ⟨n1, (hEy.kinds hEz).1⟩
  · exact ⟨fun e => (hEz.kinds hEy).1 e.symm, n2⟩
  · exact (hEz.kinds hEy).2 k hk
theorem mem_mid {α : Type} {A B : List α} {z y : α} (h : y ∈ A ++ B) : y ∈ A ++ z :: B := by
  rcases List.mem_append.1 h with q | q
  · exact List.mem_append.2 (.inl q)
  · exact List.mem_append.2 (.inr (List.mem_cons_of_mem _ q))
theorem nodup_mid {α β : Type} {f : α → β} {A B : List α} {z : α} (h : ((A ++ z :: B).map f).Nodup) : ((A ++ B).map f).Nodup :=
  h.sublist (List.Sublist.map f (List.Sublist.append (List.Sublist.refl A) (List.sublist_cons_self z B)))
theorem usedL_mid (A B : List (MapEntry × En)) (z : MapEntry × En) : usedL (A ++ z :: B) = usedL (A ++ B) + (z.2.k.bs.length : Int) := by
  unfold usedL
  simp only [List.map_append, List.map_cons, List.sum_append, List.sum_cons]
  omega
theorem HZ.lease (h : HZ w g b c room tick (A ++ z :: B) S) {ls : List Lz} (hE : Ex (fun k => k = z.2.hb ∨ k = z.2.b) w w') (hd : HHd w' z.2.hb z.2.bv z.2.b z.2.cap ls.length) (hr : ORl w' z.2.b z.2.cap ls) (h0 : 0 < ls.length) (hf : ls.length ≤ 1048576) :
    HZ w' g b c room tick (A ++ (z.1, setLs z.2 ls) :: B) S := by
  have hz : z ∈ A ++ z :: B := List.mem_append.2 (.inr (List.mem_cons_self ..))
  have hEz := h.each z hz
  have keep : ∀ k, S k → k ≠ z.2.hb → k ≠ z.2.b → w'.heap[k]? = w.heap[k]? := fun k hk h1 h2 => hE.block k (h.lt k hk) (fun q => by rcases q with q | q; exact h1 q; exact h2 q)
  have ht := h.notTop hz (k := z.2.hb) (.inl rfl)
  have ht2 := h.notTop hz (k := z.2.b) (.inr (.inl rfl))
  have hset : ∀ {f : MapEntry × En → Nat}, f (z.1, setLs z.2 ls) = f z → (A ++ (z.1, setLs z.2 ls) :: B).map f = (A ++ z :: B).map f := fun {f} e => by
    rw [List.map_append, List.map_append, List.map_cons, List.map_cons, e]
  refine ⟨?_, ?_, ?_, ?_, ?_, ?_, ?_, ?_, ?_, h.sg, h.sb, ?_, ?_⟩
  · have e : usedL (A ++ (z.1, setLs z.2 ls) :: B) = usedL (A ++ z :: B) := by rw [usedL_mid, usedL_mid]; rfl
    rw [e]
    exact (keep g h.sg (Ne.symm ht.1) (Ne.symm ht2.1)).trans h.top
  · have e : (A ++ (z.1, setLs z.2 ls) :: B).map (·.1) = (A ++ z :: B).map (·.1) := by rw [List.map_append, List.map_append, List.map_cons, List.map_cons]
    rw [e]
    exact (keep b h.sb (Ne.symm ht.2) (Ne.symm ht2.2)).trans h.mp
  · intro y hy
    rcases List.mem_append.1 hy with q | q
    · exact h.key y (List.mem_append.2 (.inl q))
    · rcases List.mem_cons.1 q with rfl | q
      · exact h.key z hz
      · exact h.key y (mem_mid (List.mem_append.2 (.inr q)))
  · intro y hy
    have hoth : ∀ y ∈ A ++ B, HEn w' y.2 := fun y hy => (h.each y (mem_mid hy)).of fun k hk => by
      have := h.apart hy hk
      exact keep k (h.se y (mem_mid hy) k hk) this.1 this.2
    rcases List.mem_append.1 hy with q | q
    · exact hoth y (List.mem_append.2 (.inl q))
    · rcases List.mem_cons.1 q with rfl | q
      · exact ⟨hd, hr, hEz.by'.of fun k hk => keep k (h.se z hz k (.inr (.inr hk))) ((hEz.kinds hEz).2 k hk).1 ((hEz.kinds hEz).2 k hk).2, hEz.cm, hEz.ok, hf, h0⟩
      · exact hoth y (List.mem_append.2 (.inr q))
  · rw [hset rfl]; exact h.born
  · intro y hy
    rcases List.mem_append.1 hy with q | q
    · exact h.old y (List.mem_append.2 (.inl q))
    · rcases List.mem_cons.1 q with rfl | q
      · exact h.old z hz
      · exact h.old y (mem_mid (List.mem_append.2 (.inr q)))
  · have e : (A ++ (z.1, setLs z.2 ls) :: B).map (·.2.k.sp) = (A ++ z :: B).map (·.2.k.sp) := by rw [List.map_append, List.map_append, List.map_cons, List.map_cons]; rfl
    rw [e]; exact h.one
  · rw [hset rfl]; exact h.hbs
  · rw [hset rfl]; exact h.bbs
  · intro y hy k hk
    rcases List.mem_append.1 hy with q | q
    · exact h.se y (List.mem_append.2 (.inl q)) k hk
    · rcases List.mem_cons.1 q with rfl | q
      · exact h.se z hz k hk
      · exact h.se y (mem_mid (List.mem_append.2 (.inr q))) k hk
  · exact fun k hk => Nat.lt_of_lt_of_le (h.lt k hk) hE.size
theorem HZ.drop (h : HZ w g b c room tick (A ++ z :: B) S) (hE : Ex (fun k => k = z.2.hb ∨ k = z.2.b ∨ k = g ∨ k = b) w w') (ht : HSt w' g b room tick (usedL (A ++ B))) (hm : w'.heap[b]? = some (.map ((A ++ B).map (·.1)).toArray c)) : HZ w' g b c room tick (A ++ B) S := by
  refine ⟨ht, hm, fun y hy => h.key y (mem_mid hy), fun y hy => ?_, nodup_mid h.born, fun y hy => h.old y (mem_mid hy), nodup_mid h.one, nodup_mid h.hbs, nodup_mid h.bbs, h.sg, h.sb, fun y hy => h.se y (mem_mid hy), fun k hk => Nat.lt_of_lt_of_le (h.lt k hk) hE.size⟩
  refine (h.each y (mem_mid hy)).of fun k hk => hE.block k (h.lt k (h.se y (mem_mid hy) k hk)) fun q => ?_
  have q1 := h.apart hy hk
  have q2 := h.notTop (mem_mid hy) hk
  rcases q with q | q | q | q
  · exact q1.1 q
  · exact q1.2 q
  · exact q2.1 q
  · exact q2.2 q
end
def endZ (p : Sp → Lz → Bool) (z : MapEntry × En) : Option (MapEntry × En) := if keptL (p z.2.k.sp) z.2.k.ls = [] then none else some (z.1, setLs z.2 (keptL (p z.2.k.sp) z.2.k.ls))
def stp (p : Sp → Lz → Bool) (seen : Array Nat) (z : MapEntry × En) : Option (MapEntry × En) := if seen.contains z.1.born then endZ p z else some z
theorem endZ_fst {p : Sp → Lz → Bool} {z z' : MapEntry × En} (h : endZ p z = some z') : z'.1 = z.1 := by
  unfold endZ at h
  split at h
  · cases h
  · cases h; rfl
theorem stp_fst {p : Sp → Lz → Bool} {seen : Array Nat} {z z' : MapEntry × En} (h : stp p seen z = some z') : z'.1 = z.1 := by
  unfold stp at h
  split at h
  · exact endZ_fst h
  · cases h; rfl
theorem stp_none (p : Sp → Lz → Bool) (Z : List (MapEntry × En)) : Z.filterMap (stp p #[]) = Z := by
  have : stp p #[] = some := by funext z; simp [stp]
  rw [this, List.filterMap_some]
theorem stp_left {p : Sp → Lz → Bool} {seen : Array Nat} {Z : List (MapEntry × En)} {e : MapEntry} (h : e ∈ (Z.filterMap (stp p seen)).map (·.1)) (hs : seen.contains e.born = false) : ∃ A z B, Z = A ++ z :: B ∧ z.1 = e := by
  obtain ⟨z, hz, rfl⟩ := List.mem_map.1 h
  obtain ⟨z0, h0, h1⟩ := List.mem_filterMap.1 hz
  have e1 := stp_fst h1
  obtain ⟨A, B, hAB⟩ := List.append_of_mem h0
  exact ⟨A, z0, B, hAB, e1.symm⟩
theorem stp_push {p : Sp → Lz → Bool} {seen : Array Nat} {z y : MapEntry × En} (h : y.1.born ≠ z.1.born) : stp p (seen.push z.1.born) y = stp p seen y := by
  unfold stp
  have : (seen.push z.1.born).contains y.1.born = seen.contains y.1.born := by simp [Array.contains_push, h]
  rw [this]
theorem filterMap_congr' {α β : Type} {f g : α → Option β} : ∀ {l : List α}, (∀ x ∈ l, f x = g x) → l.filterMap f = l.filterMap g
  | [], _ => rfl
  | a :: l, h => by
    rw [List.filterMap_cons, List.filterMap_cons, h a (List.mem_cons_self ..), filterMap_congr' fun x hx => h x (List.mem_cons_of_mem _ hx)]
theorem stp_split {p : Sp → Lz → Bool} {seen : Array Nat} {A B : List (MapEntry × En)} {z : MapEntry × En} (hn : ((A ++ z :: B).map (·.1.born)).Nodup) (hs : seen.contains z.1.born = false) :
    (A ++ z :: B).filterMap (stp p seen) = A.filterMap (stp p seen) ++ z :: B.filterMap (stp p seen) ∧
    (A ++ z :: B).filterMap (stp p (seen.push z.1.born)) = A.filterMap (stp p seen) ++ ((endZ p z).toList ++ B.filterMap (stp p seen)) := by
  have h1 : stp p seen z = some z := by unfold stp; rw [hs]; rfl
  have h2 : stp p (seen.push z.1.born) z = endZ p z := by unfold stp; simp
  rw [List.map_append, List.map_cons, List.nodup_append] at hn
  obtain ⟨n1, n2, n3⟩ := hn
  have hA : A.filterMap (stp p (seen.push z.1.born)) = A.filterMap (stp p seen) := filterMap_congr' fun y hy => stp_push (n3 _ (List.mem_map.2 ⟨y, hy, rfl⟩) _ (List.mem_cons_self ..))
  have hB : B.filterMap (stp p (seen.push z.1.born)) = B.filterMap (stp p seen) := filterMap_congr' fun y hy => stp_push (fun e => (List.nodup_cons.1 n2).1 (e ▸ List.mem_map.2 ⟨y, hy, rfl⟩))
  constructor
  · rw [List.filterMap_append, List.filterMap_cons, h1]
  · rw [List.filterMap_append, List.filterMap_cons, h2, hA, hB]
    cases endZ p z <;> rfl
end Go.Proofs.Ythmhpenjegfbcaa
namespace Go.Proofs.Ythmhpenjegfbcaa
open Go Go.RowKit
open Go.ChangeMaps (setBlock)
def leftN (w : World) (b r : Nat) : Nat := match w.heap[r]?, w.heap[b]? with
  | some (.mapIter _ _ seen _), some (.map es _) => (leftOf es seen).size
  | _, _ => 0
structure RgE (w0 : World) (g b c r fb : Nat) (room tick : Int) (Z0 : List (MapEntry × En)) (S : Nat → Prop) (p : Sp → Lz → Bool) (J : World → Prop) (F : Value) (wr : World) (seen : Array Nat) : Prop where
  z : HZ wr g b c room tick (Z0.filterMap (stp p seen)) S
  it : wr.heap[r]? = some (.mapIter (some b) c seen c)
  fn : wr.heap[fb]? = some (.cells #[F] 69 (0, 0))
  j : J wr
  ex : Ex S w0 wr
abbrev zspot : Array Value := #[.int .u8 0, .int .u8 0, .int .u8 0, .int .u8 0, .int .u8 0, .int .u8 0, .int .u8 0, .int .u8 0, .int .u8 0, .int .u8 0, .int .u8 0, .int .u8 0, .int .u8 0, .int .u8 0, .int .u8 0, .int .u8 0, .int .i64 0]
theorem zspot_size : zspot.size = 17 := rfl
theorem leftOf_mem {es : List MapEntry} {seen : Array Nat} {e : MapEntry} (h : e ∈ (leftOf es.toArray seen).toList) : e ∈ es ∧ seen.contains e.born = false := by
  unfold leftOf at h
  simp at h
  refine ⟨h.1, ?_⟩
  simpa using h.2
theorem filter_le {α : Type} {p q : α → Bool} (h : ∀ x, p x = true → q x = true) : ∀ l : List α, (l.filter p).length ≤ (l.filter q).length
  | [] => Nat.le_refl _
  | a :: l => by
    have ih := filter_le h l
    rw [List.filter_cons, List.filter_cons]
    cases hp : p a with
    | true => rw [h a hp]; simpa using ih
    | false => cases q a <;> simp <;> omega
theorem left_less {A B mid : List MapEntry} {e : MapEntry} {seen : Array Nat} (hm : mid = [] ∨ mid = [e]) (hs : seen.contains e.born = false) : (leftOf (A ++ (mid ++ B)).toArray (seen.push e.born)).size < (leftOf (A ++ e :: B).toArray seen).size := by
  have hf : ∀ x : MapEntry, (!(seen.push e.born).contains x.born) = true → (!seen.contains x.born) = true := fun x hx => by
    simp [Array.contains_push] at hx ⊢
    exact hx.1
  have h1 := filter_le hf A
  have h2 := filter_le hf B
  have h3 : (mid.filter fun x => !(seen.push e.born).contains x.born) = [] := by
    rcases hm with rfl | rfl
    · rfl
    · simp
  have e1 : (leftOf (A ++ (mid ++ B)).toArray (seen.push e.born)).size = (A.filter fun x => !(seen.push e.born).contains x.born).length + (B.filter fun x => !(seen.push e.born).contains x.born).length := by
    unfold leftOf
    rw [List.filter_toArray, List.size_toArray, List.filter_append, List.filter_append, h3, List.nil_append, List.length_append]
  have e2 : (leftOf (A ++ e :: B).toArray seen).size = (A.filter fun x => !seen.contains x.born).length + (1 + (B.filter fun x => !seen.contains x.born).length) := by
    unfold leftOf
    rw [List.filter_toArray, List.size_toArray, List.filter_append, List.length_append, List.filter_cons, hs]
    simp
    omega
  omega
theorem used_pos (Z : List (MapEntry × En)) : 0 ≤ usedL Z := by
  induction Z with
  | nil => exact Int.le_refl _
  | cons a l ih => unfold usedL at ih ⊢; simp only [List.map_cons, List.sum_cons]; omega
theorem used_le (p : Sp → Lz → Bool) (seen : Array Nat) (Z : List (MapEntry × En)) : usedL (Z.filterMap (stp p seen)) ≤ usedL Z := by
  induction Z with
  | nil => exact Int.le_refl _
  | cons a l ih =>
    have e : usedL (a :: l) = (a.2.k.bs.length : Int) + usedL l := by unfold usedL; simp
    rw [List.filterMap_cons, e]
    cases h : stp p seen a with
    | none => simp only; omega
    | some y =>
      have e2 : usedL (y :: l.filterMap (stp p seen)) = (y.2.k.bs.length : Int) + usedL (l.filterMap (stp p seen)) := by unfold usedL; simp
      simp only
      rw [e2]
      have : y.2.k.bs = a.2.k.bs := by
        unfold stp endZ at h
        split at h
        · split at h
          · cases h
          · cases h; rfl
        · cases h; rfl
      rw [this]
      omega
theorem leftN_eq {w : World} {b r c s d : Nat} {m : Option Nat} {seen : Array Nat} {es : Array MapEntry} (h1 : w.heap[r]? = some (.mapIter m s seen d)) (h2 : w.heap[b]? = some (.map es c)) : leftN w b r = (leftOf es seen).size := by
  unfold leftN
  rw [h1, h2]
set_option maxRecDepth 100000 in
set_option maxHeartbeats 8000000 in
theorem sends_any {fid : Nat} {fr : Array Value} {J : World → Prop} {U : Nat → Prop} {p : Sp → Lz → Bool} (O : Ovr fid fr J U p) (w : World) (hJ : J w) (g b c : Nat) (room tick : Int) (Z : List (MapEntry × En)) (S : Nat → Prop) (h : HZ w g b c room tick Z S) (hU : ∀ k, U k → ¬ S k) (hu : usedL Z ≤ 1125899906842624) :
    Calls Try.prog 21 #[.pointer (some ⟨g, 0, none⟩), .func (.func fid) #[] fr] w fun e w' => e = .returned (.tuple #[]) ∧ HZ w' g b c room tick (Z.filterMap (endZ p)) S ∧ J w' ∧ Ex S w w' := by
  have hgl : g < w.heap.size := h.lt g h.sg
  have hbl : b < w.heap.size := h.lt b h.sb
  have c4 := h.top.c.2.2.2.2
  obtain ⟨F, HF⟩ : ∃ x, Hid (Value.func (.func fid) #[] fr = x) := ⟨_, hid rfl⟩
  have hr : (Instr.range 64 (.map (some b))).run Try.prog (w.alloc (.cells #[.func (.func fid) #[] fr] 69)) = .ok (.pointer (some ⟨w.heap.size + 1, 0, none⟩)) ((w.alloc (.cells #[.func (.func fid) #[] fr] 69)).alloc (.mapIter (some b) c #[] c)) := by
    have hb1 : (w.alloc (.cells #[.func (.func fid) #[] fr] 69)).heap[b]? = some (.map (Z.map (·.1)).toArray c) := (Below.heap_alloc _ _ _ hbl).trans h.mp
    have := run_range_map (P := Try.prog) _ 64 _ _ b _ c Try.underlying64 hb1
    simpa using this
  obtain ⟨W0, HW0⟩ : ∃ x, Hid ((w.alloc (.cells #[.func (.func fid) #[] fr] 69)).alloc (.mapIter (some b) c #[] c) = x) := ⟨_, hid rfl⟩
  have B0 : Hid (Below w.heap.size w W0) := by rw [← HW0.out]; exact hid (((Below.refl _ w).alloc (Nat.le_refl _) _).alloc (by simp) _)
  have Z0 : Hid (W0.heap.size = w.heap.size + 2) := hid (by rw [← HW0.out]; simp)
  have R0 : Hid (RgE w g b c (w.heap.size + 1) w.heap.size room tick Z S p J (.func (.func fid) #[] fr) W0 #[]) := hid (by
    refine ⟨?_, ?_, ?_, ?_, Ex.of_below B0.out⟩
    · rw [stp_none]; exact h.below B0.out
    · rw [← HW0.out]
      have := heap_alloc_new (w.alloc (.cells #[.func (.func fid) #[] fr] 69)) (.mapIter (some b) c #[] c)
      simpa using this
    · rw [← HW0.out]
      exact (Below.heap_alloc _ _ _ (by simp)).trans (heap_alloc_new w _)
    · exact O.stay w _ hJ fun k hk => B0.out.block k (O.lt w hJ k hk))
  have HH := hid h
  have HJ := hid hJ
  have HN := hid h.born
  clear h hJ
  go_enter Try.func21, Try.ntmps21
  go_wp2
  rw [HW0.out]
  clear hr c4
  go_loopw [11] (fun _ wr => ∃ seen, RgE w g b c (w.heap.size + 1) w.heap.size room tick Z S p J (.func (.func fid) #[] fr) wr seen) (fun _ wr => leftN wr b (w.heap.size + 1))
  case atStart => exact ⟨#[], R0.out⟩
  case round =>
    obtain ⟨seen, hR⟩ := hrel
    have HR := hid hR
    clear hR
    have hnx := run_next_at (P := Try.prog) wr 0 (w.heap.size + 1) b c c seen _ c HR.out.it HR.out.z.mp (fun x hx => by
      simp only [List.toList_toArray] at hx
      obtain ⟨z, hz, rfl⟩ := List.mem_map.1 hx
      exact HR.out.z.old z hz) (Nat.le_refl _)
    rcases hnx with ⟨hl0, hn⟩ | ⟨e, he, w1, hw1, hn⟩
    · have hl := hid hl0
      clear hl0
      go_wp2
      go_end0
      have e : Z.filterMap (endZ p) = Z.filterMap (stp p seen) := by
        refine filterMap_congr' fun z hz => ?_
        cases hc : seen.contains z.1.born with
        | true => unfold stp; rw [hc]; rfl
        | false =>
          exfalso
          have h1 : stp p seen z = some z := by unfold stp; rw [hc]; rfl
          have h2 : z.1 ∈ (leftOf ((Z.filterMap (stp p seen)).map (·.1)).toArray seen).toList := by
            unfold leftOf
            simp
            exact ⟨⟨z.2, z.1, z.2, hz, h1⟩, by simpa using hc⟩
          rw [Array.eq_empty_of_size_eq_zero hl.out] at h2
          simp at h2
      rw [e]
      exact ⟨rfl, HR.out.z, HR.out.j, HR.out.ex⟩
    · obtain ⟨he1, he2⟩ := leftOf_mem he
      obtain ⟨A, z, B, hAB, hze⟩ := stp_left he1 he2
      subst hze
      have hN := HN.out
      rw [hAB] at hN
      obtain ⟨sp1, sp2⟩ := stp_split (p := p) hN he2
      rw [← hAB] at sp1 sp2
      obtain ⟨A', HA'⟩ : ∃ x, Hid (A.filterMap (stp p seen) = x) := ⟨_, hid rfl⟩
      obtain ⟨B', HB'⟩ : ∃ x, Hid (B.filterMap (stp p seen) = x) := ⟨_, hid rfl⟩
      rw [HA'.out, HB'.out] at sp1 sp2
      have hZr := HR.out.z
      rw [sp1] at hZr
      have hSl : ∀ k, S k → k < w.heap.size := HH.out.lt
      have hws := HR.out.ex.size
      have hrl : w.heap.size + 1 < wr.heap.size := (Array.getElem?_eq_some_iff.1 HR.out.it).1
      have hw1h : w1.heap = wr.heap := by rcases hw1 with rfl | rfl <;> rfl
      obtain ⟨W1, HW1⟩ : ∃ x, Hid (setBlock w1 (w.heap.size + 1) (.mapIter (some b) c (seen.push z.1.born) c) = x) := ⟨_, hid rfl⟩
      rw [HW1.out] at hn
      have hk1 : ∀ k, k ≠ w.heap.size + 1 → W1.heap[k]? = wr.heap[k]? := fun k hk => by
        rw [← HW1.out, ← hw1h]
        simp [setBlock, Ne.symm hk]
      have hit1 : W1.heap[w.heap.size + 1]? = some (.mapIter (some b) c (seen.push z.1.born) c) := by
        rw [← HW1.out]
        simp only [setBlock]
        rw [Array.getElem?_setIfInBounds_self_of_lt (by rw [hw1h]; exact hrl)]
      have hs1 : W1.heap.size = wr.heap.size := by rw [← HW1.out, ← hw1h]; simp [setBlock]
      have hZ1 : HZ W1 g b c room tick (A' ++ z :: B') S := hZr.of fun k hk => hk1 k (by have := hSl k hk; omega)
      have hfn1 := (hk1 w.heap.size (by omega)).trans HR.out.fn
      have hj1 : J W1 := O.stay wr W1 HR.out.j fun k hk => hk1 k (by have := O.lt w HJ.out k hk; omega)
      have hex1 : Ex S w W1 := by
        have hx := HR.out.ex
        have : Ex S w w1 := by rcases hw1 with rfl | rfl; exact hx; exact hx.drew
        refine ⟨?_, ?_, ?_, by omega, fun k hk hn => (hk1 k (by omega)).trans (hx.block k hk hn)⟩
        · rw [← HW1.out]; exact this.os
        · rw [← HW1.out]; exact this.tape
        · rw [← HW1.out]; exact this.output
      have hzm : z ∈ A' ++ z :: B' := List.mem_append.2 (.inr (List.mem_cons_self ..))
      have hen := run_entry_at (P := Try.prog) W1 (w.heap.size + 1) b c seen _ c z.1 hit1 hZ1.mp (by simp) (by rw [List.toList_toArray, List.map_map]; exact hZ1.born)
      rw [(hZ1.key z hzm).1, (hZ1.key z hzm).2] at hen hn
      have HZ1 := hid hZ1
      have HIT := hid hit1
      have HFN := hid hfn1
      have HJ1 := hid hj1
      have HE1 := hid hex1
      have HSP1 := hid sp1
      have HSP2 := hid sp2
      have HS1 := hid hs1
      clear hZ1 hit1 hfn1 hj1 hex1 sp1 sp2 hs1 hw1 hk1 hZr
      have hEz := HZ1.out.each z hzm
      have hok := hEz.ok
      obtain ⟨m, HM⟩ : ∃ x, Hid (spA z.2.k.sp = x) := ⟨_, hid rfl⟩
      have hms : Hid (m.size = 17) := hid (by rw [← HM.out]; exact spA_size hok)
      have hm1 : Hid (m.all (·.oneCell') = true) := hid (by rw [← HM.out]; exact all_oneCell_toArray fun v hv => spL_one hv)
      have hmi : Hid ((Try.prog.info? 63).map (·.size) = some m.size) := hid (by rw [hms.out]; exact size_spot)
      unfold spV at hen hn
      rw [HM.out] at hen hn
      obtain ⟨W2, HW2⟩ : ∃ x, Hid ((W1.alloc (.cells zspot 63)).setRow W1.heap.size m = x) := ⟨_, hid rfl⟩
      have hb2 : Below W1.heap.size W1 W2 := by
        rw [← HW2.out]
        refine ⟨rfl, rfl, rfl, by simp [World.setRow], fun k hk => ?_⟩
        simp only [World.setRow, Array.getElem?_modify]
        rw [if_neg (by omega)]
        exact Below.heap_alloc _ _ _ hk
      have hsb2 : W2.heap[W1.heap.size]? = some (.cells m 63 (0, 0)) := by
        rw [← HW2.out]
        exact setRow_heap _ _ _ _ _ _ (heap_alloc_new W1 (.cells zspot 63))
      have hs2 : W2.heap.size = W1.heap.size + 1 := by rw [← HW2.out]; simp [World.setRow]
      have hZ2 := HZ1.out.below hb2
      have hE2 := hZ2.each z hzm
      have hwl : w.heap.size < W1.heap.size := by have := HS1.out; omega
      have hJE : JE fid fr J w.heap.size W1.heap.size z.2.k.sp W2 := ⟨(hb2.block _ hwl).trans HFN.out, by rw [HM.out]; exact hsb2, O.stay W1 W2 HJ1.out fun k hk => hb2.block k (O.lt W1 HJ1.out k hk)⟩
      have hUb : ¬ (z.2.b = w.heap.size ∨ z.2.b = W1.heap.size ∨ U z.2.b) := fun q => by
        have hS := HZ1.out.se z hzm z.2.b (.inr (.inl rfl))
        have := hSl _ hS
        rcases q with q | q | q
        · omega
        · omega
        · exact hU _ q hS
      have CH := hid (hend_any (end1_prd O w.heap.size W1.heap.size z.2.k.sp hok) W2 hJE z.2.hb z.2.bv z.2.b z.2.cap z.2.k.ls hE2.hd hE2.row hUb hE2.some hE2.few hE2.cm)
      have HSB2 := hid hsb2
      have HS2 := hid hs2
      have HZ2 := hid hZ2
      have HB2 := hid hb2
      have HWL := hid hwl
      clear hsb2 hs2 hZ2 hE2 hb2 hJE hUb hwl
      go_wp2_with (refine wpList_store_row rfl 63 _ _ rfl W1.heap.size m rfl rfl 63 zspot (heap_alloc_new W1 _) hmi.out (by rw [hms.out]; exact zspot_size) hm1.out ?_; rw [HW2.out])
      refine CH.out.mono ?_
      rintro e w3 ⟨rfl, hd3, hr3, he3⟩
      clear CH
      have HM0 := hid (leftN_eq HR.out.it HR.out.z.mp)
      have hSz : ∀ k, z.2.S k → k < w.heap.size := fun k hk => hSl k (HZ1.out.se z hzm k hk)
      have hh1 : z.2.hb < w.heap.size := hSz _ (.inl rfl)
      have hh2 : z.2.b < w.heap.size := hSz _ (.inr (.inl rfl))
      have hk3 : ∀ k, k < W2.heap.size → k ≠ z.2.hb → k ≠ z.2.b → w3.heap[k]? = W2.heap[k]? := fun k hk q1 q2 => he3.block k hk (fun q => by rcases q with q | q; exact q1 q; exact q2 q)
      have hwl := HWL.out
      have hs2 := HS2.out
      have hs1 := HS1.out
      have it3 : w3.heap[w.heap.size + 1]? = some (.mapIter (some b) c (seen.push z.1.born) c) := by
        rw [hk3 _ (by omega) (by omega) (by omega), HB2.out.block _ (by omega)]
        exact HIT.out
      have fn3 : w3.heap[w.heap.size]? = some (.cells #[.func (.func fid) #[] fr] 69 (0, 0)) := by
        rw [hk3 _ (by omega) (by omega) (by omega), HB2.out.block _ (by omega)]
        exact HFN.out
      have sb3 : w3.heap[W1.heap.size]? = some (.cells m 63 (0, 0)) := by
        rw [hk3 _ (by omega) (by omega) (by omega)]
        exact HSB2.out
      have hUS : ∀ k, U k → k < w.heap.size ∧ k ≠ z.2.hb ∧ k ≠ z.2.b := fun k hk => ⟨O.lt w HJ.out k hk, fun q => hU k hk (q ▸ HZ1.out.se z hzm _ (.inl rfl)), fun q => hU k hk (q ▸ HZ1.out.se z hzm _ (.inr (.inl rfl)))⟩
      have j3 : J w3 := O.stay W1 w3 HJ1.out fun k hk => by
        obtain ⟨q0, q1, q2⟩ := hUS k hk
        rw [hk3 _ (by omega) q1 q2, HB2.out.block _ (by omega)]
      have ex3 : Ex S w w3 := (HE1.out.trans (S' := fun _ => False) (Ex.of_below HB2.out) (fun _ q => q.elim)).trans he3 (fun k hk => .inl (by rcases hk with rfl | rfl; exact HZ1.out.se z hzm _ (.inl rfl); exact HZ1.out.se z hzm _ (.inr (.inl rfl))))
      obtain ⟨L, HL⟩ : ∃ x, Hid (keptL (p z.2.k.sp) z.2.k.ls = x) := ⟨_, hid rfl⟩
      rw [HL.out] at hd3 hr3
      have hlen : L.length ≤ 1048576 := by rw [← HL.out]; exact Nat.le_trans (List.length_filter_le ..) (HZ1.out.each z hzm).few
      have hc1 : w3.cell? ⟨z.2.hb, 1, none⟩ = some (.slice (some ⟨z.2.b, 0, none⟩) L.length z.2.cap) := (cell_of_row _ _ _ _ _ _ hd3).trans rfl
      have hc0 : w3.cell? ⟨z.2.hb, 0, none⟩ = some z.2.bv := (cell_of_row _ _ _ _ _ _ hd3).trans rfl
      by_cases hL : L = []
      · subst hL
        have ul := used_le p seen Z
        rw [HSP1.out, usedL_mid] at ul
        have up := used_pos (A' ++ B')
        obtain ⟨pb, cb, hbv⟩ := (HZ2.out.each z hzm).by'.slc
        rw [hbv] at hc0
        have hgn := HZ1.out.notTop hzm (k := z.2.hb) (.inl rfl)
        have hgn2 := HZ1.out.notTop hzm (k := z.2.b) (.inr (.inl rfl))
        have t3 : HSt w3 g b room tick (usedL (A' ++ z :: B')) := (hk3 g (by omega) (Ne.symm hgn.1) (Ne.symm hgn2.1)).trans HZ2.out.top
        have m3 : w3.heap[b]? = some (.map ((A' ++ z :: B').map (·.1)).toArray c) := (hk3 b (by omega) (Ne.symm hgn.2) (Ne.symm hgn2.2)).trans HZ2.out.mp
        have g3 := t3.c.2.2.2.1
        have f3 := free_of t3 3
        have T3 := hid t3
        have M3 := hid m3
        rw [usedL_mid] at g3
        obtain ⟨X, HX⟩ : ∃ x, Hid (usedL (A' ++ B') = x) := ⟨_, hid rfl⟩
        obtain ⟨n, Hn⟩ : ∃ x, Hid (z.2.k.bs.length = x) := ⟨_, hid rfl⟩
        rw [HX.out, Hn.out] at g3 ul
        rw [HX.out] at up
        rw [Hn.out] at hc0
        have hnb : (n : Int) ≤ 1125899906842624 := by omega
        have hgne : g ≠ z.2.hb := Ne.symm hgn.1
        have HC3 := hid hk3
        have HIT3 := hid it3
        have HFN3 := hid fn3
        have HSB3 := hid sb3
        have HJ3 := hid j3
        have HEX3 := hid ex3
        have HE3 := hid he3
        have HUL := hid ul
        have HGN := hid (And.intro hgn hgn2)
        have HUS := hid hUS
        have HSS := hid (And.intro hs1 (And.intro hs2 hwl))
        clear hk3 it3 fn3 sb3 j3 ex3 he3 hgn hgn2 hs1 hs2 hwl t3 m3 hd3 hr3 hUS hws hrl
        go_wp2_with fail
        go_region
        obtain ⟨w4, HW4⟩ : ∃ x, Hid ((w3.setCell ⟨g, 3, none⟩ (.int .i64 X)).drew = x) := ⟨_, hid rfl⟩
        rw [HW4.out]
        have hg3l : g < w3.heap.size := (Array.getElem?_eq_some_iff.1 T3.out).1
        have T4 : Hid (HSt w4 g b room tick X) := hid (by rw [← HW4.out]; exact HSt.setUsed T3.out X)
        have hbg : b ≠ g := T3.out.ne M3.out
        have k4 : Hid (∀ k, k ≠ g → w4.heap[k]? = w3.heap[k]?) := hid fun k hk => by rw [← HW4.out]; exact heap_setCell_ne hk _ _
        have M4 : Hid (w4.heap[b]? = some (.map ((A' ++ z :: B').map (·.1)).toArray c)) := hid ((k4.out b hbg).trans M3.out)
        have hgw : g ≠ W1.heap.size := by have := HSS.out.2.2; omega
        have S4 : Hid (w4.heap[W1.heap.size]? = some (.cells (spL z.2.k.sp).toArray 63 (0, 0))) := hid ((k4.out _ (Ne.symm hgw)).trans (by rw [HSB3.out, ← HM.out]; rfl))
        have E4 : Hid (Ex (fun k => k = g) w3 w4) := hid (by rw [← HW4.out]; exact ((Ex.refl (fun k => k = g) w3).setCell (x := g) rfl _).drew)
        go_wp2_with fail
        have hdl : (Builtin.delete_ #[64, 63] 0 #[.map (some b), .agg (spL z.2.k.sp).toArray]).run Try.prog w4.drew = .ok (.tuple #[]) { w4.drew with heap := w4.drew.heap.setIfInBounds b (.map (((A' ++ z :: B').map (·.1)).toArray.eraseIdxIfInBounds A'.length) c) } :=
          run_delS (w := w4.drew) M4.out HZ2.out.spk hok 0 (j := A'.length) (e := z.1) (by simp) (HZ2.out.key z hzm).1 HZ2.out.keys
        obtain ⟨w5, HW5⟩ : ∃ x : World, Hid (({ w4.drew with heap := w4.drew.heap.setIfInBounds b (.map (((A' ++ z :: B').map (fun x : MapEntry × En => x.1)).toArray.eraseIdxIfInBounds A'.length) c) } : World) = x) := ⟨_, hid rfl⟩
        rw [HW5.out] at hdl
        have w4g : w4.drew.cell? ⟨g, 4, none⟩ = some (.map (some b)) := T4.out.c.2.2.2.2
        have w4s : w4.drew.rangeAt W1.heap.size 0 (spL z.2.k.sp) := range_of (w := w4) S4.out
        have k5 : Hid (∀ k, k ≠ b → w5.heap[k]? = w4.heap[k]?) := hid fun k hk => by rw [← HW5.out]; simp [Ne.symm hk]; rfl
        have hbl4 : b < w4.heap.size := (Array.getElem?_eq_some_iff.1 M4.out).1
        have M5 : Hid (w5.heap[b]? = some (.map ((A' ++ B').map (·.1)).toArray c)) := hid (by
          rw [← HW5.out]
          rw [Array.getElem?_setIfInBounds_self_of_lt (show b < w4.drew.heap.size from hbl4)]
          congr 2
          apply Array.ext'
          simp
          rw [List.eraseIdx_append_of_length_le (by simp)]
          simp)
        have s5 : w5.heap.size = w4.heap.size := by rw [← HW5.out]; simp
        have T5 : Hid (HSt w5 g b room tick (usedL (A' ++ B'))) := hid (by rw [HX.out]; exact (k5.out g (Ne.symm hbg)).trans T4.out)
        have E5 : Ex (fun k => k = b) w4 w5 := ⟨by rw [← HW5.out]; rfl, by rw [← HW5.out]; rfl, by rw [← HW5.out]; rfl, by omega, fun k _ hn => k5.out k hn⟩
        have E25 : Ex (fun k => k = z.2.hb ∨ k = z.2.b ∨ k = g ∨ k = b) W2 w5 := ((HE3.out.mono (fun k hk => by rcases hk with q | q; exact .inl q; exact .inr (.inl q))).trans E4.out (fun k hk => .inl (.inr (.inr (.inl hk))))).trans E5 (fun k hk => .inl (.inr (.inr (.inr hk))))
        have Z5 := hid (HZ2.out.drop E25 T5.out M5.out)
        have hg1 := HZ1.out.lt g HZ1.out.sg
        have hSg := hSl g HZ1.out.sg
        have hSb := hSl b HZ1.out.sb
        have k35 : ∀ k, k ≠ g → k ≠ b → w5.heap[k]? = w3.heap[k]? := fun k h1 h2 => (k5.out k h2).trans (k4.out k h1)
        have I5 : Hid (w5.heap[w.heap.size + 1]? = some (.mapIter (some b) c (seen.push z.1.born) c)) := hid ((k35 _ (by omega) (by omega)).trans HIT3.out)
        have R5 : Hid (RgE w g b c (w.heap.size + 1) w.heap.size room tick Z S p J (.func (.func fid) #[] fr) w5 (seen.push z.1.born)) := hid (by
          refine ⟨?_, I5.out, (k35 _ (by omega) (by omega)).trans HFN3.out, O.stay w3 w5 HJ3.out fun k hk => k35 k (fun q => hU k hk (q ▸ HZ1.out.sg)) (fun q => hU k hk (q ▸ HZ1.out.sb)), (HEX3.out.trans E4.out (fun k hk => .inl (by rw [hk]; exact HZ1.out.sg))).trans E5 (fun k hk => .inl (by rw [hk]; exact HZ1.out.sb))⟩
          rw [HSP2.out]
          have : endZ p z = none := by unfold endZ; rw [HL.out, if_pos rfl]
          rw [this]
          exact Z5.out)
        have M5' : Hid (leftN w5 b (w.heap.size + 1) < leftN wr b (w.heap.size + 1)) := hid (by
          rw [leftN_eq I5.out Z5.out.mp, HM0.out, HSP1.out]
          have e1 : (A' ++ B').map (·.1) = A'.map (·.1) ++ ([] ++ B'.map (·.1)) := by simp
          have e2 : (A' ++ z :: B').map (·.1) = A'.map (·.1) ++ z.1 :: B'.map (·.1) := by simp
          rw [e1, e2]
          exact left_less (.inl rfl) he2)
        have w5g : w5.cell? ⟨g, 4, none⟩ = some (.map (some b)) := T5.out.c.2.2.2.2
        have w5s : w5.rangeAt W1.heap.size 0 (spL z.2.k.sp) := range_of ((k5.out _ (by have := HSS.out.2.2; omega)).trans S4.out)
        clear E5 E25 s5 hg1 hSg hSb k35
        refine wp_region_held_drew (S := fun W => W.cell? ⟨g, 4, none⟩ = some (.map (some b)) ∧ W.rangeAt W1.heap.size 0 (spL z.2.k.sp)) (by kernel_rfl) ⟨w4g, w4s⟩ (fun hHeld => ?_)
        have HS := hid hHeld
        clear hHeld
        change wpAnyH _ _ _ _ _ _ _ _ (World.drew _)
        refine wpAnyH_take (i := 0) (v := ?_) rfl (by kernel_rfl) (by kernel_rfl) (by kernel_rfl) (fun _ _ _ h => h) (Or.inl ⟨by rfl, ?q0⟩) HS.out ?_
        case q0 => intro w hSw; obtain ⟨z1, z2⟩ := hSw; go_simp; rfl
        simp only [Act.put, List.getElem_toArray, List.getElem_cons_zero, List.getElem_cons_succ, List.setIfInBounds_toArray, List.set_cons_zero, List.set_cons_succ]
        refine wpAnyH_take (i := 1) (v := ?_) rfl (by kernel_rfl) (by kernel_rfl) (by kernel_rfl) (fun _ _ _ h => h) (Or.inl ⟨by rfl, ?q1⟩) HS.out ?_
        case q1 => intro w hSw; obtain ⟨z1, z2⟩ := hSw; go_simp; rfl
        simp only [Act.put, List.getElem_toArray, List.getElem_cons_zero, List.getElem_cons_succ, List.setIfInBounds_toArray, List.set_cons_zero, List.set_cons_succ]
        refine wpAnyH_take (i := 2) (v := ?_) rfl (by kernel_rfl) (by kernel_rfl) (by kernel_rfl) (fun _ _ _ h => h) (Or.inl ⟨by rfl, ?q2⟩) HS.out ?_
        case q2 => intro w hSw; obtain ⟨z1, z2⟩ := hSw; go_simp; rfl
        simp only [Act.put, List.getElem_toArray, List.getElem_cons_zero, List.getElem_cons_succ, List.setIfInBounds_toArray, List.set_cons_zero, List.set_cons_succ]
        refine wpAnyH_take (i := 3) (v := ?_) rfl (by kernel_rfl) (by kernel_rfl) (by kernel_rfl) (fun _ _ _ h => h) (Or.inl ⟨by rfl, ?q3⟩) HS.out ?_
        case q3 => intro w hSw; obtain ⟨z1, z2⟩ := hSw; go_simp; rfl
        simp only [Act.put, List.getElem_toArray, List.getElem_cons_zero, List.getElem_cons_succ, List.setIfInBounds_toArray, List.set_cons_zero, List.set_cons_succ]
        refine wpAnyH_take (i := 4) rfl (by kernel_rfl) (by kernel_rfl) (by kernel_rfl) (fun _ _ _ h => h) (yieldsIf_load_mid (by rfl) 63 _ rfl W1.heap.size 0 rfl (spL z.2.k.sp) _ (fun W hW => hW.2) Try.underlying63 rfl (size_sp hok)) HS.out ?_
        simp only [Act.put, List.getElem_toArray, List.getElem_cons_zero, List.getElem_cons_succ, List.setIfInBounds_toArray, List.set_cons_zero, List.set_cons_succ]
        refine wpAnyH_ready (rs := [5]) (by kernel_rfl) (by simp) ?_
        refine AllReadyH.cons rfl (fun K hK => ?_) AllReadyH.nil
        replace hK := hid hK
        go_simp
        refine hK.out _ _ ⟨w5g, w5s⟩ (fun _ => ?_)
        clear hK K
        refine wpAnyH_done (by kernel_rfl) ?_ _
        go_wp2
        exact ⟨⟨_, R5.out⟩, M5'.out⟩
      · have hL0 : 0 < L.length := List.length_pos_iff.2 hL
        have hne0 : ((L.length : Int) == 0) = false := by simp; omega
        have Zn := hid (HZ2.out.lease he3 hd3 hr3 hL0 hlen)
        have R3 : Hid (RgE w g b c (w.heap.size + 1) w.heap.size room tick Z S p J (.func (.func fid) #[] fr) w3 (seen.push z.1.born)) := hid (by
          refine ⟨?_, it3, fn3, j3, ex3⟩
          rw [HSP2.out]
          have : endZ p z = some (z.1, setLs z.2 L) := by unfold endZ; rw [HL.out, if_neg hL]
          rw [this]
          exact Zn.out)
        have M3 : Hid (leftN w3 b (w.heap.size + 1) < leftN wr b (w.heap.size + 1)) := hid (by
          rw [leftN_eq it3 Zn.out.mp, HM0.out, HSP1.out]
          have e1 : (A' ++ (z.1, setLs z.2 L) :: B').map (·.1) = A'.map (·.1) ++ ([z.1] ++ B'.map (·.1)) := by simp
          have e2 : (A' ++ z :: B').map (·.1) = A'.map (·.1) ++ z.1 :: B'.map (·.1) := by simp
          rw [e1, e2]
          exact left_less (.inr rfl) he2)
        clear it3 fn3 sb3 j3 ex3 hd3 hr3 he3 hk3 hUS hc0
        go_wp2
        exact ⟨⟨_, R3.out⟩, M3.out⟩
def overT (t : Int) : Sp → Lz → Bool := fun _ l => !decide (t ≤ l.til)
def tkZ (tick t : Int) (Z : List (MapEntry × En)) : List (MapEntry × En) := if tick < t then Z.filterMap (endZ (overT t)) else Z
def tkE (tick t : Int) : Int := if t < tick ∨ 1099511627776 < t then 191 else 0
section
variable {w : World} {g b c : Nat} {room tick : Int} {Z : List (MapEntry × En)} {S : Nat → Prop}
set_option maxRecDepth 100000 in
set_option maxHeartbeats 4000000 in
theorem tick_bad (h : HZ w g b c room tick Z S) (t : Int) (ht : t < tick ∨ 1099511627776 < t) : Calls Try.prog 7 #[.pointer (some ⟨g, 0, none⟩), .int .i64 t] w fun e w' => e = .returned (.int .i64 191) ∧ Below w.heap.size w w' := by
  obtain ⟨W1, HW1⟩ : ∃ x, Hid (w.alloc (.cells #[.int .i64 t] 3) = x) := ⟨_, hid rfl⟩
  have B1 : Hid (Below w.heap.size w W1) := by rw [← HW1.out]; exact hid ((Below.refl _ w).alloc (Nat.le_refl _) _)
  have h1 := h.below B1.out
  have CM := hid (made_yes W1 g b room tick _ h1.top)
  have c2 := h1.top.c.2.2.1
  have ct : W1.cell? ⟨w.heap.size, 0, none⟩ = some (.int .i64 t) := by rw [← HW1.out, cell_of_row _ _ _ _ _ _ (heap_alloc_new w _)]; rfl
  clear h h1
  by_cases h0 : t < tick
  · have d1 : decide (t < tick) = true := decide_eq_true h0
    clear ht
    go_enter Try.func7, Try.ntmps7
    go_wp2_with fail
    rw [HW1.out]
    refine CM.out.mono ?_
    rintro e w' ⟨rfl, hw'⟩
    subst hw'
    go_wp2_with fail
    go_quiet (fail)
    go_wp2
    go_ret
    exact ⟨rfl, bel_drewN B1.out _⟩
  · have d1 : decide (t < tick) = false := decide_eq_false h0
    have d2 : decide (1099511627776 < t) = true := decide_eq_true (by omega)
    clear ht
    go_enter Try.func7, Try.ntmps7
    go_wp2_with fail
    rw [HW1.out]
    refine CM.out.mono ?_
    rintro e w' ⟨rfl, hw'⟩
    subst hw'
    go_wp2_with fail
    go_quiet (fail)
    go_wp2
    go_ret
    exact ⟨rfl, bel_drewN B1.out _⟩
theorem HZ.setTick (h : HZ w g b c room tick Z S) (t : Int) : HZ (w.setCell ⟨g, 2, none⟩ (.int .i64 t)) g b c room t Z S := by
  have hk : ∀ k, k ≠ g → (w.setCell ⟨g, 2, none⟩ (.int .i64 t)).heap[k]? = w.heap[k]? := fun k hk => heap_setCell_ne hk _ _
  refine ⟨h.top.setTick t, (hk b (h.top.ne h.mp)).trans h.mp, h.key, fun z hz => (h.each z hz).of fun k q => hk k (h.notTop hz q).1, h.born, h.old, h.one, h.hbs, h.bbs, h.sg, h.sb, h.se, fun k q => by simpa [World.setCell] using h.lt k q⟩
theorem tkZ_same {tick t : Int} {Z : List (MapEntry × En)} (h : ¬ tick < t) : tkZ tick t Z = Z := by unfold tkZ; rw [if_neg h]
set_option maxRecDepth 100000 in
set_option maxHeartbeats 4000000 in
theorem tick_ok (h : HZ w g b c room tick Z S) (hu : usedL Z ≤ 1125899906842624) (t : Int) (h0 : tick ≤ t) (h9 : t ≤ 1099511627776) : Calls Try.prog 7 #[.pointer (some ⟨g, 0, none⟩), .int .i64 t] w fun e w' => e = .returned (.int .i64 0) ∧ HZ w' g b c room t (tkZ tick t Z) S ∧ Ex S w w' := by
  have hgl := h.lt g h.sg
  obtain ⟨W1, HW1⟩ : ∃ x, Hid (w.alloc (.cells #[.int .i64 t] 3) = x) := ⟨_, hid rfl⟩
  have B1 : Hid (Below w.heap.size w W1) := by rw [← HW1.out]; exact hid ((Below.refl _ w).alloc (Nat.le_refl _) _)
  have h1 := h.below B1.out
  have CM := hid (made_yes W1 g b room tick _ h1.top)
  have c2 := h1.top.c.2.2.1
  have f2 : W1.frozen? ⟨g, 2, none⟩ = false := free_of h1.top 2
  have T1 : W1.heap[w.heap.size]? = some (.cells #[.int .i64 t] 3 (0, 0)) := by rw [← HW1.out]; exact heap_alloc_new w _
  have ct : W1.cell? ⟨w.heap.size, 0, none⟩ = some (.int .i64 t) := by rw [cell_of_row _ _ _ _ _ _ T1]; rfl
  have d1 : decide (t < tick) = false := decide_eq_false (by omega)
  have d2 : decide (1099511627776 < t) = false := decide_eq_false (by omega)
  have hSl := h.lt
  have HH := hid h1
  by_cases hlt : tick < t
  · have d3 : decide (tick < t) = true := decide_eq_true hlt
    have ek : tkZ tick t Z = Z.filterMap (endZ (overT t)) := by unfold tkZ; rw [if_pos hlt]
    rw [ek]
    have CE := hid fun n : Nat => sends_any (tick1_ovr w.heap.size t) ((W1.drewN n).setCell ⟨g, 2, none⟩ (.int .i64 t)) (show JT w.heap.size t ((W1.drewN n).setCell ⟨g, 2, none⟩ (.int .i64 t)) from (heap_setCell_ne (w := W1.drewN n) (show w.heap.size ≠ g by omega) _ _).trans T1) g b c room t Z S (HZ.setTick (w := W1.drewN n) (HH.out.of fun _ _ => rfl) t) (fun k hk q => by have := hSl k q; omega) hu
    clear h h1 hlt h0 h9 T1 ek
    go_enter Try.func7, Try.ntmps7
    go_wp2_with fail
    rw [HW1.out]
    refine CM.out.mono ?_
    rintro e w' ⟨rfl, hw'⟩
    subst hw'
    go_wp2_with fail
    go_quiet (fail)
    go_wp2_with fail
    go_quiet (fail)
    go_wp2_with fail
    refine (CE.out _).mono ?_
    rintro e w2 ⟨rfl, hz2, _, hx2⟩
    have E2 : Hid (Ex S w w2) := hid ((Ex.setCell (x := g) (Ex.drewN (Ex.of_below B1.out) _) HH.out.sg _).trans hx2 (fun k hk => .inl hk))
    have Z2 := hid hz2
    clear hx2 hz2
    go_wp2
    go_ret
    exact ⟨rfl, Z2.out, E2.out⟩
  · have d3 : decide (tick < t) = false := decide_eq_false hlt
    have et : t = tick := by omega
    rw [tkZ_same hlt]
    have ET := hid et
    clear h h1 hlt h0 h9 T1 et
    go_enter Try.func7, Try.ntmps7
    go_wp2_with fail
    rw [HW1.out]
    refine CM.out.mono ?_
    rintro e w' ⟨rfl, hw'⟩
    subst hw'
    go_wp2_with fail
    go_quiet (fail)
    go_wp2_with fail
    go_quiet (fail)
    go_wp2
    go_ret
    refine ⟨rfl, ?_, Ex.of_below (bel_drewN (bel_drewN B1.out _) _)⟩
    rw [ET.out]
    exact HH.out.of fun _ _ => rfl
end
end Go.Proofs.Ythmhpenjegfbcaa
namespace Go.Proofs.Ythmhpenjegfbcaa
open Go.RowKit
set_option maxHeartbeats 1000000 in
theorem clone_any (w : World) (v : Value) (l : List Int) (h : HB w v l) (hbig : l.length ≤ 140737488355328) :
    Calls Try.prog 25 #[v] w fun e w' => ∃ v', e = .returned v' ∧ w'.ownsRow w.heap.size 5 1 v' l.length (l.map (Value.int .u8)) ∧ Below w.heap.size w w' := by
  obtain ⟨i0, hi, hz0, hz1, hz2⟩ := info_parts info_u8
  have q22 := eql_nil_bytes
  obtain ⟨⟨p, c, rfl, hlc, hm, _, hcell⟩, hby⟩ := h
  cases p with
  | none =>
    have e : l = [] := by
      apply Classical.byContradiction
      intro hne
      obtain ⟨b, off, e, _⟩ := hcell hne
      cases e
    subst e
    go_enter Try.func25, Try.ntmps25
    go_wp2
    go_ret
    exact ⟨_, rfl, World.ownsRow_nil _ _ _ _, Below.refl _ _⟩
  | some a =>
    have A : Hid (l ≠ [] → ∃ b off, some a = some ⟨b, off, none⟩ ∧ ∀ j, j < l.length → w.cell? ⟨b, off + j, none⟩ = some (.int .u8 (l.getD j 0))) := hcell
    clear hcell
    go_enter Try.func25, Try.ntmps25
    go_wp2_with (at_builtin; refine wpList_append_own _ rfl _ _ 31 rfl w.heap.size 5 i0 (.int .u8 0) 1 1 Try.underlying31 hi hz0 hz1 hz2 rfl (by decide) _ _ _ rfl (World.ownsRow_made w #[] 0 (Nat.le_refl _) (Nat.zero_le _) rfl) a l.length c (l.map (Value.int .u8)) rfl ?qc1 ?qc2 ?qc3 ?qc4 ?qc5 ?qc6 ?_)
    case qc1 => simp
    case qc2 =>
      intro j u hj
      have hjn : j < l.length := by
        have := (List.getElem?_eq_some_iff.1 hj).1
        simpa using this
      refine Lib.cell?_alloc_some _ ?_
      obtain ⟨b, off, e, hh⟩ := A.out (by intro e; subst e; simp at hjn)
      cases e
      rw [Go.WideShapes.add_plain, hh j hjn]
      have e : (l.map (Value.int .u8))[j]? = some (Value.int .u8 (l.getD j 0)) := by simp [List.getD, List.getElem?_eq_getElem hjn]
      rw [e] at hj
      exact hj
    case qc3 => intro u hu; obtain ⟨x, _, rfl⟩ := List.mem_map.1 hu; rfl
    case qc4 => unfold maxLen; omega
    case qc5 => omega
    case qc6 => simp
    intro v' w1 hown hgrow hnil
    go_wp2
    go_ret
    exact ⟨v', rfl, by simpa using hown, ((Below.refl _ w).alloc (Nat.le_refl _) _).grown hgrow (by simp) (by intro k hk; simp [Value.ownBlock] at hk; omega)⟩
end Go.Proofs.Ythmhpenjegfbcaa
namespace Go.Proofs.Ythmhpenjegfbcaa
open Go Go.RowKit
def RdL (w : World) (v : Value) (ls : List Lz) : Prop := ∃ (p : Option Addr) (c : Nat), v = .slice p ls.length c ∧ (ls ≠ [] → ∃ b off, p = some ⟨b, off, none⟩ ∧ w.rangeAt b off (lzL ls))
theorem RdL.below {w w' : World} {v : Value} {ls : List Lz} (h : RdL w v ls) (hb : Below w.heap.size w w') : RdL w' v ls := by
  obtain ⟨p, c, h1, h2⟩ := h
  refine ⟨p, c, h1, fun hl => ?_⟩
  obtain ⟨b, off, e, hr⟩ := h2 hl
  refine ⟨b, off, e, fun j u hj => ?_⟩
  have := hr j u hj
  exact (hb.cell (World.block_lt_of_cell? w _ this)).trans this
theorem info_lease : (Try.prog.info? 30).map (fun i => (i.zero, i.size, i.bytes)) = some (some (.agg #[.int .u32 0, .int .i64 0]), 2, 16) := by kernel_rfl
theorem eql_nil_leases : ∀ (w : World) (a : Option Addr) (n c n' c' : Nat), (binOp .eql 58 (.slice a n c) (.slice none n' c')).run Try.prog w = .ok (.bool a.isNone) w :=
  fun w a n c n' c' => Lib.run_eql_slice_nil w _ _ a n c n' c' Try.underlying58
def OwL (w : World) (B : Nat) (v : Value) (ls : List Lz) : Prop := ∃ b cap, v = .slice (some ⟨b, 0, none⟩) ls.length cap ∧ ORl w b cap ls ∧ B ≤ b ∧ cap ≤ maxLen
theorem OwL.of_row {w : World} {B : Nat} {v : Value} {ls : List Lz} (h : w.ownsRow B 30 2 v ls.length (lzL ls)) (hl : 0 < ls.length) : OwL w B v ls := by
  rcases h.2 with ⟨_, e0⟩ | ⟨b, cap, cur, hv, hb, hw, hn, hm, hs, ht⟩
  · omega
  · refine ⟨b, cap, hv, ⟨cur.toList.drop (ls.length * 2), ?_, ?_⟩, hb, hm⟩
    · rw [hw]
      congr 2
      apply Array.ext'
      rw [List.toList_toArray, ← ht, List.take_append_drop]
    · have e : cur.toList.length = cap * 2 := by rw [Array.length_toList]; exact hs
      rw [List.length_drop, e]
      omega
set_option maxRecDepth 100000 in
set_option maxHeartbeats 4000000 in
theorem lclone_any (w : World) (v : Value) (ls : List Lz) (h : RdL w v ls) (hl : 0 < ls.length) (hm : ls.length ≤ 1048576) :
    Calls Try.prog 26 #[v] w fun e w' => ∃ v', e = .returned v' ∧ OwL w' w.heap.size v' ls ∧ Below w.heap.size w w' := by
  obtain ⟨i0, hi, hz0, hz1, hz2⟩ := info_parts info_lease
  have q22 := eql_nil_leases
  obtain ⟨p, c, rfl, hh⟩ := h
  obtain ⟨b, off, rfl, hr⟩ := hh (List.length_pos_iff.1 hl)
  have HR := hid hr
  have HLL := hid (lzL_length ls)
  clear hr hh
  go_enter Try.func26, Try.ntmps26
  go_wp2_with (at_builtin; refine wpList_append_own _ rfl _ _ 58 rfl w.heap.size 30 i0 (.agg #[.int .u32 0, .int .i64 0]) 2 16 Try.underlying58 hi hz0 hz1 hz2 rfl (by decide) _ _ _ rfl (World.ownsRow_made w #[] 0 (Nat.le_refl _) (Nat.zero_le _) rfl) ⟨b, off, none⟩ ls.length c (lzL ls) rfl ?qc1 ?qc2 ?qc3 ?qc4 ?qc5 ?qc6 ?_)
  case qc1 => rw [HLL.out]; omega
  case qc2 =>
    intro j u hj
    refine Lib.cell?_alloc_some _ ?_
    rw [Go.WideShapes.add_plain]
    exact HR.out j u hj
  case qc3 => intro u hu; exact lz_one hu
  case qc4 => unfold maxLen; omega
  case qc5 => omega
  case qc6 => simp
  intro v' w1 hown hgrow hnil
  go_wp2
  go_ret
  refine ⟨v', rfl, OwL.of_row (by simpa using hown) hl, ((Below.refl _ w).alloc (Nat.le_refl _) _).grown hgrow (by simp) (by intro k hk; simp [Value.ownBlock] at hk; omega)⟩
set_option maxRecDepth 100000 in
set_option maxHeartbeats 4000000 in
theorem newHeld_any (w : World) (vb vl : Value) (bs : List Int) (ls : List Lz) (hb : HB w vb bs) (hbig : bs.length ≤ 140737488355328) (h : RdL w vl ls) (hl : 0 < ls.length) (hm : ls.length ≤ 1048576) :
    Calls Try.prog 35 #[vb, vl] w fun e w' => ∃ x : En, e = .returned (.pointer (some ⟨x.hb, 0, none⟩)) ∧ x.k.bs = bs ∧ x.k.ls = ls ∧ HHd w' x.hb x.bv x.b x.cap ls.length ∧ ORl w' x.b x.cap ls ∧ OBy w' x.bv bs ∧ x.cap ≤ maxLen ∧ (∀ k, x.S k → w.heap.size ≤ k) ∧ Below w.heap.size w w' := by
  have C1 := hid (clone_any w vb bs hb hbig)
  have HBy := hid hb.2
  have HL := hid h
  clear h
  obtain ⟨p, c, rfl, -, -⟩ := hb.open
  obtain ⟨pl, cl, hvl, -⟩ := HL.out
  subst hvl
  clear hb
  go_enter Try.func35, Try.ntmps35
  go_wp2_with fail
  refine C1.out.mono ?_
  rintro e w1 ⟨v1, rfl, hown, hb1⟩
  have O1 := hid hown
  have B1 := hid hb1
  obtain ⟨p1, c1, hv1⟩ := own_slc hown
  subst hv1
  clear hown hb1
  have C2 := hid (lclone_any w1 _ ls (HL.out.below B1.out) hl hm)
  go_wp2_with fail
  refine C2.out.mono ?_
  rintro e w2 ⟨v2, rfl, ho2, hb2⟩
  obtain ⟨b2, cap2, rfl, hr2, hB2, hc2⟩ := ho2
  have R2 := hid hr2
  have B2 := hid hb2
  clear hr2 hb2 C1 C2
  have hs1 := B1.out.size
  have hs2 := B2.out.size
  have HSZ := hid (And.intro hs1 hs2)
  clear hs1 hs2
  go_wp2
  go_ret
  have hb2l : b2 < w2.heap.size := R2.out.lt
  refine ⟨⟨w2.heap.size, .slice p1 bs.length c1, b2, cap2, ⟨⟨[], 0⟩, bs, ls⟩⟩, rfl, rfl, rfl, heap_alloc_new w2 _, R2.out.of (Below.heap_alloc _ _ _ hb2l), ?_, hc2, ?_, ?_⟩
  · have h1 : OBy w1 (.slice p1 bs.length c1) bs := ⟨own_mono O1.out (Nat.zero_le _), HBy.out⟩
    have hlt : ∀ k, (Value.slice p1 bs.length c1).ownBlock = some k → k < w1.heap.size := fun k hk => by
      rcases O1.out.2 with ⟨q, _⟩ | ⟨b', cap', cur, hv, hb', hw, q⟩
      · rw [q] at hk; cases hk
      · rw [hv] at hk; cases hk
        exact (Array.getElem?_eq_some_iff.1 hw).1
    refine h1.of fun k hk => ?_
    have := hlt k hk
    have := HSZ.out.2
    rw [Below.heap_alloc _ _ _ (by omega)]
    exact B2.out.block k (by omega)
  · have h1 := HSZ.out
    rintro k (rfl | rfl | hk)
    · exact Nat.le_trans h1.1 h1.2
    · exact Nat.le_trans h1.1 hB2
    · rcases O1.out.2 with ⟨q, _⟩ | ⟨b', cap', cur, hv, hb', hw, q⟩
      · simp only at hk; rw [q] at hk; cases hk
      · simp only at hk; rw [hv] at hk; cases hk
        exact hb'
  · exact (B1.out.trans (B2.out.mono HSZ.out.1)).alloc (Nat.le_trans HSZ.out.1 HSZ.out.2) _
section
variable {w : World} {g b c : Nat} {room tick : Int} {Z : List (MapEntry × En)} {S : Nat → Prop}
theorem ex_cell {W W' : World} {b c : Nat} {es : Array MapEntry} (hb : W.heap[b]? = some (.map es c)) (hE : Ex (fun k => k = b) W W') {a : Addr} {v : Value} (h : W.cell? a = some v) : W'.cell? a = some v := by
  have hne : a.block ≠ b := fun e => by
    simp [World.cell?, e, hb] at h
  have hlt := World.block_lt_of_cell? W a h
  rw [← h]
  exact World.cell?_of_block (hE.block a.block hlt hne)
theorem HB.exM {W W' : World} {b c : Nat} {es : Array MapEntry} (hb : W.heap[b]? = some (.map es c)) (hE : Ex (fun k => k = b) W W') {v : Value} {l : List Int} (h : HB W v l) : HB W' v l := h.later fun a n hx => ex_cell hb hE hx
theorem RdL.exM {W W' : World} {b c : Nat} {es : Array MapEntry} (hb : W.heap[b]? = some (.map es c)) (hE : Ex (fun k => k = b) W W') {v : Value} {l : List Lz} (h : RdL W v l) : RdL W' v l := by
  obtain ⟨p, c, h1, h2⟩ := h
  refine ⟨p, c, h1, fun hl => ?_⟩
  obtain ⟨b, off, e, hr⟩ := h2 hl
  exact ⟨b, off, e, fun j u hj => ex_cell hb hE (hr j u hj)⟩
theorem range_exM {W W' : World} {b c : Nat} {es : Array MapEntry} (hb : W.heap[b]? = some (.map es c)) (hE : Ex (fun k => k = b) W W') {x o : Nat} {cs : List Value} (h : W.rangeAt x o cs) : W'.rangeAt x o cs := fun j u hj => ex_cell hb hE (h j u hj)
def SU (S : Nat → Prop) (x : En) : Nat → Prop := fun k => S k ∨ x.S k
theorem HZ.push (h : HZ w g b c room tick Z S) {w' : World} (z : MapEntry × En) (hk : z.1.key = spV z.2.k.sp ∧ z.1.val = .pointer (some ⟨z.2.hb, 0, none⟩) ∧ z.1.born = c) (hE : Ex (fun k => k = g ∨ k = b) w w') (ht : HSt w' g b room tick (usedL (Z ++ [z]))) (hm : w'.heap[b]? = some (.map ((Z ++ [z]).map (·.1)).toArray (c + 1)))
    (hx : HEn w z.2) (hfr : ∀ k, z.2.S k → ¬ S k) (hlt : ∀ k, z.2.S k → k < w.heap.size) (hsp : ∀ y ∈ Z, y.2.k.sp ≠ z.2.k.sp) : HZ w' g b (c + 1) room tick (Z ++ [z]) (SU S z.2) := by
  have nd : ∀ {β : Type} {f : MapEntry × En → β}, (Z.map f).Nodup → (∀ y ∈ Z, f y ≠ f z) → ((Z ++ [z]).map f).Nodup := fun {β f} h1 h2 => by
    rw [List.map_append, List.nodup_append]
    refine ⟨h1, by simp, fun a ha b hb => ?_⟩
    obtain ⟨y, hy, rfl⟩ := List.mem_map.1 ha
    simp only [List.map_cons, List.map_nil, List.mem_singleton] at hb
    subst hb
    exact h2 y hy
  have al : ∀ {P : MapEntry × En → Prop}, (∀ y ∈ Z, P y) → P z → ∀ y ∈ Z ++ [z], P y := fun {P} h1 h2 y hy => by
    rcases List.mem_append.1 hy with q | q
    · exact h1 y q
    · rw [List.mem_singleton.1 q]; exact h2
  refine ⟨ht, hm, al h.key ⟨hk.1, hk.2.1⟩, al (fun y hy => (h.each y hy).of fun k q => hE.block k (h.lt k (h.se y hy k q)) (fun r => ?_)) (hx.of fun k q => hE.block k (hlt k q) (fun r => ?_)), nd h.born (fun y hy e => ?_), al (fun y hy => Nat.lt_succ_of_lt (h.old y hy)) (by rw [hk.2.2]; exact Nat.lt_succ_self c), nd h.one hsp, nd h.hbs (fun y hy e => hfr z.2.hb (.inl rfl) (e ▸ h.se y hy _ (.inl rfl))), nd h.bbs (fun y hy e => hfr z.2.b (.inr (.inl rfl)) (e ▸ h.se y hy _ (.inr (.inl rfl)))), .inl h.sg, .inl h.sb, al (fun y hy k q => .inl (h.se y hy k q)) (fun k q => .inr q), fun k q => ?_⟩
  · rcases r with r | r
    · exact (h.notTop hy q).1 r
    · exact (h.notTop hy q).2 r
  · rcases r with r | r
    · exact hfr k q (r ▸ h.sg)
    · exact hfr k q (r ▸ h.sb)
  · have := h.old y hy
    rw [e, hk.2.2] at this
    omega
  · rcases q with q | q
    · exact Nat.lt_of_lt_of_le (h.lt k q) hE.size
    · exact Nat.lt_of_lt_of_le (hlt k q) hE.size
set_option maxRecDepth 100000 in
set_option maxHeartbeats 8000000 in
theorem keep_any (h : HZ w g b c room tick Z S) (s : Sp) (hs : s.ok) (hn : ∀ z ∈ Z, z.2.k.sp ≠ s) (vb vl : Value) (bs : List Int) (ls : List Lz) (hvb : HB w vb bs) (hbig : bs.length ≤ 1048576) (hvl : RdL w vl ls) (hl : 0 < ls.length) (hm : ls.length ≤ 1048576) (hu : usedL Z ≤ 1125899906842624) :
    Calls Try.prog 19 #[.pointer (some ⟨g, 0, none⟩), .agg (spA s), vb, vl] w fun e w' => ∃ z, e = .returned (.tuple #[]) ∧ z.2.k = ⟨s, bs, ls⟩ ∧ HZ w' g b (c + 1) room tick (Z ++ [z]) (SU S z.2) ∧ (∀ k, z.2.S k → w.heap.size ≤ k) ∧ Ex S w w' := by
  obtain ⟨W1, HW1⟩ : ∃ x, Hid (w.alloc (.cells (spA s) 63) = x) := ⟨_, hid rfl⟩
  have B1 : Hid (Below w.heap.size w W1) := by rw [← HW1.out]; exact hid ((Below.refl _ w).alloc (Nat.le_refl _) _)
  have Z1 : Hid (W1.heap.size = w.heap.size + 1) := hid (by rw [← HW1.out]; simp)
  have hb1 : W1.heap[w.heap.size]? = some (.cells (spL s).toArray 63 (0, 0)) := by rw [← HW1.out]; exact heap_alloc_new w _
  have H1 := hid (h.below B1.out)
  have V1 := hid (hvb.below B1.out)
  have L1 := hid (hvl.below B1.out)
  have up := used_pos Z
  obtain ⟨pb, cb, hvb', -, -⟩ := hvb.open
  obtain ⟨pl, cl, hvl', -⟩ := hvl
  have CN := hid fun (W : World) (hB : Ex (fun k => k = b) W1 W) => newHeld_any W vb vl bs ls (V1.out.exM H1.out.mp hB) (by omega) (L1.out.exM H1.out.mp hB) hl hm
  have g1 := H1.out.top.c.2.2.2.2
  have R1 := hid (range_of hb1)
  have hsz := hid (size_sp hs)
  have HLT : Hid (w.heap.size < W1.heap.size) := hid (by have := Z1.out; omega)
  have hgl := H1.out.lt g H1.out.sg
  have HHN := hid hn
  have HH := hid h
  have HU := hid hu
  subst hvb'
  subst hvl'
  clear h hn hvb hb1 hu
  obtain ⟨m, HM⟩ : ∃ x, Hid (spA s = x) := ⟨_, hid rfl⟩
  rw [HM.out]
  rw [HM.out] at HW1
  go_enter Try.func19, Try.ntmps19
  refine wp_seq_k fun K0 h0 => ?_
  have H0 := hid h0
  clear h0
  go_wp2
  rw [HW1.out]
  refine H0.out _ _ ?_
  refine wp_seq_k fun K1 h1 => ?_
  have H1' := hid h1
  clear h1
  have bd : Ex (fun k => k = b) W1 W1.drew := (Ex.refl _ W1).drew
  refine wp_region_held_drew (S := Ex (fun k => k = b) W1) (by kernel_rfl) bd (fun hHeld => ?_)
  have HS := hid hHeld
  clear hHeld
  change wpAnyH _ _ _ _ _ _ _ _ (World.drew _)
  refine wpAnyH_take (i := 0) (v := ?_) rfl (by kernel_rfl) (by kernel_rfl) (by kernel_rfl) (fun _ _ _ h => h) (Or.inl ⟨by rfl, ?q0⟩) HS.out ?_
  case q0 => intro w hSw; have q4 := ex_cell H1.out.mp hSw g1; go_simp; rfl
  simp only [Act.put, List.getElem_toArray, List.getElem_cons_zero, List.getElem_cons_succ, List.setIfInBounds_toArray, List.set_cons_zero, List.set_cons_succ]
  refine wpAnyH_take (i := 1) (v := ?_) rfl (by kernel_rfl) (by kernel_rfl) (by kernel_rfl) (fun _ _ _ h => h) (Or.inl ⟨by rfl, ?q1⟩) HS.out ?_
  case q1 => intro w hSw; have q4 := ex_cell H1.out.mp hSw g1; go_simp; rfl
  simp only [Act.put, List.getElem_toArray, List.getElem_cons_zero, List.getElem_cons_succ, List.setIfInBounds_toArray, List.set_cons_zero, List.set_cons_succ]
  refine wpAnyH_take (i := 2) (v := ?_) rfl (by kernel_rfl) (by kernel_rfl) (by kernel_rfl) (fun _ _ _ h => h) (Or.inl ⟨by rfl, ?q2⟩) HS.out ?_
  case q2 => intro w hSw; have q4 := ex_cell H1.out.mp hSw g1; go_simp; rfl
  simp only [Act.put, List.getElem_toArray, List.getElem_cons_zero, List.getElem_cons_succ, List.setIfInBounds_toArray, List.set_cons_zero, List.set_cons_succ]
  refine wpAnyH_take (i := 3) (v := ?_) rfl (by kernel_rfl) (by kernel_rfl) (by kernel_rfl) (fun _ _ _ h => h) (Or.inl ⟨by rfl, ?q3⟩) HS.out ?_
  case q3 => intro w hSw; have q4 := ex_cell H1.out.mp hSw g1; go_simp; rfl
  simp only [Act.put, List.getElem_toArray, List.getElem_cons_zero, List.getElem_cons_succ, List.setIfInBounds_toArray, List.set_cons_zero, List.set_cons_succ]
  refine wpAnyH_take (i := 4) rfl (by kernel_rfl) (by kernel_rfl) (by kernel_rfl) (fun _ _ _ h => h) (yieldsIf_load_mid (by rfl) 63 _ rfl w.heap.size 0 rfl (spL s) _ (fun W hW => range_exM H1.out.mp hW R1.out) Try.underlying63 rfl hsz.out) HS.out ?_
  simp only [Act.put, List.getElem_toArray, List.getElem_cons_zero, List.getElem_cons_succ, List.setIfInBounds_toArray, List.set_cons_zero, List.set_cons_succ]
  refine wpAnyH_take (i := 5) (v := ?_) rfl (by kernel_rfl) (by kernel_rfl) (by kernel_rfl) (fun _ _ _ h => h) (Or.inl ⟨by rfl, ?q5⟩) HS.out ?_
  case q5 => intro w hSw; have q4 := ex_cell H1.out.mp hSw g1; go_simp; rfl
  simp only [Act.put, List.getElem_toArray, List.getElem_cons_zero, List.getElem_cons_succ, List.setIfInBounds_toArray, List.set_cons_zero, List.set_cons_succ]
  refine wpAnyH_take (i := 6) (v := ?_) rfl (by kernel_rfl) (by kernel_rfl) (by kernel_rfl) (fun _ _ _ h => h) (Or.inl ⟨by rfl, ?q6⟩) HS.out ?_
  case q6 => intro w hSw; have q4 := ex_cell H1.out.mp hSw g1; go_simp; rfl
  simp only [Act.put, List.getElem_toArray, List.getElem_cons_zero, List.getElem_cons_succ, List.setIfInBounds_toArray, List.set_cons_zero, List.set_cons_succ]
  refine wpAnyH_ready (rs := [7]) (by kernel_rfl) (by simp) ?_
  refine AllReadyH.cons rfl (fun K hK => ?_) AllReadyH.nil
  replace hK := hid hK
  go_simp
  refine (CN.out _ HS.out).mono ?_
  rintro e w2 ⟨x, rfl, hx1, hx2, hd, hr, ho, hcap, hfr, hb2⟩
  have B2 := hid (HS.out.trans (S' := fun _ => False) (Ex.of_below hb2) (fun _ q => q.elim))
  refine hK.out _ _ B2.out (fun _ => ?_)
  clear hK K HS
  have HS := B2
  have N2 := hid (And.intro hx1 (And.intro hx2 (And.intro hd (And.intro hr (And.intro ho (And.intro hcap hfr))))))
  have hfb := hb2.size
  have bdd : Below W1.heap.size W1 W1.drew := (Below.refl _ W1).drew
  clear hd hr ho hfr
  have BX := hid (bdd.trans (Below.mono hb2 (by first | exact Nat.le_refl _ | simp)))
  have H2 := hid (H1.out.below BX.out)
  clear hb2
  have hput : (Instr.mapUpdate 64 (.map (some b)) (.agg (spL s).toArray) (.pointer (some ⟨x.hb, 0, none⟩))).run Try.prog w2 = .ok () { w2 with heap := w2.heap.setIfInBounds b (.map ((Z.map (·.1)).toArray.push ⟨spV s, .pointer (some ⟨x.hb, 0, none⟩), c⟩) (c + 1)) } := run_putS H2.out.mp H2.out.spk hs (fun e he => by
    simp only [List.toList_toArray] at he
    obtain ⟨z, hz, rfl⟩ := List.mem_map.1 he
    rw [(H2.out.key z hz).1]
    exact fun q => HHN.out z hz (spV_inj (H2.out.each z hz).ok hs q)) _
  obtain ⟨w3, HW3⟩ : ∃ y : World, Hid (({ w2 with heap := w2.heap.setIfInBounds b (.map ((Z.map (fun x : MapEntry × En => x.1)).toArray.push ⟨spV s, .pointer (some ⟨x.hb, 0, none⟩), c⟩) (c + 1)) } : World) = y) := ⟨_, hid rfl⟩
  rw [HW3.out] at hput
  refine wpAnyH_ready (rs := [8]) (by kernel_rfl) (by simp) ?_
  refine AllReadyH.cons rfl (fun K hK => ?_) AllReadyH.nil
  replace hK := hid hK
  go_simp
  have k3 : Hid (∀ k, k ≠ b → w3.heap[k]? = w2.heap[k]?) := hid fun k hk => by rw [← HW3.out]; simp [Ne.symm hk]
  have hbl2 : b < w2.heap.size := H2.out.lt b H2.out.sb
  have M3 : Hid (w3.heap[b]? = some (.map ((Z.map (fun x : MapEntry × En => x.1)) ++ [(⟨spV s, .pointer (some ⟨x.hb, 0, none⟩), c⟩ : MapEntry)]).toArray (c + 1))) := hid (by
    rw [← HW3.out]
    rw [Array.getElem?_setIfInBounds_self_of_lt hbl2]
    simp)
  have E3 : Hid (Ex (fun k => k = b) w2 w3) := hid ⟨by rw [← HW3.out], by rw [← HW3.out], by rw [← HW3.out], by rw [← HW3.out]; simp, fun k _ hk => k3.out k hk⟩
  refine hK.out _ _ (HS.out.trans E3.out (fun k hk => .inl hk)) (fun _ => ?_)
  clear hK K
  refine wpAnyH_done (by kernel_rfl) ?_ _
  have hbg : b ≠ g := H2.out.top.ne H2.out.mp
  have T3 := hid ((k3.out g (Ne.symm hbg)).trans H2.out.top)
  have c3 := (show HSt w3 g b room tick (usedL Z) from T3.out).c.2.2.2.1
  have f3 := free_of T3.out 3
  obtain ⟨X, HX⟩ : ∃ y, Hid (usedL Z = y) := ⟨_, hid rfl⟩
  have hu' := HU.out
  rw [HX.out] at c3 up hu'
  obtain ⟨n, Hn⟩ : ∃ y, Hid (bs.length = y) := ⟨_, hid rfl⟩
  rw [Hn.out] at hbig
  rw [Hn.out]
  have hfb2 := hid hfb
  clear hfb bdd bd hput g1
  refine H1'.out _ _ ?_
  go_wp2
  go_end0
  obtain ⟨hx1, hx2, hd, hr, ho, hcap, hfr⟩ := N2.out
  have hdr : W1.drew.heap.size = W1.heap.size := rfl
  have hz1 := Z1.out
  have hbl : ∀ k, x.S k → k < w2.heap.size := fun k hk => by
    rcases hk with rfl | rfl | hk
    · exact (Array.getElem?_eq_some_iff.1 hd).1
    · exact hr.lt
    · rcases ho.1.2 with ⟨q, _⟩ | ⟨b', cap', cur, hv, hb', hw, q⟩
      · rw [q] at hk; cases hk
      · rw [hv] at hk; cases hk
        exact (Array.getElem?_eq_some_iff.1 hw).1
  have hk4 : ∀ k, k ≠ g → (w3.setCell ⟨g, 3, none⟩ (.int .i64 (X + (n : Int)))).heap[k]? = w3.heap[k]? := fun k hk => heap_setCell_ne hk _ _
  have E4 : Ex (fun k => k = g ∨ k = b) w2 (w3.setCell ⟨g, 3, none⟩ (.int .i64 (X + (n : Int)))) := (E3.out.mono (fun k hk => .inr hk)).setCell (.inl rfl) _
  have eU : usedL (Z ++ [((⟨spV s, .pointer (some ⟨x.hb, 0, none⟩), c⟩ : MapEntry), { x with k := ⟨s, bs, ls⟩ })]) = X + (n : Int) := by
    rw [← HX.out, ← Hn.out]
    unfold usedL
    simp
  refine ⟨(⟨spV s, .pointer (some ⟨x.hb, 0, none⟩), c⟩, { x with k := ⟨s, bs, ls⟩ }), rfl, rfl, HZ.push H2.out _ ⟨rfl, rfl, rfl⟩ E4 ?_ ?_ ⟨hd, hr, ho, hcap, hs, hm, hl⟩ ?_ hbl HHN.out, ?_, ?_⟩
  · rw [eU]
    exact HSt.setUsed T3.out _
  · rw [hk4 b hbg, M3.out]
    simp
  · intro k hk hS
    have h1 := hfr k hk
    have h2 := HH.out.lt k hS
    omega
  · intro k hk
    have h1 := hfr k hk
    omega
  · exact ((Ex.of_below (B1.out.trans (BX.out.mono B1.out.size))).trans E4 (fun k hk => .inl (by rcases hk with rfl | rfl; exact HH.out.sg; exact HH.out.sb)))
end
end Go.Proofs.Ythmhpenjegfbcaa
namespace Go.Proofs.Ythmhpenjegfbcaa
open Go Go.RowKit
def cmpB : List Int → List Int → Int
  | [], [] => 0
  | [], _ :: _ => -1
  | _ :: _, [] => 1
  | a :: l, b :: r => if a < b then -1 else if b < a then 1 else cmpB l r
def cmpN (a b : Int) : Int := if a < b then -1 else if b < a then 1 else 0
theorem u8_lt {a b : Int} (ha : 0 ≤ a ∧ a < 256) (hb : 0 ≤ b ∧ b < 256) : (UInt8.ofNat a.toNat < UInt8.ofNat b.toNat) ↔ a < b := by
  rw [UInt8.lt_iff_toNat_lt, UInt8.toNat_ofNat', UInt8.toNat_ofNat', Nat.mod_eq_of_lt (by omega), Nat.mod_eq_of_lt (by omega)]
  omega
theorem cmpB_eq : ∀ (l r : List Int), (∀ x ∈ l, 0 ≤ x ∧ x < 256) → (∀ x ∈ r, 0 ≤ x ∧ x < 256) → Lib.compareBytes (Lib.bytesOf l) (Lib.bytesOf r) = cmpB l r
  | [], [], _, _ => rfl
  | [], _ :: _, _, _ => rfl
  | _ :: _, [], _, _ => rfl
  | a :: l, b :: r, hl, hr => by
    have ih := cmpB_eq l r (fun x hx => hl x (List.mem_cons_of_mem _ hx)) (fun x hx => hr x (List.mem_cons_of_mem _ hx))
    have ha := hl a (List.mem_cons_self ..)
    have hb := hr b (List.mem_cons_self ..)
    show Lib.compareBytes (UInt8.ofNat a.toNat :: Lib.bytesOf l) (UInt8.ofNat b.toNat :: Lib.bytesOf r) = _
    unfold Lib.compareBytes cmpB
    rw [ih]
    simp only [u8_lt ha hb, u8_lt hb ha]
theorem run_cmpSl {w : World} {va vb : Value} {la lb : List Int} (ha : HB w va la) (hb : HB w vb lb) : (Extern.BytealgCompare.compare #[va, vb]).run Try.prog w = .ok (.int .i64 (cmpB la lb)) w := by
  have key : ∀ {v : Value} {l : List Int}, HB w v l → ∃ s : ByteArray, (Extern.Bytes.bytesOf v).run Try.prog w = .ok s w ∧ s.data.toList = Lib.bytesOf l := fun {v l} h => by
    obtain ⟨⟨p, c, rfl, h2, h3, h6, h4⟩, h5⟩ := h
    cases p with
    | none =>
      have e : l = [] := by
        apply Classical.byContradiction
        intro hne
        obtain ⟨b, off, e, _⟩ := h4 hne
        cases e
      subst e
      exact ⟨ByteArray.empty, rfl, rfl⟩
    | some a =>
      by_cases hl : l = []
      · subst hl
        exact ⟨ByteArray.empty, rfl, rfl⟩
      · obtain ⟨b, off, e, hc⟩ := h4 hl
        cases e
        have hr := Lib.run_loadBytesX (P := Try.prog) w l ⟨b, off, none⟩ .empty (fun j x hj => by
          have hjl : j < l.length := (List.getElem?_eq_some_iff.1 hj).1
          rw [Go.WideShapes.add_plain, hc j hjl, List.getD_eq_getElem?_getD, hj]
          rfl)
        exact ⟨_, hr, by simp⟩
  obtain ⟨s, hs1, hs2⟩ := key ha
  obtain ⟨t, ht1, ht2⟩ := key hb
  change Sem.run Try.prog (do pure (goInt (Extern.BytealgCompare.cmp (← Extern.Bytes.bytesOf va) (← Extern.Bytes.bytesOf vb)))) w = _
  simp only [Sem.run_bind, Sem.run_pure, hs1, ht1, Result.andThen]
  rw [Lib.cmp_eq, hs2, ht2, cmpB_eq la lb ha.2 hb.2]
  rfl
set_option maxRecDepth 100000 in
set_option maxHeartbeats 4000000 in
theorem bcompare_any (w : World) (va vb : Value) (la lb : List Int) (ha : HB w va la) (hb : HB w vb lb) : Calls Try.prog 42 #[va, vb] w fun e w' => e = .returned (.int .i64 (cmpB la lb)) ∧ w' = w := by
  have hr := run_cmpSl ha hb
  obtain ⟨p, c, rfl, -, -⟩ := ha.open
  obtain ⟨p2, c2, rfl, -, -⟩ := hb.open
  go_enter Try.func42, Try.ntmps42
  go_wp2
  rw [run_callFunc_extern Try.func63 (by kernel_rfl) (by kernel_rfl) (by kernel_rfl) (e := Extern.BytealgCompare.compare) (by kernel_rfl), hr]
  simp only [Result.andThen]
  rw [Oper.upon_value]
  go_wp2
  go_ret
  exact ⟨rfl, rfl⟩
set_option maxRecDepth 100000 in
set_option maxHeartbeats 4000000 in
theorem isNaN_any (w : World) (x : Int) : Calls Try.prog 64 #[.int .i64 x] w fun e w' => e = .returned (.bool false) ∧ w' = w := by
  go_enter Try.func64, Try.ntmps64
  go_wp2
  go_ret
  exact ⟨by simp, rfl⟩
set_option maxRecDepth 100000 in
set_option maxHeartbeats 4000000 in
theorem ncompare_any (w : World) (x y : Int) : Calls Try.prog 43 #[.int .i64 x, .int .i64 y] w fun e w' => e = .returned (.int .i64 (cmpN x y)) ∧ w' = w := by
  have C1 := hid isNaN_any
  generalize hM : cmpN x y = M
  have HM := hid hM
  clear hM
  go_enter Try.func43, Try.ntmps43
  go_wp2_with (go_at_call 64; refine (C1.out _ _).mono ?_; rintro e w' ⟨rfl, hw'⟩; subst hw')
  all_goals go_ret
  all_goals (refine ⟨?_, rfl⟩; rw [← HM.out]; unfold cmpN; simp_all <;> try omega)
theorem cmpB_self : ∀ l : List Int, cmpB l l = 0
  | [] => rfl
  | a :: l => by
    unfold cmpB
    rw [if_neg (by omega), if_neg (by omega)]
    exact cmpB_self l
theorem cmpB_neg : ∀ l r : List Int, cmpB r l = - cmpB l r
  | [], [] => rfl
  | [], _ :: _ => rfl
  | _ :: _, [] => rfl
  | a :: l, b :: r => by
    unfold cmpB
    rcases (by omega : a < b ∨ b < a ∨ a = b) with h | h | h
    · rw [if_neg (by omega), if_pos h, if_pos h]; rfl
    · rw [if_pos h, if_neg (by omega), if_pos h]
    · rw [if_neg (by omega), if_neg (by omega), if_neg (by omega), if_neg (by omega)]
      exact cmpB_neg l r
theorem cmpB_eq0 : ∀ l r : List Int, cmpB l r = 0 → l = r
  | [], [], _ => rfl
  | [], _ :: _, h => by cases h
  | _ :: _, [], h => by cases h
  | a :: l, b :: r, h => by
    unfold cmpB at h
    rcases (by omega : a < b ∨ b < a ∨ a = b) with q | q | q
    · rw [if_pos q] at h; cases h
    · rw [if_neg (by omega), if_pos q] at h; cases h
    · rw [if_neg (by omega), if_neg (by omega)] at h
      rw [q, cmpB_eq0 l r h]
theorem cmpB_three : ∀ l r : List Int, cmpB l r = -1 ∨ cmpB l r = 0 ∨ cmpB l r = 1
  | [], [] => .inr (.inl rfl)
  | [], _ :: _ => .inl rfl
  | _ :: _, [] => .inr (.inr rfl)
  | a :: l, b :: r => by
    unfold cmpB
    split
    · exact .inl rfl
    · split
      · exact .inr (.inr rfl)
      · exact cmpB_three l r
theorem cmpB_trans : ∀ l m r : List Int, cmpB l m < 0 → cmpB m r < 0 → cmpB l r < 0
  | [], [], _, h, _ => by simp [cmpB] at h
  | [], _ :: _, [], _, h => by simp [cmpB] at h
  | [], _ :: _, _ :: _, _, _ => by simp [cmpB]
  | _ :: _, [], _, h, _ => by simp [cmpB] at h
  | _ :: _, _ :: _, [], _, h => by simp [cmpB] at h
  | a :: l, b :: m, c :: r, h1, h2 => by
    unfold cmpB at h1 h2 ⊢
    rcases (by omega : a < b ∨ b < a ∨ a = b) with q | q | q
    · rcases (by omega : b < c ∨ c < b ∨ b = c) with p | p | p
      · rw [if_pos (by omega)]; decide
      · rw [if_neg (by omega), if_pos p] at h2; omega
      · rw [if_pos (by omega)]; decide
    · rw [if_neg (by omega), if_pos q] at h1; omega
    · rw [if_neg (by omega), if_neg (by omega)] at h1
      rcases (by omega : b < c ∨ c < b ∨ b = c) with p | p | p
      · rw [if_pos (by omega)]; decide
      · rw [if_neg (by omega), if_pos p] at h2; omega
      · rw [if_neg (by omega), if_neg (by omega)] at h2
        rw [if_neg (by omega), if_neg (by omega)]
        exact cmpB_trans l m r h1 h2
theorem cmpN_lt (a b : Int) : cmpN a b < 0 ↔ a < b := by
  unfold cmpN
  split
  · simp_all
  · split <;> omega
def cmpS (s t : Sp) : Int := if cmpB s.ix t.ix ≠ 0 then cmpB s.ix t.ix else cmpN s.nb t.nb
set_option maxRecDepth 100000 in
set_option maxHeartbeats 4000000 in
theorem cor_any (w : World) (b : Nat) (x y : Int) (h0 : w.cell? ⟨b, 0, none⟩ = some (.int .i64 x)) (h1 : w.cell? ⟨b, 1, none⟩ = some (.int .i64 y)) : Calls Try.prog 41 #[.slice (some ⟨b, 0, none⟩) 2 2] w fun e w' => e = .returned (.int .i64 (if x ≠ 0 then x else y)) ∧ w' = w := by
  generalize hM : (if x ≠ 0 then x else y) = M
  have HM := hid hM
  clear hM
  go_enter Try.func41, Try.ntmps41
  go_wp2
  refine wp_loop_rounds 3 ?_
  rw [rounds_succ]
  go_wp2
  · go_ret
    exact ⟨by rw [← HM.out]; simp_all, rfl⟩
  · rw [rounds_succ]
    go_wp2
    · go_ret
      exact ⟨by rw [← HM.out]; simp_all, rfl⟩
    · rw [rounds_succ]
      go_wp2
      go_ret
      exact ⟨by rw [← HM.out]; simp_all, rfl⟩
def kpL (k : Kp) (vb vl : Value) : List Value := k.sp.ix.map (Value.int .u8) ++ [.int .i64 k.sp.nb, vb, vl]
theorem kpL_length {k : Kp} (h : k.sp.ok) (vb vl : Value) : (kpL k vb vl).length = 19 := by simp [kpL, h.1]
theorem kpL_16 {k : Kp} (h : k.sp.ok) (vb vl : Value) : (kpL k vb vl)[16]? = some (.int .i64 k.sp.nb) := by simp [kpL, h.1, List.getElem?_append_right]
theorem kpL_17 {k : Kp} (h : k.sp.ok) (vb vl : Value) : (kpL k vb vl)[17]? = some vb := by simp [kpL, h.1, List.getElem?_append_right]
theorem kpL_18 {k : Kp} (h : k.sp.ok) (vb vl : Value) : (kpL k vb vl)[18]? = some vl := by simp [kpL, h.1, List.getElem?_append_right]
theorem kpL_ix {k : Kp} (h : k.sp.ok) (vb vl : Value) {j : Nat} (hj : j < 16) : (kpL k vb vl)[j]? = some (.int .u8 (k.sp.ix.getD j 0)) := by
  have hl : j < k.sp.ix.length := by rw [h.1]; exact hj
  unfold kpL
  rw [List.getElem?_append_left (by simpa using hl)]
  simp [List.getD, List.getElem?_eq_getElem hl]
theorem HB.index {w : World} {g : Nat} {k : Kp} (hk : k.sp.ok) {vb vl : Value} {T : TypeId} (h : w.heap[g]? = some (.cells (kpL k vb vl).toArray T (0, 0))) : HB w (.slice (some ⟨g, 0, none⟩) 16 16) k.sp.ix := by
  refine ⟨⟨some ⟨g, 0, none⟩, 16, by rw [hk.1], by rw [hk.1]; exact Nat.le_refl _, by unfold maxLen; omega, (fun e => by cases e), fun _ => ⟨g, 0, rfl, fun j hj => ?_⟩⟩, hk.2.1⟩
  rw [cell_of_row _ _ _ _ _ _ h, Nat.zero_add]
  simpa using kpL_ix hk vb vl (by rw [hk.1] at hj; exact hj)
theorem alloc_grow (w : World) (o : Obj) : w.alloc o = Sort.grow w #[o] := by
  unfold Sort.grow
  rw [← Array.push_eq_append]
  rfl
theorem grow_bel (w : World) (os : Array Obj) : Below w.heap.size w (Sort.grow w os) := ⟨rfl, rfl, rfl, by simp [Sort.grow], fun k hk => by simp only [Sort.grow]; rw [Array.getElem?_append_left hk]⟩
set_option maxRecDepth 100000 in
set_option maxHeartbeats 8000000 in
theorem bySpot_any (w : World) (k1 k2 : Kp) (h1 : k1.sp.ok) (h2 : k2.sp.ok) (a1 l1 a2 l2 : Value) : Calls Try.prog 28 #[.agg (kpL k1 a1 l1).toArray, .agg (kpL k2 a2 l2).toArray] w fun e w' => e = .returned (.int .i64 (cmpS k1.sp k2.sp)) ∧ ∃ q os, w' = Sort.grow (w.drewN q) os := by
  obtain ⟨W1, HW1⟩ : ∃ x, Hid ((w.alloc (.cells (kpL k1 a1 l1).toArray 60)).alloc (.cells (kpL k2 a2 l2).toArray 60) = x) := ⟨_, hid rfl⟩
  have b1 : W1.heap[w.heap.size]? = some (.cells (kpL k1 a1 l1).toArray 60 (0, 0)) := by rw [← HW1.out]; exact (Below.heap_alloc _ _ _ (by simp)).trans (heap_alloc_new w _)
  have b2 : W1.heap[w.heap.size + 1]? = some (.cells (kpL k2 a2 l2).toArray 60 (0, 0)) := by
    rw [← HW1.out]
    have := heap_alloc_new (w.alloc (.cells (kpL k1 a1 l1).toArray 60)) (.cells (kpL k2 a2 l2).toArray 60)
    simpa using this
  have Z1 : Hid (W1.heap.size = w.heap.size + 2) := hid (by rw [← HW1.out]; simp)
  have K1 : Hid (∀ W, (∃ os, W = Sort.grow W1.drew os) → W.cell? ⟨w.heap.size, 16, none⟩ = some (.int .i64 k1.sp.nb) ∧ W.cell? ⟨w.heap.size + 1, 16, none⟩ = some (.int .i64 k2.sp.nb)) := hid fun W hW => by
    obtain ⟨os, rfl⟩ := hW
    have hb := grow_bel W1.drew os
    have hz := Z1.out
    constructor
    · rw [hb.cell (p := ⟨w.heap.size, 16, none⟩) (by show w.heap.size < W1.heap.size; omega)]
      exact (cell_of_row W1 _ _ _ _ _ b1).trans (by simpa using kpL_16 h1 a1 l1)
    · rw [hb.cell (p := ⟨w.heap.size + 1, 16, none⟩) (by show w.heap.size + 1 < W1.heap.size; omega)]
      exact (cell_of_row W1 _ _ _ _ _ b2).trans (by simpa using kpL_16 h2 a2 l2)
  have C1 : Hid (∀ W, (∃ os, W = Sort.grow W1.drew os) → Calls Try.prog 42 #[.slice (some ⟨w.heap.size, 0, none⟩) 16 16, .slice (some ⟨w.heap.size + 1, 0, none⟩) 16 16] W fun e w' => e = .returned (.int .i64 (cmpB k1.sp.ix k2.sp.ix)) ∧ w' = W) := hid fun W hW => by
    obtain ⟨os, rfl⟩ := hW
    exact bcompare_any _ _ _ _ _ ((HB.index (w := W1.drew) h1 b1).below (grow_bel _ _)) ((HB.index (w := W1.drew) h2 b2).below (grow_bel _ _))
  have C2 := hid ncompare_any
  generalize hM : cmpS k1.sp k2.sp = M
  have HMM := hid hM
  clear hM b1 b2
  obtain ⟨m1, HM1⟩ : ∃ x, Hid ((kpL k1 a1 l1).toArray = x) := ⟨_, hid rfl⟩
  obtain ⟨m2, HM2⟩ : ∃ x, Hid ((kpL k2 a2 l2).toArray = x) := ⟨_, hid rfl⟩
  rw [HM1.out, HM2.out] at HW1 ⊢
  obtain ⟨x, Hx⟩ : ∃ y, Hid (cmpB k1.sp.ix k2.sp.ix = y) := ⟨_, hid rfl⟩
  obtain ⟨n1, Hn1⟩ : ∃ y, Hid (k1.sp.nb = y) := ⟨_, hid rfl⟩
  obtain ⟨n2, Hn2⟩ : ∃ y, Hid (k2.sp.nb = y) := ⟨_, hid rfl⟩
  rw [Hx.out] at C1
  rw [Hn1.out, Hn2.out] at K1
  have bd : ∃ os, W1.drew = Sort.grow W1.drew os := ⟨#[], (Sort.grow_empty _).symm⟩
  go_enter Try.func28, Try.ntmps28
  go_wp2_with fail
  rw [HW1.out]
  refine wp_region_held_drew (S := fun W => ∃ os, W = Sort.grow W1.drew os) (by kernel_rfl) bd (fun hHeld => ?_)
  have HS := hid hHeld
  clear hHeld
  change wpAnyH _ _ _ _ _ _ _ _ (World.drew _)
  refine wpAnyH_take (i := 0) (v := ?_) rfl (by kernel_rfl) (by kernel_rfl) (by kernel_rfl) (fun _ _ _ h => h) (Or.inl ⟨by rfl, ?q0⟩) HS.out ?_
  case q0 => intro w hSw; obtain ⟨z1, z2⟩ := K1.out _ hSw; go_simp; rfl
  simp only [Act.put, List.getElem_toArray, List.getElem_cons_zero, List.getElem_cons_succ, List.setIfInBounds_toArray, List.set_cons_zero, List.set_cons_succ]
  refine wpAnyH_take (i := 1) (v := ?_) rfl (by kernel_rfl) (by kernel_rfl) (by kernel_rfl) (fun _ _ _ h => h) (Or.inl ⟨by rfl, ?q1⟩) HS.out ?_
  case q1 => intro w hSw; obtain ⟨z1, z2⟩ := K1.out _ hSw; go_simp; rfl
  simp only [Act.put, List.getElem_toArray, List.getElem_cons_zero, List.getElem_cons_succ, List.setIfInBounds_toArray, List.set_cons_zero, List.set_cons_succ]
  refine wpAnyH_take (i := 2) (v := ?_) rfl (by kernel_rfl) (by kernel_rfl) (by kernel_rfl) (fun _ _ _ h => h) (Or.inl ⟨by rfl, ?q2⟩) HS.out ?_
  case q2 => intro w hSw; obtain ⟨z1, z2⟩ := K1.out _ hSw; go_simp; rfl
  simp only [Act.put, List.getElem_toArray, List.getElem_cons_zero, List.getElem_cons_succ, List.setIfInBounds_toArray, List.set_cons_zero, List.set_cons_succ]
  refine wpAnyH_take (i := 3) (v := ?_) rfl (by kernel_rfl) (by kernel_rfl) (by kernel_rfl) (fun _ _ _ h => h) (Or.inl ⟨by rfl, ?q3⟩) HS.out ?_
  case q3 => intro w hSw; obtain ⟨z1, z2⟩ := K1.out _ hSw; go_simp; rfl
  simp only [Act.put, List.getElem_toArray, List.getElem_cons_zero, List.getElem_cons_succ, List.setIfInBounds_toArray, List.set_cons_zero, List.set_cons_succ]
  refine wpAnyH_take (i := 5) (v := ?_) rfl (by kernel_rfl) (by kernel_rfl) (by kernel_rfl) (fun _ _ _ h => h) (Or.inl ⟨by rfl, ?q5⟩) HS.out ?_
  case q5 => intro w hSw; obtain ⟨z1, z2⟩ := K1.out _ hSw; go_simp; rfl
  simp only [Act.put, List.getElem_toArray, List.getElem_cons_zero, List.getElem_cons_succ, List.setIfInBounds_toArray, List.set_cons_zero, List.set_cons_succ]
  refine wpAnyH_take (i := 6) (v := ?_) rfl (by kernel_rfl) (by kernel_rfl) (by kernel_rfl) (fun _ _ _ h => h) (Or.inl ⟨by rfl, ?q6⟩) HS.out ?_
  case q6 => intro w hSw; obtain ⟨z1, z2⟩ := K1.out _ hSw; go_simp; rfl
  simp only [Act.put, List.getElem_toArray, List.getElem_cons_zero, List.getElem_cons_succ, List.setIfInBounds_toArray, List.set_cons_zero, List.set_cons_succ]
  refine wpAnyH_take (i := 7) (v := ?_) rfl (by kernel_rfl) (by kernel_rfl) (by kernel_rfl) (fun _ _ _ h => h) (Or.inl ⟨by rfl, ?q7⟩) HS.out ?_
  case q7 => intro w hSw; obtain ⟨z1, z2⟩ := K1.out _ hSw; go_simp; rfl
  simp only [Act.put, List.getElem_toArray, List.getElem_cons_zero, List.getElem_cons_succ, List.setIfInBounds_toArray, List.set_cons_zero, List.set_cons_succ]
  refine wpAnyH_take (i := 8) (v := ?_) rfl (by kernel_rfl) (by kernel_rfl) (by kernel_rfl) (fun _ _ _ h => h) (Or.inl ⟨by rfl, ?q8⟩) HS.out ?_
  case q8 => intro w hSw; obtain ⟨z1, z2⟩ := K1.out _ hSw; go_simp; rfl
  simp only [Act.put, List.getElem_toArray, List.getElem_cons_zero, List.getElem_cons_succ, List.setIfInBounds_toArray, List.set_cons_zero, List.set_cons_succ]
  refine wpAnyH_ready (rs := [4]) (by kernel_rfl) (by simp) ?_
  refine AllReadyH.cons rfl (fun K hK => ?_) AllReadyH.nil
  replace hK := hid hK
  go_simp
  refine (C1.out _ HS.out).mono ?_
  rintro e w1 ⟨rfl, hw1⟩
  rw [hw1]
  clear hw1
  refine hK.out _ _ HS.out (fun _ => ?_)
  clear hK K
  refine wpAnyH_ready (rs := [9]) (by kernel_rfl) (by simp) ?_
  refine AllReadyH.cons rfl (fun K hK => ?_) AllReadyH.nil
  replace hK := hid hK
  go_simp
  refine (C2.out _ _ _).mono ?_
  rintro e w1 ⟨rfl, hw1⟩
  rw [hw1]
  clear hw1
  refine hK.out _ _ HS.out (fun _ => ?_)
  clear hK K
  obtain ⟨y, Hy⟩ : ∃ y, Hid (cmpN n1 n2 = y) := ⟨_, hid rfl⟩
  rw [Hy.out]
  refine wpAnyH_ready (rs := [10]) (by kernel_rfl) (by simp) ?_
  refine AllReadyH.cons rfl (fun K hK => ?_) AllReadyH.nil
  replace hK := hid hK
  go_simp
  obtain ⟨W3, HW3⟩ : ∃ W : World, Hid ((W1.alloc (.cells #[.int .i64 x, .int .i64 y] 3)).drew = W) := ⟨_, hid rfl⟩
  rw [HW3.out]
  have S3 : Hid (∃ os, W3 = Sort.grow W1.drew os) := hid ⟨#[.cells #[.int .i64 x, .int .i64 y] 3], by rw [← HW3.out, alloc_grow]; rfl⟩
  have CO : Hid (Calls Try.prog 41 #[.slice (some ⟨W1.heap.size, 0, none⟩) 2 2] W3 fun e w' => e = .returned (.int .i64 (if x ≠ 0 then x else y)) ∧ w' = W3) := hid (by
    have hc := heap_alloc_new W1 (.cells #[.int .i64 x, .int .i64 y] 3)
    refine cor_any W3 W1.heap.size x y ?_ ?_
    · rw [← HW3.out]; exact (cell_of_row (W1.alloc (.cells #[.int .i64 x, .int .i64 y] 3)) _ _ _ _ _ hc).trans rfl
    · rw [← HW3.out]; exact (cell_of_row (W1.alloc (.cells #[.int .i64 x, .int .i64 y] 3)) _ _ _ _ _ hc).trans rfl)
  have EM : Hid ((if x ≠ 0 then x else y) = M) := hid (by rw [← HMM.out, ← Hx.out, ← Hy.out, ← Hn1.out, ← Hn2.out]; rfl)
  rw [EM.out] at CO
  refine hK.out _ _ S3.out (fun _ => ?_)
  clear hK K HS
  have HS := S3
  refine wpAnyH_ready (rs := [11]) (by kernel_rfl) (by simp) ?_
  refine AllReadyH.cons rfl (fun K hK => ?_) AllReadyH.nil
  replace hK := hid hK
  go_simp
  refine CO.out.mono ?_
  rintro e w4 ⟨rfl, hw4⟩
  rw [hw4]
  clear hw4
  refine hK.out _ _ HS.out (fun _ => ?_)
  clear hK K
  refine wpAnyH_take (i := 12) (v := ?_) rfl (by kernel_rfl) (by kernel_rfl) (by kernel_rfl) (fun _ _ _ h => h) (Or.inl ⟨by rfl, ?q12⟩) HS.out ?_
  case q12 => intro w hSw; obtain ⟨z1, z2⟩ := K1.out _ hSw; go_simp; rfl
  simp only [Act.put, List.getElem_toArray, List.getElem_cons_zero, List.getElem_cons_succ, List.setIfInBounds_toArray, List.set_cons_zero, List.set_cons_succ]
  refine wpAnyH_done (by kernel_rfl) ?_ _
  go_wp2
  go_ret
  refine ⟨rfl, 1, #[.cells m1 60 (0, 0), .cells m2 60 (0, 0), .cells #[.int .i64 x, .int .i64 y] 3 (0, 0)], ?_⟩
  rw [← HW3.out, ← HW1.out, alloc_grow, alloc_grow, alloc_grow, Sort.grow_grow, Sort.grow_grow]
  rfl
end Go.Proofs.Ythmhpenjegfbcaa
