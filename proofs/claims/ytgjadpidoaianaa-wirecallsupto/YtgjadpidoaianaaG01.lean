/- Of the road to wireCallsUpto_holds: Reader, Reads, HpS0, RqB. -/
import Derived.Test.YtgjadpidoaianaaG00
import Derived.Laws.StructEq
set_option linter.unusedVariables false
set_option linter.unusedSimpArgs false
namespace Go.Proofs.Ytgjadpidoaianaa
open Go.RowKit
def HB5 (q : Nat) (w : World) (v : Value) (l : List Int) : Prop :=
  HB w v l ∧ (l ≠ [] → ∀ a n c, v = .slice (some a) n c → a.block < q ∧ ∃ cur fz, w.heap[a.block]? = some (.cells cur 5 fz))
theorem HB5.of_own {q : Nat} {w : World} {B : Nat} {v : Value} {l : List Int} (h : w.ownsRow B 5 1 v l.length (l.map (Value.int .u8))) (hx : ∀ x ∈ l, 0 ≤ x ∧ x < 256) (hq : ∀ k, v.ownBlock = some k → k < q) : HB5 q w v l := by
  refine ⟨HB.of_own h hx, fun _ a n c e => ?_⟩
  subst e
  rcases h.2 with ⟨e, _⟩ | ⟨g, cap, cur, e, _, hh, _⟩
  · cases e
  · cases e
    exact ⟨hq g rfl, cur, _, hh⟩
theorem HB5.nil {q : Nat} (w : World) : HB5 q w (.slice none 0 0) [] := ⟨HB.nil w, fun h => absurd rfl h⟩
theorem HB5.grown {q : Nat} {w w' : World} {v : Value} {l : List Int} {row : Option Nat} (h : HB5 q w v l) (hg : w.grownBy w' row) (hr : ∀ g, row = some g → ∃ cur e fz, w.heap[g]? = some (.cells cur e fz) ∧ 5 ≠ e) : HB5 q w' v l := by
  by_cases hl : l = []
  · subst hl
    obtain ⟨⟨⟨p, c, rfl, h2, h3, h6, h4⟩, h5⟩, h7⟩ := h
    exact ⟨⟨⟨p, c, rfl, h2, h3, h6, fun h => absurd rfl h⟩, h5⟩, fun h => absurd rfl h⟩
  · obtain ⟨⟨⟨p, c, rfl, h2, h3, h6, h4⟩, h5⟩, h7⟩ := h
    obtain ⟨b, off, rfl, hh⟩ := h4 hl
    obtain ⟨hq, cur, fz, hcur⟩ := h7 hl _ _ _ rfl
    have hlt : b < w.heap.size := (Array.getElem?_eq_some_iff.1 hcur).1
    have hne : some b ≠ row := by
      intro e
      obtain ⟨cur', e', fz', hcur', hne⟩ := hr b e.symm
      have := hcur.symm.trans hcur'
      simp only [Option.some.injEq, Obj.cells.injEq] at this
      exact hne this.2.1
    refine ⟨⟨⟨_, c, rfl, h2, h3, h6, fun _ => ⟨b, off, rfl, fun j hj => hg.cell (hh j hj) hne⟩⟩, h5⟩, fun _ a n c e => ?_⟩
    cases e
    exact ⟨hq, cur, fz, by rw [hg.block b hlt hne]; exact hcur⟩
def RD (w : World) (g : Nat) (m f : Bool) (l : List Int) : Prop :=
  ∃ v, w.heap[g]? = some (.cells #[.bool m, .bool f, v] 109 (0, 0)) ∧ HB5 g w v l
theorem three {w : World} {g : Nat} {a b c : Value} {T : TypeId} (h : w.heap[g]? = some (.cells #[a, b, c] T (0, 0))) :
    w.cell? ⟨g, 0, none⟩ = some a ∧ w.cell? ⟨g, 1, none⟩ = some b ∧ w.cell? ⟨g, 2, none⟩ = some c ∧ w.frozen? ⟨g, 1, none⟩ = false ∧ w.frozen? ⟨g, 2, none⟩ = false := by
  simp [World.cell?, World.frozen?, h]
theorem three_no_int {w : World} {g : Nat} {m f : Bool} {p : Option Addr} {n c : Nat} {T : TypeId} (h : w.heap[g]? = some (.cells #[.bool m, .bool f, .slice p n c] T (0, 0))) :
    ∀ o sp (k : Int), w.cell? ⟨g, o, sp⟩ ≠ some (.int .u8 k) := by
  intro o sp k e
  simp only [World.cell?, h] at e
  split at e
  · cases e
  · match o, e with
    | 0, e => simp at e
    | 1, e => simp at e
    | 2, e => simp at e
    | o + 3, e => simp at e
set_option maxHeartbeats 400000 in
theorem newReader_any (w : World) (v : Value) (l : List Int) (h : HB w v l) (hbig : l.length ≤ 140737488355328) :
    Calls Try.prog 60 #[v] w fun e w' => ∃ g, e = .returned (.pointer (some ⟨g, 0, none⟩)) ∧ RD w' g true false l ∧ w.heap.size ≤ g ∧ Below w.heap.size w w' := by
  have hby := h.2
  go_enter Try.func60, Try.ntmps60
  go_wp2_with fail
  refine (clone_any w v l h hbig).mono ?_
  rintro e w1 ⟨v', rfl, hown, hb⟩
  have hh : HB5 w1.heap.size w1 v' l := HB5.of_own hown hby (fun k e => (hown.lt k e).2)
  obtain ⟨p', c', rfl, _, _⟩ := hh.1.open
  go_wp2
  go_ret
  refine ⟨w1.heap.size, rfl, ⟨_, heap_alloc_new w1 _, hh.grown (World.grownBy_alloc w1 _ none) (fun g e => by cases e)⟩, hb.size, hb.alloc hb.size _⟩
def okTake (l : List Int) (n : Int) : Bool := decide (0 ≤ n) && decide (n ≤ l.length)
def taken (l : List Int) (n : Int) : List Int := if okTake l n then l.take n.toNat else []
def leftAt (l : List Int) (n : Int) : List Int := if okTake l n then l.drop n.toNat else []
theorem okTake_iff {l : List Int} {n : Int} : okTake l n = true ↔ 0 ≤ n ∧ n ≤ l.length := by simp [okTake]
theorem RD.stored {w : World} {g : Nat} {m f : Bool} {v u : Value} {l r : List Int} (hblk : w.heap[g]? = some (.cells #[.bool m, .bool f, v] 109 (0, 0))) (hv : HB w v l) (hu : HB5 g w u r) :
    RD (w.setCell ⟨g, 2, none⟩ u) g m f r ∧ (∀ x y, HB w x y → HB (w.setCell ⟨g, 2, none⟩ u) x y) := by
  obtain ⟨p, c, rfl⟩ := hv.slice_form
  have key : ∀ x y, HB w x y → HB (w.setCell ⟨g, 2, none⟩ u) x y := fun x y hx => hx.grown (grown_set w g 2 u) (three_no_int hblk)
  exact ⟨⟨u, by rw [heap_setCell_same w g 2 _ _ u hblk]; rfl, hu.grown (grown_set w g 2 u) (fun k e => by cases e; exact ⟨_, _, _, hblk, by decide⟩)⟩, key⟩
set_option maxHeartbeats 400000 in
theorem take_ok (w : World) (g : Nat) (f : Bool) (l : List Int) (n : Nat) (h : RD w g true f l) (hn : n ≤ l.length) :
    Calls Try.prog 85 #[.pointer (some ⟨g, 0, none⟩), .int .i64 n] w fun e w' => ∃ v', e = .returned v' ∧ HB w' v' (l.take n) ∧ RD w' g true f (l.drop n) ∧ w.grownBy w' (some g) := by
  obtain ⟨v, hblk, hv0⟩ := h
  obtain ⟨hv, ht5⟩ := hv0
  obtain ⟨p, c, rfl, hlc, hm⟩ := hv.open
  obtain ⟨c0, c1, c2, f1, f2⟩ := three hblk
  unfold maxLen at hm
  have g1 : ¬ ((n : Int) < 0) := by omega
  have g1' : decide ((n : Int) < 0) = false := by simp
  have g2 : decide ((l.length : Int) < (n : Int)) = false := by simp; omega
  have g3 : (n : Int) ≤ l.length := by omega
  have g4 : (n : Int) ≤ c := by omega
  have sz := size_u8
  have fin : ∀ u, HB5 g w u (l.drop n) → ∃ v', Ending.returned (Value.slice p n n) = .returned v' ∧ HB (w.setCell ⟨g, 2, none⟩ u) v' (l.take n) ∧ RD (w.setCell ⟨g, 2, none⟩ u) g true f (l.drop n) ∧ w.grownBy (w.setCell ⟨g, 2, none⟩ u) (some g) := fun u hu =>
    ⟨_, rfl, (RD.stored hblk hv hu).2 _ _ (hv.pre n hn), (RD.stored hblk hv hu).1, grown_set _ _ _ _⟩
  have suf : HB5 g w _ (l.drop n) := ⟨hv.suf n hn, fun hne a m c' e => by
    have hl0 : l ≠ [] := by intro e; subst e; simp at hne
    simp only [Value.slice.injEq] at e
    obtain ⟨e, _, _⟩ := e
    split at e
    · subst e
      exact ht5 hl0 _ _ _ rfl
    · obtain ⟨a0, rfl, rfl⟩ := Option.map_eq_some_iff.1 e
      have : (a0.add n).block = a0.block := by unfold Addr.add; split <;> rfl
      rw [this]
      exact ht5 hl0 _ _ _ rfl⟩
  have FIN := hid fin
  have SUF := hid suf
  clear hv hblk fin suf ht5
  by_cases hcn : c = n
  · rw [if_pos hcn] at SUF
    have hcn' : c - n = 0 := by omega
    have hcl : l.length - n = 0 := by omega
    rw [hcn', hcl] at SUF
    subst hcn
    go_enter Try.func85, Try.ntmps85
    go_wp2
    go_ret
    exact FIN.out _ SUF.out
  · rw [if_neg hcn] at SUF
    go_enter Try.func85, Try.ntmps85
    go_wp2
    go_ret
    exact FIN.out _ SUF.out
theorem two_stores {w : World} {g : Nat} {m f : Bool} {v : Value} (hblk : w.heap[g]? = some (.cells #[.bool m, .bool f, v] 109 (0, 0))) :
    RD ((w.setCell ⟨g, 1, none⟩ (.bool true)).setCell ⟨g, 2, none⟩ (.slice none 0 0)) g m true [] ∧ w.grownBy ((w.setCell ⟨g, 1, none⟩ (.bool true)).setCell ⟨g, 2, none⟩ (.slice none 0 0)) (some g) := by
  have h1 : (w.setCell ⟨g, 1, none⟩ (.bool true)).heap[g]? = some (.cells #[.bool m, .bool true, v] 109 (0, 0)) := by rw [heap_setCell_same w g 1 _ _ _ hblk]; rfl
  have h2 : ((w.setCell ⟨g, 1, none⟩ (.bool true)).setCell ⟨g, 2, none⟩ (.slice none 0 0)).heap[g]? = some (.cells #[.bool m, .bool true, .slice none 0 0] 109 (0, 0)) := by rw [heap_setCell_same _ g 2 _ _ _ h1]; rfl
  exact ⟨⟨_, h2, HB5.nil _⟩, grown_trans (grown_set _ _ _ _) (grown_set _ _ _ _)⟩
set_option maxHeartbeats 400000 in
theorem take_bad (w : World) (g : Nat) (f : Bool) (l : List Int) (n : Int) (h : RD w g true f l) (hn : n < 0 ∨ (l.length : Int) < n) :
    Calls Try.prog 85 #[.pointer (some ⟨g, 0, none⟩), .int .i64 n] w fun e w' => e = .returned (.slice none 0 0) ∧ RD w' g true true [] ∧ w.grownBy w' (some g) := by
  obtain ⟨v, hblk, hv⟩ := h
  have fin := two_stores hblk
  obtain ⟨p, c, rfl, hlc, hm⟩ := hv.1.open
  obtain ⟨c0, c1, c2, f1, f2⟩ := three hblk
  unfold maxLen at hm
  have FIN := hid fin
  clear hv hblk fin
  by_cases h0 : n < 0
  · have g1' : decide (n < 0) = true := by simpa using h0
    clear hn
    go_enter Try.func85, Try.ntmps85
    go_wp2
    go_ret
    exact ⟨rfl, FIN.out.1, FIN.out.2⟩
  · have g1' : decide (n < 0) = false := by simpa using h0
    have g2 : (l.length : Int) < n := by omega
    have g2' : decide ((l.length : Int) < n) = true := by simpa using g2
    clear hn
    go_enter Try.func85, Try.ntmps85
    go_wp2
    go_ret
    exact ⟨rfl, FIN.out.1, FIN.out.2⟩
theorem take_any (w : World) (g : Nat) (f : Bool) (l : List Int) (n : Int) (h : RD w g true f l) :
    Calls Try.prog 85 #[.pointer (some ⟨g, 0, none⟩), .int .i64 n] w fun e w' => ∃ v', e = .returned v' ∧ HB w' v' (taken l n) ∧ RD w' g true (f || !okTake l n) (leftAt l n) ∧ w.grownBy w' (some g) := by
  by_cases hk : okTake l n = true
  · obtain ⟨h0, h1⟩ := okTake_iff.1 hk
    obtain ⟨k, rfl⟩ := Int.eq_ofNat_of_zero_le h0
    refine (take_ok w g f l k h (by omega)).mono ?_
    rintro e w' ⟨v', rfl, a, b, c⟩
    simp only [taken, leftAt, hk, if_true, Int.toNat_natCast, Bool.not_true, Bool.or_false]
    exact ⟨v', rfl, a, b, c⟩
  · have hk' : okTake l n = false := by simpa using hk
    refine (take_bad w g f l n h ?_).mono ?_
    · have : ¬ (0 ≤ n ∧ n ≤ l.length) := fun e => hk (okTake_iff.2 e)
      omega
    rintro e w' ⟨rfl, b, c⟩
    simp only [taken, leftAt, hk']
    exact ⟨_, rfl, HB.nil _, by simpa using b, c⟩
theorem RD.grow {w w' : World} {g : Nat} {m f : Bool} {l : List Int} (h : RD w g m f l) (hb : Below w.heap.size w w') : RD w' g m f l := by
  obtain ⟨v, hblk, hv⟩ := h
  refine ⟨v, ?_, hv.grown (row := none) ⟨hb.os, hb.tape, hb.output, hb.size, fun k hk _ => hb.block k hk⟩ (fun g e => by cases e)⟩
  rw [hb.block g (by exact (Array.getElem?_eq_some_iff.1 hblk).1)]
  exact hblk
theorem taken_le (l : List Int) (n : Int) : (taken l n).length ≤ l.length := by unfold taken; split <;> simp <;> omega
set_option maxHeartbeats 400000 in
theorem bytes_any (w : World) (g : Nat) (f : Bool) (l : List Int) (n : Int) (h : RD w g true f l) (hbig : l.length ≤ 140737488355328) :
    Calls Try.prog 65 #[.pointer (some ⟨g, 0, none⟩), .int .i64 n] w fun e w' => ∃ v' B, e = .returned v' ∧ w'.ownsRow B 5 1 v' (taken l n).length ((taken l n).map (Value.int .u8)) ∧ w.heap.size ≤ B ∧ HB w' v' (taken l n) ∧ RD w' g true (f || !okTake l n) (leftAt l n) ∧ w.grownBy w' (some g) := by
  go_enter Try.func65, Try.ntmps65
  go_wp2_with fail
  refine (take_any w g f l n h).mono ?_
  rintro e w1 ⟨v1, rfl, hb1, hr1, hg1⟩
  go_wp2_with fail
  refine (clone_any w1 v1 _ hb1 (Nat.le_trans (taken_le l n) hbig)).mono ?_
  rintro e w2 ⟨v2, rfl, hown, hB⟩
  go_wp2
  go_ret
  exact ⟨v2, _, rfl, hown, hg1.size, HB.of_own hown hb1.2, hr1.grow hB, grown_trans hg1 (grown_below hB)⟩
set_option maxHeartbeats 400000 in
theorem left_any (w : World) (g : Nat) (m f : Bool) (l : List Int) (h : RD w g m f l) :
    Calls Try.prog 70 #[.pointer (some ⟨g, 0, none⟩)] w fun e w' => e = .returned (.int .i64 l.length) ∧ w' = w := by
  obtain ⟨v, hblk, hv⟩ := h
  obtain ⟨p, c, rfl, hlc, hm⟩ := hv.1.open
  obtain ⟨c0, c1, c2, f1, f2⟩ := three hblk
  clear hblk hv
  go_enter Try.func70, Try.ntmps70
  go_wp2
  go_ret
  exact ⟨rfl, rfl⟩
def endNo (m f : Bool) (l : List Int) : Int := if !m then 1 else if f then 10 else if l.length = 0 then 0 else 11
set_option maxHeartbeats 1000000 in
theorem end_any (w : World) (g : Nat) (m f : Bool) (l : List Int) (h : RD w g m f l) :
    Calls Try.prog 75 #[.pointer (some ⟨g, 0, none⟩)] w fun e w' => e = .returned (.int .i64 (endNo m f l)) ∧ w' = w := by
  obtain ⟨v, hblk, hv⟩ := h
  obtain ⟨p, c, rfl, hlc, hm⟩ := hv.1.open
  obtain ⟨c0, c1, c2, f1, f2⟩ := three hblk
  clear hblk hv
  cases m with
  | false =>
    go_enter Try.func75, Try.ntmps75
    go_wp2
    go_ret
    exact ⟨rfl, rfl⟩
  | true =>
    cases f with
    | true =>
      go_enter Try.func75, Try.ntmps75
      go_wp2
      go_ret
      exact ⟨rfl, rfl⟩
    | false =>
      by_cases hl : l.length = 0
      · have hd : decide (0 < (l.length : Int)) = false := decide_eq_false (by omega)
        have HL : Hid (endNo true false l = 0) := by show _ = _; simp [endNo, hl]
        have hd2 : ¬ (0 < l.length) := by omega
        clear hl
        go_enter Try.func75, Try.ntmps75
        go_wp2
        all_goals go_ret
        all_goals exact ⟨by rw [HL.out]; rfl, rfl⟩
      · have hd : decide (0 < (l.length : Int)) = true := by simp; omega
        have hd2 : 0 < l.length := by omega
        have HL : Hid (endNo true false l = 11) := by show _ = _; unfold endNo; rw [if_neg (by simp), if_neg (by simp), if_neg hl]
        clear hl
        go_enter Try.func75, Try.ntmps75
        go_wp2
        all_goals go_ret
        all_goals exact ⟨by rw [HL.out]; rfl, rfl⟩
set_option maxHeartbeats 1000000 in
theorem number_uint8 (w : World) (g : Nat) (f : Bool) (l : List Int) (h : RD w g true f l) : Calls Try.prog 90 #[.pointer (some ⟨g, 0, none⟩)] w fun e w' => e = .returned (.int .u8 (smallNo 1 (taken l 1))) ∧ RD w' g true (f || !okTake l 1) (leftAt l 1) ∧ w.grownBy w' (some g) := by
  go_enter Try.func90, Try.ntmps90
  go_wp2_with fail
  refine (width_uint8 _).mono ?_
  rintro e w' ⟨rfl, hw⟩
  have hw' := hw.symm
  subst hw'
  clear hw
  go_wp2_with fail
  refine (take_any w g f l 1 h).mono ?_
  rintro e w1 ⟨v1, rfl, hb1, hr1, hg1⟩
  have HB1 := hid hb1
  have HR1 := hid hr1
  have HG1 := hid hg1
  obtain ⟨p, c, e, _, _⟩ := hb1.open
  clear hb1 hr1 hg1
  subst e
  go_wp2_with fail
  refine (small_uint8 w1 _ _ HB1.out).mono ?_
  rintro e w2 ⟨rfl, hw⟩
  have hw' := hw.symm
  subst hw'
  clear hw
  go_wp2
  go_ret
  exact ⟨rfl, HR1.out, HG1.out⟩
set_option maxHeartbeats 1000000 in
theorem byte_any (w : World) (g : Nat) (f : Bool) (l : List Int) (h : RD w g true f l) : Calls Try.prog 76 #[.pointer (some ⟨g, 0, none⟩)] w fun e w' => e = .returned (.int .u8 (smallNo 1 (taken l 1))) ∧ RD w' g true (f || !okTake l 1) (leftAt l 1) ∧ w.grownBy w' (some g) := by
  go_enter Try.func76, Try.ntmps76
  go_wp2_with fail
  refine (number_uint8 w g f l h).mono ?_
  rintro e w1 ⟨rfl, hr, hg⟩
  go_wp2
  go_ret
  exact ⟨rfl, hr, hg⟩
set_option maxHeartbeats 1000000 in
theorem number_uint32 (w : World) (g : Nat) (f : Bool) (l : List Int) (h : RD w g true f l) : Calls Try.prog 96 #[.pointer (some ⟨g, 0, none⟩)] w fun e w' => e = .returned (.int .u32 (smallNo 4 (taken l 4))) ∧ RD w' g true (f || !okTake l 4) (leftAt l 4) ∧ w.grownBy w' (some g) := by
  go_enter Try.func96, Try.ntmps96
  go_wp2_with fail
  refine (width_uint32 _).mono ?_
  rintro e w' ⟨rfl, hw⟩
  have hw' := hw.symm
  subst hw'
  clear hw
  go_wp2_with fail
  refine (take_any w g f l 4 h).mono ?_
  rintro e w1 ⟨v1, rfl, hb1, hr1, hg1⟩
  have HB1 := hid hb1
  have HR1 := hid hr1
  have HG1 := hid hg1
  obtain ⟨p, c, e, _, _⟩ := hb1.open
  clear hb1 hr1 hg1
  subst e
  go_wp2_with fail
  refine (small_uint32 w1 _ _ HB1.out).mono ?_
  rintro e w2 ⟨rfl, hw⟩
  have hw' := hw.symm
  subst hw'
  clear hw
  go_wp2
  go_ret
  exact ⟨rfl, HR1.out, HG1.out⟩
set_option maxHeartbeats 1000000 in
theorem word_any (w : World) (g : Nat) (f : Bool) (l : List Int) (h : RD w g true f l) : Calls Try.prog 91 #[.pointer (some ⟨g, 0, none⟩)] w fun e w' => e = .returned (.int .u32 (smallNo 4 (taken l 4))) ∧ RD w' g true (f || !okTake l 4) (leftAt l 4) ∧ w.grownBy w' (some g) := by
  go_enter Try.func91, Try.ntmps91
  go_wp2_with fail
  refine (number_uint32 w g f l h).mono ?_
  rintro e w1 ⟨rfl, hr, hg⟩
  go_wp2
  go_ret
  exact ⟨rfl, hr, hg⟩
set_option maxHeartbeats 1000000 in
theorem number_uint64 (w : World) (g : Nat) (f : Bool) (l : List Int) (h : RD w g true f l) : Calls Try.prog 97 #[.pointer (some ⟨g, 0, none⟩)] w fun e w' => e = .returned (.int .u64 (smallNo 8 (taken l 8))) ∧ RD w' g true (f || !okTake l 8) (leftAt l 8) ∧ w.grownBy w' (some g) := by
  go_enter Try.func97, Try.ntmps97
  go_wp2_with fail
  refine (width_uint64 _).mono ?_
  rintro e w' ⟨rfl, hw⟩
  have hw' := hw.symm
  subst hw'
  clear hw
  go_wp2_with fail
  refine (take_any w g f l 8 h).mono ?_
  rintro e w1 ⟨v1, rfl, hb1, hr1, hg1⟩
  have HB1 := hid hb1
  have HR1 := hid hr1
  have HG1 := hid hg1
  obtain ⟨p, c, e, _, _⟩ := hb1.open
  clear hb1 hr1 hg1
  subst e
  go_wp2_with fail
  refine (small_uint64 w1 _ _ HB1.out).mono ?_
  rintro e w2 ⟨rfl, hw⟩
  have hw' := hw.symm
  subst hw'
  clear hw
  go_wp2
  go_ret
  exact ⟨rfl, HR1.out, HG1.out⟩
set_option maxHeartbeats 1000000 in
theorem long_any (w : World) (g : Nat) (f : Bool) (l : List Int) (h : RD w g true f l) : Calls Try.prog 92 #[.pointer (some ⟨g, 0, none⟩)] w fun e w' => e = .returned (.int .u64 (smallNo 8 (taken l 8))) ∧ RD w' g true (f || !okTake l 8) (leftAt l 8) ∧ w.grownBy w' (some g) := by
  go_enter Try.func92, Try.ntmps92
  go_wp2_with fail
  refine (number_uint64 w g f l h).mono ?_
  rintro e w1 ⟨rfl, hr, hg⟩
  go_wp2
  go_ret
  exact ⟨rfl, hr, hg⟩
end Go.Proofs.Ytgjadpidoaianaa
namespace Go.Proofs.Ytgjadpidoaianaa
open Go Go.RowKit
structure Ex (S : Nat → Prop) (w w' : World) : Prop where
  os : w'.os = w.os
  tape : w'.tape = w.tape
  output : w'.output = w.output
  size : w.heap.size ≤ w'.heap.size
  block : ∀ k, k < w.heap.size → ¬ S k → w'.heap[k]? = w.heap[k]?
theorem Ex.refl (S : Nat → Prop) (w : World) : Ex S w w := ⟨rfl, rfl, rfl, Nat.le_refl _, fun _ _ _ => rfl⟩
theorem Ex.trans {S S' : Nat → Prop} {a b c : World} (h : Ex S a b) (k : Ex S' b c) (hs : ∀ k, S' k → S k ∨ a.heap.size ≤ k) : Ex S a c :=
  ⟨k.os.trans h.os, k.tape.trans h.tape, k.output.trans h.output, Nat.le_trans h.size k.size, fun i hi hn => by
    rw [k.block i (Nat.lt_of_lt_of_le hi h.size) (fun q => by rcases hs i q with q | q; exact hn q; omega), h.block i hi hn]⟩
theorem Ex.mono {S S' : Nat → Prop} {a b : World} (h : Ex S a b) (hs : ∀ k, S k → S' k) : Ex S' a b := ⟨h.os, h.tape, h.output, h.size, fun k hk hn => h.block k hk fun q => hn (hs k q)⟩
theorem Ex.of_below {S : Nat → Prop} {a b : World} (h : Below a.heap.size a b) : Ex S a b := ⟨h.os, h.tape, h.output, h.size, fun k hk _ => h.block k hk⟩
theorem Ex.below {S : Nat → Prop} {a b : World} (h : Ex S a b) {B : Nat} (hB : B ≤ a.heap.size) (hs : ∀ k, S k → B ≤ k) : Below B a b := ⟨h.os, h.tape, h.output, h.size, fun k hk => h.block k (by omega) fun q => by have := hs k q; omega⟩
theorem Ex.drewN {S : Nat → Prop} {a b : World} (h : Ex S a b) (q : Nat) : Ex S a (b.drewN q) := ⟨h.os, h.tape, h.output, h.size, h.block⟩
theorem Ex.grown {S : Nat → Prop} {a b : World} {r : Option Nat} (h : a.grownBy b r) (hs : ∀ k, r = some k → S k) : Ex S a b := ⟨h.os, h.tape, h.output, h.size, fun k hk hn => h.block k hk fun q => hn (hs k q.symm)⟩
theorem Ex.setCell {S : Nat → Prop} {a b : World} (h : Ex S a b) {x o : Nat} (hx : S x) (v : Value) : Ex S a (b.setCell ⟨x, o, none⟩ v) := by
  refine ⟨h.os, h.tape, h.output, by simpa [World.setCell] using h.size, fun k hk hn => ?_⟩
  rw [← h.block k hk hn]
  have : x ≠ k := fun q => hn (q ▸ hx)
  simp [World.setCell, Array.getElem?_modify, this]
theorem free_of {w : World} {b : Nat} {cs : Array Value} {T : TypeId} (h : w.heap[b]? = some (.cells cs T (0, 0))) (i : Nat) : w.frozen? ⟨b, i, none⟩ = false := by simp [World.frozen?, h]
theorem bel_drewN {B : Nat} {a w : World} (h : Below B a w) (q : Nat) : Below B a (w.drewN q) := ⟨h.os, h.tape, h.output, h.size, h.block⟩
theorem nat0 (n : Nat) : (((n : Int)) == 0) = decide (n = 0) := by by_cases h : n = 0 <;> simp [h]
structure Rq where
  k : Int
  ix : List Int
  nb : Int
  pl : Int
  ln : Int
  who : Int
  til : Int
def rqL (r : Rq) (v : Value) : List Value := .int .u8 r.k :: (r.ix.map (Value.int .u8) ++ [.int .i64 r.nb, .int .i64 r.pl, .int .i64 r.ln, .int .u32 r.who, .int .i64 r.til, v])
def rqA (r : Rq) (v : Value) : Array Value := (rqL r v).toArray
def Rq.ok (r : Rq) : Prop := r.ix.length = 16 ∧ ∀ x ∈ r.ix, 0 ≤ x ∧ x < 256
theorem rqA_size {r : Rq} (h : r.ok) (v : Value) : (rqA r v).size = 23 := by simp [rqA, rqL, h.1]
theorem rqA_17 {r : Rq} (h : r.ok) (v : Value) : (rqA r v)[17]? = some (.int .i64 r.nb) := by
  simp [rqA, rqL, h.1, List.getElem?_append_right]
theorem rqA_18 {r : Rq} (h : r.ok) (v : Value) : (rqA r v)[18]? = some (.int .i64 r.pl) := by
  simp [rqA, rqL, h.1, List.getElem?_append_right]
theorem rqA_19 {r : Rq} (h : r.ok) (v : Value) : (rqA r v)[19]? = some (.int .i64 r.ln) := by
  simp [rqA, rqL, h.1, List.getElem?_append_right]
theorem rqA_20 {r : Rq} (h : r.ok) (v : Value) : (rqA r v)[20]? = some (.int .u32 r.who) := by
  simp [rqA, rqL, h.1, List.getElem?_append_right]
theorem rqA_21 {r : Rq} (h : r.ok) (v : Value) : (rqA r v)[21]? = some (.int .i64 r.til) := by
  simp [rqA, rqL, h.1, List.getElem?_append_right]
theorem rqA_22 {r : Rq} (h : r.ok) (v : Value) : (rqA r v)[22]? = some (v) := by
  simp [rqA, rqL, h.1, List.getElem?_append_right]
def nbB (n : Int) : Bool := decide (0 ≤ n ∧ n < 255)
def tkB (t : Int) : Bool := decide (0 ≤ t ∧ t ≤ 1099511627776)
def stB (a n : Int) : Bool := decide (0 ≤ a ∧ a ≤ 33554432 ∧ 1 ≤ n ∧ n ≤ 131072)
def mayB (r : Rq) (n : Nat) : Bool :=
  if r.k = 1 then decide (r.nb = 0 ∧ r.pl = 0 ∧ r.ln = 0 ∧ r.who = 0 ∧ r.til = 0 ∧ n = 0)
  else if r.k = 2 then nbB r.nb && (decide (r.pl = 0 ∧ r.ln = 0) && (tkB r.til && decide (n ≤ 33554432)))
  else if r.k = 3 then nbB r.nb && (stB r.pl r.ln && decide (r.who = 0 ∧ r.til = 0 ∧ n = 0))
  else if r.k = 4 then decide (r.nb = 0 ∧ r.pl = 0 ∧ r.ln = 0) && (tkB r.til && decide (n = 0))
  else if r.k = 5 then decide (r.nb = 0 ∧ r.pl = 0 ∧ r.ln = 0 ∧ r.til = 0 ∧ n = 0)
  else false
set_option maxRecDepth 100000 in
theorem eqF_lease (w : World) (a b c d : Int) : (Op.equalIn 10000 35 (.agg #[.int .u32 a, .int .i64 b]) (.agg #[.int .u32 c, .int .i64 d])).run Try.prog w = .ok (a == c && b == d) w := by
  rw [run_equalIn_struct w 9999 _ _ _ (by kernel_rfl) (by kernel_rfl)]
  have hf : ∃ f0 f1, (Try.prog.fieldsOf 35).toList = [f0, f1] ∧ f0.name ≠ "_" ∧ f0.type = 33 ∧ f0.offset = 0 ∧ f1.name ≠ "_" ∧ f1.type = 3 ∧ f1.offset = 1 := ⟨_, _, rfl, by decide, rfl, rfl, by decide, rfl, rfl⟩
  obtain ⟨f0, f1, e0, n0, t0, o0, n1, t1, o1⟩ := hf
  rw [e0]
  have p0 : ∀ x y : Int, (part 33 #[.int .u32 x, .int .i64 y] 0).run Try.prog w = .ok (.int .u32 x) w := fun x y => by simp [part]
  have p1 : ∀ x y : Int, (part 3 #[.int .u32 x, .int .i64 y] 1).run Try.prog w = .ok (.int .i64 y) w := fun x y => by simp [part]
  have i0 := fun x y => run_equalIn_int (P := Try.prog) w 9998 33 .u32 .u32 x y Try.underlying33
  have i1 := fun x y => run_equalIn_int (P := Try.prog) w 9998 3 .i64 .i64 x y Try.underlying3
  simp only [Op.eqFields, n0, n1, t0, t1, o0, o1, if_true, ne_eq, not_false_eq_true, Sem.run_bind, p0, p1, Result.andThen_ok, i0]
  cases h1 : (a == c) with
  | false => simp
  | true => cases h2 : (b == d) <;> simp [p1, i1, h2]
theorem run_eql_lease (w : World) (a b c d : Int) : (binOp .eql 35 (.agg #[.int .u32 a, .int .i64 b]) (.agg #[.int .u32 c, .int .i64 d])).run Try.prog w = .ok (.bool (a == c && b == d)) w := by
  rw [run_eql_struct, eqF_lease]
  rfl
end Go.Proofs.Ytgjadpidoaianaa
