/- octet's Reader, walked: NewReader, take, Bytes, Left, End: at a reader that NewReader made, at nil, and at one that nobody made. -/
import Derived.Test.YtmegeogfpkdodaaClone
import Derived.Test.YtmegeogfpkdodaaSlices
namespace Go.Proofs.Ytmegeogfpkdodaa
open Go.RowKit

/-- v holds the bytes l, in a row of bytes that was there before block q, where there is one. -/
def HB5 (q : Nat) (w : World) (v : Value) (l : List Int) : Prop :=
  HB w v l ∧ (l ≠ [] → ∀ a n c, v = .slice (some a) n c → a.block < q ∧ ∃ cur fz, w.heap[a.block]? = some (.cells cur 5 fz))

theorem HB5.of_own {q : Nat} {w : World} {B : Nat} {v : Value} {l : List Int} (h : w.ownsRow B 5 1 v l.length (l.map (Value.int .u8))) (hx : ∀ x ∈ l, 0 ≤ x ∧ x < 256) (hq : ∀ k, v.ownBlock = some k → k < q) : HB5 q w v l := by
  refine ⟨HB.of_own h hx, fun _ a n c e => ?_⟩
  subst e
  rcases h.2 with ⟨e, _⟩ | ⟨g, cap, cur, e, _, hh, _⟩
  · cases e
  · cases e
    exact ⟨hq g rfl, cur, _, hh⟩

theorem HB5.nil {q : Nat} (w : World) : HB5 q w (.slice none 0 0) [] := ⟨HB.nil w, fun h => absurd rfl h⟩

theorem HB5.grown {q : Nat} {w w' : World} {v : Value} {l : List Int} {row : Option Nat} (h : HB5 q w v l) (hg : w.grownBy w' row) (hr : ∀ g, row = some g → ∃ cur e fz, w.heap[g]? = some (.cells cur e fz) ∧ 5 ≠ e) : HB5 q w' v l := by
  by_cases hl : l = []
  · subst hl
    obtain ⟨⟨⟨p, c, rfl, h2, h3, h6, h4⟩, h5⟩, h7⟩ := h
    exact ⟨⟨⟨p, c, rfl, h2, h3, h6, fun h => absurd rfl h⟩, h5⟩, fun h => absurd rfl h⟩
  · obtain ⟨⟨⟨p, c, rfl, h2, h3, h6, h4⟩, h5⟩, h7⟩ := h
    obtain ⟨b, off, rfl, hh⟩ := h4 hl
    obtain ⟨hq, cur, fz, hcur⟩ := h7 hl _ _ _ rfl
    have hlt : b < w.heap.size := (Array.getElem?_eq_some_iff.1 hcur).1
    have hne : some b ≠ row := by
      intro e
      obtain ⟨cur', e', fz', hcur', hne⟩ := hr b e.symm
      have := hcur.symm.trans hcur'
      simp only [Option.some.injEq, Obj.cells.injEq] at this
      exact hne this.2.1
    refine ⟨⟨⟨_, c, rfl, h2, h3, h6, fun _ => ⟨b, off, rfl, fun j hj => hg.cell (hh j hj) hne⟩⟩, h5⟩, fun _ a n c e => ?_⟩
    cases e
    exact ⟨hq, cur, fz, by rw [hg.block b hlt hne]; exact hcur⟩

/-- At block g lies a reader: made or not, at fault or not, with the bytes l left. -/
def RD (w : World) (g : Nat) (m f : Bool) (l : List Int) : Prop :=
  ∃ v, w.heap[g]? = some (.cells #[.bool m, .bool f, v] 109 (0, 0)) ∧ HB5 g w v l

theorem three {w : World} {g : Nat} {a b c : Value} {T : TypeId} (h : w.heap[g]? = some (.cells #[a, b, c] T (0, 0))) :
    w.cell? ⟨g, 0, none⟩ = some a ∧ w.cell? ⟨g, 1, none⟩ = some b ∧ w.cell? ⟨g, 2, none⟩ = some c ∧ w.frozen? ⟨g, 1, none⟩ = false ∧ w.frozen? ⟨g, 2, none⟩ = false := by
  simp [World.cell?, World.frozen?, h]

theorem three_no_int {w : World} {g : Nat} {m f : Bool} {p : Option Addr} {n c : Nat} {T : TypeId} (h : w.heap[g]? = some (.cells #[.bool m, .bool f, .slice p n c] T (0, 0))) :
    ∀ o sp (k : Int), w.cell? ⟨g, o, sp⟩ ≠ some (.int .u8 k) := by
  intro o sp k e
  simp only [World.cell?, h] at e
  split at e
  · cases e
  · match o, e with
    | 0, e => simp at e
    | 1, e => simp at e
    | 2, e => simp at e
    | o + 3, e => simp at e

set_option maxHeartbeats 400000 in
theorem newReader_any (w : World) (v : Value) (l : List Int) (h : HB w v l) (hbig : l.length ≤ 140737488355328) :
    Calls Try.prog 60 #[v] w fun e w' => ∃ g, e = .returned (.pointer (some ⟨g, 0, none⟩)) ∧ RD w' g true false l ∧ w.heap.size ≤ g ∧ Below w.heap.size w w' := by
  have hby := h.2
  go_enter Try.func60, Try.ntmps60
  go_wp2_with fail
  refine (clone_any w v l h hbig).mono ?_
  rintro e w1 ⟨v', rfl, hown, hb⟩
  have hh : HB5 w1.heap.size w1 v' l := HB5.of_own hown hby (fun k e => (hown.lt k e).2)
  obtain ⟨p', c', rfl, _, _⟩ := hh.1.open
  go_wp2
  go_ret
  refine ⟨w1.heap.size, rfl, ⟨_, heap_alloc_new w1 _, hh.grown (World.grownBy_alloc w1 _ none) (fun g e => by cases e)⟩, hb.size, hb.alloc hb.size _⟩

/-- What take hands out of l at n, and what it leaves. -/
def okTake (l : List Int) (n : Int) : Bool := decide (0 ≤ n) && decide (n ≤ l.length)
def taken (l : List Int) (n : Int) : List Int := if okTake l n then l.take n.toNat else []
def leftAt (l : List Int) (n : Int) : List Int := if okTake l n then l.drop n.toNat else []

theorem okTake_iff {l : List Int} {n : Int} : okTake l n = true ↔ 0 ≤ n ∧ n ≤ l.length := by simp [okTake]

/-- The reader behind a store of what is left. -/
theorem RD.stored {w : World} {g : Nat} {m f : Bool} {v u : Value} {l r : List Int} (hblk : w.heap[g]? = some (.cells #[.bool m, .bool f, v] 109 (0, 0))) (hv : HB w v l) (hu : HB5 g w u r) :
    RD (w.setCell ⟨g, 2, none⟩ u) g m f r ∧ (∀ x y, HB w x y → HB (w.setCell ⟨g, 2, none⟩ u) x y) := by
  obtain ⟨p, c, rfl⟩ := hv.slice_form
  have key : ∀ x y, HB w x y → HB (w.setCell ⟨g, 2, none⟩ u) x y := fun x y hx => hx.grown (grown_set w g 2 u) (three_no_int hblk)
  exact ⟨⟨u, by rw [heap_setCell_same w g 2 _ _ u hblk]; rfl, hu.grown (grown_set w g 2 u) (fun k e => by cases e; exact ⟨_, _, _, hblk, by decide⟩)⟩, key⟩

set_option maxHeartbeats 400000 in
theorem take_ok (w : World) (g : Nat) (f : Bool) (l : List Int) (n : Nat) (h : RD w g true f l) (hn : n ≤ l.length) :
    Calls Try.prog 85 #[.pointer (some ⟨g, 0, none⟩), .int .i64 n] w fun e w' => ∃ v', e = .returned v' ∧ HB w' v' (l.take n) ∧ RD w' g true f (l.drop n) ∧ w.grownBy w' (some g) := by
  obtain ⟨v, hblk, hv0⟩ := h
  obtain ⟨hv, ht5⟩ := hv0
  obtain ⟨p, c, rfl, hlc, hm⟩ := hv.open
  obtain ⟨c0, c1, c2, f1, f2⟩ := three hblk
  unfold maxLen at hm
  have g1 : ¬ ((n : Int) < 0) := by omega
  have g1' : decide ((n : Int) < 0) = false := by simp
  have g2 : decide ((l.length : Int) < (n : Int)) = false := by simp; omega
  have g3 : (n : Int) ≤ l.length := by omega
  have g4 : (n : Int) ≤ c := by omega
  have sz := size_u8
  have fin : ∀ u, HB5 g w u (l.drop n) → ∃ v', Ending.returned (Value.slice p n n) = .returned v' ∧ HB (w.setCell ⟨g, 2, none⟩ u) v' (l.take n) ∧ RD (w.setCell ⟨g, 2, none⟩ u) g true f (l.drop n) ∧ w.grownBy (w.setCell ⟨g, 2, none⟩ u) (some g) := fun u hu =>
    ⟨_, rfl, (RD.stored hblk hv hu).2 _ _ (hv.pre n hn), (RD.stored hblk hv hu).1, grown_set _ _ _ _⟩
  have suf : HB5 g w _ (l.drop n) := ⟨hv.suf n hn, fun hne a m c' e => by
    have hl0 : l ≠ [] := by intro e; subst e; simp at hne
    simp only [Value.slice.injEq] at e
    obtain ⟨e, _, _⟩ := e
    split at e
    · subst e
      exact ht5 hl0 _ _ _ rfl
    · obtain ⟨a0, rfl, rfl⟩ := Option.map_eq_some_iff.1 e
      have : (a0.add n).block = a0.block := by unfold Addr.add; split <;> rfl
      rw [this]
      exact ht5 hl0 _ _ _ rfl⟩
  have FIN := hid fin
  have SUF := hid suf
  clear hv hblk fin suf ht5
  by_cases hcn : c = n
  · rw [if_pos hcn] at SUF
    have hcn' : c - n = 0 := by omega
    have hcl : l.length - n = 0 := by omega
    rw [hcn', hcl] at SUF
    subst hcn
    go_enter Try.func85, Try.ntmps85
    go_wp2
    go_ret
    exact FIN.out _ SUF.out
  · rw [if_neg hcn] at SUF
    go_enter Try.func85, Try.ntmps85
    go_wp2
    go_ret
    exact FIN.out _ SUF.out

theorem two_stores {w : World} {g : Nat} {m f : Bool} {v : Value} (hblk : w.heap[g]? = some (.cells #[.bool m, .bool f, v] 109 (0, 0))) :
    RD ((w.setCell ⟨g, 1, none⟩ (.bool true)).setCell ⟨g, 2, none⟩ (.slice none 0 0)) g m true [] ∧ w.grownBy ((w.setCell ⟨g, 1, none⟩ (.bool true)).setCell ⟨g, 2, none⟩ (.slice none 0 0)) (some g) := by
  have h1 : (w.setCell ⟨g, 1, none⟩ (.bool true)).heap[g]? = some (.cells #[.bool m, .bool true, v] 109 (0, 0)) := by rw [heap_setCell_same w g 1 _ _ _ hblk]; rfl
  have h2 : ((w.setCell ⟨g, 1, none⟩ (.bool true)).setCell ⟨g, 2, none⟩ (.slice none 0 0)).heap[g]? = some (.cells #[.bool m, .bool true, .slice none 0 0] 109 (0, 0)) := by rw [heap_setCell_same _ g 2 _ _ _ h1]; rfl
  exact ⟨⟨_, h2, HB5.nil _⟩, grown_trans (grown_set _ _ _ _) (grown_set _ _ _ _)⟩

set_option maxHeartbeats 400000 in
theorem take_bad (w : World) (g : Nat) (f : Bool) (l : List Int) (n : Int) (h : RD w g true f l) (hn : n < 0 ∨ (l.length : Int) < n) :
    Calls Try.prog 85 #[.pointer (some ⟨g, 0, none⟩), .int .i64 n] w fun e w' => e = .returned (.slice none 0 0) ∧ RD w' g true true [] ∧ w.grownBy w' (some g) := by
  obtain ⟨v, hblk, hv⟩ := h
  have fin := two_stores hblk
  obtain ⟨p, c, rfl, hlc, hm⟩ := hv.1.open
  obtain ⟨c0, c1, c2, f1, f2⟩ := three hblk
  unfold maxLen at hm
  have FIN := hid fin
  clear hv hblk fin
  by_cases h0 : n < 0
  · have g1' : decide (n < 0) = true := by simpa using h0
    clear hn
    go_enter Try.func85, Try.ntmps85
    go_wp2
    go_ret
    exact ⟨rfl, FIN.out.1, FIN.out.2⟩
  · have g1' : decide (n < 0) = false := by simpa using h0
    have g2 : (l.length : Int) < n := by omega
    have g2' : decide ((l.length : Int) < n) = true := by simpa using g2
    clear hn
    go_enter Try.func85, Try.ntmps85
    go_wp2
    go_ret
    exact ⟨rfl, FIN.out.1, FIN.out.2⟩

theorem take_any (w : World) (g : Nat) (f : Bool) (l : List Int) (n : Int) (h : RD w g true f l) :
    Calls Try.prog 85 #[.pointer (some ⟨g, 0, none⟩), .int .i64 n] w fun e w' => ∃ v', e = .returned v' ∧ HB w' v' (taken l n) ∧ RD w' g true (f || !okTake l n) (leftAt l n) ∧ w.grownBy w' (some g) := by
  by_cases hk : okTake l n = true
  · obtain ⟨h0, h1⟩ := okTake_iff.1 hk
    obtain ⟨k, rfl⟩ := Int.eq_ofNat_of_zero_le h0
    refine (take_ok w g f l k h (by omega)).mono ?_
    rintro e w' ⟨v', rfl, a, b, c⟩
    simp only [taken, leftAt, hk, if_true, Int.toNat_natCast, Bool.not_true, Bool.or_false]
    exact ⟨v', rfl, a, b, c⟩
  · have hk' : okTake l n = false := by simpa using hk
    refine (take_bad w g f l n h ?_).mono ?_
    · have : ¬ (0 ≤ n ∧ n ≤ l.length) := fun e => hk (okTake_iff.2 e)
      omega
    rintro e w' ⟨rfl, b, c⟩
    simp only [taken, leftAt, hk']
    exact ⟨_, rfl, HB.nil _, by simpa using b, c⟩

theorem RD.grow {w w' : World} {g : Nat} {m f : Bool} {l : List Int} (h : RD w g m f l) (hb : Below w.heap.size w w') : RD w' g m f l := by
  obtain ⟨v, hblk, hv⟩ := h
  refine ⟨v, ?_, hv.grown (row := none) ⟨hb.os, hb.tape, hb.output, hb.size, fun k hk _ => hb.block k hk⟩ (fun g e => by cases e)⟩
  rw [hb.block g (by exact (Array.getElem?_eq_some_iff.1 hblk).1)]
  exact hblk

theorem taken_le (l : List Int) (n : Int) : (taken l n).length ≤ l.length := by unfold taken; split <;> simp <;> omega

set_option maxHeartbeats 400000 in
theorem bytes_any (w : World) (g : Nat) (f : Bool) (l : List Int) (n : Int) (h : RD w g true f l) (hbig : l.length ≤ 140737488355328) :
    Calls Try.prog 65 #[.pointer (some ⟨g, 0, none⟩), .int .i64 n] w fun e w' => ∃ v' B, e = .returned v' ∧ w'.ownsRow B 5 1 v' (taken l n).length ((taken l n).map (Value.int .u8)) ∧ w.heap.size ≤ B ∧ HB w' v' (taken l n) ∧ RD w' g true (f || !okTake l n) (leftAt l n) ∧ w.grownBy w' (some g) := by
  go_enter Try.func65, Try.ntmps65
  go_wp2_with fail
  refine (take_any w g f l n h).mono ?_
  rintro e w1 ⟨v1, rfl, hb1, hr1, hg1⟩
  go_wp2_with fail
  refine (clone_any w1 v1 _ hb1 (Nat.le_trans (taken_le l n) hbig)).mono ?_
  rintro e w2 ⟨v2, rfl, hown, hB⟩
  go_wp2
  go_ret
  exact ⟨v2, _, rfl, hown, hg1.size, HB.of_own hown hb1.2, hr1.grow hB, grown_trans hg1 (grown_below hB)⟩

set_option maxHeartbeats 400000 in
theorem left_any (w : World) (g : Nat) (m f : Bool) (l : List Int) (h : RD w g m f l) :
    Calls Try.prog 70 #[.pointer (some ⟨g, 0, none⟩)] w fun e w' => e = .returned (.int .i64 l.length) ∧ w' = w := by
  obtain ⟨v, hblk, hv⟩ := h
  obtain ⟨p, c, rfl, hlc, hm⟩ := hv.1.open
  obtain ⟨c0, c1, c2, f1, f2⟩ := three hblk
  clear hblk hv
  go_enter Try.func70, Try.ntmps70
  go_wp2
  go_ret
  exact ⟨rfl, rfl⟩

/-- The number that End answers. -/
def endNo (m f : Bool) (l : List Int) : Int := if !m then 1 else if f then 10 else if l.length = 0 then 0 else 11

set_option maxHeartbeats 1000000 in
theorem end_any (w : World) (g : Nat) (m f : Bool) (l : List Int) (h : RD w g m f l) :
    Calls Try.prog 75 #[.pointer (some ⟨g, 0, none⟩)] w fun e w' => e = .returned (.int .i64 (endNo m f l)) ∧ w' = w := by
  obtain ⟨v, hblk, hv⟩ := h
  obtain ⟨p, c, rfl, hlc, hm⟩ := hv.1.open
  obtain ⟨c0, c1, c2, f1, f2⟩ := three hblk
  clear hblk hv
  cases m with
  | false =>
    go_enter Try.func75, Try.ntmps75
    go_wp2
    go_ret
    exact ⟨rfl, rfl⟩
  | true =>
    cases f with
    | true =>
      go_enter Try.func75, Try.ntmps75
      go_wp2
      go_ret
      exact ⟨rfl, rfl⟩
    | false =>
      by_cases hl : l.length = 0
      · have hd : decide (0 < (l.length : Int)) = false := decide_eq_false (by omega)
        have HL : Hid (endNo true false l = 0) := by show _ = _; simp [endNo, hl]
        have hd2 : ¬ (0 < l.length) := by omega
        clear hl
        go_enter Try.func75, Try.ntmps75
        go_wp2
        all_goals go_ret
        all_goals exact ⟨by rw [HL.out]; rfl, rfl⟩
      · have hd : decide (0 < (l.length : Int)) = true := by simp; omega
        have hd2 : 0 < l.length := by omega
        have HL : Hid (endNo true false l = 11) := by show _ = _; unfold endNo; rw [if_neg (by simp), if_neg (by simp), if_neg hl]
        clear hl
        go_enter Try.func75, Try.ntmps75
        go_wp2
        all_goals go_ret
        all_goals exact ⟨by rw [HL.out]; rfl, rfl⟩
end Go.Proofs.Ytmegeogfpkdodaa
