/- One call of take, whatever its kind; what it leaves as it was; a reader whose row is its own. -/
import Derived.Test.YtiodfpaifkcmoaaTakeBytes
import Derived.Test.YtiodfpaifkcmoaaNoneWalk
namespace Go.Proofs.Ytiodfpaifkcmoaa
open Go.RowKit

/-- What stands while the script runs, of the pair that is asked. -/
def TkS (B : Nat) (w : World) (g h G H : Nat) (n : Nat) (gv hv : Value) : Prop :=
  ∃ f l m gl hl ls, Pair w g h f l m ∧ Told B w G gv gl ls ∧ Told B w H hv hl ls ∧ G ≠ H ∧ (∀ k, gv.ownBlock = some k → hv.ownBlock ≠ some k) ∧ B ≤ w.heap.size ∧ ls.length ≤ n

theorem take_whole (B : Nat) (w : World) (g h G H n : Nat) (gv hv : Value) (hn : n ≤ 5864062014634) (s : TkS B w g h G H n gv hv) (on k m : Int) :
    Calls Try.prog 41 #[.pointer (some ⟨g, 0, none⟩), .pointer (some ⟨h, 0, none⟩), .agg #[.int .i64 on, .int .i64 k, .int .i64 m], .pointer (some ⟨G, 0, none⟩), .pointer (some ⟨H, 0, none⟩)] w fun e w' => e = .returned (.bool true) ∧ (∃ gv' hv', TkS B w' g h G H (n + 1) gv' hv') ∧ Fr (Sw g h G H gv hv) w w' := by
  obtain ⟨f, l, mm, gl, hl, ls, s1, s2, s3, s4, s5, s6, s7⟩ := s
  have t : TkIn B w g h G H f l mm gv hv gl hl ls := ⟨s1, s2, s3, s4, s5, s6, by omega⟩
  have up : ∀ w', (∃ f' l' m', TkIn B w' g h G H f' l' m' gv hv gl hl ls) → ∃ gv' hv', TkS B w' g h G H (n + 1) gv' hv' := by
    rintro w' ⟨f', l', m', t1, t2, t3, t4, t5, t6, _⟩
    exact ⟨gv, hv, f', l', m', gl, hl, ls, t1, t2, t3, t4, t5, t6, by omega⟩
  by_cases k0 : k = 0
  · subst k0
    exact (take_byte B w g h G H f l mm gv hv gl hl ls t on m).mono fun e w' ⟨a, b, c⟩ => ⟨a, up w' b, c⟩
  by_cases k1 : k = 1
  · subst k1
    exact (take_word B w g h G H f l mm gv hv gl hl ls t on m).mono fun e w' ⟨a, b, c⟩ => ⟨a, up w' b, c⟩
  by_cases k2 : k = 2
  · subst k2
    exact (take_long B w g h G H f l mm gv hv gl hl ls t on m).mono fun e w' ⟨a, b, c⟩ => ⟨a, up w' b, c⟩
  by_cases k3 : k = 3
  · subst k3
    exact (take_digest B w g h G H f l mm gv hv gl hl ls t on m).mono fun e w' ⟨a, b, c⟩ => ⟨a, up w' b, c⟩
  by_cases k4 : k = 4
  · subst k4
    refine (take_bytes B w g h G H f l mm gv hv gl hl ls t on m).mono ?_
    rintro e w' ⟨a, ⟨f', l', m', gv', hv', gl', hl', x, b1, b2, b3, b4⟩, c⟩
    exact ⟨a, ⟨gv', hv', f', l', m', gl', hl', _, b1, b2, b3, s4, b4, Nat.le_trans s6 c.size, by simp; omega⟩, c⟩
  by_cases k5 : k = 5
  · subst k5
    exact (take_left B w g h G H f l mm gv hv gl hl ls t on m).mono fun e w' ⟨a, b, c⟩ => ⟨a, up w' b, c⟩
  · exact (take_end B w g h G H f l mm gv hv gl hl ls t on k m (by simpa using k0) (by simpa using k1) (by simpa using k2) (by simpa using k3) (by simpa using k4) (by simpa using k5)).mono fun e w' ⟨a, b, c⟩ => ⟨a, up w' b, c⟩

/-- The other pair stays. -/
theorem TkS.other {B : Nat} {w w' : World} {g h G H n : Nat} {gv hv : Value} (s : TkS B w g h G H n gv hv) {g2 h2 : Nat} {f : Bool} {l m : List Int} (p : Pair w g2 h2 f l m) (hg : g2 ≠ g) (hh : h2 ≠ h) (hf : Fr (Sw g h G H gv hv) w w') : Pair w' g2 h2 f l m := by
  obtain ⟨_, _, _, gl, hl, ls, s1, s2, s3, _⟩ := s
  refine p.frame hf ?_ ?_ ?_
  · rintro (e | e | e | e | e | e)
    · exact hg e
    · exact (p.1.block.ne s1.2.1.block (by decide)) e
    · exact (p.1.block.ne s2.block (by decide)) e
    · exact (p.1.block.ne s3.block (by decide)) e
    · exact s2.row _ _ p.1.block (by decide) e
    · exact s3.row _ _ p.1.block (by decide) e
  · rintro (e | e | e | e | e | e)
    · exact (p.2.1.block.ne s1.1.block (by decide)) e
    · exact hh e
    · exact (p.2.1.block.ne s2.block (by decide)) e
    · exact (p.2.1.block.ne s3.block (by decide)) e
    · exact s2.row _ _ p.2.1.block (by decide) e
    · exact s3.row _ _ p.2.1.block (by decide) e
  · intro k hk
    rintro (e | e | e | e | e | e)
    · exact (hk.ne s1.1.block (by decide)) e
    · exact (hk.ne s1.2.1.block (by decide)) e
    · exact (hk.ne s2.block (by decide)) e
    · exact (hk.ne s3.block (by decide)) e
    · exact s2.row _ _ hk (by decide) e
    · exact s3.row _ _ hk (by decide) e

theorem TkS.below {B : Nat} {w0 w w' : World} {g h G H n : Nat} {gv hv : Value} (s : TkS B w g h G H n gv hv) (hB : w0.heap.size ≤ B) (hg : w0.heap.size ≤ g) (hh : w0.heap.size ≤ h) (hf : Fr (Sw g h G H gv hv) w w') (hb : Below w0.heap.size w0 w) : Below w0.heap.size w0 w' := by
  obtain ⟨_, _, _, gl, hl, ls, s1, s2, s3, _⟩ := s
  refine ⟨hf.os.trans hb.os, hf.tape.trans hb.tape, hf.output.trans hb.output, Nat.le_trans hb.size hf.size, fun k hk => (hf.block k (Nat.lt_of_lt_of_le hk hb.size) ?_).trans (hb.block k hk)⟩
  have hG := s2.1
  have hH := s3.1
  rintro (e | e | e | e | e | e)
  · omega
  · omega
  · omega
  · omega
  · have := (s2.2.2.1.lt k e).1; omega
  · have := (s3.2.2.1.lt k e).1; omega

/-- The state of the whole script. -/
def RS (B : Nat) (w : World) (g h g2 h2 G H n : Nat) : Prop := ∃ gv hv f l m, TkS B w g h G H n gv hv ∧ Pair w g2 h2 f l m

theorem RS.turn {B : Nat} {w : World} {g h g2 h2 G H n : Nat} (s : RS B w g h g2 h2 G H n) : RS B w g2 h2 g h G H n := by
  obtain ⟨gv, hv, f2, l2, m2, ⟨f, l, m, gl, hl, ls, s1, s2⟩, p⟩ := s
  exact ⟨gv, hv, f, l, m, ⟨f2, l2, m2, gl, hl, ls, p, s2⟩, s1⟩

/-- One call of the script on the first pair. -/
theorem RS.take {B : Nat} {w0 w : World} {g h g2 h2 G H n : Nat} (s : RS B w g h g2 h2 G H n) (hn : n ≤ 5864062014634) (hg2 : g2 ≠ g) (hh2 : h2 ≠ h) (hB : w0.heap.size ≤ B) (hg : w0.heap.size ≤ g) (hh : w0.heap.size ≤ h) (hb : Below w0.heap.size w0 w) (on k m : Int) :
    Calls Try.prog 41 #[.pointer (some ⟨g, 0, none⟩), .pointer (some ⟨h, 0, none⟩), .agg #[.int .i64 on, .int .i64 k, .int .i64 m], .pointer (some ⟨G, 0, none⟩), .pointer (some ⟨H, 0, none⟩)] w fun e w' => e = .returned (.bool true) ∧ RS B w' g h g2 h2 G H (n + 1) ∧ Below w0.heap.size w0 w' := by
  obtain ⟨gv, hv, f, l, mm, t, p⟩ := s
  refine (take_whole B w g h G H n gv hv hn t on k m).mono ?_
  rintro e w' ⟨a, ⟨gv', hv', t'⟩, c⟩
  exact ⟨a, ⟨gv', hv', f, l, mm, t', t.other p hg2 hh2 c⟩, t.below hB hg hh c hb⟩

/-- A reader whose row is its own, at or beyond C. -/
def RO (w : World) (g C : Nat) (l : List Int) : Prop :=
  ∃ v, w.heap[g]? = some (.cells #[.bool true, .bool false, v] 77 (0, 0)) ∧ w.ownsRow C 5 1 v l.length (l.map (Value.int .u8)) ∧ ∀ k, v.ownBlock = some k → k < g

theorem RO.rd {w : World} {g C : Nat} {l : List Int} (h : RO w g C l) (hx : ∀ x ∈ l, 0 ≤ x ∧ x < 256) : RD w g true false l := by
  obtain ⟨v, h1, h2, h3⟩ := h
  exact ⟨v, h1, HB5.of_own h2 hx h3⟩

theorem own_low {w w' : World} {C n : Nat} {e : TypeId} {v : Value} {xs : List Value} {row : Option Nat} (h : w.ownsRow C e 1 v n xs) (hg : w.grownBy w' row) (hr : ∀ k, row = some k → k < C) : w'.ownsRow C e 1 v n xs := by
  refine h.kept hg ?_
  cases hv : v.ownBlock with
  | none => exact .inl rfl
  | some q =>
    right
    intro e
    have h1 := (h.lt q hv).1
    have h2 := hr q e.symm
    omega

theorem RO.kept {w w' : World} {g C : Nat} {l : List Int} {row : Option Nat} (h : RO w g C l) (hg : w.grownBy w' row) (hr : ∀ k, row = some k → k < C ∧ BT w k 5) : RO w' g C l := by
  obtain ⟨v, h1, h2, h3⟩ := h
  refine ⟨v, ?_, own_low h2 hg (fun k e => (hr k e).1), h3⟩
  rw [hg.block g (Array.getElem?_eq_some_iff.1 h1).1 ?_]
  · exact h1
  · intro e
    have hb := (hr g e.symm).2
    exact (hb.ne (⟨_, _, h1⟩ : BT w g 77) (by decide)) rfl

set_option maxHeartbeats 400000 in
theorem newReader_own (w : World) (v : Value) (l : List Int) (h : HB w v l) (hbig : l.length ≤ 140737488355328) :
    Calls Try.prog 38 #[v] w fun e w' => ∃ g, e = .returned (.pointer (some ⟨g, 0, none⟩)) ∧ RO w' g w.heap.size l ∧ w.heap.size ≤ g ∧ g < w'.heap.size ∧ Below w.heap.size w w' := by
  have hby := h.2
  go_enter Try.func38, Try.ntmps38
  go_wp2_with fail
  refine (clone_any w v l h hbig).mono ?_
  rintro e w1 ⟨v', rfl, hown, hb⟩
  have hh : HB5 w1.heap.size w1 v' l := HB5.of_own hown hby (fun k e => (hown.lt k e).2)
  obtain ⟨p', c', rfl, _, _⟩ := hh.1.open
  go_wp2
  go_ret
  refine ⟨w1.heap.size, rfl, ⟨_, heap_alloc_new w1 _, hown.alloc _, fun k e => (hown.lt k e).2⟩, hb.size, by simp, hb.alloc hb.size _⟩
end Go.Proofs.Ytiodfpaifkcmoaa
