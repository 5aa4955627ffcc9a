/- The law OctetReads, walked: it answers true for all bytes and scripts within the reach, and turns nothing that was there. -/
import Derived.Test.YtiodfpaifkcmoaaReadsKeep
import Derived.Test.YtiodfpaifkcmoaaApart
import Derived.Test.YtiodfpaifkcmoaaMarks
namespace Go.Proofs.Ytiodfpaifkcmoaa
open Go.RowKit

theorem lent_pre {w : World} {p : Option Addr} {c : Nat} {l : List Int} (h : HB w (.slice p (l.length + 70) c) (lent l)) (hc : l.length ≤ c) : HB w (.slice p l.length c) l := by
  have hll := lent_length l
  have h2 : HB w (.slice p (lent l).length c) (lent l) := by rw [hll]; exact h
  have h3 := h2.sliced 0 l.length c (Nat.zero_le _) (by rw [hll]; omega) hc (Nat.le_refl _)
  rw [lent_take] at h3
  have e : (if c = 0 then p else p.map (·.add 0)) = p := by
    split
    · rfl
    · cases p <;> simp [Addr.add]
  rw [e] at h3
  simpa using h3

theorem HB5.low {q B : Nat} {w w' : World} {v : Value} {l : List Int} (h : HB5 q w v l) (hb : Below B w w') (hq : q ≤ B) : HB5 q w' v l := by
  by_cases hl : l = []
  · subst hl
    obtain ⟨⟨⟨p, c, rfl, h2, h3, h6, h4⟩, h5⟩, h7⟩ := h
    exact ⟨⟨⟨p, c, rfl, h2, h3, h6, fun h => absurd rfl h⟩, h5⟩, fun h => absurd rfl h⟩
  · obtain ⟨⟨⟨p, c, rfl, h2, h3, h6, h4⟩, h5⟩, h7⟩ := h
    obtain ⟨b, off, rfl, hh⟩ := h4 hl
    obtain ⟨hb1, cur, fz, hcur⟩ := h7 hl _ _ _ rfl
    have hbb := hb.block b (Nat.lt_of_lt_of_le hb1 hq)
    refine ⟨⟨⟨_, c, rfl, h2, h3, h6, fun _ => ⟨b, off, rfl, fun j hj => (World.cell?_of_block (a := ⟨b, off + j, none⟩) hbb).trans (hh j hj)⟩⟩, h5⟩, fun _ a n c e => ?_⟩
    cases e
    exact ⟨hb1, cur, fz, hbb.trans hcur⟩

theorem Pair.low {B : Nat} {w w' : World} {g h : Nat} {f : Bool} {l m : List Int} (p : Pair w g h f l m) (hb : Below B w w') (hg : g < B) (hh : h < B) : Pair w' g h f l m := by
  obtain ⟨⟨v, h1, h2⟩, ⟨v', h3, h4⟩, h5⟩ := p
  exact ⟨⟨v, (hb.block g hg).trans h1, h2.low hb (Nat.le_of_lt hg)⟩, ⟨v', (hb.block h hh).trans h3, h4.low hb (Nat.le_of_lt hh)⟩, h5⟩

/-- A pair as it is made. -/
theorem Pair.made {w : World} {g : Nat} {l : List Int} {C : Nat} {v : Value} (hr : RD w g true false l) (ho : w.ownsRow C 5 1 v l.length (l.map (Value.int .u8))) (hx : ∀ x ∈ l, 0 ≤ x ∧ x < 256) (hl : l.length ≤ 140737488351232) : Pair (w.alloc (.cells #[v, .bool false] 66)) g w.heap.size false l l :=
  ⟨hr.away (World.grownBy_alloc w _ none) (fun k e => by cases e), ⟨v, heap_alloc_new w _, (HB5.of_own ho hx (fun k e => (ho.lt k e).2)).grown (World.grownBy_alloc w _ none) (fun k e => by cases e)⟩, fun _ => rfl, (fun e => by cases e), hl, hl⟩

theorem told_none {B : Nat} {w : World} {G : Nat} (h1 : B ≤ G) (h2 : w.heap[G]? = some (.cells #[.slice none 0 0] 29 (0, 0))) : Told B w G (.slice none 0 0) [] [] :=
  ⟨h1, h2, World.ownsRow_nil _ _ _ _, ⟨rfl, fun k hk => by simp at hk, fun i j hi => by simp at hi⟩, fun j => ⟨by simp, fun x hx => by simp at hx⟩⟩

theorem Told.hv {B : Nat} {w : World} {G : Nat} {gv : Value} {gl : List Value} {ls : List (List Int)} (t : Told B w G gv gl ls) : HV w gv gl := by
  obtain ⟨_, _, h2, h3, _⟩ := t
  have hl := h3.1
  have hbt := own_BT h2
  rcases h2.2 with ⟨rfl, e0⟩ | ⟨g, cap, cur, rfl, hbg, hg, hnc, hcm, hcs, htake⟩
  · have : gl = [] := List.length_eq_zero_iff.1 (by omega)
    subst this
    exact ⟨none, 0, rfl, Nat.le_refl _, Nat.zero_le _, fun h => absurd rfl h⟩
  · refine ⟨some ⟨g, 0, none⟩, cap, by rw [hl], by omega, hcm, fun _ => ⟨g, 0, rfl, hbt g rfl, fun k hk => ?_⟩⟩
    have := h2.cells (g := g) rfl k (gl.getD k undef) (by rw [List.getElem?_eq_getElem hk]; simp [List.getD, List.getElem?_eq_getElem hk])
    rw [Addr.add_mid] at this
    exact this

theorem Told.hl {B : Nat} {w : World} {G : Nat} {gv : Value} {gl : List Value} {ls : List (List Int)} (t : Told B w G gv gl ls) : HL w gv ls := by
  obtain ⟨_, _, h2, h3, h4⟩ := id t
  have hl := h3.1
  obtain ⟨p, c, e, hlc, hm, hc⟩ := t.hv
  have hp : p = none → c = 0 := by
    intro e0
    subst e0
    rcases h2.2 with ⟨e1, _⟩ | ⟨g, cap, cur, e1, _⟩
    · rw [e] at e1
      simp at e1
      exact e1.2
    · rw [e] at e1
      simp at e1
  refine ⟨p, c, by rw [e, hl], by omega, hm, hp, fun hne => ?_⟩
  obtain ⟨b, off, e1, _, hcell⟩ := hc (by intro e0; subst e0; apply hne; exact List.length_eq_zero_iff.1 (by simpa using hl.symm))
  exact ⟨b, off, e1, fun j hj => ⟨_, hcell j (by omega), HB.of_own (h3.2.1 j (by omega)) (h4 j).2⟩⟩

theorem RS.made {w0 w : World} {g h g2 h2 G H : Nat} {f f2 : Bool} {l m l2 m2 : List Int} (p : Pair w g h f l m) (q : Pair w g2 h2 f2 l2 m2) (hb : Below w0.heap.size w0 w) (hG : G = w.heap.size) (hH : H = w.heap.size + 1) :
    RS G ((w.alloc (.cells #[.slice none 0 0] 29)).alloc (.cells #[.slice none 0 0] 29)) g h g2 h2 G H 0 := by
  subst hG hH
  have g1 := World.grownBy_alloc w (.cells #[.slice none 0 0] 29) none
  have g3 := World.grownBy_alloc (w.alloc (.cells #[.slice none 0 0] 29)) (.cells #[.slice none 0 0] 29) none
  have hsz := hb.size
  refine ⟨_, _, f2, l2, m2, ⟨f, l, m, [], [], [], (p.away g1 (fun k e => by cases e)).away g3 (fun k e => by cases e), told_none (Nat.le_refl _) (heap_alloc2_old _ _ _), told_none (by omega) (heap_alloc2_new _ _ _), by omega, fun k e => by simp [Value.ownBlock] at e, by simp; omega, by simp⟩, (q.away g1 (fun k e => by cases e)).away g3 (fun k e => by cases e)⟩

set_option maxHeartbeats 4000000 in
theorem reads_walk (w : World) (va vb vt : Value) (la lb : List Int) (ts : List (Int × Int × Int)) (ha : HB w va la) (hb : HB w vb lb) (ht : HT w vt ts) (hla : la.length ≤ 140737488351232) (hlb : lb.length ≤ 140737488351232) (hlt : ts.length ≤ 5864062014634) :
    Calls Try.prog 7 #[va, vb, vt] w fun e w' => e = .returned (.bool true) ∧ Below w.heap.size w w' := by
  obtain ⟨pa, ca, ea, _, hma⟩ := ha.open
  obtain ⟨pb, cb, eb, _, hmb⟩ := hb.open
  have HA := hid ha
  have HBb := hid hb
  obtain ⟨pt, ct, et, hct, hmt, hcl⟩ := ht
  have HC : Hid (0 < ts.length → _) := fun h0 => hcl (by intro e; subst e; simp at h0)
  have HAy := hid ha.2
  have HBy := hid hb.2
  clear ha hb hcl
  subst ea eb et
  unfold maxLen at hma hmb hmt
  have sz := size_u8
  go_enter Try.func7, Try.ntmps7
  go_wp2_with fail
  refine (lent_any w _ la HA.out (by omega)).mono ?_
  rintro e w1 ⟨vx, rfl, hox, hB1⟩
  obtain ⟨px, cx, ex⟩ := own_slice hox
  rw [lent_length] at ex
  subst ex
  have OX := hid hox
  have B1 := hid hB1
  clear hox hB1
  go_wp2_with fail
  refine (lent_any w1 _ lb (HBb.out.below B1.out) (by omega)).mono ?_
  rintro e w2 ⟨vy, rfl, hoy, hB2⟩
  obtain ⟨py, cy, ey⟩ := own_slice hoy
  rw [lent_length] at ey
  subst ey
  have OY := hid hoy
  have OX2 := hid (own_low OX.out (grown_below (r := none) hB2) (fun k e => by cases e))
  have B2 := hid (B1.out.trans (hB2.mono B1.out.size))
  have hXlt : ∀ k, (Value.slice px (la.length + 70) cx).ownBlock = some k → w.heap.size ≤ k ∧ k < w1.heap.size := OX.out.lt
  have hYlt : ∀ k, (Value.slice py (lb.length + 70) cy).ownBlock = some k → w1.heap.size ≤ k ∧ k < w2.heap.size := OY.out.lt
  have hs12 := hB2.size
  have hs01 := B1.out.size
  have HXlt := hid hXlt
  have HYlt := hid hYlt
  have FX := hid (HB.of_own OX2.out (lent_byt HAy.out))
  have FY := hid (HB.of_own OY.out (lent_byt HBy.out))
  have hcx : la.length ≤ cx := by
    obtain ⟨p, c, e, h1, _⟩ := FX.out.open
    rw [lent_length] at e h1
    cases e
    omega
  have hcy : lb.length ≤ cy := by
    obtain ⟨p, c, e, h1, _⟩ := FY.out.open
    rw [lent_length] at e h1
    cases e
    omega
  have PX := hid (lent_pre FX.out hcx)
  have PY := hid (lent_pre FY.out hcy)
  clear hoy hB2 hXlt hYlt
  go_wp2_with fail
  refine (newReader_own w2 _ la PX.out (by omega)).mono ?_
  rintro e w3 ⟨g, rfl, hr3, hg3, hg3', hB3⟩
  have R3 := hid hr3
  have B3 := hid (B2.out.trans (hB3.mono B2.out.size))
  have OX3 := hid (own_low OX2.out (grown_below (r := none) hB3) (fun k e => by cases e))
  have OY3 := hid (own_low OY.out (grown_below (r := none) hB3) (fun k e => by cases e))
  have PY3 := hid (PY.out.below hB3)
  have hs23 := hB3.size
  clear hr3 hB3 PX PY FX FY OX2 OX OY B1
  go_wp2_with fail
  refine (newReader_own w3 _ lb PY3.out (by omega)).mono ?_
  rintro e w4 ⟨g2, rfl, hr4, hg4, hg4', hB4⟩
  have R4 := hid (R3.out.kept (grown_below (r := none) hB4) (fun k e => by cases e))
  have S4 := hid hr4
  have B4 := hid (B3.out.trans (hB4.mono B3.out.size))
  have OX4 := hid (own_low OX3.out (grown_below (r := none) hB4) (fun k e => by cases e))
  have OY4 := hid (own_low OY3.out (grown_below (r := none) hB4) (fun k e => by cases e))
  have hs34 := hB4.size
  have hgg : g2 ≠ g := by omega
  have FX := hid (HB.of_own OX4.out (lent_byt HAy.out))
  clear hr4 hB4 PY3 OX3 OY3 R3 B2 B3
  go_wp2_with fail
  refine (kept_any w4 _ _ (lent la) la FX.out (HA.out.below B4.out) (by omega)).mono ?_
  rintro e w5 ⟨rfl, hB5⟩
  rw [decide_eq_true rfl]
  have R5 := hid (R4.out.kept (grown_below (r := none) hB5) (fun k e => by cases e))
  have S5 := hid (S4.out.kept (grown_below (r := none) hB5) (fun k e => by cases e))
  have B5 := hid (B4.out.trans (hB5.mono B4.out.size))
  have OX5 := hid (own_low OX4.out (grown_below (r := none) hB5) (fun k e => by cases e))
  have OY5 := hid (own_low OY4.out (grown_below (r := none) hB5) (fun k e => by cases e))
  have hs45 := hB5.size
  have FY := hid (HB.of_own OY5.out (lent_byt HBy.out))
  clear hB5 R4 S4 B4 OX4 OY4 FX
  go_wp2_with fail
  refine (kept_any w5 _ _ (lent lb) lb FY.out (HBb.out.below B5.out) (by omega)).mono ?_
  rintro e w6 ⟨rfl, hB6⟩
  rw [decide_eq_true rfl]
  have R6 := hid (R5.out.kept (grown_below (r := none) hB6) (fun k e => by cases e))
  have S6 := hid (S5.out.kept (grown_below (r := none) hB6) (fun k e => by cases e))
  have B6 := hid (B5.out.trans (hB6.mono B5.out.size))
  have hox6 := own_low OX5.out (grown_below (r := none) hB6) (fun k e => by cases e)
  have hoy6 := own_low OY5.out (grown_below (r := none) hB6) (fun k e => by cases e)
  rw [lent_length] at hox6 hoy6
  have OX6 := hid hox6
  have OY6 := hid hoy6
  have hs56 := hB6.size
  clear hB6 R5 S5 B5 OX5 OY5 FY hox6 hoy6
  go_wp2_with fail
  refine (over_any w6 _ _ _ _ OX6.out (by omega)).mono ?_
  rintro e w7 ⟨rfl, _, hg7⟩
  have R7 := hid (R6.out.kept hg7 (fun k e => ⟨by have := (HXlt.out k e).2; omega, own_BT OX6.out k e⟩))
  have S7 := hid (S6.out.kept hg7 (fun k e => ⟨by have := (HXlt.out k e).2; omega, own_BT OX6.out k e⟩))
  have B7 := hid (B6.out.grown hg7 B6.out.size (fun k e => (HXlt.out k e).1))
  have OY7 := hid (own_low OY6.out hg7 (fun k e => (HXlt.out k e).2))
  have hs67 := hg7.size
  clear hg7 R6 S6 B6 OY6
  go_wp2_with fail
  refine (over_any w7 _ _ _ _ OY7.out (by omega)).mono ?_
  rintro e w8 ⟨rfl, _, hg8⟩
  have R8 := hid (R7.out.kept hg8 (fun k e => ⟨by have := (HYlt.out k e).2; omega, own_BT OY7.out k e⟩))
  have S8 := hid (S7.out.kept hg8 (fun k e => ⟨by have := (HYlt.out k e).2; omega, own_BT OY7.out k e⟩))
  have B8 := hid (B7.out.grown hg8 B7.out.size (fun k e => by have := (HYlt.out k e).1; omega))
  have hs78 := hg8.size
  clear hg8 R7 S7 B7 OY7 OX6
  go_wp2_with fail
  refine (copy_any w8 _ la (HA.out.below B8.out) (by omega)).mono ?_
  rintro e w9 ⟨v9, rfl, ho9, hB9⟩
  obtain ⟨p9, c9, e9⟩ := own_slice ho9
  subst e9
  have O9 := hid ho9
  have R9 := hid (R8.out.kept (grown_below (r := none) hB9) (fun k e => by cases e))
  have S9 := hid (S8.out.kept (grown_below (r := none) hB9) (fun k e => by cases e))
  have B9 := hid (B8.out.trans (hB9.mono B8.out.size))
  have hs89 := hB9.size
  clear ho9 hB9 R8 S8 B8
  have P10 := hid (Pair.made (R9.out.rd HAy.out) O9.out HAy.out hla)
  have S10 := hid ((S9.out.rd HBy.out).away (World.grownBy_alloc w9 (.cells #[.slice p9 la.length c9, .bool false] 66) none) (fun k e => by cases e))
  have B10 := hid (B9.out.alloc B9.out.size (.cells #[.slice p9 la.length c9, .bool false] 66))
  clear R9 S9 O9 B9
  go_wp2_with fail
  obtain ⟨h, hh⟩ : ∃ h, w9.heap.size = h := ⟨_, rfl⟩
  obtain ⟨w10, hW10⟩ : ∃ w10, Hid (w9.alloc (.cells #[.slice p9 la.length c9, .bool false] 66) = w10) := ⟨_, rfl⟩
  have hs10 : w10.heap.size = h + 1 := by rw [← hW10.out, ← hh]; simp
  rw [hh] at hs89 P10 ⊢
  rw [hW10.out] at P10 S10 B10 ⊢
  clear hW10 hh w9
  refine (copy_any w10 _ lb (HBb.out.below B10.out) (by omega)).mono ?_
  rintro e w11 ⟨v11, rfl, ho11, hB11⟩
  obtain ⟨p11, c11, e11⟩ := own_slice ho11
  subst e11
  have P12 := hid ((P10.out.away (grown_below (r := none) hB11) (fun k e => by cases e)).away (World.grownBy_alloc w11 (.cells #[.slice p11 lb.length c11, .bool false] 66) none) (fun k e => by cases e))
  have Q12 := hid (Pair.made (S10.out.away (grown_below (r := none) hB11) (fun k e => by cases e)) ho11 HBy.out hlb)
  have B12 := hid ((B10.out.trans (hB11.mono B10.out.size)).alloc (Nat.le_trans B10.out.size hB11.size) (.cells #[.slice p11 lb.length c11, .bool false] 66))
  have hs1011 := hB11.size
  clear ho11 hB11 P10 S10 B10
  have S13 := hid (RS.made (G := w11.heap.size + 1) (H := w11.heap.size + 1 + 1) P12.out Q12.out B12.out (by simp) (by simp))
  have B13 := hid ((B12.out.alloc B12.out.size (.cells #[.slice none 0 0] 29)).alloc (by have := B12.out.size; simp at this ⊢; omega) (.cells #[.slice none 0 0] 29))
  obtain ⟨h2, hh2⟩ : ∃ h2, Hid (w11.heap.size = h2) := ⟨_, rfl⟩
  have hhh : h2 ≠ h := by rw [← hh2.out]; omega
  have hs2 : h ≤ h2 := by rw [← hh2.out]; omega
  obtain ⟨W0, hW0⟩ : ∃ W0, Hid (((w11.alloc (.cells #[.slice p11 lb.length c11, .bool false] 66)).alloc (.cells #[.slice none 0 0] 29)).alloc (.cells #[.slice none 0 0] 29) = W0) := ⟨_, rfl⟩
  go_wp2
  rw [hh2.out] at S13 ⊢
  rw [hW0.out] at S13 B13 ⊢
  clear hW0 hh2 P12 Q12 B12 hs1011
  go_loopw [15] (fun i wr => ∃ I : Nat, I ≤ ts.length ∧ i = .int .i64 I ∧ Hid (RS (h2 + 1) wr g h g2 h2 (h2 + 1) (h2 + 1 + 1) I) ∧ Hid (Below w.heap.size w wr)) (fun i _ => ts.length - (intOf i).toNat)
  case atStart => exact ⟨0, Nat.zero_le _, rfl, S13, B13⟩
  case round =>
    clear S13 B13
    obtain ⟨I, hI, rfl, HS, HBl⟩ := hrel
    by_cases hlt : I < ts.length
    · obtain ⟨b, off, rfl, hh⟩ := HC.out (by omega)
      obtain ⟨hc0, hc1, hc2⟩ := hh I hlt
      obtain ⟨on, k, n, HNn⟩ : ∃ on k n, Hid (ts.getD I (0, 0, 0) = (on, k, n)) := ⟨_, _, _, rfl⟩
      rw [HNn.out] at hc0 hc1 hc2
      have hlt0 := World.block_lt_of_cell? w _ hc0
      have hd0 : wr.cell? ⟨b, off + I * 3, none⟩ = some (.int .i64 on) := (HBl.out.cell (p := ⟨b, off + I * 3, none⟩) hlt0).trans hc0
      have hd1 : wr.cell? ⟨b, off + I * 3 + 1, none⟩ = some (.int .i64 k) := (HBl.out.cell (p := ⟨b, off + I * 3 + 1, none⟩) hlt0).trans hc1
      have hd2 : wr.cell? ⟨b, off + I * 3 + 2, none⟩ = some (.int .i64 n) := (HBl.out.cell (p := ⟨b, off + I * 3 + 2, none⟩) hlt0).trans hc2
      clear hh hc0 hc1 hc2 hlt0
      have hI32 : I ≤ 5864062014634 := by omega
      go_wp2_with fail
      refine (pick2_any wr on).mono ?_
      rintro e wz ⟨⟨pk, rfl⟩, hw⟩
      have hw' := hw.symm
      subst hw'
      clear hw
      by_cases hp : pk = 0
      · subst hp
        go_wp2_with fail
        refine (HS.out.take hI32 hgg hhh (by omega) (by omega) (by omega) HBl.out on k n).mono ?_
        rintro e w2' ⟨rfl, hs', hb'⟩
        have HS' := hid hs'
        have HB' := hid hb'
        clear hs' hb'
        go_wp2
        exact ⟨⟨I + 1, by omega, by go_num, HS', HB'⟩, by simp [intOf]; omega⟩
      · have hp' : (pk == 0) = false := by simpa using hp
        go_wp2_with fail
        refine (HS.out.turn.take hI32 (Ne.symm hgg) (Ne.symm hhh) (by omega) (by omega) (by omega) HBl.out on k n).mono ?_
        rintro e w2' ⟨rfl, hs', hb'⟩
        have HS' := hid hs'.turn
        have HB' := hid hb'
        clear hs' hb'
        go_wp2
        exact ⟨⟨I + 1, by omega, by go_num, HS', HB'⟩, by simp [intOf]; omega⟩
    · obtain ⟨gv, hv, f2, l2, m2, ⟨f, l, m, gl, hl, ls, s1, s2, s3, s4, s5, s6, s7⟩, q⟩ := HS.out
      obtain ⟨cG, _⟩ := one_cell s2.2.1
      obtain ⟨cH, _⟩ := one_cell s3.2.1
      have P1 := hid s1
      have P2 := hid q
      have TG := hid s2
      have TH := hid s3
      obtain ⟨pg, cg, eg⟩ := own_slice s2.2.2.1
      obtain ⟨ph, ch, eh⟩ := own_slice s3.2.2.1
      subst eg eh
      clear s1 q s2 s3 HS
      go_wp2_with fail
      refine (sameLists_any wr _ _ ls ls TG.out.hl TH.out.hl).mono ?_
      rintro e wa ⟨rfl, hd⟩
      rw [decide_eq_true rfl]
      have gd := hd.grownBy
      have TGa := hid (TG.out.away gd (fun k e => by cases e))
      have P1a := hid (P1.out.away gd (fun k e => by cases e))
      have P2a := hid (P2.out.away gd (fun k e => by cases e))
      have Ba := hid (HBl.out.trans (hd.below _))
      obtain ⟨cGa, _⟩ := one_cell TGa.out.2.1
      have hsa := gd.size
      clear hd gd TG TH P1 P2 HBl
      go_wp2_with fail
      refine (apart_any (h2 + 1) wa _ gl ls TGa.out.hv TGa.out.2.2.2.1 (by omega) (by have := TGa.out.2.2.2.1.1; omega) (fun k => by have := (TGa.out.2.2.2.2 k).1; omega)).mono ?_
      rintro e wc ⟨rfl, hBc⟩
      have P1c := hid (P1a.out.low hBc (by omega) (by omega))
      have P2c := hid (P2a.out.low hBc (by omega) (by omega))
      have Bc := hid (Ba.out.trans (hBc.mono (by omega)))
      have e1 := P1c.out.left
      have e2 := P2c.out.left
      have q1 : ((l.length : Int) == (l.length : Int)) = true := by simp
      have q2 : ((l2.length : Int) == (l2.length : Int)) = true := by simp
      have L1 := hid (left_any wc g _ f l P1c.out.1)
      have L2 := hid (left_any wc g2 _ f2 l2 P2c.out.1)
      have hM1 := rleft_any wc h f m P1c.out.2.1
      have hM2 := rleft_any wc h2 f2 m2 P2c.out.2.1
      rw [e1] at hM1
      rw [e2] at hM2
      have M1 := hid hM1
      have M2 := hid hM2
      clear hBc TGa P1a P2a Ba cGa hsa e1 e2 hM1 hM2 cG cH
      go_wp2_with fail
      refine L1.out.mono ?_
      rintro e wz ⟨rfl, hw⟩
      have hw' := hw.symm
      subst hw'
      clear hw
      go_wp2_with fail
      refine M1.out.mono ?_
      rintro e wz ⟨rfl, hw⟩
      have hw' := hw.symm
      subst hw'
      clear hw
      go_wp2_with fail
      refine L2.out.mono ?_
      rintro e wz ⟨rfl, hw⟩
      have hw' := hw.symm
      subst hw'
      clear hw
      go_wp2_with fail
      refine M2.out.mono ?_
      rintro e wz ⟨rfl, hw⟩
      have hw' := hw.symm
      subst hw'
      clear hw
      go_wp2_with fail
      refine L1.out.mono ?_
      rintro e wz ⟨rfl, hw⟩
      have hw' := hw.symm
      subst hw'
      clear hw
      go_wp2_with fail
      obtain ⟨x, HX⟩ : ∃ x, Hid (taken l (l.length : Int) = x) := ⟨_, rfl⟩
      have hgh : g ≠ h := P1c.out.1.block.ne P1c.out.2.1.block (by decide)
      have hgh2 : g ≠ h2 := P1c.out.1.block.ne P2c.out.2.1.block (by decide)
      have hhg2 : h ≠ g2 := P1c.out.2.1.block.ne P2c.out.1.block (by decide)
      refine (bytes_any wc g f l (l.length : Int) P1c.out.1 (by have := P1c.out.2.2.2.2.1; omega)).mono ?_
      rintro e wd ⟨v1, B1, rfl, ho1, hB1, hb1, hr1, hg1⟩
      rw [HX.out] at ho1 hb1
      have RRd := hid (P1c.out.2.1.other hg1 (fun k e => by cases e; exact ⟨hgh, _, P1c.out.1.block, by decide⟩))
      have P2d := hid (P2c.out.away hg1 (fun k e => by cases e; exact ⟨Ne.symm hgg, hgh2, _, P1c.out.1.block, by decide⟩))
      have R1 := hid hr1
      have O1 := hid ho1
      have BY := hid hb1.2
      have Bd := hid (Bc.out.grown hg1 Bc.out.size (fun k e => by cases e; omega))
      obtain ⟨p1, c1, e1, _, _⟩ := hb1.open
      subst e1
      have hM := rleft_any wd h f m RRd.out
      rw [P1c.out.left] at hM
      have M3 := hid hM
      have hsame := (P1c.out.same (l.length : Int)).1
      rw [HX.out] at hsame
      have HSM := hid hsame
      clear hsame hM hb1 hr1 hg1 ho1 L1 L2 M1 M2
      go_wp2_with fail
      refine M3.out.mono ?_
      rintro e wz ⟨rfl, hw⟩
      have hw' := hw.symm
      subst hw'
      clear hw
      go_wp2_with fail
      refine (rbytes_any wd h f m (l.length : Int) RRd.out (by have := P1c.out.2.2.2.2.2; omega)).mono ?_
      rintro e we ⟨v2, rfl, ho2, hb2, hr2, hg2⟩
      rw [HSM.out] at ho2 hb2
      obtain ⟨p2, c2, e2, _, _⟩ := hb2.open
      subst e2
      have hre : RD we g true (f || !okTake l (l.length : Int)) (leftAt l (l.length : Int)) := R1.out.away hg2 (fun k e => by cases e; exact ⟨Ne.symm hgh, _, RRd.out.block, by decide⟩)
      obtain ⟨f', l', m', hp⟩ := P1c.out.step (l.length : Int) hre hr2
      have P1e := hid hp
      have P2e := hid (P2d.out.away hg2 (fun k e => by cases e; exact ⟨hhg2, Ne.symm hhh, _, RRd.out.block, by decide⟩))
      have HB1e : Hid (HB we (.slice p1 x.length c1) x) := by
        obtain ⟨cur, fz, hb⟩ := RRd.out.block
        exact HB.of_own (O1.out.kept hg2 (.inr (own_block_ne O1.out hb (by decide)))) BY.out
      have HB2e := hid hb2
      have Be := hid (Bd.out.grown hg2 Bd.out.size (fun k e => by cases e; omega))
      clear ho2 hb2 hr2 hg2 hre hp P1c P2c P2d O1 R1 RRd M3 Bc Bd
      go_wp2_with fail
      refine (sameBytes_any we _ _ x x HB1e.out HB2e.out).mono ?_
      rintro e wf ⟨rfl, hd⟩
      rw [decide_eq_true rfl]
      have P1f := hid (P1e.out.away hd.grownBy (fun k e => by cases e))
      have P2f := hid (P2e.out.away hd.grownBy (fun k e => by cases e))
      have Bf := hid (Be.out.trans (hd.below _))
      have E1 := hid (end_any wf g _ f' l' P1f.out.1)
      have E2 := hid (end_any wf g2 _ f2 l2 P2f.out.1)
      have hN1 := rend_any wf h f' m' P1f.out.2.1
      have hN2 := rend_any wf h2 f2 m2 P2f.out.2.1
      rw [P1f.out.ends] at hN1
      rw [P2f.out.ends] at hN2
      obtain ⟨z1, HZ1⟩ : ∃ z, Hid (endNo true f' l' = z) := ⟨_, rfl⟩
      obtain ⟨z2, HZ2⟩ : ∃ z, Hid (endNo true f2 l2 = z) := ⟨_, rfl⟩
      rw [HZ1.out] at E1 hN1
      rw [HZ2.out] at E2 hN2
      have N1 := hid hN1
      have N2 := hid hN2
      have q3 : (z1 == z1) = true := by simp
      have q4 : (z2 == z2) = true := by simp
      clear hd hN1 hN2 P1e P2e Be HB1e HB2e
      go_wp2_with fail
      refine E1.out.mono ?_
      rintro e wz ⟨rfl, hw⟩
      have hw' := hw.symm
      subst hw'
      clear hw
      go_wp2_with fail
      refine N1.out.mono ?_
      rintro e wz ⟨rfl, hw⟩
      have hw' := hw.symm
      subst hw'
      clear hw
      go_wp2_with fail
      refine E2.out.mono ?_
      rintro e wz ⟨rfl, hw⟩
      have hw' := hw.symm
      subst hw'
      clear hw
      go_wp2_with fail
      refine N2.out.mono ?_
      rintro e wz ⟨rfl, hw⟩
      have hw' := hw.symm
      subst hw'
      clear hw
      go_wp2
      go_ret
      exact ⟨rfl, Bf.out⟩
end Go.Proofs.Ytiodfpaifkcmoaa
