/- Of the road to wireCallsUpto_holds: WrMay, WrF. -/
import Derived.Test.YtgjadpidoaianaaG01
set_option linter.unusedVariables false
set_option linter.unusedSimpArgs false
namespace Go.Proofs.Ytgjadpidoaianaa
open Go Go.RowKit
def plB (t : Int) : Bool := decide (0 ≤ t ∧ t ≤ 33554432)
def flB (t : Int) : Bool := decide (1 ≤ t ∧ t ≤ 131072)
set_option maxRecDepth 100000 in
set_option maxHeartbeats 4000000 in
theorem isNumber_any (w : World) (t : Int) : Calls Try.prog 51 #[.int .i64 t] w fun e w' => e = .returned (.bool (nbB t)) ∧ w' = w := by
  go_enter Try.func51, Try.ntmps51
  go_wp2
  all_goals go_ret
  all_goals (refine ⟨?_, rfl⟩; simp [nbB]; try omega)
set_option maxRecDepth 100000 in
set_option maxHeartbeats 4000000 in
theorem isTick_any (w : World) (t : Int) : Calls Try.prog 52 #[.int .i64 t] w fun e w' => e = .returned (.bool (tkB t)) ∧ w' = w := by
  go_enter Try.func52, Try.ntmps52
  go_wp2
  all_goals go_ret
  all_goals (refine ⟨?_, rfl⟩; simp [tkB]; try omega)
set_option maxRecDepth 100000 in
set_option maxHeartbeats 4000000 in
theorem isAt_any (w : World) (t : Int) : Calls Try.prog 54 #[.int .i64 t] w fun e w' => e = .returned (.bool (plB t)) ∧ w' = w := by
  go_enter Try.func54, Try.ntmps54
  go_wp2
  all_goals go_ret
  all_goals (refine ⟨?_, rfl⟩; simp [plB]; try omega)
set_option maxRecDepth 100000 in
set_option maxHeartbeats 4000000 in
theorem isShareLen_any (w : World) (t : Int) : Calls Try.prog 53 #[.int .i64 t] w fun e w' => e = .returned (.bool (plB t)) ∧ w' = w := by
  go_enter Try.func53, Try.ntmps53
  go_wp2
  all_goals go_ret
  all_goals (refine ⟨?_, rfl⟩; simp [plB]; try omega)
set_option maxRecDepth 100000 in
set_option maxHeartbeats 4000000 in
theorem isFetchLen_any (w : World) (t : Int) : Calls Try.prog 55 #[.int .i64 t] w fun e w' => e = .returned (.bool (flB t)) ∧ w' = w := by
  go_enter Try.func55, Try.ntmps55
  go_wp2
  all_goals go_ret
  all_goals (refine ⟨?_, rfl⟩; simp [flB]; try omega)
set_option maxRecDepth 100000 in
set_option maxHeartbeats 4000000 in
theorem mayReq_any (w : World) (r : Rq) (hr : r.ok) (p : Option Addr) (n c : Nat) : Calls Try.prog 36 #[.agg (rqA r (.slice p n c))] w fun e w' => e = .returned (.bool (mayB r n)) ∧ Below w.heap.size w w' := by
  have C1 := hid isNumber_any
  have C2 := hid isTick_any
  have C3 := hid isAt_any
  have C4 := hid isShareLen_any
  have C5 := hid isFetchLen_any
  have q0 : (rqA r (.slice p n c))[0]? = some (.int .u8 r.k) := rfl
  have q17 := rqA_17 hr (.slice p n c)
  have q18 := rqA_18 hr (.slice p n c)
  have q19 := rqA_19 hr (.slice p n c)
  have q20 := rqA_20 hr (.slice p n c)
  have q21 := rqA_21 hr (.slice p n c)
  have q22 := rqA_22 hr (.slice p n c)
  have HS := hid (rqA_size hr (.slice p n c))
  obtain ⟨m, HM⟩ : ∃ x, Hid (rqA r (.slice p n c) = x) := ⟨_, rfl⟩
  rw [HM.out] at HS q0 q17 q18 q19 q20 q21 q22 ⊢
  have E : Hid (mayB r n = mayB r n) := rfl
  obtain ⟨k, ix, nb, pl, ln, who, til⟩ := r
  simp only at q0 q17 q18 q19 q20 q21 q22
  generalize hM : mayB ⟨k, ix, nb, pl, ln, who, til⟩ n = M
  have HMM := hid hM
  clear hM HM hr E
  have heq := run_eql_lease
  have HB := hid fun q => bel_drewN ((Below.refl w.heap.size w).alloc (Nat.le_refl _) (.cells m 38)) q
  cases hb : (pl == 0) <;> (
    go_enter Try.func36, Try.ntmps36
    go_wp2_with fail
    go_quiet (fail)
    go_wp2_with fail
    go_quiet (fail)
    go_wp2_with (first | (go_at_call 51; refine (C1.out _ _).mono ?_; rintro e w' ⟨rfl, hw'⟩; subst hw') | (go_at_call 52; refine (C2.out _ _).mono ?_; rintro e w' ⟨rfl, hw'⟩; subst hw') | (go_at_call 54; refine (C3.out _ _).mono ?_; rintro e w' ⟨rfl, hw'⟩; subst hw') | (go_at_call 53; refine (C4.out _ _).mono ?_; rintro e w' ⟨rfl, hw'⟩; subst hw') | (go_at_call 55; refine (C5.out _ _).mono ?_; rintro e w' ⟨rfl, hw'⟩; subst hw'))
    all_goals go_ret
    all_goals (refine ⟨?_, HB.out _⟩; rw [← HMM.out]; clear HB HMM C1 C2 C3 C4 C5 HS q0 q17 q18 q19 q20 q21 q22 heq; simp_all [mayB, nat0, stB, plB, flB]; try omega))
def RG (R g : Nat) : Nat → Prop := fun k => k = R ∨ k = g
structure BR (w : World) (R g : Nat) (T : TypeId) (cs : List Value) (f : Bool) (l : List Int) : Prop where
  blk : w.heap[R]? = some (.cells cs.toArray T (0, 0))
  rd : RD w g true f l
def TOk (T : TypeId) : Prop := T ≠ 5 ∧ T ≠ 109
theorem heap_setC {w : World} {b : Nat} {cs : List Value} {T : TypeId} (h : w.heap[b]? = some (.cells cs.toArray T (0, 0))) (i : Nat) (v : Value) :
    (w.setCell ⟨b, i, none⟩ v).heap[b]? = some (.cells (cs.set i v).toArray T (0, 0)) := by
  simp [World.setCell, Array.getElem?_modify, h]
theorem BR.ne {w : World} {R g : Nat} {T : TypeId} {cs : List Value} {f : Bool} {l : List Int} (h : BR w R g T cs f l) (hT : TOk T) : R ≠ g := by
  intro e
  obtain ⟨v, hb, _⟩ := h.rd
  have := h.blk
  rw [e, hb] at this
  simp only [Option.some.injEq, Obj.cells.injEq] at this
  exact hT.2 this.2.1.symm
theorem BR.cell {w : World} {R g : Nat} {T : TypeId} {cs : List Value} {f : Bool} {l : List Int} (h : BR w R g T cs f l) {i : Nat} {v : Value} (hv : cs[i]? = some v) : w.cell? ⟨R, i, none⟩ = some v := by
  simp [World.cell?, h.blk, hv]
theorem BR.free {w : World} {R g : Nat} {T : TypeId} {cs : List Value} {f : Bool} {l : List Int} (h : BR w R g T cs f l) (i : Nat) : w.frozen? ⟨R, i, none⟩ = false := by
  simp [World.frozen?, h.blk]
theorem RD.ex {w w' : World} {g : Nat} {m f : Bool} {l : List Int} {S : Nat → Prop} (h : RD w g m f l) (hE : Ex S w w') (hg : ¬ S g) (hS : ∀ k, S k → k < w.heap.size → ∃ cur e fz, w.heap[k]? = some (.cells cur e fz) ∧ 5 ≠ e) : RD w' g m f l := by
  obtain ⟨v, hblk, hv⟩ := h
  have hlt := (Array.getElem?_eq_some_iff.1 hblk).1
  refine ⟨v, (hE.block g hlt hg).trans hblk, ?_⟩
  by_cases hl : l = []
  · subst hl
    obtain ⟨⟨⟨p, c, rfl, h2, h3, h6, h4⟩, h5⟩, h7⟩ := hv
    exact ⟨⟨⟨p, c, rfl, h2, h3, h6, fun h => absurd rfl h⟩, h5⟩, fun h => absurd rfl h⟩
  · obtain ⟨⟨⟨p, c, rfl, h2, h3, h6, h4⟩, h5⟩, h7⟩ := hv
    obtain ⟨b, off, rfl, hh⟩ := h4 hl
    obtain ⟨hq, cur, fz, hcur⟩ := h7 hl _ _ _ rfl
    simp only at hq hcur
    have hb2 : b < w.heap.size := (Array.getElem?_eq_some_iff.1 hcur).1
    have hnS : ¬ S b := fun q => by
      obtain ⟨cur', e', fz', hc', hne⟩ := hS b q hb2
      rw [hcur] at hc'
      simp only [Option.some.injEq, Obj.cells.injEq] at hc'
      exact hne hc'.2.1
    have he := hE.block b hb2 hnS
    refine ⟨⟨⟨_, c, rfl, h2, h3, h6, fun _ => ⟨b, off, rfl, fun j hj => ?_⟩⟩, h5⟩, fun _ a n c e => ?_⟩
    · rw [← hh j hj]; simp only [World.cell?, he]
    · cases e
      exact ⟨hq, cur, fz, he.trans hcur⟩
theorem BR.put {w w1 : World} {R g : Nat} {T : TypeId} {cs : List Value} {f f' : Bool} {l l' : List Int} (h : BR w R g T cs f l) (hT : TOk T) (hg : w.grownBy w1 (some g)) (hr : RD w1 g true f' l') (i : Nat) (v : Value) :
    BR (w1.setCell ⟨R, i, none⟩ v) R g T (cs.set i v) f' l' ∧ Ex (RG R g) w (w1.setCell ⟨R, i, none⟩ v) := by
  have hne := h.ne hT
  have hlt := (Array.getElem?_eq_some_iff.1 h.blk).1
  have hb1 : w1.heap[R]? = some (.cells cs.toArray T (0, 0)) := (hg.block R hlt (by simpa using hne)).trans h.blk
  have hE : Ex (RG R g) w w1 := Ex.grown hg (fun k e => .inr (by simpa using e.symm))
  refine ⟨⟨heap_setC hb1 i v, hr.ex (S := fun k => k = R) ((Ex.refl (fun k => k = R) w1).setCell (x := R) rfl v) (fun e => hne e.symm) (fun k e _ => ?_)⟩, hE.setCell (.inl rfl) v⟩
  subst e
  exact ⟨_, _, _, hb1, fun e => hT.1 e.symm⟩
theorem BR.still {w w1 : World} {R g : Nat} {T : TypeId} {cs : List Value} {f f' : Bool} {l l' : List Int} (h : BR w R g T cs f l) (hT : TOk T) (hg : w.grownBy w1 (some g)) (hr : RD w1 g true f' l') : BR w1 R g T cs f' l' :=
  ⟨(hg.block R (Array.getElem?_eq_some_iff.1 h.blk).1 (by simpa using h.ne hT)).trans h.blk, hr⟩
theorem BR.dr {w : World} {R g : Nat} {T : TypeId} {cs : List Value} {f : Bool} {l : List Int} (h : BR w R g T cs f l) (q : Nat) : BR (w.drewN q) R g T cs f l := ⟨h.blk, h.rd.ex (S := fun _ => False) ((Ex.refl _ _).drewN q) (fun e => e) (fun _ e _ => e.elim)⟩
structure QS where
  f : Bool
  l : List Int
  r : Rq
  sz : Int
def qrL (g n : Nat) (r : Rq) (v : Value) (sz : Int) : List Value := .pointer (some ⟨g, 0, none⟩) :: .int .i64 (n : Int) :: (rqL r v ++ [.int .i64 sz])
abbrev TQ : TypeId := 83
theorem TQ_ok : TOk TQ := ⟨by decide, by decide⟩
def QR (w : World) (R g n : Nat) (s : QS) : Prop := BR w R g TQ (qrL g n s.r (.slice none 0 0) s.sz) s.f s.l ∧ s.r.ok ∧ 0 ≤ s.sz ∧ s.sz < 4294967296
def QS.adv (s : QS) (n : Int) : QS := { s with f := s.f || !okTake s.l n, l := leftAt s.l n }
def kdB (t : Int) : Bool := decide (1 ≤ t ∧ t ≤ 5)
theorem valL_le (n : Nat) (l : List Int) (h : ∀ x ∈ l, 0 ≤ x ∧ x < 256) : smallNo n l < 256 ^ n := by
  unfold smallNo
  split
  · rename_i e; rw [← e]; exact valL_lt l h
  · exact Nat.pow_pos (by omega)
theorem RD.byt {w : World} {g : Nat} {m f : Bool} {l : List Int} (h : RD w g m f l) : ∀ x ∈ l, 0 ≤ x ∧ x < 256 := by
  obtain ⟨v, _, hv⟩ := h
  exact hv.1.2
theorem taken_byt {l : List Int} (h : ∀ x ∈ l, 0 ≤ x ∧ x < 256) (n : Int) : ∀ x ∈ taken l n, 0 ≤ x ∧ x < 256 := by
  unfold taken
  split
  · exact fun x hx => h x (List.mem_of_mem_take hx)
  · simp
set_option maxRecDepth 100000 in
set_option maxHeartbeats 4000000 in
theorem isRequest_any (w : World) (t : Int) : Calls Try.prog 77 #[.int .u8 t] w fun e w' => e = .returned (.bool (kdB t)) ∧ w' = w := by
  go_enter Try.func77, Try.ntmps77
  go_wp2
  all_goals go_ret
  all_goals (refine ⟨?_, rfl⟩; simp [kdB]; try omega)
def kindF (s : QS) : QS × Bool := ({ s.adv 1 with r := { s.r with k := ((smallNo 1 (taken s.l 1) : Nat) : Int) } }, kdB ((smallNo 1 (taken s.l 1) : Nat) : Int))
set_option maxRecDepth 100000 in
set_option maxHeartbeats 4000000 in
theorem kind_any (w : World) (R g n : Nat) (s : QS) (h : QR w R g n s) :
    Calls Try.prog 62 #[.pointer (some ⟨R, 0, none⟩)] w fun e w' => e = .returned (.bool (kindF s).2) ∧ QR w' R g n (kindF s).1 ∧ Ex (RG R g) w w' := by
  obtain ⟨f, l, r, sz⟩ := s
  obtain ⟨hB, hok, hsz⟩ := h
  simp only at hB hok hsz
  have hx := valL_le 1 (taken l 1) (taken_byt hB.rd.byt 1)
  simp only [kindF, QS.adv]
  have c0 : w.cell? ⟨R, 0, none⟩ = some (.pointer (some ⟨g, 0, none⟩)) := hB.cell rfl
  have C1 := hid (byte_any w g f l hB.rd)
  generalize hX : smallNo 1 (taken l 1) = x at hx C1 ⊢
  clear hX
  obtain ⟨y, HY⟩ : ∃ y : Int, Hid ((x : Int) = y) := ⟨_, hid rfl⟩
  have QE : Hid ((qrL g n r (.slice none 0 0) sz).set 2 (Value.int .u8 y) = qrL g n { r with k := y } (.slice none 0 0) sz) := hid (by
    obtain ⟨k, ix, nb, pl, ln, who, til⟩ := r
    have h16 : ix.length = 16 := hok.1
    simp [qrL, rqL, List.set_append, h16])
  have HB := hid hB
  have HO := hid hok
  have HZ := hid hsz
  have hci : ∃ u, w.cell? ⟨R, 2, none⟩ = some u := ⟨_, hB.cell (List.getElem?_eq_getElem (by simp [qrL, rqL, hok.1]))⟩
  clear hB hok hsz
  go_enter Try.func62, Try.ntmps62
  go_wp2_with fail
  refine C1.out.mono ?_
  rintro e w1 ⟨rfl, hr, hg⟩
  have B1 := HB.out.still TQ_ok hg hr
  have c1 : w1.cell? ⟨R, 2, none⟩ = some ((qrL g n r (.slice none 0 0) sz)[2]'(by simp [qrL, rqL, HO.out.1])) := B1.cell (List.getElem?_eq_getElem _)
  generalize (qrL g n r (.slice none 0 0) sz)[2]'_ = u1 at c1
  have f1 := B1.free 2
  have hwr : (x : Int) = y := HY.out
  obtain ⟨P1, P2⟩ := HB.out.put TQ_ok hg hr 2 (Value.int .u8 y)
  rw [QE.out] at P1
  have HP1 := hid P1
  have HP2 := hid P2
  clear P1 P2 B1 hr hg C1 HB QE hci
  rw [hwr]
  clear hwr
  have C2 := hid (isRequest_any (w1.setCell ⟨R, 2, none⟩ (Value.int .u8 y)) y)
  go_wp2_with (first | rw [hwr] | fail)
  refine C2.out.mono ?_
  rintro e w2 ⟨rfl, hw2⟩
  have hw3 := hw2.symm
  subst hw3
  clear hw2 C2
  go_wp2_with fail
  go_ret
  refine ⟨?_, ⟨?_, ?_, ?_⟩, HP2.out⟩
  · try rw [HY.out]
    rfl
  · rw [HY.out]; exact HP1.out
  · exact HO.out
  · exact HZ.out
def numberF (s : QS) : QS × Bool := ({ s.adv 1 with r := { s.r with nb := ((smallNo 1 (taken s.l 1) : Nat) : Int) } }, nbB ((smallNo 1 (taken s.l 1) : Nat) : Int))
set_option maxRecDepth 100000 in
set_option maxHeartbeats 4000000 in
theorem number_any (w : World) (R g n : Nat) (s : QS) (h : QR w R g n s) :
    Calls Try.prog 79 #[.pointer (some ⟨R, 0, none⟩)] w fun e w' => e = .returned (.bool (numberF s).2) ∧ QR w' R g n (numberF s).1 ∧ Ex (RG R g) w w' := by
  obtain ⟨f, l, r, sz⟩ := s
  obtain ⟨hB, hok, hsz⟩ := h
  simp only at hB hok hsz
  have hx := valL_le 1 (taken l 1) (taken_byt hB.rd.byt 1)
  simp only [numberF, QS.adv]
  have c0 : w.cell? ⟨R, 0, none⟩ = some (.pointer (some ⟨g, 0, none⟩)) := hB.cell rfl
  have C1 := hid (byte_any w g f l hB.rd)
  generalize hX : smallNo 1 (taken l 1) = x at hx C1 ⊢
  clear hX
  obtain ⟨y, HY⟩ : ∃ y : Int, Hid ((x : Int) = y) := ⟨_, hid rfl⟩
  have QE : Hid ((qrL g n r (.slice none 0 0) sz).set 19 (Value.int .i64 y) = qrL g n { r with nb := y } (.slice none 0 0) sz) := hid (by
    obtain ⟨k, ix, nb, pl, ln, who, til⟩ := r
    have h16 : ix.length = 16 := hok.1
    simp [qrL, rqL, List.set_append, h16])
  have HB := hid hB
  have HO := hid hok
  have HZ := hid hsz
  have hci : ∃ u, w.cell? ⟨R, 19, none⟩ = some u := ⟨_, hB.cell (List.getElem?_eq_getElem (by simp [qrL, rqL, hok.1]))⟩
  clear hB hok hsz
  go_enter Try.func79, Try.ntmps79
  go_wp2_with fail
  refine C1.out.mono ?_
  rintro e w1 ⟨rfl, hr, hg⟩
  have B1 := HB.out.still TQ_ok hg hr
  have c1 : w1.cell? ⟨R, 19, none⟩ = some ((qrL g n r (.slice none 0 0) sz)[19]'(by simp [qrL, rqL, HO.out.1])) := B1.cell (List.getElem?_eq_getElem _)
  generalize (qrL g n r (.slice none 0 0) sz)[19]'_ = u1 at c1
  have f1 := B1.free 19
  have hwr : IntKind.i64.wrap (x : Int) = y := by rw [← HY.out]; rw [IntKind.wrap_i64]; have := hx; simp at this; omega
  obtain ⟨P1, P2⟩ := HB.out.put TQ_ok hg hr 19 (Value.int .i64 y)
  rw [QE.out] at P1
  have HP1 := hid P1
  have HP2 := hid P2
  clear P1 P2 B1 hr hg C1 HB QE hci
  have C2 := hid (isNumber_any (w1.setCell ⟨R, 19, none⟩ (Value.int .i64 y)) y)
  go_wp2_with (first | rw [hwr] | fail)
  refine C2.out.mono ?_
  rintro e w2 ⟨rfl, hw2⟩
  have hw3 := hw2.symm
  subst hw3
  clear hw2 C2
  go_wp2_with fail
  go_ret
  refine ⟨?_, ⟨?_, ?_, ?_⟩, HP2.out⟩
  · try rw [HY.out]
    rfl
  · rw [HY.out]; exact HP1.out
  · exact HO.out
  · exact HZ.out
def whoF (s : QS) : QS × Bool := ({ s.adv 4 with r := { s.r with who := ((smallNo 4 (taken s.l 4) : Nat) : Int) } }, true)
set_option maxRecDepth 100000 in
set_option maxHeartbeats 4000000 in
theorem who_any (w : World) (R g n : Nat) (s : QS) (h : QR w R g n s) :
    Calls Try.prog 80 #[.pointer (some ⟨R, 0, none⟩)] w fun e w' => e = .returned (.bool (whoF s).2) ∧ QR w' R g n (whoF s).1 ∧ Ex (RG R g) w w' := by
  obtain ⟨f, l, r, sz⟩ := s
  obtain ⟨hB, hok, hsz⟩ := h
  simp only at hB hok hsz
  have hx := valL_le 4 (taken l 4) (taken_byt hB.rd.byt 4)
  simp only [whoF, QS.adv]
  have c0 : w.cell? ⟨R, 0, none⟩ = some (.pointer (some ⟨g, 0, none⟩)) := hB.cell rfl
  have C1 := hid (word_any w g f l hB.rd)
  generalize hX : smallNo 4 (taken l 4) = x at hx C1 ⊢
  clear hX
  obtain ⟨y, HY⟩ : ∃ y : Int, Hid ((x : Int) = y) := ⟨_, hid rfl⟩
  have QE : Hid ((qrL g n r (.slice none 0 0) sz).set 22 (Value.int .u32 y) = qrL g n { r with who := y } (.slice none 0 0) sz) := hid (by
    obtain ⟨k, ix, nb, pl, ln, who, til⟩ := r
    have h16 : ix.length = 16 := hok.1
    simp [qrL, rqL, List.set_append, h16])
  have HB := hid hB
  have HO := hid hok
  have HZ := hid hsz
  have hci : ∃ u, w.cell? ⟨R, 22, none⟩ = some u := ⟨_, hB.cell (List.getElem?_eq_getElem (by simp [qrL, rqL, hok.1]))⟩
  clear hB hok hsz
  go_enter Try.func80, Try.ntmps80
  go_wp2_with fail
  refine C1.out.mono ?_
  rintro e w1 ⟨rfl, hr, hg⟩
  have B1 := HB.out.still TQ_ok hg hr
  have c1 : w1.cell? ⟨R, 22, none⟩ = some ((qrL g n r (.slice none 0 0) sz)[22]'(by simp [qrL, rqL, HO.out.1])) := B1.cell (List.getElem?_eq_getElem _)
  generalize (qrL g n r (.slice none 0 0) sz)[22]'_ = u1 at c1
  have f1 := B1.free 22
  have hwr : (x : Int) = y := HY.out
  obtain ⟨P1, P2⟩ := HB.out.put TQ_ok hg hr 22 (Value.int .u32 y)
  rw [QE.out] at P1
  have HP1 := hid P1
  have HP2 := hid P2
  clear P1 P2 B1 hr hg C1 HB QE hci
  rw [hwr]
  clear hwr
  go_wp2_with fail
  go_ret
  refine ⟨?_, ⟨?_, ?_, ?_⟩, HP2.out⟩
  · try rw [HY.out]
    rfl
  · rw [HY.out]; exact HP1.out
  · exact HO.out
  · exact HZ.out
def untilF (s : QS) : QS × Bool := ({ s.adv 8 with r := { s.r with til := (IntKind.i64.wrap (smallNo 8 (taken s.l 8) : Nat)) } }, tkB (IntKind.i64.wrap (smallNo 8 (taken s.l 8) : Nat)))
set_option maxRecDepth 100000 in
set_option maxHeartbeats 4000000 in
theorem until_any (w : World) (R g n : Nat) (s : QS) (h : QR w R g n s) :
    Calls Try.prog 81 #[.pointer (some ⟨R, 0, none⟩)] w fun e w' => e = .returned (.bool (untilF s).2) ∧ QR w' R g n (untilF s).1 ∧ Ex (RG R g) w w' := by
  obtain ⟨f, l, r, sz⟩ := s
  obtain ⟨hB, hok, hsz⟩ := h
  simp only at hB hok hsz
  have hx := valL_le 8 (taken l 8) (taken_byt hB.rd.byt 8)
  simp only [untilF, QS.adv]
  have c0 : w.cell? ⟨R, 0, none⟩ = some (.pointer (some ⟨g, 0, none⟩)) := hB.cell rfl
  have C1 := hid (long_any w g f l hB.rd)
  generalize hX : smallNo 8 (taken l 8) = x at hx C1 ⊢
  clear hX
  obtain ⟨y, HY⟩ : ∃ y : Int, Hid (IntKind.i64.wrap (x : Nat) = y) := ⟨_, hid rfl⟩
  have QE : Hid ((qrL g n r (.slice none 0 0) sz).set 23 (Value.int .i64 y) = qrL g n { r with til := y } (.slice none 0 0) sz) := hid (by
    obtain ⟨k, ix, nb, pl, ln, who, til⟩ := r
    have h16 : ix.length = 16 := hok.1
    simp [qrL, rqL, List.set_append, h16])
  have HB := hid hB
  have HO := hid hok
  have HZ := hid hsz
  have hci : ∃ u, w.cell? ⟨R, 23, none⟩ = some u := ⟨_, hB.cell (List.getElem?_eq_getElem (by simp [qrL, rqL, hok.1]))⟩
  clear hB hok hsz
  go_enter Try.func81, Try.ntmps81
  go_wp2_with fail
  refine C1.out.mono ?_
  rintro e w1 ⟨rfl, hr, hg⟩
  have B1 := HB.out.still TQ_ok hg hr
  have c1 : w1.cell? ⟨R, 23, none⟩ = some ((qrL g n r (.slice none 0 0) sz)[23]'(by simp [qrL, rqL, HO.out.1])) := B1.cell (List.getElem?_eq_getElem _)
  generalize (qrL g n r (.slice none 0 0) sz)[23]'_ = u1 at c1
  have f1 := B1.free 23
  have hwr : IntKind.i64.wrap (x : Int) = y := HY.out
  obtain ⟨P1, P2⟩ := HB.out.put TQ_ok hg hr 23 (Value.int .i64 y)
  rw [QE.out] at P1
  have HP1 := hid P1
  have HP2 := hid P2
  clear P1 P2 B1 hr hg C1 HB QE hci
  have C2 := hid (isTick_any (w1.setCell ⟨R, 23, none⟩ (Value.int .i64 y)) y)
  go_wp2_with (first | rw [hwr] | fail)
  refine C2.out.mono ?_
  rintro e w2 ⟨rfl, hw2⟩
  have hw3 := hw2.symm
  subst hw3
  clear hw2 C2
  go_wp2_with fail
  go_ret
  refine ⟨?_, ⟨?_, ?_, ?_⟩, HP2.out⟩
  · try rw [HY.out]
    rfl
  · rw [HY.out]; exact HP1.out
  · exact HO.out
  · exact HZ.out
def atF (s : QS) : QS × Bool := ({ s.adv 4 with r := { s.r with pl := ((smallNo 4 (taken s.l 4) : Nat) : Int) } }, plB ((smallNo 4 (taken s.l 4) : Nat) : Int))
set_option maxRecDepth 100000 in
set_option maxHeartbeats 4000000 in
theorem atQ_any (w : World) (R g n : Nat) (s : QS) (h : QR w R g n s) :
    Calls Try.prog 82 #[.pointer (some ⟨R, 0, none⟩)] w fun e w' => e = .returned (.bool (atF s).2) ∧ QR w' R g n (atF s).1 ∧ Ex (RG R g) w w' := by
  obtain ⟨f, l, r, sz⟩ := s
  obtain ⟨hB, hok, hsz⟩ := h
  simp only at hB hok hsz
  have hx := valL_le 4 (taken l 4) (taken_byt hB.rd.byt 4)
  simp only [atF, QS.adv]
  have c0 : w.cell? ⟨R, 0, none⟩ = some (.pointer (some ⟨g, 0, none⟩)) := hB.cell rfl
  have C1 := hid (word_any w g f l hB.rd)
  generalize hX : smallNo 4 (taken l 4) = x at hx C1 ⊢
  clear hX
  obtain ⟨y, HY⟩ : ∃ y : Int, Hid ((x : Int) = y) := ⟨_, hid rfl⟩
  have QE : Hid ((qrL g n r (.slice none 0 0) sz).set 20 (Value.int .i64 y) = qrL g n { r with pl := y } (.slice none 0 0) sz) := hid (by
    obtain ⟨k, ix, nb, pl, ln, who, til⟩ := r
    have h16 : ix.length = 16 := hok.1
    simp [qrL, rqL, List.set_append, h16])
  have HB := hid hB
  have HO := hid hok
  have HZ := hid hsz
  have hci : ∃ u, w.cell? ⟨R, 20, none⟩ = some u := ⟨_, hB.cell (List.getElem?_eq_getElem (by simp [qrL, rqL, hok.1]))⟩
  clear hB hok hsz
  go_enter Try.func82, Try.ntmps82
  go_wp2_with fail
  refine C1.out.mono ?_
  rintro e w1 ⟨rfl, hr, hg⟩
  have B1 := HB.out.still TQ_ok hg hr
  have c1 : w1.cell? ⟨R, 20, none⟩ = some ((qrL g n r (.slice none 0 0) sz)[20]'(by simp [qrL, rqL, HO.out.1])) := B1.cell (List.getElem?_eq_getElem _)
  generalize (qrL g n r (.slice none 0 0) sz)[20]'_ = u1 at c1
  have f1 := B1.free 20
  have hwr : IntKind.i64.wrap (x : Int) = y := by rw [← HY.out]; rw [IntKind.wrap_i64]; have := hx; simp at this; omega
  obtain ⟨P1, P2⟩ := HB.out.put TQ_ok hg hr 20 (Value.int .i64 y)
  rw [QE.out] at P1
  have HP1 := hid P1
  have HP2 := hid P2
  clear P1 P2 B1 hr hg C1 HB QE hci
  have C2 := hid (isAt_any (w1.setCell ⟨R, 20, none⟩ (Value.int .i64 y)) y)
  go_wp2_with (first | rw [hwr] | fail)
  refine C2.out.mono ?_
  rintro e w2 ⟨rfl, hw2⟩
  have hw3 := hw2.symm
  subst hw3
  clear hw2 C2
  go_wp2_with fail
  go_ret
  refine ⟨?_, ⟨?_, ?_, ?_⟩, HP2.out⟩
  · try rw [HY.out]
    rfl
  · rw [HY.out]; exact HP1.out
  · exact HO.out
  · exact HZ.out
def lengthF (s : QS) : QS × Bool := ({ s.adv 4 with r := { s.r with ln := ((smallNo 4 (taken s.l 4) : Nat) : Int) } }, flB ((smallNo 4 (taken s.l 4) : Nat) : Int))
set_option maxRecDepth 100000 in
set_option maxHeartbeats 4000000 in
theorem length_any (w : World) (R g n : Nat) (s : QS) (h : QR w R g n s) :
    Calls Try.prog 83 #[.pointer (some ⟨R, 0, none⟩)] w fun e w' => e = .returned (.bool (lengthF s).2) ∧ QR w' R g n (lengthF s).1 ∧ Ex (RG R g) w w' := by
  obtain ⟨f, l, r, sz⟩ := s
  obtain ⟨hB, hok, hsz⟩ := h
  simp only at hB hok hsz
  have hx := valL_le 4 (taken l 4) (taken_byt hB.rd.byt 4)
  simp only [lengthF, QS.adv]
  have c0 : w.cell? ⟨R, 0, none⟩ = some (.pointer (some ⟨g, 0, none⟩)) := hB.cell rfl
  have C1 := hid (word_any w g f l hB.rd)
  generalize hX : smallNo 4 (taken l 4) = x at hx C1 ⊢
  clear hX
  obtain ⟨y, HY⟩ : ∃ y : Int, Hid ((x : Int) = y) := ⟨_, hid rfl⟩
  have QE : Hid ((qrL g n r (.slice none 0 0) sz).set 21 (Value.int .i64 y) = qrL g n { r with ln := y } (.slice none 0 0) sz) := hid (by
    obtain ⟨k, ix, nb, pl, ln, who, til⟩ := r
    have h16 : ix.length = 16 := hok.1
    simp [qrL, rqL, List.set_append, h16])
  have HB := hid hB
  have HO := hid hok
  have HZ := hid hsz
  have hci : ∃ u, w.cell? ⟨R, 21, none⟩ = some u := ⟨_, hB.cell (List.getElem?_eq_getElem (by simp [qrL, rqL, hok.1]))⟩
  clear hB hok hsz
  go_enter Try.func83, Try.ntmps83
  go_wp2_with fail
  refine C1.out.mono ?_
  rintro e w1 ⟨rfl, hr, hg⟩
  have B1 := HB.out.still TQ_ok hg hr
  have c1 : w1.cell? ⟨R, 21, none⟩ = some ((qrL g n r (.slice none 0 0) sz)[21]'(by simp [qrL, rqL, HO.out.1])) := B1.cell (List.getElem?_eq_getElem _)
  generalize (qrL g n r (.slice none 0 0) sz)[21]'_ = u1 at c1
  have f1 := B1.free 21
  have hwr : IntKind.i64.wrap (x : Int) = y := by rw [← HY.out]; rw [IntKind.wrap_i64]; have := hx; simp at this; omega
  obtain ⟨P1, P2⟩ := HB.out.put TQ_ok hg hr 21 (Value.int .i64 y)
  rw [QE.out] at P1
  have HP1 := hid P1
  have HP2 := hid P2
  clear P1 P2 B1 hr hg C1 HB QE hci
  have C2 := hid (isFetchLen_any (w1.setCell ⟨R, 21, none⟩ (Value.int .i64 y)) y)
  go_wp2_with (first | rw [hwr] | fail)
  refine C2.out.mono ?_
  rintro e w2 ⟨rfl, hw2⟩
  have hw3 := hw2.symm
  subst hw3
  clear hw2 C2
  go_wp2_with fail
  go_ret
  refine ⟨?_, ⟨?_, ?_, ?_⟩, HP2.out⟩
  · try rw [HY.out]
    rfl
  · rw [HY.out]; exact HP1.out
  · exact HO.out
  · exact HZ.out
def bytesF (s : QS) : QS × Bool := ({ s.adv 4 with sz := ((smallNo 4 (taken s.l 4) : Nat) : Int) }, plB ((smallNo 4 (taken s.l 4) : Nat) : Int))
set_option maxRecDepth 100000 in
set_option maxHeartbeats 4000000 in
theorem bytesQ_any (w : World) (R g n : Nat) (s : QS) (h : QR w R g n s) :
    Calls Try.prog 84 #[.pointer (some ⟨R, 0, none⟩)] w fun e w' => e = .returned (.bool (bytesF s).2) ∧ QR w' R g n (bytesF s).1 ∧ Ex (RG R g) w w' := by
  obtain ⟨f, l, r, sz⟩ := s
  obtain ⟨hB, hok, hsz⟩ := h
  simp only at hB hok hsz
  have hx := valL_le 4 (taken l 4) (taken_byt hB.rd.byt 4)
  simp only [bytesF, QS.adv]
  have c0 : w.cell? ⟨R, 0, none⟩ = some (.pointer (some ⟨g, 0, none⟩)) := hB.cell rfl
  have C1 := hid (word_any w g f l hB.rd)
  generalize hX : smallNo 4 (taken l 4) = x at hx C1 ⊢
  clear hX
  obtain ⟨y, HY⟩ : ∃ y : Int, Hid ((x : Int) = y) := ⟨_, hid rfl⟩
  have QE : Hid ((qrL g n r (.slice none 0 0) sz).set 25 (Value.int .i64 y) = qrL g n r (.slice none 0 0) y) := hid (by
    obtain ⟨k, ix, nb, pl, ln, who, til⟩ := r
    have h16 : ix.length = 16 := hok.1
    simp [qrL, rqL, List.set_append, h16])
  have HB := hid hB
  have HO := hid hok
  have HZ := hid hsz
  have hci : ∃ u, w.cell? ⟨R, 25, none⟩ = some u := ⟨_, hB.cell (List.getElem?_eq_getElem (by simp [qrL, rqL, hok.1]))⟩
  clear hB hok hsz
  go_enter Try.func84, Try.ntmps84
  go_wp2_with fail
  refine C1.out.mono ?_
  rintro e w1 ⟨rfl, hr, hg⟩
  have B1 := HB.out.still TQ_ok hg hr
  have c1 : w1.cell? ⟨R, 25, none⟩ = some ((qrL g n r (.slice none 0 0) sz)[25]'(by simp [qrL, rqL, HO.out.1])) := B1.cell (List.getElem?_eq_getElem _)
  generalize (qrL g n r (.slice none 0 0) sz)[25]'_ = u1 at c1
  have f1 := B1.free 25
  have hwr : IntKind.i64.wrap (x : Int) = y := by rw [← HY.out]; rw [IntKind.wrap_i64]; have := hx; simp at this; omega
  obtain ⟨P1, P2⟩ := HB.out.put TQ_ok hg hr 25 (Value.int .i64 y)
  rw [QE.out] at P1
  have HP1 := hid P1
  have HP2 := hid P2
  clear P1 P2 B1 hr hg C1 HB QE hci
  have C2 := hid (isShareLen_any (w1.setCell ⟨R, 25, none⟩ (Value.int .i64 y)) y)
  go_wp2_with (first | rw [hwr] | fail)
  refine C2.out.mono ?_
  rintro e w2 ⟨rfl, hw2⟩
  have hw3 := hw2.symm
  subst hw3
  clear hw2 C2
  go_wp2_with fail
  go_ret
  refine ⟨?_, ⟨?_, ?_, ?_⟩, HP2.out⟩
  · try rw [HY.out]
    rfl
  · rw [HY.out]; exact HP1.out
  · exact HO.out
  · show 0 ≤ (x : Int) ∧ (x : Int) < 4294967296; simp at hx; omega
end Go.Proofs.Ytgjadpidoaianaa
