/- The law file's own take, walked: one call of a reader and of the document's answer alike. -/
import Derived.Test.YtiodfpaifkcmoaaReadsState
namespace Go.Proofs.Ytiodfpaifkcmoaa
open Go.RowKit

/-- Of the blocks of w only those of S may have turned. -/
structure Fr (S : Nat → Prop) (w w' : World) : Prop where
  os : w'.os = w.os
  tape : w'.tape = w.tape
  output : w'.output = w.output
  size : w.heap.size ≤ w'.heap.size
  block : ∀ k, k < w.heap.size → ¬ S k → w'.heap[k]? = w.heap[k]?

theorem Fr.refl (S : Nat → Prop) (w : World) : Fr S w w := ⟨rfl, rfl, rfl, Nat.le_refl _, fun _ _ _ => rfl⟩
theorem Fr.step {S : Nat → Prop} {w w1 w2 : World} {row : Option Nat} (h : Fr S w w1) (hg : w1.grownBy w2 row) (hr : ∀ k, row = some k → S k ∨ w.heap.size ≤ k) : Fr S w w2 :=
  ⟨hg.os.trans h.os, hg.tape.trans h.tape, hg.output.trans h.output, Nat.le_trans h.size hg.size, fun k hk hs => (hg.block k (Nat.lt_of_lt_of_le hk h.size) (fun e => by
    rcases hr k e.symm with h1 | h1
    · exact hs h1
    · omega)).trans (h.block k hk hs)⟩

theorem HB5.frame {q : Nat} {S : Nat → Prop} {w w' : World} {v : Value} {l : List Int} (h : HB5 q w v l) (hf : Fr S w w') (hs : ∀ k, BT w k 5 → ¬ S k) : HB5 q w' v l := by
  by_cases hl : l = []
  · subst hl
    obtain ⟨⟨⟨p, c, rfl, h2, h3, h6, h4⟩, h5⟩, h7⟩ := h
    exact ⟨⟨⟨p, c, rfl, h2, h3, h6, fun h => absurd rfl h⟩, h5⟩, fun h => absurd rfl h⟩
  · obtain ⟨⟨⟨p, c, rfl, h2, h3, h6, h4⟩, h5⟩, h7⟩ := h
    obtain ⟨b, off, rfl, hh⟩ := h4 hl
    obtain ⟨hq, cur, fz, hcur⟩ := h7 hl _ _ _ rfl
    have hb := hf.block b (Array.getElem?_eq_some_iff.1 hcur).1 (hs b ⟨cur, fz, hcur⟩)
    refine ⟨⟨⟨_, c, rfl, h2, h3, h6, fun _ => ⟨b, off, rfl, fun j hj => (World.cell?_of_block (a := ⟨b, off + j, none⟩) hb).trans (hh j hj)⟩⟩, h5⟩, fun _ a n c e => ?_⟩
    cases e
    exact ⟨hq, cur, fz, hb.trans hcur⟩

theorem Pair.frame {S : Nat → Prop} {w w' : World} {g h : Nat} {f : Bool} {l m : List Int} (p : Pair w g h f l m) (hf : Fr S w w') (hg : ¬ S g) (hh : ¬ S h) (hs : ∀ k, BT w k 5 → ¬ S k) : Pair w' g h f l m := by
  obtain ⟨⟨v, h1, h2⟩, ⟨v', h3, h4⟩, h5⟩ := p
  exact ⟨⟨v, (hf.block g (Array.getElem?_eq_some_iff.1 h1).1 hg).trans h1, h2.frame hf hs⟩, ⟨v', (hf.block h (Array.getElem?_eq_some_iff.1 h3).1 hh).trans h3, h4.frame hf hs⟩, h5⟩

/-- The blocks that take may turn. -/
def Sw (g h G H : Nat) (gv hv : Value) (k : Nat) : Prop := k = g ∨ k = h ∨ k = G ∨ k = H ∨ gv.ownBlock = some k ∨ hv.ownBlock = some k

/-- All that take is handed. -/
def TkIn (B : Nat) (w : World) (g h G H : Nat) (f : Bool) (l m : List Int) (gv hv : Value) (gl hl : List Value) (ls : List (List Int)) : Prop :=
  Pair w g h f l m ∧ Told B w G gv gl ls ∧ Told B w H hv hl ls ∧ G ≠ H ∧ (∀ k, gv.ownBlock = some k → hv.ownBlock ≠ some k) ∧ B ≤ w.heap.size ∧ ls.length ≤ 5864062014634

theorem Told.block {B : Nat} {w : World} {G : Nat} {gv : Value} {gl : List Value} {ls : List (List Int)} (h : Told B w G gv gl ls) : BT w G 29 := ⟨_, _, h.2.1⟩

theorem TkIn.alloc {B : Nat} {w : World} {g h G H : Nat} {f : Bool} {l m : List Int} {gv hv : Value} {gl hl : List Value} {ls : List (List Int)} (t : TkIn B w g h G H f l m gv hv gl hl ls) (o : Obj) : TkIn B (w.alloc o) g h G H f l m gv hv gl hl ls := by
  have hg := World.grownBy_alloc w o none
  obtain ⟨t1, t2, t3, t4, t5, t6, t7⟩ := t
  exact ⟨t1.away hg (fun k e => by cases e), t2.away hg (fun k e => by cases e), t3.away hg (fun k e => by cases e), t4, t5, by simp; omega, t7⟩

/-- Behind a call of the one reader and a call of the other that tell no list. -/
theorem TkIn.asked {B : Nat} {w w1 w2 : World} {g h G H : Nat} {f : Bool} {l m : List Int} {gv hv : Value} {gl hl : List Value} {ls : List (List Int)} (t : TkIn B w g h G H f l m gv hv gl hl ls) (n : Int)
    (h1 : RD w1 g true (f || !okTake l n) (leftAt l n)) (g1 : w.grownBy w1 (some g)) (h2 : RR w2 h (f || !okTake m n) (rlf f m n)) (g2 : w1.grownBy w2 (some h)) (hm : BT w1 h 66) :
    ∃ f' l' m', TkIn B w2 g h G H f' l' m' gv hv gl hl ls := by
  obtain ⟨t1, t2, t3, t4, t5, t6, t7⟩ := t
  have bg : BT w g 77 := t1.1.block
  have bg1 : BT w1 g 77 := h1.block
  have hgh : g ≠ h := bg1.ne hm (by decide)
  have k1 : ∀ {G gv gl}, Told B w G gv gl ls → Told B w2 G gv gl ls := fun {G gv gl} tt => by
    have a1 := tt.away g1 (fun k e => by cases e; exact ⟨bg.ne tt.block (by decide), tt.row _ _ bg (by decide), _, bg, by decide⟩)
    exact a1.away g2 (fun k e => by cases e; exact ⟨hm.ne a1.block (by decide), a1.row _ _ hm (by decide), _, hm, by decide⟩)
  have r1 : RD w2 g true (f || !okTake l n) (leftAt l n) := h1.away g2 (fun k e => by cases e; exact ⟨Ne.symm hgh, _, hm, by decide⟩)
  obtain ⟨f', l', m', p⟩ := t1.step n r1 h2
  exact ⟨f', l', m', p, k1 t2, k1 t3, t4, t5, Nat.le_trans t6 (Nat.le_trans g1.size g2.size), t7⟩

theorem asked_frame {w w1 w2 : World} {g h G H : Nat} {gv hv : Value} {o : Obj} (g1 : (w.alloc o).grownBy w1 (some g)) (g2 : w1.grownBy w2 (some h)) : Fr (Sw g h G H gv hv) w w2 :=
  (((Fr.refl _ w).step (World.grownBy_alloc w o none) (fun k e => by cases e)).step g1 (fun k e => by cases e; exact .inl (.inl rfl))).step g2 (fun k e => by cases e; exact .inl (.inr (.inl rfl)))

theorem Pair.left {w : World} {g h : Nat} {f : Bool} {l m : List Int} (p : Pair w g h f l m) : (if f then 0 else (m.length : Int)) = (l.length : Int) := by
  obtain ⟨_, _, h3, h4, _⟩ := p
  cases f with
  | false => rw [h3 rfl]; rfl
  | true => rw [h4 rfl]; rfl
theorem Pair.ends {w : World} {g h : Nat} {f : Bool} {l m : List Int} (p : Pair w g h f l m) : endNo true f m = endNo true f l := by
  obtain ⟨_, _, h3, h4, _⟩ := p
  cases f with
  | false => rw [h3 rfl]
  | true => rfl

theorem digL_length {t : List Int} (h : t.length = 0 ∨ t.length = 32) : (digL t).length = 32 := by
  unfold digL
  split
  · exact zeros32_length
  · rcases h with h | h
    · omega
    · exact h
theorem taken32 (l : List Int) : (taken l 32).length = 0 ∨ (taken l 32).length = 32 := by
  unfold taken
  split
  · rename_i hk
    have := okTake_iff.1 hk
    right
    simp; omega
  · left; rfl

set_option maxHeartbeats 1000000 in
theorem take_byte (B : Nat) (w : World) (g h G H : Nat) (f : Bool) (l m : List Int) (gv hv : Value) (gl hl : List Value) (ls : List (List Int)) (t : TkIn B w g h G H f l m gv hv gl hl ls) (on n : Int) :
    Calls Try.prog 41 #[.pointer (some ⟨g, 0, none⟩), .pointer (some ⟨h, 0, none⟩), .agg #[.int .i64 on, .int .i64 0, .int .i64 n], .pointer (some ⟨G, 0, none⟩), .pointer (some ⟨H, 0, none⟩)] w fun e w' => e = .returned (.bool true) ∧ (∃ f' l' m', TkIn B w' g h G H f' l' m' gv hv gl hl ls) ∧ Fr (Sw g h G H gv hv) w w' := by
  have T0 := hid (t.alloc (.cells #[.int .i64 on, .int .i64 0, .int .i64 n] 69))
  have hsame := (t.1.same 1).1
  obtain ⟨sn, HSN⟩ : ∃ sn, Hid (smallNo 1 (taken l 1) = sn) := ⟨_, rfl⟩
  have hlt : sn < 256 := by
    rw [← HSN.out]
    unfold smallNo
    split
    · rename_i e
      have h1 := valL_lt (taken l 1) (by
        obtain ⟨v, _, hv⟩ := t.1.1
        intro x hx
        refine hv.1.2 x ?_
        unfold taken at hx
        split at hx
        · exact List.mem_of_mem_take hx
        · simp at hx)
      rw [e] at h1
      exact h1
    · omega
  have HSM := hid hsame
  have hlt2 : (sn : Int) < 256 := by omega
  have hqq : ((sn : Int) == (sn : Int)) = true := by simp
  clear t hsame hlt
  go_enter Try.func41, Try.ntmps41
  go_wp2_with fail
  refine (byte_any _ g f l T0.out.1.1).mono ?_
  rintro e w1 ⟨rfl, hr1, hg1⟩
  rw [HSN.out]
  have R1 := hid hr1
  have G1 := hid hg1
  have hm1 : BT (w.alloc (.cells #[.int .i64 on, .int .i64 0, .int .i64 n] 69)) h 66 := T0.out.1.2.1.block
  have hgh : g ≠ h := T0.out.1.1.block.ne hm1 (by decide)
  have hRR1 : RR w1 h f m := T0.out.1.2.1.other hg1 (fun k e => by cases e; exact ⟨hgh, _, T0.out.1.1.block, by decide⟩)
  have RR1 := hid hRR1
  have hml := T0.out.1.2.2.2.2.2
  clear hr1 hg1 hm1 hRR1
  have hnum := rnumber_any w1 h f m 1 RR1.out (by omega) (by omega) (by omega)
  rw [show ((1 : Nat) : Int) = 1 from rfl, HSM.out, HSN.out] at hnum
  have HNum := hid hnum
  clear hnum
  go_wp2_with fail
  refine HNum.out.mono ?_
  rintro e w2 ⟨rfl, hr2, hg2⟩
  have HT2 := hid (T0.out.asked 1 R1.out G1.out hr2 hg2 RR1.out.block)
  have HF2 : Hid (Fr (Sw g h G H gv hv) w w2) := asked_frame G1.out hg2
  clear hr2 hg2
  go_wp2
  go_ret
  exact ⟨rfl, HT2.out, HF2.out⟩

set_option maxHeartbeats 1000000 in
theorem take_word (B : Nat) (w : World) (g h G H : Nat) (f : Bool) (l m : List Int) (gv hv : Value) (gl hl : List Value) (ls : List (List Int)) (t : TkIn B w g h G H f l m gv hv gl hl ls) (on n : Int) :
    Calls Try.prog 41 #[.pointer (some ⟨g, 0, none⟩), .pointer (some ⟨h, 0, none⟩), .agg #[.int .i64 on, .int .i64 1, .int .i64 n], .pointer (some ⟨G, 0, none⟩), .pointer (some ⟨H, 0, none⟩)] w fun e w' => e = .returned (.bool true) ∧ (∃ f' l' m', TkIn B w' g h G H f' l' m' gv hv gl hl ls) ∧ Fr (Sw g h G H gv hv) w w' := by
  have T0 := hid (t.alloc (.cells #[.int .i64 on, .int .i64 1, .int .i64 n] 69))
  have hsame := (t.1.same 4).1
  obtain ⟨sn, HSN⟩ : ∃ sn, Hid (smallNo 4 (taken l 4) = sn) := ⟨_, rfl⟩
  have hlt : sn < 4294967296 := by
    rw [← HSN.out]
    unfold smallNo
    split
    · rename_i e
      have h1 := valL_lt (taken l 4) (by
        obtain ⟨v, _, hv⟩ := t.1.1
        intro x hx
        refine hv.1.2 x ?_
        unfold taken at hx
        split at hx
        · exact List.mem_of_mem_take hx
        · simp at hx)
      rw [e] at h1
      exact h1
    · omega
  have HSM := hid hsame
  have hlt2 : (sn : Int) < 4294967296 := by omega
  have hqq : ((sn : Int) == (sn : Int)) = true := by simp
  clear t hsame hlt
  go_enter Try.func41, Try.ntmps41
  go_wp2_with fail
  refine (word_any _ g f l T0.out.1.1).mono ?_
  rintro e w1 ⟨rfl, hr1, hg1⟩
  rw [HSN.out]
  have R1 := hid hr1
  have G1 := hid hg1
  have hm1 : BT (w.alloc (.cells #[.int .i64 on, .int .i64 1, .int .i64 n] 69)) h 66 := T0.out.1.2.1.block
  have hgh : g ≠ h := T0.out.1.1.block.ne hm1 (by decide)
  have hRR1 : RR w1 h f m := T0.out.1.2.1.other hg1 (fun k e => by cases e; exact ⟨hgh, _, T0.out.1.1.block, by decide⟩)
  have RR1 := hid hRR1
  have hml := T0.out.1.2.2.2.2.2
  clear hr1 hg1 hm1 hRR1
  have hnum := rnumber_any w1 h f m 4 RR1.out (by omega) (by omega) (by omega)
  rw [show ((4 : Nat) : Int) = 4 from rfl, HSM.out, HSN.out] at hnum
  have HNum := hid hnum
  clear hnum
  go_wp2_with fail
  refine HNum.out.mono ?_
  rintro e w2 ⟨rfl, hr2, hg2⟩
  have HT2 := hid (T0.out.asked 4 R1.out G1.out hr2 hg2 RR1.out.block)
  have HF2 : Hid (Fr (Sw g h G H gv hv) w w2) := asked_frame G1.out hg2
  clear hr2 hg2
  go_wp2
  go_ret
  exact ⟨rfl, HT2.out, HF2.out⟩

set_option maxHeartbeats 1000000 in
theorem take_long (B : Nat) (w : World) (g h G H : Nat) (f : Bool) (l m : List Int) (gv hv : Value) (gl hl : List Value) (ls : List (List Int)) (t : TkIn B w g h G H f l m gv hv gl hl ls) (on n : Int) :
    Calls Try.prog 41 #[.pointer (some ⟨g, 0, none⟩), .pointer (some ⟨h, 0, none⟩), .agg #[.int .i64 on, .int .i64 2, .int .i64 n], .pointer (some ⟨G, 0, none⟩), .pointer (some ⟨H, 0, none⟩)] w fun e w' => e = .returned (.bool true) ∧ (∃ f' l' m', TkIn B w' g h G H f' l' m' gv hv gl hl ls) ∧ Fr (Sw g h G H gv hv) w w' := by
  have T0 := hid (t.alloc (.cells #[.int .i64 on, .int .i64 2, .int .i64 n] 69))
  have hsame := (t.1.same 8).1
  obtain ⟨sn, HSN⟩ : ∃ sn, Hid (smallNo 8 (taken l 8) = sn) := ⟨_, rfl⟩
  have hlt : sn < 18446744073709551616 := by
    rw [← HSN.out]
    unfold smallNo
    split
    · rename_i e
      have h1 := valL_lt (taken l 8) (by
        obtain ⟨v, _, hv⟩ := t.1.1
        intro x hx
        refine hv.1.2 x ?_
        unfold taken at hx
        split at hx
        · exact List.mem_of_mem_take hx
        · simp at hx)
      rw [e] at h1
      exact h1
    · omega
  have HSM := hid hsame
  have hlt2 : (sn : Int) < 18446744073709551616 := by omega
  have hqq : ((sn : Int) == (sn : Int)) = true := by simp
  clear t hsame hlt
  go_enter Try.func41, Try.ntmps41
  go_wp2_with fail
  refine (long_any _ g f l T0.out.1.1).mono ?_
  rintro e w1 ⟨rfl, hr1, hg1⟩
  rw [HSN.out]
  have R1 := hid hr1
  have G1 := hid hg1
  have hm1 : BT (w.alloc (.cells #[.int .i64 on, .int .i64 2, .int .i64 n] 69)) h 66 := T0.out.1.2.1.block
  have hgh : g ≠ h := T0.out.1.1.block.ne hm1 (by decide)
  have hRR1 : RR w1 h f m := T0.out.1.2.1.other hg1 (fun k e => by cases e; exact ⟨hgh, _, T0.out.1.1.block, by decide⟩)
  have RR1 := hid hRR1
  have hml := T0.out.1.2.2.2.2.2
  clear hr1 hg1 hm1 hRR1
  have hnum := rnumber_any w1 h f m 8 RR1.out (by omega) (by omega) (by omega)
  rw [show ((8 : Nat) : Int) = 8 from rfl, HSM.out, HSN.out] at hnum
  have HNum := hid hnum
  clear hnum
  go_wp2_with fail
  refine HNum.out.mono ?_
  rintro e w2 ⟨rfl, hr2, hg2⟩
  have HT2 := hid (T0.out.asked 8 R1.out G1.out hr2 hg2 RR1.out.block)
  have HF2 : Hid (Fr (Sw g h G H gv hv) w w2) := asked_frame G1.out hg2
  clear hr2 hg2
  go_wp2
  go_ret
  exact ⟨rfl, HT2.out, HF2.out⟩


set_option maxRecDepth 100000 in
set_option maxHeartbeats 1000000 in
theorem take_digest (B : Nat) (w : World) (g h G H : Nat) (f : Bool) (l m : List Int) (gv hv : Value) (gl hl : List Value) (ls : List (List Int)) (t : TkIn B w g h G H f l m gv hv gl hl ls) (on n : Int) :
    Calls Try.prog 41 #[.pointer (some ⟨g, 0, none⟩), .pointer (some ⟨h, 0, none⟩), .agg #[.int .i64 on, .int .i64 3, .int .i64 n], .pointer (some ⟨G, 0, none⟩), .pointer (some ⟨H, 0, none⟩)] w fun e w' => e = .returned (.bool true) ∧ (∃ f' l' m', TkIn B w' g h G H f' l' m' gv hv gl hl ls) ∧ Fr (Sw g h G H gv hv) w w' := by
  have T0 := hid (t.alloc (.cells #[.int .i64 on, .int .i64 3, .int .i64 n] 69))
  have hsame := (t.1.same 32).1
  obtain ⟨d, HD⟩ : ∃ d, Hid (digL (taken l 32) = d) := ⟨_, rfl⟩
  have hdl : d.length = 32 := by rw [← HD.out]; exact digL_length (taken32 l)
  obtain ⟨y, HY⟩ : ∃ y, Hid (cellsB d = y) := ⟨_, rfl⟩
  have heq : ∀ W, (binOp .eql 84 (.agg y) (.agg y)).run Try.prog W = .ok (.bool true) W := fun W => by
    have := run_eql_bytes W 32 84 Try.underlying84 d d hdl hdl
    rw [decide_eq_true rfl, HY.out] at this
    exact this
  have HSM := hid hsame
  clear t hsame hdl
  go_enter Try.func41, Try.ntmps41
  go_wp2_with fail
  refine (digest_any _ g f l T0.out.1.1).mono ?_
  rintro e w1 ⟨rfl, hr1, hg1⟩
  rw [HD.out, HY.out]
  have R1 := hid hr1
  have G1 := hid hg1
  have hm1 : BT (w.alloc (.cells #[.int .i64 on, .int .i64 3, .int .i64 n] 69)) h 66 := T0.out.1.2.1.block
  have hgh : g ≠ h := T0.out.1.1.block.ne hm1 (by decide)
  have hRR1 : RR w1 h f m := T0.out.1.2.1.other hg1 (fun k e => by cases e; exact ⟨hgh, _, T0.out.1.1.block, by decide⟩)
  have RR1 := hid hRR1
  have hml := T0.out.1.2.2.2.2.2
  clear hr1 hg1 hm1 hRR1
  have hnum := rdigest_any w1 h f m RR1.out (by omega)
  rw [HSM.out, HD.out, HY.out] at hnum
  have HNum := hid hnum
  clear hnum
  go_wp2_with fail
  refine HNum.out.mono ?_
  rintro e w2 ⟨rfl, hr2, hg2⟩
  have HT2 := hid (T0.out.asked 32 R1.out G1.out hr2 hg2 RR1.out.block)
  have HF2 : Hid (Fr (Sw g h G H gv hv) w w2) := asked_frame G1.out hg2
  clear hr2 hg2
  go_wp2
  go_ret
  exact ⟨rfl, HT2.out, HF2.out⟩

set_option maxHeartbeats 1000000 in
theorem take_left (B : Nat) (w : World) (g h G H : Nat) (f : Bool) (l m : List Int) (gv hv : Value) (gl hl : List Value) (ls : List (List Int)) (t : TkIn B w g h G H f l m gv hv gl hl ls) (on n : Int) :
    Calls Try.prog 41 #[.pointer (some ⟨g, 0, none⟩), .pointer (some ⟨h, 0, none⟩), .agg #[.int .i64 on, .int .i64 5, .int .i64 n], .pointer (some ⟨G, 0, none⟩), .pointer (some ⟨H, 0, none⟩)] w fun e w' => e = .returned (.bool true) ∧ (∃ f' l' m', TkIn B w' g h G H f' l' m' gv hv gl hl ls) ∧ Fr (Sw g h G H gv hv) w w' := by
  have T0 := hid (t.alloc (.cells #[.int .i64 on, .int .i64 5, .int .i64 n] 69))
  have hsame := t.1.left
  have hqq : ((l.length : Int) == (l.length : Int)) = true := by simp
  have HSM := hid hsame
  have HF2 : Hid (Fr (Sw g h G H gv hv) w (w.alloc (.cells #[.int .i64 on, .int .i64 5, .int .i64 n] 69))) := (Fr.refl _ w).step (World.grownBy_alloc w _ none) (fun k e => by cases e)
  clear t hsame
  go_enter Try.func41, Try.ntmps41
  go_wp2_with fail
  refine (left_any _ g _ f l T0.out.1.1).mono ?_
  rintro e w1 ⟨rfl, hw⟩
  have hw' := hw.symm
  subst hw'
  clear hw
  have hl2 := rleft_any _ h f m T0.out.1.2.1
  rw [HSM.out] at hl2
  have HL2 := hid hl2
  clear hl2
  go_wp2_with fail
  refine HL2.out.mono ?_
  rintro e w1 ⟨rfl, hw⟩
  have hw' := hw.symm
  subst hw'
  clear hw
  go_wp2
  go_ret
  exact ⟨rfl, ⟨_, _, _, T0.out⟩, HF2.out⟩

set_option maxHeartbeats 1000000 in
theorem take_end (B : Nat) (w : World) (g h G H : Nat) (f : Bool) (l m : List Int) (gv hv : Value) (gl hl : List Value) (ls : List (List Int)) (t : TkIn B w g h G H f l m gv hv gl hl ls) (on k n : Int) (k0 : (k == 0) = false) (k1 : (k == 1) = false) (k2 : (k == 2) = false) (k3 : (k == 3) = false) (k4 : (k == 4) = false) (k5 : (k == 5) = false) :
    Calls Try.prog 41 #[.pointer (some ⟨g, 0, none⟩), .pointer (some ⟨h, 0, none⟩), .agg #[.int .i64 on, .int .i64 k, .int .i64 n], .pointer (some ⟨G, 0, none⟩), .pointer (some ⟨H, 0, none⟩)] w fun e w' => e = .returned (.bool true) ∧ (∃ f' l' m', TkIn B w' g h G H f' l' m' gv hv gl hl ls) ∧ Fr (Sw g h G H gv hv) w w' := by
  have T0 := hid (t.alloc (.cells #[.int .i64 on, .int .i64 k, .int .i64 n] 69))
  have hsame := t.1.ends
  obtain ⟨q, HQ⟩ : ∃ q, Hid (endNo true f l = q) := ⟨_, rfl⟩
  rw [HQ.out] at hsame
  have hqq : (q == q) = true := by simp
  have HSM := hid hsame
  have HF2 : Hid (Fr (Sw g h G H gv hv) w (w.alloc (.cells #[.int .i64 on, .int .i64 k, .int .i64 n] 69))) := (Fr.refl _ w).step (World.grownBy_alloc w _ none) (fun k e => by cases e)
  clear t hsame
  go_enter Try.func41, Try.ntmps41
  go_wp2_with fail
  refine (end_any _ g _ f l T0.out.1.1).mono ?_
  rintro e w1 ⟨rfl, hw⟩
  have hw' := hw.symm
  subst hw'
  clear hw
  rw [HQ.out]
  have hl2 := rend_any _ h f m T0.out.1.2.1
  rw [HSM.out] at hl2
  have HL2 := hid hl2
  clear hl2
  go_wp2_with fail
  refine HL2.out.mono ?_
  rintro e w1 ⟨rfl, hw⟩
  have hw' := hw.symm
  subst hw'
  clear hw
  go_wp2
  go_ret
  exact ⟨rfl, ⟨_, _, _, T0.out⟩, HF2.out⟩

end Go.Proofs.Ytiodfpaifkcmoaa
