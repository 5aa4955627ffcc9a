/- The law file's own take where it asks for bytes: the two lists that it tells grow. -/
import Derived.Test.YtiodfpaifkcmoaaTakeWalk
namespace Go.Proofs.Ytiodfpaifkcmoaa
open Go.RowKit

theorem own_slice {w : World} {B n : Nat} {e : TypeId} {v : Value} {xs : List Value} (h : w.ownsRow B e 1 v n xs) : ∃ p c, v = .slice p n c := by
  rcases h.2 with ⟨rfl, rfl⟩ | ⟨g, cap, cur, rfl, _⟩
  · exact ⟨_, _, rfl⟩
  · exact ⟨_, _, rfl⟩
theorem Dr.grownBy {w w' : World} (h : Dr w w') : w.grownBy w' none := by
  have b := h.below w.heap.size
  exact ⟨b.os, b.tape, b.output, b.size, fun k hk _ => b.block k hk⟩

/-- What stays while one slice is put behind the list in the variable at block G. -/
theorem push_keep {Φ : World → Prop} {B : Nat} {w w2 : World} {G : Nat} {gv gv' : Value} {gl : List Value} {ls : List (List Int)} {o : Obj} (t : Told B w G gv gl ls) (hg : (w.alloc o).grownBy w2 gv.ownBlock)
    (hΦ : ∀ (a b : World) (row : Option Nat), Φ a → a.grownBy b row → (∀ k, row = some k → (gv.ownBlock = some k ∧ BT a k 23) ∨ (k = G ∧ BT a k 29)) → Φ b) (h : Φ w) : Φ w2 ∧ Φ (w2.setCell ⟨G, 0, none⟩ gv') := by
  have t1 : Told B (w.alloc o) G gv gl ls := t.away (World.grownBy_alloc w o none) (fun k e => by cases e)
  have bk : ∀ k, gv.ownBlock = some k → BT (w.alloc o) k 23 := fun k e => own_BT t1.2.2.1 k e
  have h1 := hΦ _ _ none h (World.grownBy_alloc w o none) (fun k e => by cases e)
  have h2 := hΦ _ _ _ h1 hg (fun k e => .inl ⟨e, bk k e⟩)
  have b2 : BT w2 G 29 := t1.block.grown hg (fun k e => ⟨_, bk k e, by decide⟩)
  exact ⟨h2, hΦ _ _ _ h2 (grown_set w2 G 0 gv') (fun k e => by cases e; exact .inr ⟨rfl, b2⟩)⟩

theorem push_pair {B : Nat} {w w2 : World} {G : Nat} {gv gv' : Value} {gl : List Value} {ls : List (List Int)} {o : Obj} (t : Told B w G gv gl ls) (hg : (w.alloc o).grownBy w2 gv.ownBlock) {g h : Nat} {f : Bool} {l m : List Int} (p : Pair w g h f l m) : Pair (w2.setCell ⟨G, 0, none⟩ gv') g h f l m :=
  (push_keep (Φ := fun w => Pair w g h f l m) t hg (fun a b row p hgr hr => p.away hgr (fun k e => by
    rcases hr k e with ⟨_, hb⟩ | ⟨_, hb⟩
    · exact ⟨hb.ne p.1.block (by decide), hb.ne p.2.1.block (by decide), _, hb, by decide⟩
    · exact ⟨hb.ne p.1.block (by decide), hb.ne p.2.1.block (by decide), _, hb, by decide⟩)) p).2

theorem push_own {B : Nat} {w w2 : World} {G : Nat} {gv gv' : Value} {gl : List Value} {ls : List (List Int)} {o : Obj} (t : Told B w G gv gl ls) (hg : (w.alloc o).grownBy w2 gv.ownBlock) {C n : Nat} {u : Value} {xs : List Value} (p : w.ownsRow C 5 1 u n xs) : w2.ownsRow C 5 1 u n xs ∧ (w2.setCell ⟨G, 0, none⟩ gv').ownsRow C 5 1 u n xs :=
  push_keep (Φ := fun w => w.ownsRow C 5 1 u n xs) t hg (fun a b row p hgr hr => p.kept hgr (by
    cases hrow : row with
    | none => cases u.ownBlock <;> simp
    | some k =>
      rcases hr k hrow with ⟨_, ⟨cur, fz, hb⟩⟩ | ⟨_, ⟨cur, fz, hb⟩⟩
      · exact .inr (own_block_ne p hb (by decide))
      · exact .inr (own_block_ne p hb (by decide)))) p

theorem push_told {B : Nat} {w w2 : World} {G : Nat} {gv gv' : Value} {gl : List Value} {ls : List (List Int)} {o : Obj} (t : Told B w G gv gl ls) (hg : (w.alloc o).grownBy w2 gv.ownBlock) {H : Nat} {hv : Value} {hl : List Value} {ms : List (List Int)} (p : Told B w H hv hl ms) (hGH : G ≠ H) (hsep : ∀ k, gv.ownBlock = some k → hv.ownBlock ≠ some k) : Told B (w2.setCell ⟨G, 0, none⟩ gv') H hv hl ms :=
  (push_keep (Φ := fun w => Told B w H hv hl ms) t hg (fun a b row p hgr hr => p.away hgr (fun k e => by
    rcases hr k e with ⟨h1, hb⟩ | ⟨h1, hb⟩
    · exact ⟨hb.ne p.block (by decide), hsep k h1, _, hb, by decide⟩
    · exact ⟨by rw [h1]; exact hGH, p.row k _ hb (by decide), _, hb, by decide⟩)) p).2

theorem push_frame {B : Nat} {w w2 : World} {G : Nat} {gv gv' : Value} {gl : List Value} {ls : List (List Int)} {o : Obj} (t : Told B w G gv gl ls) (hg : (w.alloc o).grownBy w2 gv.ownBlock) {S : Nat → Prop} {w0 : World} (p : Fr S w0 w) (h1 : S G) (h2 : ∀ k, gv.ownBlock = some k → S k) : Fr S w0 (w2.setCell ⟨G, 0, none⟩ gv') :=
  (push_keep (Φ := fun w => Fr S w0 w) t hg (fun a b row p hgr hr => p.step hgr (fun k e => by
    rcases hr k e with ⟨h3, _⟩ | ⟨h3, _⟩
    · exact .inl (h2 k h3)
    · rw [h3]; exact .inl h1)) p).2

/-- The list itself. -/
theorem push_self {B : Nat} {w w2 : World} {G : Nat} {gv gv' : Value} {gl : List Value} {ls : List (List Int)} {o : Obj} (t : Told B w G gv gl ls) (hg : (w.alloc o).grownBy w2 gv.ownBlock) {u : Value} {x : List Int} (hu : w.ownsRow B 5 1 u x.length (x.map (Value.int .u8))) (hx : ∀ y ∈ x, 0 ≤ y ∧ y < 256) (hxl : x.length ≤ 140737488351232) (hd : ∀ j, j < gl.length → u.ownBlock = none ∨ u.ownBlock ≠ (gl.getD j undef).ownBlock) (hown : w2.ownsRow B 23 1 gv' (ls.length + 1) (gl ++ [u])) :
    w2.heap[G]? = some (.cells #[gv] 29 (0, 0)) ∧ Told B (w2.setCell ⟨G, 0, none⟩ gv') G gv' (gl ++ [u]) (ls ++ [x]) := by
  have t1 : Told B (w.alloc o) G gv gl ls := t.away (World.grownBy_alloc w o none) (fun k e => by cases e)
  have hb2 : w2.heap[G]? = some (.cells #[gv] 29 (0, 0)) := by
    rw [hg.block G (Array.getElem?_eq_some_iff.1 t1.2.1).1 (fun e => own_block_ne t1.2.2.1 t1.2.1 (by decide) e.symm)]
    exact t1.2.1
  have ha := (push_keep (Φ := fun w => Apt B w gl ls) (gv' := gv') t hg (fun a b row p hgr hr => p.away hgr (fun k e => by
    rcases hr k e with ⟨_, hb⟩ | ⟨_, hb⟩
    · exact ⟨_, hb, by decide⟩
    · exact ⟨_, hb, by decide⟩)) t.2.2.2.1).2
  refine ⟨hb2, t.1, ?_, ?_, ha.snoc (push_own t hg hu).2 hd, ?_⟩
  · rw [heap_setCell_same w2 G 0 _ _ gv' hb2]; rfl
  · rw [List.length_append, List.length_singleton]
    exact hown.kept (grown_set w2 G 0 gv') (.inr (own_block_ne hown hb2 (by decide)))
  · intro j
    rw [getD_app]
    split
    · exact t.2.2.2.2 j
    · cases hj : j - ls.length with
      | zero => exact ⟨hxl, hx⟩
      | succ q => exact ⟨by simp, fun y hy => by simp at hy⟩

theorem Told.fresh {B : Nat} {w : World} {G : Nat} {gv : Value} {gl : List Value} {ls : List (List Int)} (t : Told B w G gv gl ls) {w' : World} {C n : Nat} {e : TypeId} {u : Value} {xs : List Value} (hu : w'.ownsRow C e 1 u n xs) (hC : w.heap.size ≤ C) : ∀ j, j < gl.length → u.ownBlock = none ∨ u.ownBlock ≠ (gl.getD j undef).ownBlock := by
  intro j hj
  have h1 := (t.2.2.2.1.2.1 j hj).lt
  have h2 := hu.lt
  cases hu1 : u.ownBlock with
  | none => exact .inl rfl
  | some k =>
    right
    intro e
    have h3 := h1 k e.symm
    have h4 := h2 k hu1
    omega

theorem one_cell {w : World} {g : Nat} {a : Value} {T : TypeId} (h : w.heap[g]? = some (.cells #[a] T (0, 0))) : w.cell? ⟨g, 0, none⟩ = some a ∧ w.frozen? ⟨g, 0, none⟩ = false := by
  simp [World.cell?, World.frozen?, h]
theorem third_cell {w : World} {g : Nat} {a b c : Value} {T : TypeId} (h : w.heap[g]? = some (.cells #[a, b, c] T (0, 0))) : w.cell? ⟨g, 2, none⟩ = some c := by
  simp [World.cell?, h]

set_option maxHeartbeats 2000000 in
theorem take_bytes (B : Nat) (w : World) (g h G H : Nat) (f : Bool) (l m : List Int) (gv hv : Value) (gl hl : List Value) (ls : List (List Int)) (t : TkIn B w g h G H f l m gv hv gl hl ls) (on n : Int) :
    Calls Try.prog 41 #[.pointer (some ⟨g, 0, none⟩), .pointer (some ⟨h, 0, none⟩), .agg #[.int .i64 on, .int .i64 4, .int .i64 n], .pointer (some ⟨G, 0, none⟩), .pointer (some ⟨H, 0, none⟩)] w fun e w' => e = .returned (.bool true) ∧ (∃ f' l' m' gv' hv' gl' hl' x, Pair w' g h f' l' m' ∧ Told B w' G gv' gl' (ls ++ [x]) ∧ Told B w' H hv' hl' (ls ++ [x]) ∧ (∀ k, gv'.ownBlock = some k → hv'.ownBlock ≠ some k)) ∧ Fr (Sw g h G H gv hv) w w' := by
  have T0 := hid (t.alloc (.cells #[.int .i64 on, .int .i64 4, .int .i64 n] 69))
  have hsame := (t.1.same n).1
  obtain ⟨x, HX⟩ : ∃ x, Hid (taken l n = x) := ⟨_, rfl⟩
  rw [HX.out] at hsame
  have hxl : x.length ≤ 140737488351232 := by rw [← HX.out]; exact Nat.le_trans (taken_le l n) t.1.2.2.2.2.1
  have HSM := hid hsame
  have hcell2 : (w.alloc (.cells #[.int .i64 on, .int .i64 4, .int .i64 n] 69)).heap[w.heap.size]? = some (.cells #[.int .i64 on, .int .i64 4, .int .i64 n] 69) := heap_alloc_new w _
  clear t hsame
  obtain ⟨W0, hW0⟩ : ∃ W0, Hid (w.alloc (.cells #[.int .i64 on, .int .i64 4, .int .i64 n] 69) = W0) := ⟨_, rfl⟩
  have HFr0 : Hid (Fr (Sw g h G H gv hv) w W0) := by rw [← hW0.out]; exact (Fr.refl _ w).step (World.grownBy_alloc w _ none) (fun k e => by cases e)
  go_enter Try.func41, Try.ntmps41
  go_wp2_with fail
  rw [hW0.out] at T0 hcell2 ⊢
  have HC0 := hid hcell2
  clear hcell2
  refine (bytes_any W0 g f l n T0.out.1.1 (by have := T0.out.1.2.2.2.2.1; omega)).mono ?_
  rintro e w1 ⟨v1, B1, rfl, ho1, hB1, hb1, hr1, hg1⟩
  rw [HX.out] at ho1 hb1
  have hmm1 : BT W0 h 66 := T0.out.1.2.1.block
  have hgh : g ≠ h := T0.out.1.1.block.ne hmm1 (by decide)
  have hRR1 : RR w1 h f m := T0.out.1.2.1.other hg1 (fun k e => by cases e; exact ⟨hgh, _, T0.out.1.1.block, by decide⟩)
  have RR1 := hid hRR1
  have R1 := hid hr1
  have G1 := hid hg1
  have HO1 := hid ho1
  have HB1 := hid hb1
  have hne : some w.heap.size ≠ some g := by
    intro e
    cases e
    have : BT W0 w.heap.size 69 := ⟨_, _, HC0.out⟩
    exact (T0.out.1.1.block.ne this (by decide)) rfl
  have hc1 : w1.heap[w.heap.size]? = some (.cells #[.int .i64 on, .int .i64 4, .int .i64 n] 69) := by
    rw [hg1.block w.heap.size (Array.getElem?_eq_some_iff.1 HC0.out).1 hne]
    exact HC0.out
  have hcN := third_cell hc1
  have hW01 := hg1.size
  clear hne hc1 hmm1 hRR1 hr1 hg1 ho1
  obtain ⟨p1, c1, e1, _, _⟩ := hb1.open
  clear hb1
  subst e1
  go_wp2_with fail
  refine (rbytes_any w1 h f m n RR1.out (by have := T0.out.1.2.2.2.2.2; omega)).mono ?_
  rintro e w2 ⟨v2, rfl, ho2, hb2, hr2, hg2⟩
  rw [HSM.out] at ho2 hb2
  obtain ⟨p2, c2, e2, _, _⟩ := hb2.open
  subst e2
  obtain ⟨f', l', m', ht2⟩ := T0.out.asked n R1.out G1.out hr2 hg2 RR1.out.block
  have T2 := hid ht2
  have HO12 : Hid (w2.ownsRow B1 5 1 (.slice p1 x.length c1) x.length (x.map (Value.int .u8))) := by
    obtain ⟨cur, fz, hb⟩ := RR1.out.block
    exact HO1.out.kept hg2 (.inr (own_block_ne HO1.out hb (by decide)))
  have HO2 := hid ho2
  have HBY : Hid (∀ y ∈ x, 0 ≤ y ∧ y < 256) := hb2.2
  have HF2 : Hid (Fr (Sw g h G H gv hv) w w2) := (HFr0.out.step G1.out (fun k e => by cases e; exact .inl (.inl rfl))).step hg2 (fun k e => by cases e; exact .inl (.inr (.inl rfl)))
  have hd1 := hid (T0.out.2.1.fresh HO1.out hB1)
  have hd2 := hid (T0.out.2.2.1.fresh ho2 hW01)
  have hsz2 : B ≤ w2.heap.size := ht2.2.2.2.2.2.1
  have hls : ls.length ≤ 5864062014634 := ht2.2.2.2.2.2.2
  have hBB1 : B ≤ B1 := Nat.le_trans T0.out.2.2.2.2.2.1 hB1
  have hBw1 : B ≤ w1.heap.size := Nat.le_trans T0.out.2.2.2.2.2.1 hW01
  clear ho2 hb2 hr2 hg2 ht2 HO1 R1 G1 RR1 hcN hB1
  obtain ⟨pg, cg, eg⟩ := own_slice T2.out.2.1.2.2.1
  obtain ⟨ph, ch, eh⟩ := own_slice T2.out.2.2.1.2.2.1
  subst eg eh
  obtain ⟨cG, fG⟩ := one_cell T2.out.2.1.2.1
  go_wp2_with (at_builtin; refine wpList_append_slice rfl _ _ rfl B _ ls.length gl rfl (T2.out.2.1.2.2.1.alloc _) ⟨w2.heap.size, 0, none⟩ 1 (.slice p1 x.length c1) rfl ?q0 rfl ?q1 ?q2 ?_)
  case q0 => exact cell_one_new _ _ _ 0 _ rfl
  case q1 => omega
  case q2 => simp; omega
  intro gv' w3 hown3 hg3 hloc3
  obtain ⟨pg3, cg3, eg3⟩ := own_slice hown3
  subst eg3
  obtain ⟨hbG3, htG3⟩ := push_self T2.out.2.1 hg3 (own_mono HO12.out hBB1) HBY.out hxl hd1.out hown3
  obtain ⟨cG3, fG3⟩ := one_cell hbG3
  have htH3 : Told B (w3.setCell ⟨G, 0, none⟩ (.slice pg3 (ls.length + 1) cg3)) H (.slice ph ls.length ch) hl ls := push_told T2.out.2.1 hg3 T2.out.2.2.1 T2.out.2.2.2.1 T2.out.2.2.2.2.1
  have hp3 : Pair (w3.setCell ⟨G, 0, none⟩ (.slice pg3 (ls.length + 1) cg3)) g h f' l' m' := push_pair T2.out.2.1 hg3 T2.out.1
  have hf3 : Fr (Sw g h G H (.slice pg ls.length cg) (.slice ph ls.length ch)) w (w3.setCell ⟨G, 0, none⟩ (.slice pg3 (ls.length + 1) cg3)) := push_frame T2.out.2.1 hg3 HF2.out (.inr (.inr (.inl rfl))) (fun k e => .inr (.inr (.inr (.inr (.inl e)))))
  have ho13 : (w3.setCell ⟨G, 0, none⟩ (.slice pg3 (ls.length + 1) cg3)).ownsRow B1 5 1 (.slice p1 x.length c1) x.length (x.map (Value.int .u8)) := (push_own T2.out.2.1 hg3 HO12.out).2
  have ho23 : (w3.setCell ⟨G, 0, none⟩ (.slice pg3 (ls.length + 1) cg3)).ownsRow w1.heap.size 5 1 (.slice p2 x.length c2) x.length (x.map (Value.int .u8)) := (push_own T2.out.2.1 hg3 HO2.out).2
  have hsep3 : ∀ k, (Value.slice ph ls.length ch).ownBlock = some k → (Value.slice pg3 (ls.length + 1) cg3).ownBlock ≠ some k := by
    intro k hk e
    rcases hloc3 with h | h
    · rw [h] at e
      exact T2.out.2.2.2.2.1 k e hk
    · rw [h] at e
      have := (T2.out.2.2.1.2.2.1.lt k hk).2
      simp at e
      omega
  have hsz3 : B ≤ (w3.setCell ⟨G, 0, none⟩ (.slice pg3 (ls.length + 1) cg3)).heap.size := by
    have h1 := hg3.size
    have h2 := (grown_set w3 G 0 (.slice pg3 (ls.length + 1) cg3)).size
    simp at h1
    omega
  obtain ⟨cH3, fH3⟩ := one_cell htH3.2.1
  obtain ⟨W3, hW3⟩ : ∃ W3, w3.setCell ⟨G, 0, none⟩ (.slice pg3 (ls.length + 1) cg3) = W3 := ⟨_, rfl⟩
  rw [hW3] at htG3 htH3 hp3 hf3 ho13 ho23 hsz3 cH3 fH3
  have HtG3 := hid htG3
  have HtH3 := hid htH3
  have Hp3 := hid hp3
  have Hf3 := hid hf3
  have Ho13 := hid ho13
  have Ho23 := hid ho23
  have Hsep3 := hid hsep3
  have hGH : G ≠ H := T2.out.2.2.2.1
  clear htG3 htH3 hp3 hf3 ho13 ho23 hsep3 hbG3 hown3 hg3 hloc3 cG fG
  clear HO12 HO2 HB1 T2 HF2 HFr0 T0 HC0
  go_wp2_with (at_builtin; refine wpList_append_slice rfl _ _ rfl B _ ls.length hl rfl (HtH3.out.2.2.1.alloc _) ⟨W3.heap.size, 0, none⟩ 1 (.slice p2 x.length c2) rfl ?q0 rfl ?q1 ?q2 ?_)
  case q0 => exact cell_one_new _ _ _ 0 _ rfl
  case q1 => omega
  case q2 => simp; omega
  intro hv' w4 hown4 hg4 hloc4
  obtain ⟨ph4, ch4, eh4⟩ := own_slice hown4
  subst eh4
  obtain ⟨hbH4, htH4⟩ := push_self HtH3.out hg4 (own_mono Ho23.out hBw1) HBY.out hxl hd2.out hown4
  obtain ⟨cH4, fH4⟩ := one_cell hbH4
  have htG4 : Told B (w4.setCell ⟨H, 0, none⟩ (.slice ph4 (ls.length + 1) ch4)) G _ _ _ := push_told HtH3.out hg4 HtG3.out (Ne.symm hGH) Hsep3.out
  have hp4 : Pair (w4.setCell ⟨H, 0, none⟩ (.slice ph4 (ls.length + 1) ch4)) g h f' l' m' := push_pair HtH3.out hg4 Hp3.out
  have hf4 : Fr (Sw g h G H (.slice pg ls.length cg) (.slice ph ls.length ch)) w (w4.setCell ⟨H, 0, none⟩ (.slice ph4 (ls.length + 1) ch4)) := push_frame HtH3.out hg4 Hf3.out (.inr (.inr (.inr (.inl rfl)))) (fun k e => .inr (.inr (.inr (.inr (.inr e)))))
  have hb14 : HB (w4.setCell ⟨H, 0, none⟩ (.slice ph4 (ls.length + 1) ch4)) (.slice p1 x.length c1) x := HB.of_own (push_own HtH3.out hg4 Ho13.out).2 HBY.out
  have hb24 : HB (w4.setCell ⟨H, 0, none⟩ (.slice ph4 (ls.length + 1) ch4)) (.slice p2 x.length c2) x := HB.of_own (push_own HtH3.out hg4 Ho23.out).2 HBY.out
  have Hsep4 : Hid (∀ k, (Value.slice pg3 (ls.length + 1) cg3).ownBlock = some k → (Value.slice ph4 (ls.length + 1) ch4).ownBlock ≠ some k) := by
    intro k hk e
    rcases hloc4 with h | h
    · rw [h] at e
      exact Hsep3.out k e hk
    · rw [h] at e
      have := (HtG3.out.2.2.1.lt k hk).2
      simp at e
      omega
  have HtG4 := hid htG4
  have HtH4 := hid htH4
  have Hp4 := hid hp4
  have Hf4 := hid hf4
  have Hb14 := hid hb14
  have Hb24 := hid hb24
  clear htG4 htH4 hp4 hf4 hb14 hb24 hbH4 hown4 hg4 hloc4 cH3 fH3 hW3 cG3 fG3 HtG3 HtH3 Hp3 Hf3 Ho13 Ho23 Hsep3
  go_wp2_with fail
  refine (sameBytes_any _ _ _ x x Hb14.out Hb24.out).mono ?_
  rintro e w5 ⟨rfl, hd5⟩
  have hdd : decide (x = x) = true := decide_eq_true rfl
  rw [hdd]
  have HD := hid hd5.grownBy
  clear hd5 hdd
  go_wp2
  go_ret
  exact ⟨rfl, ⟨f', l', m', _, _, _, _, x, Hp4.out.away HD.out (fun k e => by cases e), HtG4.out.away HD.out (fun k e => by cases e), HtH4.out.away HD.out (fun k e => by cases e), Hsep4.out⟩, Hf4.out.step HD.out (fun k e => by cases e)⟩
end Go.Proofs.Ytiodfpaifkcmoaa
