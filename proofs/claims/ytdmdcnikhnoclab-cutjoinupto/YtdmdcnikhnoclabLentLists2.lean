/- The kit's LentLists, walked: the rows that it makes. -/
import Derived.Test.YtdmdcnikhnoclabListKit
import Derived.Deep.AppendLies
import Derived.Deep.RegionHeld3
import Derived.Deep.RegionLaw
import Derived.Deep.DrawnRows
namespace Go.Proofs.Ytdmdcnikhnoclab
open Go.RowKit
attribute [local go_sem ↓] Go.wp_at_zero Go.wp_at_succ

/-- At block B lies a Lists that is empty still; at block O lies the Lists that LentLists makes: Each holds the lists ms, marks behind each; Full the same rows cut to their lists, and what else was put there. -/
def LsV (B : Nat) (w : World) (O : Nat) (vF vE : Value) (fU eU : List Value) (ms : List (List Int)) : Prop :=
  (B < O ∧ w.heap[B]? = some (.cells #[.slice none 0 0, .slice none 0 0, .slice none 0 0] 24 (0, 0))) ∧ w.heap[O]? = some (.cells #[.slice none 0 0, vF, vE] 24 (0, 0)) ∧ w.ownsRow B 26 1 vF fU.length fU ∧ w.ownsRow B 26 1 vE ms.length eU ∧
    (∀ k, vF.ownBlock = some k → vE.ownBlock ≠ some k) ∧ Apt B w eU (ms.map lent) ∧
    ∀ j, j < fU.length → j < ms.length → ∃ p c, eU.getD j undef = .slice p ((ms.getD j []).length + 70) c ∧ fU.getD j undef = .slice p (ms.getD j []).length c

theorem LsV.block {B : Nat} {w : World} {O : Nat} {vF vE : Value} {fU eU : List Value} {ms : List (List Int)} (h : LsV B w O vF vE fU eU ms) : BT w O 24 := ⟨_, _, h.2.1⟩

theorem own_away {w w' : World} {B n : Nat} {e : TypeId} {v : Value} {xs : List Value} {row : Option Nat} (h : w.ownsRow B e 1 v n xs) (hg : w.grownBy w' row) (hr : ∀ k, row = some k → v.ownBlock ≠ some k) : w'.ownsRow B e 1 v n xs := by
  refine h.kept hg ?_
  cases hrow : row with
  | none => cases v.ownBlock <;> simp
  | some k => exact .inr (hr k hrow)

theorem LsV.away {B : Nat} {w w' : World} {O : Nat} {vF vE : Value} {fU eU : List Value} {ms : List (List Int)} {row : Option Nat} (h : LsV B w O vF vE fU eU ms) (hg : w.grownBy w' row) (hr : ∀ k, row = some k → k ≠ O ∧ vF.ownBlock ≠ some k ∧ vE.ownBlock ≠ some k ∧ k ≠ B ∧ ∃ e, BT w k e ∧ e ≠ 5) : LsV B w' O vF vE fU eU ms := by
  obtain ⟨h0, h1, h2, h3, h4, h5, h6⟩ := h
  refine ⟨⟨h0.1, by rw [hg.block B (Array.getElem?_eq_some_iff.1 h0.2).1 (fun e => (hr B e.symm).2.2.2.1 rfl)]; exact h0.2⟩, ?_, own_away h2 hg (fun k e => (hr k e).2.1), own_away h3 hg (fun k e => (hr k e).2.2.1), h4, h5.away hg (fun k e => (hr k e).2.2.2.2), h6⟩
  rw [hg.block O (Array.getElem?_eq_some_iff.1 h1).1 (fun e => (hr O e.symm).1 rfl)]
  exact h1

theorem LsV.below {B : Nat} {w w' : World} {O : Nat} {vF vE : Value} {fU eU : List Value} {ms : List (List Int)} (h : LsV B w O vF vE fU eU ms) (hb : Below w.heap.size w w') : LsV B w' O vF vE fU eU ms :=
  h.away (grown_below (r := none) hb) (fun k e => by cases e)

/-- One list more in Each. -/
theorem LsV.each {B : Nat} {w w2 : World} {O : Nat} {vF vE vE' : Value} {fU eU : List Value} {ms : List (List Int)} {o : Obj} (h : LsV B w O vF vE fU eU ms) (hg : (w.alloc o).grownBy w2 vE.ownBlock) {u : Value} {x : List Int}
    (hu : w.ownsRow B 5 1 u (lent x).length ((lent x).map (Value.int .u8))) (hd : ∀ j, j < eU.length → u.ownBlock = none ∨ u.ownBlock ≠ (eU.getD j undef).ownBlock) (hle : fU.length ≤ ms.length)
    (hown : w2.ownsRow B 26 1 vE' (ms.length + 1) (eU ++ [u])) (hloc : vE'.ownBlock = vE.ownBlock ∨ vE'.ownBlock = some (w.heap.size + 1)) :
    w2.heap[O]? = some (.cells #[.slice none 0 0, vF, vE] 24 (0, 0)) ∧ LsV B (w2.setCell ⟨O, 2, none⟩ vE') O vF vE' fU (eU ++ [u]) (ms ++ [x]) := by
  have h' : LsV B (w.alloc o) O vF vE fU eU ms := h.away (World.grownBy_alloc w o none) (fun k e => by cases e)
  have hu' := hu.alloc o
  obtain ⟨h0, h1, h2, h3, h4, h5, h6⟩ := h'
  have bk : ∀ k, vE.ownBlock = some k → BT (w.alloc o) k 26 := own_BT h3
  have a2 := own_away h2 hg (fun k e => fun e2 => h4 k e2 e)
  have a5 := h5.away hg (fun k e => ⟨_, bk k e, by decide⟩)
  have au := own_away hu' hg (fun k e => by obtain ⟨cur, fz, hb⟩ := bk k e; exact own_block_ne hu' hb (by decide))
  have hb2 : w2.heap[O]? = some (.cells #[.slice none 0 0, vF, vE] 24 (0, 0)) := by
    rw [hg.block O (Array.getElem?_eq_some_iff.1 h1).1 (fun e => own_block_ne h3 h1 (by decide) e.symm)]
    exact h1
  have hB2 : w2.heap[B]? = some (.cells #[.slice none 0 0, .slice none 0 0, .slice none 0 0] 24 (0, 0)) := by
    rw [hg.block B (Array.getElem?_eq_some_iff.1 h0.2).1 (fun e => own_block_ne h3 h0.2 (by decide) e.symm)]
    exact h0.2
  have gs := grown_set w2 O 2 vE'
  have bO : BT w2 O 24 := ⟨_, _, hb2⟩
  refine ⟨hb2, ⟨h0.1, by rw [gs.block B (Array.getElem?_eq_some_iff.1 hB2).1 (by have := h0.1; simp; omega)]; exact hB2⟩, ?_, own_away a2 gs (fun k e => by cases e; exact own_block_ne a2 hb2 (by decide)), ?_, ?_, ?_, ?_⟩
  · rw [heap_setCell_same w2 O 2 _ _ vE' hb2]; rfl
  · rw [List.length_append, List.length_singleton]
    exact own_away hown gs (fun k e => by cases e; exact own_block_ne hown hb2 (by decide))
  · intro k hk e
    rcases hloc with h | h
    · rw [h] at e; exact h4 k hk e
    · rw [h] at e
      have := (h2.lt k hk).2
      simp at this e
      omega
  · rw [List.map_append]
    exact (a5.away gs (fun k e => by cases e; exact ⟨_, bO, by decide⟩)).snoc (own_away au gs (fun k e => by cases e; exact own_block_ne au hb2 (by decide))) hd
  · intro j hj hj2
    have hl : eU.length = ms.length := by have := h5.1; simpa using this
    rw [getD_app, getD_app, if_pos (by omega), if_pos (by omega)]
    exact h6 j hj (by omega)

/-- One slice more in Full. -/
theorem LsV.full {B : Nat} {w w2 : World} {O : Nat} {vF vE vF' : Value} {fU eU : List Value} {ms : List (List Int)} {o : Obj} (h : LsV B w O vF vE fU eU ms) (hg : (w.alloc o).grownBy w2 vF.ownBlock) {u : Value}
    (hu : fU.length < ms.length → ∃ p c, eU.getD fU.length undef = .slice p ((ms.getD fU.length []).length + 70) c ∧ u = .slice p (ms.getD fU.length []).length c)
    (hown : w2.ownsRow B 26 1 vF' (fU.length + 1) (fU ++ [u])) (hloc : vF'.ownBlock = vF.ownBlock ∨ vF'.ownBlock = some (w.heap.size + 1)) :
    w2.heap[O]? = some (.cells #[.slice none 0 0, vF, vE] 24 (0, 0)) ∧ LsV B (w2.setCell ⟨O, 1, none⟩ vF') O vF' vE (fU ++ [u]) eU ms := by
  have h' : LsV B (w.alloc o) O vF vE fU eU ms := h.away (World.grownBy_alloc w o none) (fun k e => by cases e)
  obtain ⟨h0, h1, h2, h3, h4, h5, h6⟩ := h'
  have bk : ∀ k, vF.ownBlock = some k → BT (w.alloc o) k 26 := own_BT h2
  have a3 := own_away h3 hg (fun k e => h4 k e)
  have a5 := h5.away hg (fun k e => ⟨_, bk k e, by decide⟩)
  have hb2 : w2.heap[O]? = some (.cells #[.slice none 0 0, vF, vE] 24 (0, 0)) := by
    rw [hg.block O (Array.getElem?_eq_some_iff.1 h1).1 (fun e => own_block_ne h2 h1 (by decide) e.symm)]
    exact h1
  have hB2 : w2.heap[B]? = some (.cells #[.slice none 0 0, .slice none 0 0, .slice none 0 0] 24 (0, 0)) := by
    rw [hg.block B (Array.getElem?_eq_some_iff.1 h0.2).1 (fun e => own_block_ne h2 h0.2 (by decide) e.symm)]
    exact h0.2
  have gs := grown_set w2 O 1 vF'
  have bO : BT w2 O 24 := ⟨_, _, hb2⟩
  refine ⟨hb2, ⟨h0.1, by rw [gs.block B (Array.getElem?_eq_some_iff.1 hB2).1 (by have := h0.1; simp; omega)]; exact hB2⟩, ?_, ?_, own_away a3 gs (fun k e => by cases e; exact own_block_ne a3 hb2 (by decide)), ?_, a5.away gs (fun k e => by cases e; exact ⟨_, bO, by decide⟩), ?_⟩
  · rw [heap_setCell_same w2 O 1 _ _ vF' hb2]; rfl
  · rw [List.length_append, List.length_singleton]
    exact own_away hown gs (fun k e => by cases e; exact own_block_ne hown hb2 (by decide))
  · intro k hk e
    rcases hloc with h | h
    · rw [h] at hk; exact h4 k hk e
    · rw [h] at hk
      have := (h3.lt k e).2
      simp at this hk
      omega
  · intro j hj hj2
    rw [List.length_append, List.length_singleton] at hj
    rw [getD_app]
    by_cases hjl : j < fU.length
    · rw [if_pos hjl]; exact h6 j hjl hj2
    · have : j = fU.length := by omega
      subst this
      rw [if_neg (by omega), Nat.sub_self]
      exact hu hj2

/-- The marks behind the list in Full. -/
def MkV (B : Nat) (w : World) (fU : List Value) (n J : Nat) : Prop :=
  ∀ j, j < J → w.ownsRow B 5 1 (fU.getD (n + j) undef) 2 [.int .u8 j, .int .u8 99]

theorem MkV.away {B : Nat} {w w' : World} {fU : List Value} {n J : Nat} {row : Option Nat} (h : MkV B w fU n J) (hg : w.grownBy w' row) (hr : ∀ k, row = some k → ∃ e, BT w k e ∧ e ≠ 5) : MkV B w' fU n J := fun j hj =>
  own_away (h j hj) hg (fun k e => by obtain ⟨e', ⟨cur, fz, hb⟩, hne⟩ := hr k e; exact own_block_ne (h j hj) hb (Ne.symm hne))

theorem size_bytes : ∀ w, Sem.run Try.prog (Go.sizeOf 26) w = .ok 1 w := fun w => by
  obtain ⟨i0, hi, hz0, hz1, hz2⟩ := info_parts info_bytes
  simp [Go.sizeOf, typeInfo, hi, hz1]

theorem size_lists : (Try.prog.info? 24).map (·.size) = some 3 := by kernel_rfl

/-- What LentLists hands out. -/
def XL (B : Nat) (w : World) (vL vF vE : Value) (fU eU : List Value) (ls : List (List Int)) : Prop :=
  w.ownsRow B 26 1 vF (ls.length + 70) fU ∧ w.ownsRow B 26 1 vE ls.length eU ∧ (∀ k, vF.ownBlock = some k → vE.ownBlock ≠ some k) ∧ Apt B w eU (ls.map lent) ∧
    (∀ j, j < ls.length → ∃ p c, eU.getD j undef = .slice p ((ls.getD j []).length + 70) c ∧ fU.getD j undef = .slice p (ls.getD j []).length c) ∧ MkV B w fU ls.length 70 ∧ ∃ p c, vF = .slice p (ls.length + 70) c ∧ vL = .slice p ls.length c

theorem XL.away {B : Nat} {w w' : World} {vL vF vE : Value} {fU eU : List Value} {ls : List (List Int)} {row : Option Nat} (h : XL B w vL vF vE fU eU ls) (hg : w.grownBy w' row) (hr : ∀ k, row = some k → ∃ e, BT w k e ∧ e ≠ 5 ∧ e ≠ 26) : XL B w' vL vF vE fU eU ls := by
  obtain ⟨h1, h2, h3, h4, h5, h6, h7⟩ := h
  have ne : ∀ {v n xs}, w.ownsRow B 26 1 v n xs → ∀ k, row = some k → v.ownBlock ≠ some k := fun {v n xs} h k e => by
    obtain ⟨e', ⟨cur, fz, hb⟩, _, hne⟩ := hr k e
    exact own_block_ne h hb (Ne.symm hne)
  exact ⟨own_away h1 hg (ne h1), own_away h2 hg (ne h2), h3, h4.away hg (fun k e => by obtain ⟨e', hb, hne, _⟩ := hr k e; exact ⟨e', hb, hne⟩), h5, h6.away hg (fun k e => by obtain ⟨e', hb, hne, _⟩ := hr k e; exact ⟨e', hb, hne⟩), h7⟩

theorem three_cells {w : World} {g : Nat} {a b c : Value} {T : TypeId} (h : w.heap[g]? = some (.cells #[a, b, c] T (0, 0))) :
    w.cell? ⟨g, 0, none⟩ = some a ∧ w.cell? ⟨g, 1, none⟩ = some b ∧ w.cell? ⟨g, 2, none⟩ = some c ∧ w.frozen? ⟨g, 0, none⟩ = false ∧ w.frozen? ⟨g, 1, none⟩ = false ∧ w.frozen? ⟨g, 2, none⟩ = false := by
  simp [World.cell?, World.frozen?, h]

set_option maxRecDepth 100000 in
set_option maxHeartbeats 2000000 in
theorem lentLists_any (w : World) (v : Value) (ls : List (List Int)) (h : HL w v ls) (hn : ls.length ≤ 1048576) (hb : ∀ j, (ls.getD j []).length ≤ 1048576) :
    Calls Try.prog 8 #[v] w fun e w' => ∃ vL vF vE fU eU, e = .returned (.agg #[vL, vF, vE]) ∧ XL w.heap.size w' vL vF vE fU eU ls ∧ Below w.heap.size w w' := by
  obtain ⟨p, c, rfl, hlc, hm, hpc, hcl⟩ := h
  have HC : Hid (0 < ls.length → _) := fun h0 => hcl (by intro e; subst e; simp at h0)
  clear hcl
  unfold maxLen at hm
  have sz := size_u8
  have HBd := hid hb
  clear hb
  obtain ⟨W0, hW0⟩ : ∃ W0, Hid ((w.alloc (.cells #[.slice none 0 0, .slice none 0 0, .slice none 0 0] 24)).alloc (.cells #[.slice none 0 0, .slice none 0 0, .slice none 0 0] 24) = W0) := ⟨_, rfl⟩
  have B0 : Hid (Below w.heap.size w W0) := by rw [← hW0.out]; exact ((Below.refl _ w).alloc (Nat.le_refl _) _).alloc (by simp) _
  have L0 : Hid (LsV w.heap.size W0 (w.heap.size + 1) (.slice none 0 0) (.slice none 0 0) [] [] []) := by
    rw [← hW0.out]
    exact ⟨⟨by omega, heap_alloc2_old _ _ _⟩, heap_alloc2_new _ _ _, World.ownsRow_nil _ _ _ _, World.ownsRow_nil _ _ _ _, fun k e => by simp [Value.ownBlock] at e, ⟨rfl, fun k hk => by simp at hk, fun i j hi => by simp at hi⟩, fun j hj => by simp at hj⟩
  go_enter Try.func8, Try.ntmps8
  go_wp2_with fail
  rw [hW0.out]
  clear hW0
  obtain ⟨O, hO⟩ : ∃ O, w.heap.size + 1 = O := ⟨_, rfl⟩
  rw [hO] at L0 ⊢
  go_loopw [4] (fun i wr => ∃ I : Nat, I ≤ ls.length ∧ i = .int .i64 I ∧ ∃ vF vE fU eU, fU.length = I ∧ Hid (LsV w.heap.size wr O vF vE fU eU (ls.take I)) ∧ Hid (Below w.heap.size w wr)) (fun i _ => ls.length - (intOf i).toNat)
  case atStart => exact ⟨0, Nat.zero_le _, rfl, _, _, _, _, rfl, L0, B0⟩
  case round =>
    clear L0 B0
    obtain ⟨I, hI, rfl, vF, vE, fU, eU, hfl, HL1, HB1⟩ := hrel
    by_cases hlt : I < ls.length
    · obtain ⟨b, off, rfl, hh⟩ := HC.out (by omega)
      obtain ⟨u, hcu, hu⟩ := hh I hlt
      have hblt := World.block_lt_of_cell? w _ hcu
      obtain ⟨x, HX⟩ : ∃ x, Hid (ls.getD I [] = x) := ⟨_, rfl⟩
      rw [HX.out] at hu
      have hxl : x.length ≤ 1048576 := by rw [← HX.out]; exact HBd.out I
      obtain ⟨pu, cu, eu, _, hmu⟩ := hu.open
      unfold maxLen at hmu
      have HU := hid (hu.below HB1.out)
      have BY := hid hu.2
      subst eu
      have hcr : wr.cell? ⟨b, off + I, none⟩ = some (.slice pu x.length cu) := (HB1.out.cell (p := ⟨b, off + I, none⟩) hblt).trans hcu
      clear hh hu
      go_wp2_with fail
      refine (lent_any wr _ x HU.out (by omega)).mono ?_
      rintro e w1 ⟨v1, rfl, ho1, hB1⟩
      obtain ⟨p1, c1, e1⟩ := own_slice ho1
      rw [lent_length] at e1
      subst e1
      have F1 := HB.of_own ho1 (lent_byt BY.out)
      have hc1 : x.length ≤ c1 := by
        obtain ⟨p, c, e, h1, _⟩ := F1.open
        rw [lent_length] at e h1
        cases e
        omega
      have L1 := hid (HL1.out.below hB1)
      have O1 := hid ho1
      have B1 := hid (HB1.out.trans (hB1.mono HB1.out.size))
      have hs1 := hB1.size
      have hs0 := HB1.out.size
      have hd1 : Hid (∀ j, j < eU.length → (Value.slice p1 (x.length + 70) c1).ownBlock = none ∨ (Value.slice p1 (x.length + 70) c1).ownBlock ≠ (eU.getD j undef).ownBlock) := by
        intro j hj
        have h1 := (HL1.out.2.2.2.2.2.1.2.1 j hj).lt
        cases hu1 : (Value.slice p1 (x.length + 70) c1).ownBlock with
        | none => exact .inl rfl
        | some k =>
          right
          intro e
          have h3 := h1 k e.symm
          have h4 := ho1.lt k hu1
          omega
      obtain ⟨pF, cF, eF⟩ := own_slice HL1.out.2.2.1
      obtain ⟨pE, cE, eE⟩ := own_slice HL1.out.2.2.2.1
      have htl : (ls.take I).length = I := by rw [List.length_take]; omega
      rw [hfl] at eF
      rw [htl] at eE
      subst eF eE
      obtain ⟨_, k1, k2, _, f1, f2⟩ := three_cells L1.out.2.1
      have hown0 : (w1).ownsRow w.heap.size 26 1 (.slice pE I cE) I eU := by have := L1.out.2.2.2.1; rw [htl] at this; exact this
      have OE := hid hown0
      clear ho1 hB1 HL1 HB1 HU hown0 F1
      go_wp2_with (at_builtin; refine wpList_append_slice rfl _ _ rfl w.heap.size _ I eU rfl (OE.out.alloc _) ⟨w1.heap.size, 0, none⟩ 1 (.slice p1 (x.length + 70) c1) rfl ?q0 rfl ?q1 ?q2 ?_)
      case q0 => exact cell_one_new _ _ _ 0 _ rfl
      case q1 => omega
      case q2 => simp; omega
      intro vE' w2 hown2 hg2 hloc2
      obtain ⟨pE2, cE2, eE2⟩ := own_slice hown2
      subst eE2
      have hlt2 : (ls.take I).length + 1 = I + 1 := by omega
      obtain ⟨hb2, hL2⟩ := L1.out.each (x := x) hg2 (own_mono O1.out (by omega)) hd1.out (by omega) (by rw [hlt2]; exact hown2) hloc2
      obtain ⟨_, _, k22, _, _, f22⟩ := three_cells hb2
      have htk : ls.take I ++ [x] = ls.take (I + 1) := by
        rw [List.take_succ_eq_append_getElem hlt, ← HX.out]; simp [List.getD, List.getElem?_eq_getElem hlt]
      rw [htk] at hL2
      have B2 := hid ((B1.out.alloc B1.out.size (.cells #[.slice p1 (x.length + 70) c1] 26)).grown hg2 (Nat.le_trans B1.out.size (by simp)) (fun k e => (OE.out.lt k e).1))
      have hB2 : Below w.heap.size w (w2.setCell ⟨O, 2, none⟩ (.slice pE2 (I + 1) cE2)) := B2.out.grown (grown_set w2 O 2 _) B2.out.size (fun k e => by cases e; omega)
      obtain ⟨_, k31, _, _, f31, _⟩ := three_cells hL2.2.1
      obtain ⟨W2, hW2⟩ : ∃ W2, w2.setCell ⟨O, 2, none⟩ (.slice pE2 (I + 1) cE2) = W2 := ⟨_, rfl⟩
      rw [hW2] at hL2 hB2 k31 f31
      have L2 := hid hL2
      have B3 := hid hB2
      have hc2 : W2.cell? ⟨b, off + I, none⟩ = some (.slice pu x.length cu) := (hB2.cell (p := ⟨b, off + I, none⟩) hblt).trans hcu
      have hs2 := hB2.size
      have z0 : (0 : Int) ≤ (x.length : Int) := Int.natCast_nonneg _
      have z1 : (x.length : Int) ≤ (c1 : Int) := by omega
      have z2 : (0 : Int) ≤ (I : Int) := Int.natCast_nonneg _
      have z3 : (I : Int) < (ls.length : Int) := by omega
      have OF := hid hL2.2.2.1
      rw [hfl] at OF
      clear hown2 hg2 hloc2 hb2 hL2 hB2 B2 L1 O1 hd1 OE k1 k2 f1 f2 B1
      obtain ⟨i0, hi0, hz0, hz1, hz2⟩ := info_parts info_bytes
      have ag : (Value.slice pF I cF).ownBlock ≠ some O := own_block_ne OF.out L2.out.2.1 (by decide)
      have ab : (Value.slice pF I cF).ownBlock ≠ some b := fun e => by have := (OF.out.lt b e).1; omega
      have lO : O < W2.heap.size := (Array.getElem?_eq_some_iff.1 L2.out.2.1).1
      have lb : b < W2.heap.size := by omega
      have hb24 : (I + 1) * 24 ≤ 140737488355328 := by omega
      have hm24 : I + 1 ≤ Go.maxLen := by unfold Go.maxLen; omega
      have HL0 := hid hm24
      clear hm24
      have fz0 : ((W2.alloc (.cells #[.slice p1 x.length c1] 26)).drew).frozen? ⟨O, 1, none⟩ = false := by
        rw [show ((W2.alloc (.cells #[.slice p1 x.length c1] 26)).drew).frozen? ⟨O, 1, none⟩ = (W2.alloc (.cells #[.slice p1 x.length c1] 26)).frozen? ⟨O, 1, none⟩ from rfl, World.frozen?_of_block (w := W2) ((World.grownBy_alloc W2 _ none).block O lO (by simp))]
        exact f31
      have FZ0 := hid fz0
      clear fz0
      have nO := World.new_ne W2 _ k31
      have FIN : Hid (∀ gF cF3 w3, w3.ownsRow w.heap.size 26 1 (.slice (some ⟨gF, 0, none⟩) (I + 1) cF3) (I + 1) (fU ++ [.slice p1 x.length c1]) → ((W2.alloc (.cells #[.slice p1 x.length c1] 26)).drew).grownBy w3 (Value.slice pF I cF).ownBlock → ((Value.slice pF I cF).ownBlock = some gF ∨ gF = W2.heap.size + 1) →
          Hid (LsV w.heap.size (w3.setCell ⟨O, 1, none⟩ (.slice (some ⟨gF, 0, none⟩) (I + 1) cF3)) O (.slice (some ⟨gF, 0, none⟩) (I + 1) cF3) (.slice pE2 (I + 1) cE2) (fU ++ [.slice p1 x.length c1]) (eU ++ [.slice p1 (x.length + 70) c1]) (ls.take (I + 1))) ∧ Hid (Below w.heap.size w (w3.setCell ⟨O, 1, none⟩ (.slice (some ⟨gF, 0, none⟩) (I + 1) cF3)))) := by
        intro gF cF3 w3 ho hgr hat
        have gg : (W2.alloc (.cells #[.slice p1 x.length c1] 26)).grownBy w3 (Value.slice pF I cF).ownBlock := ⟨hgr.os, hgr.tape, hgr.output, hgr.size, hgr.block⟩
        have hel : eU.length = I := by
          have := L2.out.2.2.2.2.2.1.1
          simp at this
          omega
        refine ⟨(L2.out.full gg (u := .slice p1 x.length c1) (fun _ => ⟨p1, c1, ?_, ?_⟩) (by rw [hfl]; exact ho) ?_).2, ?_⟩
        · rw [hfl, ← htk, getD_app, getD_app, if_neg (by omega), if_neg (by omega), htl, hel, Nat.sub_self]
          rfl
        · rw [hfl, ← htk, getD_app, if_neg (by omega), htl, Nat.sub_self]
          rfl
        · rcases hat with h | h
          · left; rw [h]; rfl
          · right; rw [← h]; rfl
        · have b1 := (B3.out.alloc B3.out.size (.cells #[.slice p1 x.length c1] 26)).grown gg (Nat.le_trans B3.out.size (by simp)) (fun k e => (OF.out.lt k e).1)
          exact b1.grown (grown_set w3 O 1 _) b1.size (fun k e => by cases e; omega)
      have CZ0 : Hid (((W2.alloc (.cells #[.slice p1 x.length c1] 26)).drew).cell? ⟨O, 1, none⟩ = some (.slice pF I cF)) := by
        rw [show ((W2.alloc (.cells #[.slice p1 x.length c1] 26)).drew).cell? ⟨O, 1, none⟩ = (W2.alloc (.cells #[.slice p1 x.length c1] 26)).cell? ⟨O, 1, none⟩ from rfl, World.cell?_of_block (w := W2) ((World.grownBy_alloc W2 _ none).block O lO (by simp))]
        exact hid k31
      go_wp2_with fail
      go_region_law
        ((refine step_append_lies _ (by rfl) _ _ _ (by rfl) w.heap.size 26 i0 _ 1 24 Try.underlying22 hi0 hz0 hz1 hz2 rfl (by omega) (.slice pF I cF) I fU (by rfl) ((OF.out.alloc _).drew)
            ⟨W2.heap.size, 0, none⟩ 1 1 [.slice p1 x.length c1] (by rfl) (by rfl) (World.news_of_block (cs := #[.slice p1 x.length c1]) (t := 26) (fr := (0, 0)) (heap_alloc_new W2 _)) (by simp [Value.oneCell'])
            (by omega) HL0.out hb24 (by simp; omega) (W2.heap.size + 1) (by simp) ?_; intro gF cF3 w3 hown3 hgrow hat hlt3; have hfz3 : w3.frozen? ⟨O, 1, none⟩ = false := (hgrow.frozen_far _ (by simp; omega) (Ne.symm ag)).trans FZ0.out; have hc3 : w3.cell? ⟨O, 1, none⟩ = some (.slice pF I cF) := (hgrow.cell_far _ (by simp; omega) (Ne.symm ag)).trans CZ0.out))
      all_goals go_wp2
      all_goals exact ⟨⟨I + 1, by omega, by go_num, _, _, _, _, by simp [hfl], (FIN.out gF cF3 w3 hown3 hgrow hat).1, (FIN.out gF cF3 w3 hown3 hgrow hat).2⟩, by simp [intOf]; omega⟩
    · have hIe : I = ls.length := by omega
      subst hIe
      rw [List.take_of_length_le (Nat.le_refl _)] at HL1
      have M1 : Hid (MkV w.heap.size wr fU ls.length 0) := fun j hj => by omega
      go_wp2_with fail
      go_loopw [6] (fun i wq => ∃ J : Nat, J ≤ 70 ∧ i = .int .i64 J ∧ ∃ vF fU, fU.length = ls.length + J ∧ Hid (LsV w.heap.size wq O vF vE fU eU ls) ∧ Hid (MkV w.heap.size wq fU ls.length J) ∧ Hid (Below w.heap.size w wq)) (fun i _ => 70 - (intOf i).toNat)
      case atStart => exact ⟨0, Nat.zero_le _, rfl, _, _, by omega, HL1, M1, HB1⟩
      case round =>
        clear HL1 HB1 M1 hfl
        obtain ⟨J, hJ, rfl, vF, fU, hfl, HL1, HM1, HB1⟩ := hrel
        by_cases hlt : J < 70
        · obtain ⟨pF, cF, eF⟩ := own_slice HL1.out.2.2.1
          rw [hfl] at eF
          subst eF
          have hO1 : wr.ownsRow w.heap.size 26 1 (.slice pF (ls.length + J) cF) (ls.length + J) fU := by have := HL1.out.2.2.1; rw [hfl] at this; exact this
          obtain ⟨_, k1, _, _, f1, _⟩ := three_cells HL1.out.2.1
          have hs0 := HB1.out.size
          have hJw : IntKind.u8.wrap (J : Int) = J := by
            have e1 : IntKind.u8.bits = 8 := rfl
            have e2 : IntKind.u8.signed = false := rfl
            simp [IntKind.wrap, e1, e2]
            omega
          have lO : O < wr.heap.size := (Array.getElem?_eq_some_iff.1 HL1.out.2.1).1
          have OF := hid hO1
          have nO := World.new_ne wr _ k1
          clear hO1
          go_wp2_with (at_builtin; refine wpList_append_slice rfl _ _ rfl w.heap.size _ (ls.length + J) fU rfl ((OF.out.alloc _).alloc _) ⟨wr.heap.size + 1, 0, none⟩ 1 (.slice (some ⟨wr.heap.size, 0, none⟩) 2 2) rfl ?q0 rfl ?q1 ?q2 ?_)
          case q1 => omega
          case q2 => first | omega | (simp; omega)
          intro vF' w2 hown2 hg2 hloc2
          obtain ⟨pF2, cF2, eF2⟩ := own_slice hown2
          subst eF2
          have ga := World.grownBy_alloc wr (.cells #[.int .u8 J, .int .u8 99] 5) none
          have hL1 : LsV w.heap.size (wr.alloc (.cells #[.int .u8 J, .int .u8 99] 5)) O _ vE fU eU ls := HL1.out.away ga (fun k e => by cases e)
          have hM1 := HM1.out.away ga (fun k e => by cases e)
          have hu1 : (wr.alloc (.cells #[.int .u8 J, .int .u8 99] 5)).ownsRow w.heap.size 5 1 (.slice (some ⟨wr.heap.size, 0, none⟩) 2 2) 2 [.int .u8 J, .int .u8 99] := World.ownsRow_lit (base := w.heap.size) (e := 5) (size := 1) wr #[.int .u8 J, .int .u8 99] 2 hs0 (by decide) rfl
          obtain ⟨hb2, hL2⟩ := hL1.full hg2 (u := .slice (some ⟨wr.heap.size, 0, none⟩) 2 2) (fun h => by omega) (by rw [hfl]; exact hown2) (by simpa using hloc2)
          obtain ⟨_, k2, _, _, f2, _⟩ := three_cells hb2
          have bO : BT w2 O 24 := ⟨_, _, hb2⟩
          have oa := OF.out.alloc (.cells #[.int .u8 J, .int .u8 99] 5)
          have keepM : ∀ {v n xs}, (wr.alloc (.cells #[.int .u8 J, .int .u8 99] 5)).ownsRow w.heap.size 5 1 v n xs → (w2.setCell ⟨O, 1, none⟩ (.slice pF2 (ls.length + J + 1) cF2)).ownsRow w.heap.size 5 1 v n xs := fun {v n xs} h => by
            have h1 := h.alloc (.cells #[.slice (some ⟨wr.heap.size, 0, none⟩) 2 2] 26)
            have h2 := own_away h1 hg2 (fun k e => by obtain ⟨cur, fz, hb⟩ := own_BT (oa.alloc (.cells #[.slice (some ⟨wr.heap.size, 0, none⟩) 2 2] 26)) k e; exact own_block_ne h1 hb (by decide))
            exact own_away h2 (grown_set w2 O 1 _) (fun k e => by cases e; exact own_block_ne h2 hb2 (by decide))
          have hM2 : MkV w.heap.size (w2.setCell ⟨O, 1, none⟩ (.slice pF2 (ls.length + J + 1) cF2)) (fU ++ [.slice (some ⟨wr.heap.size, 0, none⟩) 2 2]) ls.length (J + 1) := by
            intro j hj
            rw [getD_app]
            by_cases hj2 : j < J
            · rw [if_pos (by omega)]
              exact keepM (hM1 j hj2)
            · have : j = J := by omega
              subst this
              rw [if_neg (by omega), hfl, Nat.sub_self]
              exact keepM hu1
          have hB2 : Below w.heap.size w (w2.setCell ⟨O, 1, none⟩ (.slice pF2 (ls.length + J + 1) cF2)) := by
            have b1 := ((HB1.out.alloc hs0 (.cells #[.int .u8 J, .int .u8 99] 5)).alloc (by simp; omega) (.cells #[.slice (some ⟨wr.heap.size, 0, none⟩) 2 2] 26)).grown hg2 (by simp; omega) (fun k e => (OF.out.lt k e).1)
            exact b1.grown (grown_set w2 O 1 _) b1.size (fun k e => by cases e; omega)
          have L2 := hid hL2
          have M2 := hid hM2
          have B2 := hid hB2
          clear hL2 hM2 hB2 keepM oa hu1 hM1 hL1 ga hown2 hg2 hloc2 hb2 k1 f1
          go_wp2
          exact ⟨⟨J + 1, by omega, by go_num, _, _, by simp [hfl]; omega, L2, M2, B2⟩, by simp [intOf]; omega⟩
        · have hJ70 : J = 70 := by omega
          subst hJ70
          obtain ⟨pF, cF, eF⟩ := own_slice HL1.out.2.2.1
          rw [hfl] at eF
          subst eF
          obtain ⟨k0, k1, k2, f0, f1, f2⟩ := three_cells HL1.out.2.1
          have hs0 := HB1.out.size
          have hO1 := HL1.out.2.2.1
          rw [hfl] at hO1
          have hcF : ls.length ≤ cF ∧ cF ≤ 2 ^ 63 - 1 := by
            rcases hO1.2 with ⟨e, h0⟩ | ⟨g, cap, cur, e, _, _, h3, h4, _⟩
            · omega
            · simp only [Value.slice.injEq, true_and] at e
              obtain ⟨_, rfl⟩ := e
              unfold maxLen at h4
              omega
          obtain ⟨hcF, hcF2⟩ := hcF
          have HX : Hid (XL w.heap.size wr (.slice pF ls.length cF) (.slice pF (ls.length + 70) cF) vE fU eU ls) := ⟨hO1, HL1.out.2.2.2.1, HL1.out.2.2.2.2.1, HL1.out.2.2.2.2.2.1, fun j hj => HL1.out.2.2.2.2.2.2 j (by omega) hj, HM1.out, _, _, rfl, rfl⟩
          have BO := hid HL1.out.block
          have sz2 := size_bytes
          obtain ⟨r0, r1, r2, g0, g1, g2⟩ := three_cells HL1.out.1.2
          have HR := hid HL1.out.1.2
          have hBO : w.heap.size ≠ O := by omega
          obtain ⟨pE, cE, eE⟩ := own_slice HL1.out.2.2.2.1
          subst eE
          have FIN : Hid (∀ a b c d : Value, XL w.heap.size ((((wr.setCell ⟨O, 0, none⟩ a).setCell ⟨w.heap.size, 0, none⟩ b).setCell ⟨w.heap.size, 1, none⟩ c).setCell ⟨w.heap.size, 2, none⟩ d) (.slice pF ls.length cF) (.slice pF (ls.length + 70) cF) (.slice pE ls.length cE) fU eU ls ∧ Below w.heap.size w ((((wr.setCell ⟨O, 0, none⟩ a).setCell ⟨w.heap.size, 0, none⟩ b).setCell ⟨w.heap.size, 1, none⟩ c).setCell ⟨w.heap.size, 2, none⟩ d) ∧ ((((wr.setCell ⟨O, 0, none⟩ a).setCell ⟨w.heap.size, 0, none⟩ b).setCell ⟨w.heap.size, 1, none⟩ c).setCell ⟨w.heap.size, 2, none⟩ d).heap[w.heap.size]? = some (.cells #[b, c, d] 24 (0, 0))) := by
            intro a b c d
            have x1 := HX.out.away (grown_set wr O 0 a) (fun k e => by cases e; exact ⟨_, BO.out, by decide, by decide⟩)
            have y1 := HB1.out.grown (grown_set wr O 0 a) hs0 (fun k e => by cases e; omega)
            have t1 : (wr.setCell ⟨O, 0, none⟩ a).heap[w.heap.size]? = some (.cells #[.slice none 0 0, .slice none 0 0, .slice none 0 0] 24 (0, 0)) := by rw [(grown_set wr O 0 a).block w.heap.size (Array.getElem?_eq_some_iff.1 HR.out).1 (by simp; omega)]; exact HR.out
            have t2 : ((wr.setCell ⟨O, 0, none⟩ a).setCell ⟨w.heap.size, 0, none⟩ b).heap[w.heap.size]? = some (.cells #[b, .slice none 0 0, .slice none 0 0] 24 (0, 0)) := by rw [heap_setCell_same _ w.heap.size 0 _ _ b t1]; rfl
            have t3 : (((wr.setCell ⟨O, 0, none⟩ a).setCell ⟨w.heap.size, 0, none⟩ b).setCell ⟨w.heap.size, 1, none⟩ c).heap[w.heap.size]? = some (.cells #[b, c, .slice none 0 0] 24 (0, 0)) := by rw [heap_setCell_same _ w.heap.size 1 _ _ c t2]; rfl
            have t4 : ((((wr.setCell ⟨O, 0, none⟩ a).setCell ⟨w.heap.size, 0, none⟩ b).setCell ⟨w.heap.size, 1, none⟩ c).setCell ⟨w.heap.size, 2, none⟩ d).heap[w.heap.size]? = some (.cells #[b, c, d] 24 (0, 0)) := by rw [heap_setCell_same _ w.heap.size 2 _ _ d t3]; rfl
            have x2 := x1.away (grown_set _ w.heap.size 0 b) (fun k e => by cases e; exact ⟨_, ⟨_, _, t1⟩, by decide, by decide⟩)
            have y2 := y1.grown (grown_set _ w.heap.size 0 b) y1.size (fun k e => by cases e; omega)
            have x3 := x2.away (grown_set _ w.heap.size 1 c) (fun k e => by cases e; exact ⟨_, ⟨_, _, t2⟩, by decide, by decide⟩)
            have y3 := y2.grown (grown_set _ w.heap.size 1 c) y2.size (fun k e => by cases e; omega)
            exact ⟨x3.away (grown_set _ w.heap.size 2 d) (fun k e => by cases e; exact ⟨_, ⟨_, _, t3⟩, by decide, by decide⟩), y3.grown (grown_set _ w.heap.size 2 d) y3.size (fun k e => by cases e; omega), t4⟩
          clear HL1 HM1 hO1
          go_wp2
          refine bodyPost_ret (v := .agg #[.slice pF ls.length cF, .slice pF (ls.length + 70) cF, .slice pE ls.length cE]) (results_cell_row (p := 2) (ty := 24) rfl _ _ w.heap.size 24 #[.slice pF ls.length cF, .slice pF (ls.length + 70) cF, .slice pE ls.length cE] (0, 0) _ rfl (FIN.out _ _ _ _).2.2 Try.underlying24 rfl size_lists) rfl ?_
          exact ⟨_, _, _, _, _, rfl, (FIN.out _ _ _ _).1, (FIN.out _ _ _ _).2.1⟩
end Go.Proofs.Ytdmdcnikhnoclab
