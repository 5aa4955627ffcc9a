/- Of the road to octetChunks_holds: Base, Opens, Range, U8, Clone, Slices, Owns, Chunks, RangeN, Ev. -/
import Derived.WalkKit
import Derived.WalkSpells
import Derived.WalkLawsBesides
import Derived.Deep.QuietTactic
import Derived.BigQuiet
import Derived.Test.YtnifnoadfepegaaRows
import Derived.ProofKit
import Derived.OpenShut
import Derived.ShutString
import Derived.ChangeOld
import Derived.Deep.Slices
import Derived.JoinedCond
import Derived.SizedLaws
import Derived.RangeFuncNested
import Derived.RangeFuncBound
import Derived.RangeFuncCalls
import Derived.RangeFuncBox
import Derived.RangeFuncLeaves
import Derived.Shelf.Abstract
import Derived.Shelf.RegionOpen
import Derived.OwnWalkIn
import Derived.TacticsInMore
import Derived.LoopNIn
import Derived.LoopIn
import Derived.Test.YtnifnoadfepegaaChecked
import Derived.Laws.AppendOwnNone
import Derived.Deep.MidRow
import Derived.OrdersHeld
import Derived.Below
import Derived.RangeFuncOwn
set_option linter.unusedVariables false
set_option linter.unusedSimpArgs false
namespace Go.Proofs.Ytnifnoadfepegaa
open Go.RowKit
theorem hid {p : Prop} (h : p) : Hid p := h
def HB (w : World) (v : Value) (l : List Int) : Prop :=
  (∃ (p : Option Addr) (c : Nat), v = .slice p l.length c ∧ l.length ≤ c ∧ c ≤ maxLen ∧ (p = none → c = 0) ∧
    (l ≠ [] → ∃ b off, p = some ⟨b, off, none⟩ ∧ ∀ j, j < l.length → w.cell? ⟨b, off + j, none⟩ = some (.int .u8 (l.getD j 0)))) ∧ ∀ x ∈ l, 0 ≤ x ∧ x < 256
theorem HB.open {w : World} {v : Value} {l : List Int} (h : HB w v l) : ∃ (p : Option Addr) (c : Nat), v = .slice p l.length c ∧ l.length ≤ c ∧ c ≤ maxLen := by
  obtain ⟨⟨p, c, h1, h2, h3, _⟩, _⟩ := h
  exact ⟨p, c, h1, h2, h3⟩
theorem HB.ne {w : World} {v : Value} {l : List Int} (h : HB w v l) (hl : 0 < l.length) :
    ∃ b off c, v = .slice (some ⟨b, off, none⟩) l.length c ∧ l.length ≤ c ∧ c ≤ maxLen ∧ ∀ j, j < l.length → w.cell? ⟨b, off + j, none⟩ = some (.int .u8 (l.getD j 0)) := by
  obtain ⟨⟨p, c, h1, h2, h3, _, h4⟩, _⟩ := h
  obtain ⟨b, off, rfl, hc⟩ := h4 (by intro e; subst e; simp at hl)
  exact ⟨b, off, c, h1, h2, h3, hc⟩
theorem HB.byte {w : World} {v : Value} {l : List Int} (h : HB w v l) (j : Nat) : 0 ≤ l.getD j 0 ∧ l.getD j 0 < 256 := by
  by_cases hj : j < l.length
  · have e : l.getD j 0 = l[j] := by simp [List.getD, List.getElem?_eq_getElem hj]
    rw [e]
    exact h.2 _ (List.getElem_mem hj)
  · have e : l.getD j 0 = 0 := by simp [List.getD, List.getElem?_eq_none (by omega : l.length ≤ j)]
    rw [e]; omega
theorem HB.later {w w' : World} {v : Value} {l : List Int} (h : HB w v l) (hc : ∀ a (n : Int), w.cell? a = some (.int .u8 n) → w'.cell? a = some (.int .u8 n)) : HB w' v l := by
  obtain ⟨⟨p, c, h1, h2, h3, h6, h4⟩, h5⟩ := h
  refine ⟨⟨p, c, h1, h2, h3, h6, fun hl => ?_⟩, h5⟩
  obtain ⟨b, off, e, hh⟩ := h4 hl
  exact ⟨b, off, e, fun j hj => hc _ _ (hh j hj)⟩
theorem HB.below {w w' : World} {v : Value} {l : List Int} (h : HB w v l) (hb : Below w.heap.size w w') : HB w' v l :=
  h.later fun a _ hx => (hb.cell (World.block_lt_of_cell? w a hx)).trans hx
theorem HB.drewN {w : World} {v : Value} {l : List Int} (h : HB w v l) (q : Nat) : HB (w.drewN q) v l := h.later fun _ _ hx => hx
theorem getD_of_lt {l : List Int} {k : Nat} (h : k < l.length) : l.getD k 0 = l[k] := by simp [List.getD, List.getElem?_eq_getElem h]
theorem ownsRow_cells {w : World} {B : Nat} {e : TypeId} {v : Value} {n : Nat} {xs : List Value} (h : w.ownsRow B e 1 v n xs) (h0 : 0 < n) :
    ∃ g cap, v = .slice (some ⟨g, 0, none⟩) n cap ∧ B ≤ g ∧ n ≤ cap ∧ cap ≤ maxLen ∧ ∀ j u, xs[j]? = some u → w.cell? ⟨g, 0 + j, none⟩ = some u := by
  have hc := @World.ownsRow.cells w B e 1 v n xs h
  rcases h.2 with ⟨_, e0⟩ | ⟨g, cap, cur, rfl, hb, _, hn, hm, _, _⟩
  · omega
  · refine ⟨g, cap, rfl, hb, hn, hm, fun j u hj => ?_⟩
    have := @hc g rfl j u hj
    rwa [Go.WideShapes.add_plain] at this
theorem HB.of_own {w : World} {B : Nat} {e : TypeId} {v : Value} {l : List Int} (h : w.ownsRow B e 1 v l.length (l.map (Value.int .u8))) (hx : ∀ x ∈ l, 0 ≤ x ∧ x < 256) : HB w v l := by
  refine ⟨?_, hx⟩
  by_cases h0 : 0 < l.length
  · obtain ⟨g, cap, rfl, _, hn, hm, hc⟩ := ownsRow_cells h h0
    refine ⟨_, cap, rfl, hn, hm, (fun e => by cases e), fun _ => ⟨g, 0, rfl, fun j hj => ?_⟩⟩
    exact hc j _ (by simp [List.getD, List.getElem?_eq_getElem hj])
  · have e : l = [] := List.length_eq_zero_iff.1 (by omega)
    subst e
    rcases h.2 with ⟨rfl, _⟩ | ⟨g, cap, cur, rfl, _, _, hn, hm, _⟩
    · exact ⟨none, 0, rfl, Nat.le_refl _, Nat.zero_le _, fun _ => rfl, fun h => absurd rfl h⟩
    · exact ⟨_, cap, rfl, hn, hm, (fun e => by cases e), fun h => absurd rfl h⟩
theorem HB.grown {w w' : World} {v : Value} {l : List Int} {g : Nat} (h : HB w v l) (hg : w.grownBy w' (some g)) (hn : ∀ o sp (n : Int), w.cell? ⟨g, o, sp⟩ ≠ some (.int .u8 n)) : HB w' v l :=
  h.later fun a n hx => hg.cell hx (by
    intro e
    obtain ⟨b, o, sp⟩ := a
    simp only [Option.some.injEq] at e
    subst e
    exact hn o sp n hx)
theorem HB.nil (w : World) : HB w (.slice none 0 0) [] := ⟨⟨none, 0, rfl, Nat.zero_le _, Nat.zero_le _, fun _ => rfl, fun h => absurd rfl h⟩, by simp⟩
def BT (w : World) (g : Nat) (T : TypeId) : Prop := ∃ cur fz, w.heap[g]? = some (.cells cur T fz)
def HL (w : World) (v : Value) (ls : List (List Int)) : Prop :=
  ∃ (p : Option Addr) (c : Nat), v = .slice p ls.length c ∧ ls.length ≤ c ∧ c ≤ maxLen ∧ (p = none → c = 0) ∧
    (ls ≠ [] → ∃ b off, p = some ⟨b, off, none⟩ ∧ ∀ j, j < ls.length → ∃ u, w.cell? ⟨b, off + j, none⟩ = some u ∧ HB w u (ls.getD j []))
theorem HL.ne {w : World} {v : Value} {ls : List (List Int)} (h : HL w v ls) (hl : 0 < ls.length) :
    ∃ b off c, v = .slice (some ⟨b, off, none⟩) ls.length c ∧ ls.length ≤ c ∧ c ≤ maxLen ∧ ∀ j, j < ls.length → ∃ u, w.cell? ⟨b, off + j, none⟩ = some u ∧ HB w u (ls.getD j []) := by
  obtain ⟨p, c, h1, h2, h3, _, h4⟩ := h
  obtain ⟨b, off, rfl, hc⟩ := h4 (by intro e; subst e; simp at hl)
  exact ⟨b, off, c, h1, h2, h3, hc⟩
theorem HL.open {w : World} {v : Value} {ls : List (List Int)} (h : HL w v ls) : ∃ (p : Option Addr) (c : Nat), v = .slice p ls.length c ∧ ls.length ≤ c ∧ c ≤ maxLen := by
  obtain ⟨p, c, h1, h2, h3, _⟩ := h
  exact ⟨p, c, h1, h2, h3⟩
theorem HL.later {w w' : World} {v : Value} {ls : List (List Int)} (h : HL w v ls) (hc : ∀ a x, w.cell? a = some x → w'.cell? a = some x) : HL w' v ls := by
  obtain ⟨p, c, h1, h2, h3, h5, h4⟩ := h
  refine ⟨p, c, h1, h2, h3, h5, fun hl => ?_⟩
  obtain ⟨b, off, e, hh⟩ := h4 hl
  refine ⟨b, off, e, fun j hj => ?_⟩
  obtain ⟨u, hu, hb⟩ := hh j hj
  exact ⟨u, hc _ _ hu, hb.later fun a n => hc a _⟩
theorem HL.below {w w' : World} {v : Value} {ls : List (List Int)} (h : HL w v ls) (hb : Below w.heap.size w w') : HL w' v ls :=
  h.later fun a _ hx => (hb.cell (World.block_lt_of_cell? w a hx)).trans hx
theorem HL.byt {w : World} {v : Value} {ls : List (List Int)} (h : HL w v ls) : ∀ x ∈ ls.flatten, 0 ≤ x ∧ x < 256 := by
  intro x hx
  obtain ⟨l, hl, hxl⟩ := List.mem_flatten.1 hx
  obtain ⟨j, hj, rfl⟩ := List.getElem_of_mem hl
  obtain ⟨b, off, c, _, _, _, hh⟩ := h.ne (by omega)
  obtain ⟨u, _, hb⟩ := hh j hj
  have e : ls.getD j [] = ls[j] := by simp [List.getD, List.getElem?_eq_getElem hj]
  rw [e] at hb
  exact hb.2 x hxl
theorem HL.nil (w : World) : HL w (.slice none 0 0) [] := ⟨none, 0, rfl, Nat.zero_le _, Nat.zero_le _, fun _ => rfl, fun h => absurd rfl h⟩
def Dr (w w' : World) : Prop := ∃ q, w' = w.drewN q
theorem Dr.refl (w : World) : Dr w w := ⟨0, rfl⟩
theorem Dr.drewN {w u : World} (h : Dr w u) (n : Nat) : Dr w (u.drewN n) := by
  obtain ⟨q, rfl⟩ := h
  exact ⟨q + n, World.drewN_drewN w q n⟩
theorem Dr.one (w : World) (n : Nat) : Dr w (w.drewN n) := ⟨n, rfl⟩
theorem Dr.trans {a b c : World} (h : Dr a b) (k : Dr b c) : Dr a c := by
  obtain ⟨q, rfl⟩ := k
  exact h.drewN q
theorem Dr.cell {w w' : World} (h : Dr w w') (a : Addr) : w'.cell? a = w.cell? a := by obtain ⟨q, rfl⟩ := h; rfl
theorem Dr.heap {w w' : World} (h : Dr w w') : w'.heap = w.heap := by obtain ⟨q, rfl⟩ := h; rfl
theorem Dr.below {w w' : World} (h : Dr w w') (B : Nat) : Below B w w' := by obtain ⟨q, rfl⟩ := h; exact ⟨rfl, rfl, rfl, Nat.le_refl _, fun _ _ => rfl⟩
theorem HB.dr {w w' : World} {v : Value} {l : List Int} (h : HB w v l) (d : Dr w w') : HB w' v l := h.later fun a _ hx => (d.cell a).trans hx
theorem HL.dr {w w' : World} {v : Value} {ls : List (List Int)} (h : HL w v ls) (d : Dr w w') : HL w' v ls := h.below (d.below _)
end Go.Proofs.Ytnifnoadfepegaa
namespace Go.Proofs.Ytnifnoadfepegaa
open Go.ChangeShapes Go.WideShapes Go.ChangeAt Go.RowKit
theorem Opn.own : ownKnob Try.prog.godebug = none := by kernel_rfl
theorem Opn.laidOut : laidOutB Try.prog = true := by kernel_rfl
theorem Opn.cells_u8 : Try.prog.cellsOf 5 = 1 := by kernel_rfl
theorem Opn.cells_int : Try.prog.cellsOf 3 = 1 := by kernel_rfl
theorem bulk_pos {H : Type} (d : DataW H) : 1 ≤ Rows.uptoBulk d := by
  cases d with
  | lit l => cases l <;> simp [Rows.uptoBulk]
  | _ => simp [Rows.uptoBulk]
theorem bulk_len {H : Type} (l : List (DataW H)) : l.length ≤ Rows.uptoBulkAll l := by
  induction l with
  | nil => simp
  | cons x r ih => have := bulk_pos x; simp only [Rows.uptoBulkAll, List.length_cons]; omega
theorem bulk_slice {H : Type} (a b : List (DataW H)) : a.length + b.length + 1 ≤ Rows.uptoBulk (.slice a b) := by
  have h1 := bulk_len a
  have h2 := bulk_len b
  simp only [Rows.uptoBulk]
  omega
theorem bulk_all {H : Type} {l : List (DataW H)} (hk : Rows.uptoSmall H l = true) : Rows.uptoBulkAll l ≤ 1048576 := of_decide_eq_true hk
variable {H : Type} {enc : TypeId × Value → H} {W : World}
theorem open_row {k : IntKind} {t e : TypeId} {fuel base : Nat} {cs : List Value} {d : DataW H} {p : List MemPlace} (ht : Try.prog.underlying t = some (.slice e)) (he : Try.prog.underlying e = some (.int k)) (hc : Try.prog.cellsOf e = 1)
    (hf : DataW.trod enc Try.prog W base (fun _ => true) true fuel t cs = some (d, p)) :
    ∃ (q : Option Addr) (c : Nat) (l : List Int), cs = [.slice q l.length c] ∧ l.length ≤ c ∧ c ≤ maxLen ∧ (q = none → c = 0) ∧ (l ≠ [] → ∃ b off, q = some ⟨b, off, none⟩ ∧ ∀ j, j < l.length → W.cell? ⟨b, off + j, none⟩ = some (.int k (l.getD j 0))) ∧ (∀ n ∈ l, (Lit.int k n).wf = true) ∧ l.length + 1 ≤ Rows.uptoBulk d := by
  rcases open_ints ht he hc hf with ⟨rfl, hx⟩ | ⟨x, len, cap, zs, rfl, _, hl, hm, hz, hx, hcell, hwz⟩
  · cases hx
    exact ⟨none, 0, [], rfl, Nat.le_refl _, Nat.zero_le _, fun _ => rfl, fun h => absurd rfl h, by simp, by simp [Rows.uptoBulk]⟩
  · simp only [Prod.mk.injEq] at hx
    obtain ⟨rfl, _⟩ := hx
    simp only [if_true] at hz
    have hlen : (zs.take len).length = len := by simp; omega
    refine ⟨some x, cap, zs.take len, by rw [hlen], by omega, hm, (fun e => by cases e), fun hne => ?_, fun n hn => hwz n (List.mem_of_mem_take hn), ?_⟩
    · have h0 : 0 < len := by
        apply Classical.byContradiction
        intro h
        exact hne (List.length_eq_zero_iff.1 (by omega))
      obtain ⟨b, off, rfl, hh⟩ := ints_at hcell (by omega)
      refine ⟨b, off, rfl, fun j hj => ?_⟩
      rw [hlen] at hj
      rw [hh j (by omega)]
      simp only [List.getD, List.getElem?_take]
      rw [if_pos hj]
    · have := bulk_slice (lits (H := H) k (zs.take len)) (lits k (zs.drop len))
      simp only [lits, List.length_map] at this ⊢
      omega
theorem byte_wf {l : List Int} (h : ∀ n ∈ l, (Lit.int .u8 n).wf = true) : ∀ x ∈ l, 0 ≤ x ∧ x < 256 := by
  intro x hx
  have := bounds_u8 (h x hx)
  omega
theorem open_HB {base : Nat} {v : Value} {d : DataW H} {p : List MemPlace} (h : DataW.Trod enc Try.prog W base (fun _ => true) true 22 v d p) (hv : ∃ a n c, v = .slice a n c) : ∃ l, HB W v l ∧ l.length + 1 ≤ Rows.uptoBulk d := by
  obtain ⟨a, n, c, rfl⟩ := hv
  obtain ⟨fuel, hf⟩ := h
  obtain ⟨q, c', l, hcs, h1, h2, h3, h4, h5, h6⟩ := open_row Try.underlying22 Try.underlying5 Opn.cells_u8 hf
  simp only [Value.cells, List.cons.injEq, and_true] at hcs
  exact ⟨l, ⟨⟨q, c', hcs, h1, h2, h3, h4⟩, byte_wf h5⟩, h6⟩
theorem Opn.bytes_u8 : Try.prog.bytesOf 5 = 1 := by kernel_rfl
theorem len_reach {ts : List TypeId} {ds : List (DataW H)} {j base : Nat} {v : Value} {d : DataW H} {p : List MemPlace} {l : List Int} (h : (DataW.weightsEach Try.prog ts ds).all (· ≤ reachBytes) = true) (ht : ts[j]? = some 22) (hd : ds[j]? = some d)
    (hT : DataW.Trod enc Try.prog W base (fun _ => true) true 22 v d p) (hb : HB W v l) : l.length ≤ 140737488351232 := by
  obtain ⟨q, c, rfl, _, _⟩ := hb.open
  obtain ⟨fuel, hf⟩ := hT
  rcases open_ints Try.underlying22 Try.underlying5 Opn.cells_u8 hf with ⟨hcs, _⟩ | ⟨x, len, cap, zs, hcs, _, hl, hm, hz, hx, _, _⟩
  · simp only [Value.cells, List.cons.injEq, and_true, Value.slice.injEq] at hcs
    omega
  · simp only [Value.cells, List.cons.injEq, and_true, Value.slice.injEq] at hcs
    simp only [Prod.mk.injEq] at hx
    obtain ⟨rfl, _⟩ := hx
    have := sized_slice h ht hd Try.underlying22
    rw [Opn.bytes_u8] at this
    simp only [lits, List.length_map, List.length_take, List.length_drop, reachBytes, if_true] at this hz
    omega
theorem bulk_mem {H : Type} {d : DataW H} {l : List (DataW H)} (h : d ∈ l) : Rows.uptoBulk d ≤ Rows.uptoBulkAll l := by
  induction l with
  | nil => cases h
  | cons x r ih =>
    simp only [Rows.uptoBulkAll]
    rcases List.mem_cons.1 h with e | e
    · subst e; omega
    · have := ih e; omega
theorem bulk_sum {H : Type} : ∀ (n : Nat) (D : Nat → DataW H) (L : Nat → List Int), (∀ i, i < n → (L i).length + 1 ≤ Rows.uptoBulk (D i)) → ((List.range n).map L).flatten.length + n ≤ Rows.uptoBulkAll ((List.range n).map D)
  | 0, _, _, _ => by simp [Rows.uptoBulkAll]
  | n + 1, D, L, h => by
    have ih := bulk_sum n (fun i => D (i + 1)) (fun i => L (i + 1)) (fun i hi => h (i + 1) (by omega))
    have h0 := h 0 (by omega)
    rw [List.range_succ_eq_map]
    simp only [List.map_cons, List.map_map, List.flatten_cons, List.length_append, Rows.uptoBulkAll]
    have e1' : (List.range n).map (L ∘ Nat.succ) = (List.range n).map (fun i => L (i + 1)) := rfl
    have e2' : (List.range n).map (D ∘ Nat.succ) = (List.range n).map (fun i => D (i + 1)) := rfl
    rw [e1', e2']
    omega
theorem choose_lists {P : Nat → List Int → Prop} (n : Nat) (h : ∀ i, i < n → ∃ l, P i l) : ∃ L : Nat → List Int, ∀ i, i < n → P i (L i) :=
  ⟨fun i => if hi : i < n then Classical.choose (h i hi) else [], fun i hi => by simp only [hi, dif_pos]; exact Classical.choose_spec (h i hi)⟩
theorem Opn.cells_bytes : Try.prog.cellsOf 22 = 1 := by kernel_rfl
theorem open_HL {base : Nat} {v : Value} {d : DataW H} {p : List MemPlace} (h : DataW.Trod enc Try.prog W base (fun _ => true) true 24 v d p) (hv : ∃ a n c, v = .slice a n c) : ∃ ls, HL W v ls ∧ ls.flatten.length + ls.length + 1 ≤ Rows.uptoBulk d := by
  obtain ⟨a, n, c, rfl⟩ := hv
  obtain ⟨fuel, hf⟩ := h
  rcases Go.Deep.open_slice Try.underlying24 hf with ⟨hcs, hx⟩ | ⟨a, len, cap, m, n, D, Pl, hcs, hb, hl, hm, hmm, hx, hel⟩
  · simp only [Value.cells, List.cons.injEq, and_true] at hcs
    cases hx
    rw [hcs]
    exact ⟨[], HL.nil _, by simp [Rows.uptoBulk]⟩
  · simp only [Value.cells, List.cons.injEq, and_true] at hcs
    rw [hcs]
    simp only [if_true] at hmm
    subst hmm
    simp only [Prod.mk.injEq] at hx
    obtain ⟨rfl, _⟩ := hx
    have each : ∀ i, i < len → ∃ l, (∃ u, W.cell? (a.add i) = some u ∧ HB W u l) ∧ l.length + 1 ≤ Rows.uptoBulk (D i) := by
      intro i hi
      obtain ⟨cs', h1, h2⟩ := hel i (by omega)
      rw [Opn.cells_bytes, Nat.mul_one] at h1
      obtain ⟨q, c', l, rfl, k1, k2, k3, k4, k5, k6⟩ := open_row Try.underlying22 Try.underlying5 Opn.cells_u8 h2
      exact ⟨l, ⟨_, cell_of_cells?_one h1, ⟨⟨q, c', rfl, k1, k2, k3, k4⟩, byte_wf k5⟩⟩, k6⟩
    obtain ⟨L, hL⟩ := choose_lists len each
    have hlen : ((List.range len).map L).length = len := by simp
    refine ⟨(List.range len).map L, ⟨some a, m, by rw [hlen], by omega, hm, (fun e => by cases e), fun hne => ?_⟩, ?_⟩
    · have h0 : 0 < len := by
        apply Classical.byContradiction
        intro h
        exact hne (List.length_eq_zero_iff.1 (by omega))
      obtain ⟨b, off, sp⟩ := a
      obtain ⟨⟨u, hu, _⟩, _⟩ := hL 0 h0
      have hsp : sp = none := by simpa [Addr.add] using World.cell?_spot hu
      subst hsp
      refine ⟨b, off, rfl, fun j hj => ?_⟩
      rw [hlen] at hj
      obtain ⟨⟨u, hu, hb⟩, _⟩ := hL j hj
      rw [Go.WideShapes.add_plain] at hu
      refine ⟨u, hu, ?_⟩
      have e : ((List.range len).map L).getD j [] = L j := by simp [List.getD, hj]
      rw [e]
      exact hb
    · have h1 := bulk_sum len D L (fun i hi => (hL i hi).2)
      rw [hlen]
      simp only [Rows.uptoBulk]
      omega
end Go.Proofs.Ytnifnoadfepegaa
namespace Go.Proofs.Ytnifnoadfepegaa
open Go.RowKit Go.Shelf
def KD (D : Nat → Prop) (A C : World) : Prop := A.heap.size ≤ C.heap.size ∧ ∀ i, D i → C.heap[i]? = A.heap[i]?
theorem KD.refl (D : Nat → Prop) (A : World) : KD D A A := ⟨Nat.le_refl _, fun _ _ => rfl⟩
theorem KD.trans {D : Nat → Prop} {A B C : World} (h : KD D A B) (k : KD D B C) : KD D A C := ⟨Nat.le_trans h.1 k.1, fun i hi => (k.2 i hi).trans (h.2 i hi)⟩
theorem KD.put {D : Nat → Prop} {A : World} {l : Nat} (hl : ¬ D l) (o : Obj) : KD D A (A.putObj l o) := ⟨by simp, fun _ hi => World.putObj_heap_other (fun e => hl (e ▸ hi))⟩
def IterF (F : Fence) (n : Nat) (P : Program) (g : Nat) (lb : Array Value) (enc : Nat → Value → Array Value) (Fit : Nat → Value → World → Prop) (D : Nat → Prop) (N : Nat) (w0 : World) : Prop :=
  ∀ (l : Nat) (J : Nat → World → Prop) (Jx : World → Prop) (W : World), KD D w0 W → (∀ k A C, J k A → A.grownBy C none → J k C) →
    (∀ k v W1, J k W1 → Fit k v W1 → k < N → YieldAt F (n - 1) P l (enc k v) W1 fun e W' => (e = .returned (.bool true) ∧ J (k + 1) W' ∧ KD D W1 W') ∨ (e = .returned (.bool false) ∧ Jx W')) →
    J 0 W → CallsIn F n P g (#[.func (.yield l) #[] #[]] ++ lb) W fun e W' => (∃ v, e = .returned v) ∧ (J N W' ∨ Jx W')
def OutF (B : Nat) (D : Nat → Prop) (I : Nat → World → Prop) (Ix : Code → World → Prop) (k : Nat) (W : World) : Exit → Act → World → Prop
  | .normal, _, W' => KeepsFrom B W W' ∧ KD D W W' ∧ I (k + 1) W'
  | .ret, _, W' => KeepsFrom B W W' ∧ Ix .ret W'
  | .exit id, _, W' => KeepsFrom B W W' ∧ Ix (.exit id) W'
  | _, _, _ => False
theorem range_fit {F : Fence} {n : Nat} {P : Program} {g : Operand} {ps : Array Tmp} {assign body : Code} {Q : Exit → Act → World → Prop} {a : Act} {w : World}
    (hro : F.round = none) (h1 : 1 ≤ n) {gf : Nat} {lb : Array Value} (hg : a.eval g = .func (.func gf) #[] lb) (hFg : F.fn gf) (eg : ∀ args w, (callFunc gf args).run P w = .ok (.enter gf args) w)
    {enc : Nat → Value → Array Value} {Fit : Nat → Value → World → Prop} {D : Nat → Prop} {N : Nat} {w0 : World} (hit : IterF F (n - 1) P gf lb enc Fit D N w0) (hw0 : KD D w0 w) (hD : ∀ i, D i → i < w.heap.size) (hps : ∀ k v, (enc k v).size = ps.size)
    (I : Nat → World → Prop) (Ix : Code → World → Prop) (hI : OwnFrom w.heap.size I) (hIx : OwnFrom w.heap.size Ix) (hFit : ∀ k v, OwnFrom w.heap.size (fun (_ : Unit) W => Fit k v W)) (h0 : I 0 w) (a₁ : Nat → Value → Act)
    (hassign : ∀ (l k : Nat) (v : Value) (W : World) (K : Act → World → Prop), K (a₁ k v) W →
      assign.wpIn (F.inRound l) (n - 1 - 1) P (Exit.then K (fun _ _ _ => False)) { tmps := (ps.zip (enc k v)).foldl (fun t (p, v) => t.setIfInBounds p v) a.tmps, defers := [] } W)
    (hbody : ∀ (l k : Nat) (v : Value) (W : World), w.heap.size ≤ l → (∃ r, W.heap[l]? = some (.loop r)) → I k W → Fit k v W → k < N → body.wpIn (F.inRound l) (n - 1 - 1) P (OutF w.heap.size D I Ix k W) (a₁ k v) W)
    (hdone : ∀ (d : Nat) (W : World), w.heap.size ≤ d → I N W → W.heap[d]? = some (.deferred (some [])) → Q .normal { a with defers := { target := .collected d, args := #[] } :: a.defers } W)
    (hstop : ∀ (d : Nat) (c : Code) (W : World), w.heap.size ≤ d → Ix c W → W.heap[d]? = some (.deferred (some [])) → c.wpIn F n P Q { a with defers := { target := .collected d, args := #[] } :: a.defers } W) :
    (Code.rangeFunc g ps assign body).wpIn F n P Q a w := by
  refine wpIn_rangeFunc fun fn hfn => ?_
  rw [hro]
  let R : LoopState → Option Code → Loop := fun st pe => { state := st, pending := pe, fn, tmps := a.tmps, params := ps, assign, body, defers := w.heap.size }
  have hds : ∀ i, D i → i ≠ w.heap.size ∧ i ≠ w.heap.size + 1 := fun i hi => by have := hD i hi; omega
  have hnd : ¬ D (w.heap.size + 1) := fun h => (hds _ h).2 rfl
  -- what of the two blocks of book-keeping: the record at st, pe, and the block for deferred calls
  let BK : LoopState → Option Code → World → Prop := fun st pe W => W.heap[w.heap.size + 1]? = some (.loop (R st pe)) ∧ W.heap[w.heap.size]? = some (.deferred (some []))
  have bk_put : ∀ {st pe W} (st' pe'), BK st pe W → BK st' pe' (W.putObj (w.heap.size + 1) (.loop (R st' pe'))) := fun st' pe' h =>
    ⟨World.putObj_heap_same (Array.getElem?_eq_some_iff.1 h.1).1, (World.putObj_heap_other (by omega)).trans h.2⟩
  have bk_kept : ∀ {st pe A C}, BK st pe A → KeepsFrom w.heap.size A C → BK st pe C := fun h k => ⟨k.same _ _ (by omega) h.1 rfl, k.same _ _ (Nat.le_refl _) h.2 rfl⟩
  have bk_grown : ∀ {st pe A C}, BK st pe A → A.grownBy C none → BK st pe C := fun h k =>
    ⟨(k.block _ (Array.getElem?_eq_some_iff.1 h.1).1 (by simp)).trans h.1, (k.block _ (Array.getElem?_eq_some_iff.1 h.2).1 (by simp)).trans h.2⟩
  obtain ⟨W1, hW1⟩ : ∃ W1, (w.alloc (.deferred (some []))).alloc (.loop (R .ready none)) = W1 := ⟨_, rfl⟩
  have hg1 : w.grownBy W1 none := by
    rw [← hW1]
    exact ⟨rfl, rfl, rfl, by simp; omega, fun i hi _ => (Below.heap_alloc _ _ _ (by simp; omega)).trans (Below.heap_alloc _ _ _ hi)⟩
  have hBK1 : BK .ready none W1 := by
    rw [← hW1]
    refine ⟨?_, (Below.heap_alloc _ _ _ (by simp)).trans (World.alloc_heap_new w _)⟩
    have := World.alloc_heap_new (w.alloc (.deferred (some []))) (.loop (R .ready none))
    rwa [World.size_alloc] at this
  refine ⟨w.heap.size + 1, [{ target := .collected w.heap.size, args := #[] }], W1, { target := .fn (.func gf) lb, args := #[.func (.yield (w.heap.size + 1)) #[] #[]] }, W1, gf, #[.func (.yield (w.heap.size + 1)) #[] #[]] ++ lb, W1, ?_, ?_, ?_, ?_, fun _ => h1, ?_⟩
  · rw [← hW1]; exact run_enterLoop_outer _ _ _ _ _
  · simp only [resolve, hg]; simp [go_sem]
  · intro f' hf'; simp [Target.leads] at hf'; subst hf'; exact hFg
  · simp [invoke, go_sem, eg]
  · refine (hit (w.heap.size + 1) (fun k W => I k W ∧ BK .ready none W) (fun W => ∃ c, Ix c W ∧ BK .done (some c) W) W1 (hw0.trans ⟨hg1.size, fun i hi => hg1.block i (hD i hi) (by simp)⟩)
      (fun k A C h hg' => ⟨hI k A C none h.1 hg' (fun r e => by cases e), bk_grown h.2 hg'⟩) ?_ ⟨hI 0 w W1 none h0 hg1 (fun r e => by cases e), hBK1⟩).mono ?_
    · rintro k v W ⟨hi, hb⟩ hf hk
      refine ⟨fn, _, assign, body, run_yield (P := P) (r := R .ready none) (args := enc k v) hb.1 (hps k v), roundIn_of_wpIn hfn (hassign _ k v W _ ⟨_, run_beginRound hb.1 rfl, ?_⟩)⟩
      have hb2 : BK .busy none (W.putObj (w.heap.size + 1) (.loop (R .busy none))) := bk_put _ _ hb
      refine wpIn_mono (hbody _ k v _ (by omega) ⟨_, hb2.1⟩ (hI.putObj _ hi (by omega) hb.1 rfl) ((hFit k v).putObj (s := ()) _ hf (by omega) hb.1 rfl) hk) ?_
      rintro e a3 W3 hp
      cases e with
      | normal =>
        obtain ⟨k1, k2, k3⟩ := hp
        have hb3 := bk_kept hb2 k1
        exact ⟨_, _, run_endRound (P := P) none hb3.1, .inl ⟨rfl, ⟨hI.putObj _ k3 (by omega) hb3.1 rfl, bk_put .ready none hb3⟩, ((KD.put hnd _).trans k2).trans (KD.put hnd _)⟩⟩
      | ret =>
        have hb3 := bk_kept hb2 hp.1
        exact ⟨_, _, run_endRound (P := P) (some .ret) hb3.1, .inr ⟨rfl, .ret, hIx.putObj _ hp.2 (by omega) hb3.1 rfl, bk_put .done (some .ret) hb3⟩⟩
      | exit id =>
        have hb3 := bk_kept hb2 hp.1
        exact ⟨_, _, run_endRound (P := P) (some (.exit id)) hb3.1, .inr ⟨rfl, .exit id, hIx.putObj _ hp.2 (by omega) hb3.1 rfl, bk_put .done (some (.exit id)) hb3⟩⟩
      | goto t => exact hp.elim
      | panic ch => exact hp.elim
      | outgrown => exact hp.elim
    · rintro e W2 ⟨⟨v, rfl⟩, ⟨hi, hb⟩ | ⟨c, hc, hb⟩⟩
      · exact ⟨none, _, run_endLoop (P := P) hb.1 (by simp [R]), hdone _ _ (Nat.le_refl _) (hI.putObj _ hi (by omega) hb.1 rfl) ((World.putObj_heap_other (by omega)).trans hb.2)⟩
      · exact ⟨some c, _, run_endLoop (P := P) hb.1 (by simp [R]), hstop _ c _ (Nat.le_refl _) (hIx.putObj _ hc (by omega) hb.1 rfl) ((World.putObj_heap_other (by omega)).trans hb.2)⟩
def noDefer (o : Oper) : Bool := match o.op with | .defer _ => false | _ => true
theorem noDefer_spec {ops : Array Oper} (h : ops.all noDefer = true) (i : Nat) (o : Oper) (ho : ops[i]? = some o) : ∀ c, o.op ≠ .defer c := fun c e => by
  obtain ⟨hi, rfl⟩ := Array.getElem?_eq_some_iff.1 ho
  have := (Array.all_eq_true.1 h) i hi
  simp [noDefer, e] at this
theorem any_round {F : Fence} {n : Nat} {P : Program} {ops : Array Oper} {Q : Exit → Act → World → Prop} {md : Region.Mode} {l : Nat} (hro : F.round = none) (hd : ops.all noDefer = true) :
    ∀ (fuel : Nat) (listed : Array Bool) (a : Act) (w : World), wpAnyIn F n P md ops Q fuel listed a w → wpAnyIn (F.inRound l) n P md ops Q fuel listed a w
  | 0, _, _, _, h => h
  | fuel + 1, listed, a, w, h => by
    refine ⟨h.1, fun i hi => ?_⟩
    have h1 := wpOpIn_mono (fun a' w' h' => any_round (l := l) hro hd fuel (listed.setIfInBounds i true) a' w' h') (h.2 i hi)
    unfold wpOpIn at h1 ⊢
    cases ho : ops[i]? with
    | none => simpa only [ho] using h1
    | some o =>
      simp only [ho] at h1 ⊢
      by_cases hw : Region.wanted o (yielded ops a.tmps) = true
      · simp only [hw, if_true] at h1 ⊢
        unfold Oper.wpIn at h1 ⊢
        refine ⟨h1.1, ?_⟩
        have h2 := h1.2
        rw [Oper.semAt_eq _ _ _ (noDefer_spec hd i o ho)] at h2 ⊢
        exact h2
      · simp only [hw] at h1 ⊢
        exact h1
theorem box_from {A C : World} {row : Option Nat} {B n : Nat} {t : TypeId} {v : Value} (h : Boxed A B t v) (hg : A.grownBy C row) (hr : ∀ r, row = some r → n ≤ r ∧ ∃ o : Obj, A.heap[r]? = some o ∧ o.isCells = false) : Boxed C B t v :=
  h.kept hg fun e => by
    obtain ⟨_, o, ho, hc⟩ := hr B e.symm
    rw [show A.heap[B]? = _ from h] at ho
    cases ho
    cases hc
theorem row_from {A C : World} {row : Option Nat} {B n k size : Nat} {e : TypeId} {v : Value} {xs : List Value} (h : A.ownsRow B e size v k xs) (hg : A.grownBy C row) (hr : ∀ r, row = some r → n ≤ r ∧ ∃ o : Obj, A.heap[r]? = some o ∧ o.isCells = false) : C.ownsRow B e size v k xs := by
  refine h.kept hg ?_
  rcases h.2 with ⟨rfl, _⟩ | ⟨g, cap, cur, rfl, _, hgb, _⟩
  · exact .inl rfl
  · refine .inr fun e' => ?_
    obtain ⟨_, o, ho, hc⟩ := hr g (by simpa [Value.ownBlock] using e'.symm)
    rw [hgb] at ho
    cases ho
    cases hc
theorem below_from {w A C : World} {row : Option Nat} {B n : Nat} (h : Below B w A) (hB : B ≤ w.heap.size) (hg : A.grownBy C row) (hr : ∀ r, row = some r → n ≤ r ∧ ∃ o : Obj, A.heap[r]? = some o ∧ o.isCells = false) (hn : B ≤ n) : Below B w C :=
  h.grown hg (Nat.le_trans hB h.size) (fun k e => by have := (hr k e).1; omega)
end Go.Proofs.Ytnifnoadfepegaa
namespace Go.Proofs.Ytnifnoadfepegaa
open Go.RowKit
theorem info_u8 : (Try.prog.info? 5).map (fun i => (i.zero, i.size, i.bytes)) = some (some (.int .u8 0), 1, 1) := by kernel_rfl
theorem size_u8 : ∀ w, Sem.run Try.prog (Go.sizeOf 5) w = .ok 1 w := fun w => by
  obtain ⟨i0, hi, hz0, hz1, hz2⟩ := info_parts info_u8
  simp [Go.sizeOf, typeInfo, hi, hz1]
theorem eql_nil_bytes : ∀ (w : World) (a : Option Addr) (n c n' c' : Nat), (binOp .eql 22 (.slice a n c) (.slice none n' c')).run Try.prog w = .ok (.bool a.isNone) w :=
  fun w a n c n' c' => Lib.run_eql_slice_nil w _ _ a n c n' c' Try.underlying22
set_option maxHeartbeats 1000000 in
theorem clone_any (w : World) (v : Value) (l : List Int) (h : HB w v l) (hbig : l.length ≤ 140737488355328) :
    Calls Try.prog 15 #[v] w fun e w' => ∃ v', e = .returned v' ∧ w'.ownsRow w.heap.size 5 1 v' l.length (l.map (Value.int .u8)) ∧ Below w.heap.size w w' := by
  obtain ⟨i0, hi, hz0, hz1, hz2⟩ := info_parts info_u8
  have q22 := eql_nil_bytes
  obtain ⟨⟨p, c, rfl, hlc, hm, _, hcell⟩, hby⟩ := h
  cases p with
  | none =>
    have e : l = [] := by
      apply Classical.byContradiction
      intro hne
      obtain ⟨b, off, e, _⟩ := hcell hne
      cases e
    subst e
    go_enter Try.func15, Try.ntmps15
    go_wp2
    go_ret
    exact ⟨_, rfl, World.ownsRow_nil _ _ _ _, Below.refl _ _⟩
  | some a =>
    have A : Hid (l ≠ [] → ∃ b off, some a = some ⟨b, off, none⟩ ∧ ∀ j, j < l.length → w.cell? ⟨b, off + j, none⟩ = some (.int .u8 (l.getD j 0))) := hcell
    clear hcell
    go_enter Try.func15, Try.ntmps15
    go_wp2_with (at_builtin; refine wpList_append_own _ rfl _ _ 22 rfl w.heap.size 5 i0 (.int .u8 0) 1 1 Try.underlying22 hi hz0 hz1 hz2 rfl (by decide) _ _ _ rfl (World.ownsRow_made w #[] 0 (Nat.le_refl _) (Nat.zero_le _) rfl) a l.length c (l.map (Value.int .u8)) rfl ?qc1 ?qc2 ?qc3 ?qc4 ?qc5 ?qc6 ?_)
    case qc1 => simp
    case qc2 =>
      intro j u hj
      have hjn : j < l.length := by
        have := (List.getElem?_eq_some_iff.1 hj).1
        simpa using this
      refine Lib.cell?_alloc_some _ ?_
      obtain ⟨b, off, e, hh⟩ := A.out (by intro e; subst e; simp at hjn)
      cases e
      rw [Go.WideShapes.add_plain, hh j hjn]
      have e : (l.map (Value.int .u8))[j]? = some (Value.int .u8 (l.getD j 0)) := by simp [List.getD, List.getElem?_eq_getElem hjn]
      rw [e] at hj
      exact hj
    case qc3 => intro u hu; obtain ⟨x, _, rfl⟩ := List.mem_map.1 hu; rfl
    case qc4 => unfold maxLen; omega
    case qc5 => omega
    case qc6 => simp
    intro v' w1 hown hgrow hnil
    go_wp2
    go_ret
    exact ⟨v', rfl, by simpa using hown, ((Below.refl _ w).alloc (Nat.le_refl _) _).grown hgrow (by simp) (by intro k hk; simp [Value.ownBlock] at hk; omega)⟩
theorem grown_set (w : World) (g o : Nat) (u : Value) : w.grownBy (w.setCell ⟨g, o, none⟩ u) (some g) :=
  ⟨rfl, rfl, rfl, by simp, fun k _ hk => heap_setCell_other w ⟨g, o, none⟩ k u (fun e => hk (by simp [e]))⟩
theorem grown_trans {a b c : World} {r : Option Nat} (h : a.grownBy b r) (k : b.grownBy c r) : a.grownBy c r :=
  ⟨k.os.trans h.os, k.tape.trans h.tape, k.output.trans h.output, Nat.le_trans h.size k.size, fun i hi hr => (k.block i (Nat.lt_of_lt_of_le hi h.size) hr).trans (h.block i hi hr)⟩
theorem grown_below {a b : World} {r : Option Nat} (h : Below a.heap.size a b) : a.grownBy b r :=
  ⟨h.os, h.tape, h.output, h.size, fun i hi _ => h.block i hi⟩
theorem HB.sliced {w : World} {p : Option Addr} {c : Nat} {l : List Int} (h : HB w (.slice p l.length c) l) (lo hi m : Nat) (h1 : lo ≤ hi) (h2 : hi ≤ l.length) (h3 : hi ≤ m) (h4 : m ≤ c) : HB w (.slice (if m = lo then p else p.map (·.add lo)) (hi - lo) (m - lo)) ((l.take hi).drop lo) := by
  obtain ⟨⟨p', c', e, hc, hm, hpc, hcell⟩, hby⟩ := h
  simp only [Value.slice.injEq, true_and] at e
  obtain ⟨rfl, rfl⟩ := e
  have hlen : ((l.take hi).drop lo).length = hi - lo := by simp; omega
  refine ⟨⟨_, m - lo, by rw [hlen], by omega, by omega, fun e => ?_, fun hne => ?_⟩, fun x hx => hby x (List.mem_of_mem_take (List.mem_of_mem_drop hx))⟩
  · have : p = none := by
      split at e
      · exact e
      · cases p <;> simp_all
    have := hpc this
    omega
  have hlt : lo < hi := by
    apply Classical.byContradiction
    intro hn
    exact hne (List.length_eq_zero_iff.1 (by omega))
  obtain ⟨b, off, rfl, hk⟩ := hcell (by intro e; subst e; simp at h2; omega)
  rw [if_neg (by omega)]
  refine ⟨b, off + lo, by simp [Go.WideShapes.add_plain], fun j hj => ?_⟩
  rw [hlen] at hj
  have := hk (lo + j) (by omega)
  rw [show off + lo + j = off + (lo + j) by omega, this]
  have e1 : ((l.take hi).drop lo).getD j 0 = l.getD (lo + j) 0 := by
    simp only [List.getD, List.getElem?_drop, List.getElem?_take]
    rw [if_pos (by omega)]
  rw [e1]
theorem HB.pre {w : World} {p : Option Addr} {c : Nat} {l : List Int} (h : HB w (.slice p l.length c) l) (n : Nat) (hn : n ≤ l.length) : HB w (.slice p n n) (l.take n) := by
  obtain ⟨p', c', e, hc, _⟩ := h.open
  simp only [Value.slice.injEq, true_and] at e
  obtain ⟨rfl, rfl⟩ := e
  have := h.sliced 0 n n (Nat.zero_le _) hn (Nat.le_refl _) (by omega)
  have e : (if n = 0 then p else p.map (·.add 0)) = p := by
    split
    · rfl
    · cases p <;> simp [Addr.add]
  simpa [e] using this
theorem HB.suf {w : World} {p : Option Addr} {c : Nat} {l : List Int} (h : HB w (.slice p l.length c) l) (n : Nat) (hn : n ≤ l.length) : HB w (.slice (if c = n then p else p.map (·.add n)) (l.length - n) (c - n)) (l.drop n) := by
  obtain ⟨p', c', e, hc, _⟩ := h.open
  simp only [Value.slice.injEq, true_and] at e
  obtain ⟨rfl, rfl⟩ := e
  have := h.sliced n l.length c hn (Nat.le_refl _) hc (Nat.le_refl _)
  rwa [List.take_of_length_le (Nat.le_refl _)] at this
theorem HB.slice_form {w : World} {v : Value} {l : List Int} (h : HB w v l) : ∃ p c, v = .slice p l.length c := by
  obtain ⟨p, c, e, _⟩ := h.open
  exact ⟨p, c, e⟩
theorem own_mono {w : World} {B B' e n : Nat} {v : Value} {xs : List Value} (h : w.ownsRow B e 1 v n xs) (hb : B' ≤ B) : w.ownsRow B' e 1 v n xs := by
  refine ⟨h.1, ?_⟩
  rcases h.2 with h2 | ⟨g, cap, cur, h1, h2, h3⟩
  · exact .inl h2
  · exact .inr ⟨g, cap, cur, h1, Nat.le_trans hb h2, h3⟩
theorem own_slc {w : World} {B n : Nat} {e : TypeId} {v : Value} {xs : List Value} (h : w.ownsRow B e 1 v n xs) : ∃ p c, v = .slice p n c := by
  rcases h.2 with ⟨rfl, rfl⟩ | ⟨g, cap, cur, rfl, _⟩
  · exact ⟨none, 0, rfl⟩
  · exact ⟨_, _, rfl⟩
theorem none_or (z : Option Nat) : z = none ∨ z ≠ none := by cases z <;> simp
theorem own_below {w w' : World} {B n : Nat} {e : TypeId} {v : Value} {xs : List Value} (h : w.ownsRow B e 1 v n xs) (hb : Below w.heap.size w w') : w'.ownsRow B e 1 v n xs :=
  h.kept ⟨hb.os, hb.tape, hb.output, hb.size, fun k hk _ => hb.block k hk⟩ (none_or _)
theorem own_ne {w w' : World} {B B' n n' : Nat} {e e' : TypeId} {v v' : Value} {xs xs' : List Value} (h : w.ownsRow B e 1 v n xs) (h' : w'.ownsRow B' e' 1 v' n' xs') (hb : w.heap.size ≤ B') :
    (v.ownBlock = none ∨ v.ownBlock ≠ v'.ownBlock) ∧ (v'.ownBlock = none ∨ v'.ownBlock ≠ v.ownBlock) := by
  constructor
  · rcases none_or v.ownBlock with q | q
    · exact .inl q
    · refine .inr fun e => ?_
      obtain ⟨k, hk⟩ := Option.ne_none_iff_exists'.1 q
      have h1 := h.lt k hk
      have h2 := h'.lt k (e ▸ hk)
      omega
  · rcases none_or v'.ownBlock with q | q
    · exact .inl q
    · refine .inr fun e => ?_
      obtain ⟨k, hk⟩ := Option.ne_none_iff_exists'.1 q
      have h1 := h'.lt k hk
      have h2 := h.lt k (e ▸ hk)
      omega
end Go.Proofs.Ytnifnoadfepegaa
namespace Go.Proofs.Ytnifnoadfepegaa
open Go.RowKit Go.Shelf
attribute [local go_sem] Oper.semAt_some
def chN (len size : Nat) : Nat := (len + size - 1) / size
def chAt (size k : Nat) : Nat := k * size
def chPiece (l : List Int) (size k : Nat) : List Int := (l.take (chAt size k + min size (l.length - chAt size k))).drop (chAt size k)
theorem chN_iff {len size k : Nat} (hs : 1 ≤ size) : k < chN len size ↔ chAt size k < len := by
  unfold chN chAt
  rw [Nat.lt_div_iff_mul_lt (by omega)]
  omega
theorem chPiece_length (l : List Int) (size k : Nat) : (chPiece l size k).length = min size (l.length - chAt size k) := by
  unfold chPiece
  simp
  omega
structure ChBox (w : World) (hv : Value) (b5 b3 : Nat) (l : List Int) (size : Nat) : Prop where
  row : HB w hv l
  held : w.cell? ⟨b5, 0, none⟩ = some hv
  sz : w.cell? ⟨b3, 0, none⟩ = some (.int .i64 size)
def chD (hv : Value) (b5 b3 : Nat) (i : Nat) : Prop := i = b5 ∨ i = b3 ∨ hv.ownBlock = some i
theorem cell_of_block {A C : World} {a : Addr} (h : C.heap[a.block]? = A.heap[a.block]?) : C.cell? a = A.cell? a := by simp [World.cell?, h]
theorem ChBox.kept {A C : World} {hv : Value} {b5 b3 size : Nat} {l : List Int} (h : ChBox A hv b5 b3 l size) (k : KD (chD hv b5 b3) A C) : ChBox C hv b5 b3 l size := by
  refine ⟨?_, (cell_of_block (k.2 b5 (.inl rfl))).trans h.held, (cell_of_block (k.2 b3 (.inr (.inl rfl)))).trans h.sz⟩
  obtain ⟨⟨p, c, rfl, h2, h3, h6, h4⟩, h5⟩ := h.row
  refine ⟨⟨p, c, rfl, h2, h3, h6, fun hl => ?_⟩, h5⟩
  obtain ⟨b, off, rfl, hh⟩ := h4 hl
  exact ⟨b, off, rfl, fun j hj => (cell_of_block (a := ⟨b, off + j, none⟩) (k.2 b (.inr (.inr rfl)))).trans (hh j hj)⟩
set_option maxRecDepth 100000 in
set_option maxHeartbeats 1000000 in
theorem chunks_any (w : World) (v : Value) (l : List Int) (size : Nat) (h : HB w v l) (hbig : l.length ≤ 140737488355328) (hs : 1 ≤ size) :
    Calls Try.prog 6 #[v, .int .i64 size] w fun e w' => ∃ hv b5 b3, e = .returned (.func (.func 16) #[] #[.pointer (some ⟨b5, 0, none⟩), .pointer (some ⟨b3, 0, none⟩)]) ∧ ChBox w' hv b5 b3 l size ∧
      (∀ i, chD hv b5 b3 i → w.heap.size ≤ i ∧ i < w'.heap.size) ∧ Below w.heap.size w w' := by
  have H := hid h
  clear h
  have hs' : ¬ ((size : Int) < 1) := by omega
  go_enter Try.func6, Try.ntmps6
  go_wp2_with fail
  obtain ⟨W0, hW0⟩ : ∃ W0, Hid (w.alloc (.cells #[.int .i64 size] 3) = W0) := ⟨_, rfl⟩
  rw [hW0.out]
  have HB0 : Hid (Below w.heap.size w W0) := by rw [← hW0.out]; exact (Below.refl _ w).alloc (Nat.le_refl _) _
  have HC0 : Hid (W0.heap[w.heap.size]? = some (.cells #[.int .i64 size] 3 (0, 0))) := by rw [← hW0.out]; exact heap_alloc_new w _
  have hS0 : W0.heap.size = w.heap.size + 1 := by rw [← hW0.out]; simp
  refine (clone_any W0 v l (H.out.below HB0.out) hbig).mono ?_
  rintro e w1 ⟨v1, rfl, hown, hB⟩
  have HO := hid hown
  have HB1 := hid hB
  have HH := hid (HB.of_own hown H.out.2)
  obtain ⟨p, c, e1, _, _⟩ := HH.out.open
  clear hown hB
  subst e1
  go_wp2
  go_ret
  have hb5 := (HB1.out.block w.heap.size (by omega)).trans HC0.out
  have hsz := HB1.out.size
  have hBA : Below w1.heap.size w1 (w1.alloc (.cells #[.slice p l.length c] 22)) := (Below.refl _ w1).alloc (Nat.le_refl _) _
  refine ⟨.slice p l.length c, w1.heap.size, w.heap.size, rfl, ⟨HH.out.below hBA, ?_, ?_⟩, ?_, (HB0.out.trans (HB1.out.mono (by omega))).alloc (by omega) _⟩
  · rw [cell_of_row _ _ _ _ _ _ (heap_alloc_new w1 _)]; rfl
  · rw [cell_of_row _ _ _ _ _ _ ((hBA.block w.heap.size (by omega)).trans hb5)]; rfl
  · rintro i (rfl | rfl | hi)
    · simp; omega
    · simp; omega
    · have := HO.out.lt i hi
      simp; omega
set_option maxRecDepth 100000 in
set_option maxHeartbeats 2000000 in
theorem chunks_iter (n : Nat) (w0 : World) (hv : Value) (b5 b3 : Nat) (l : List Int) (size : Nat) (hs : 1 ≤ size) (hbig : l.length ≤ 140737488355328) (hbox : ChBox w0 hv b5 b3 l size) (hD : ∀ i, chD hv b5 b3 i → i < w0.heap.size) :
    IterF Fence.wide n Try.prog 16 #[.pointer (some ⟨b5, 0, none⟩), .pointer (some ⟨b3, 0, none⟩)] (fun k v => #[.int .i64 (chAt size k : Nat), v])
      (fun k v W => W.ownsRow w0.heap.size 5 1 v (chPiece l size k).length ((chPiece l size k).map (Value.int .u8))) (chD hv b5 b3) (chN l.length size) w0 := fun l' J Jx W hK hJ hY h0 => by
  have HBx := hid (hbox.kept hK)
  have HK := hid hK
  have HJ := hid hJ
  have HY := hid hY
  have H0 := hid h0
  have HD := hid hD
  clear hbox hK hJ hY h0 hD
  refine callsIn_of_wp Try.func16 rfl trivial ?_ rfl
  simp only [Try.ntmps16, List.size_toArray, List.length_cons, List.length_nil, Nat.reduceAdd, Nat.reduceSub, Array.replicate_succ, Array.replicate_zero, List.push_toArray, List.append_toArray, List.nil_append, List.cons_append]
  obtain ⟨p, c, rfl, hlc, hcm⟩ := HBx.out.row.open
  unfold maxLen at hcm
  gi_wp2
  gi_loopw [4] (fun i wr => ∃ k : Nat, Hid (k ≤ chN l.length size) ∧ i = .int .i64 ((min (chAt size k) l.length : Nat) : Int) ∧ Hid (J k wr) ∧ Hid (KD (chD (.slice p l.length c) b5 b3) W wr)) (fun i _ => l.length - (intOf i).toNat)
  case atStart => exact ⟨0, Nat.zero_le _, by simp [chAt], H0, KD.refl _ _⟩
  case round =>
    obtain ⟨k, hk, rfl, HJk, HKk⟩ := hrel
    have hbx := HBx.out.kept HKk.out
    have c5 := hbx.held
    have c3 := hbx.sz
    have HR := hid hbx.row
    clear hbx
    by_cases hlt : chAt size k < l.length
    · obtain ⟨A, HA⟩ : ∃ A, Hid (chAt size k = A) := ⟨_, rfl⟩
      have hmn : min (chAt size k) l.length = A := by rw [← HA.out]; omega
      rw [hmn]
      have hAl : A < l.length := by rw [← HA.out]; exact hlt
      clear hmn hlt
      obtain ⟨m, HM⟩ : ∃ m, Hid (min size (l.length - A) = m) := ⟨_, rfl⟩
      have hm1 : 1 ≤ m := by rw [← HM.out]; omega
      have hm2 : A + m ≤ l.length := by rw [← HM.out]; omega
      have hmm : min (size : Int) ((l.length : Int) - (A : Int)) = (m : Int) := by rw [← HM.out]; omega
      have hkN : k < chN l.length size := (chN_iff hs).2 (by rw [HA.out]; exact hAl)
      have HP : Hid (chPiece l size k = (l.take (A + m)).drop A) := by
        show _ = _
        unfold chPiece
        rw [HA.out, HM.out]
      have HN1 : Hid (min (chAt size (k + 1)) l.length = A + m) := by
        show _ = _
        have e : chAt size (k + 1) = A + size := by rw [← HA.out]; unfold chAt; rw [Nat.succ_mul]
        rw [e, ← HM.out]
        omega
      have HSL : Hid (HB wr (.slice (p.map (·.add A)) m (c - A)) (chPiece l size k)) := by
        have := HR.out.sliced A (A + m) c (by omega) hm2 (by omega) (Nat.le_refl _)
        rw [if_neg (by omega), Nat.add_sub_cancel_left] at this
        rw [HP.out]
        exact this
      have HPL : Hid ((chPiece l size k).length ≤ 140737488355328) := by
        show _ ≤ _
        rw [chPiece_length]
        omega
      clear hmm
      gi_wp2
      all_goals first | rw [show ((A : Int) + (size : Int)).toNat - A = m by rw [← HM.out]; omega] | rw [show ((A : Int) + ((l.length : Int) - (A : Int))).toNat - A = m by rw [← HM.out]; omega]
      all_goals refine ⟨trivial, fun h => absurd h (by simp [Fence.wide]), callsIn_wide.2 ((clone_any wr _ _ HSL.out HPL.out).mono ?_)⟩
      all_goals rintro e w1 ⟨v1, rfl, hown, hB⟩
      all_goals have hJ1 := HJ.out k wr w1 HJk.out (grown_below hB)
      all_goals obtain ⟨fn, tmps, assign, body, hy, hR⟩ := HY.out k v1 w1 hJ1 (own_mono hown (Nat.le_trans HK.out.1 HKk.out.1)) hkN
      all_goals have HRR := hid hR
      all_goals have HKD : Hid (KD (chD (.slice p l.length c) b5 b3) wr w1) := ⟨hB.size, fun i hi => hB.block i (Nat.lt_of_lt_of_le (HD.out i hi) (Nat.le_trans HK.out.1 HKk.out.1))⟩
      all_goals rw [HA.out] at hy
      all_goals clear hown hB hJ1 hR
      all_goals gi_wp2
      all_goals refine ⟨fun h => absurd h (by simp [Fence.wide]), HRR.out.mono ?_⟩
      all_goals rintro e W3 (⟨rfl, hJ3, hk3⟩ | ⟨rfl, hJx3⟩)
      · clear HRR hy
        have HF3 := hid (And.intro hk3 hJ3)
        clear hk3 hJ3
        gi_wp2
        go_roundw
        case rel => exact ⟨k + 1, hkN, by rw [HN1.out, ← HM.out]; go_num, HF3.out.2, HKk.out.trans (HKD.out.trans HF3.out.1)⟩
        case measure => simp [intOf]; omega
      · clear HRR hy
        have HF3 := hid hJx3
        clear hJx3
        gi_wp2
        refine bodyPost_ret (results_none rfl _ _ _) rfl ?_
        exact ⟨⟨_, rfl⟩, .inr HF3.out⟩
      · clear HRR hy
        have HF3 := hid (And.intro hk3 hJ3)
        clear hk3 hJ3
        gi_wp2
        go_roundw
        case rel => exact ⟨k + 1, hkN, by rw [HN1.out, ← HM.out]; go_num, HF3.out.2, HKk.out.trans (HKD.out.trans HF3.out.1)⟩
        case measure => simp [intOf]; omega
      · clear HRR hy
        have HF3 := hid hJx3
        clear hJx3
        gi_wp2
        refine bodyPost_ret (results_none rfl _ _ _) rfl ?_
        exact ⟨⟨_, rfl⟩, .inr HF3.out⟩
    · have hmn : min (chAt size k) l.length = l.length := by omega
      rw [hmn]
      have HKE : Hid (k = chN l.length size) := by
        show _ = _
        have h1 : ¬ k < chN l.length size := fun h => hlt ((chN_iff hs).1 h)
        have := hk.out
        omega
      clear hmn hlt
      gi_wp2
      go_end0
      rw [← HKE.out]
      exact ⟨⟨_, rfl⟩, .inl HJk.out⟩
structure JN {β : Type} (J : β → (Nat → Prop) → World → Prop) : Prop where
  more : ∀ s E A C, J s E A → A.grownBy C none → J s (fun i => E i ∨ (A.heap.size ≤ i ∧ i < C.heap.size)) C
  turn : ∀ s E A C r, J s E A → E r → A.grownBy C (some r) → A.heap.size = C.heap.size → J s E C
  less : ∀ s E E' A, J s E A → (∀ i, E' i → E i) → J s E' A
theorem JN.grown {β : Type} {J : β → (Nat → Prop) → World → Prop} (h : JN J) {s : β} {E : Nat → Prop} {A C : World} (hs : J s E A) (hg : A.grownBy C none) : J s E C := h.less _ _ _ _ (h.more _ _ _ _ hs hg) fun _ hi => .inl hi
theorem JN.put {β : Type} {J : β → (Nat → Prop) → World → Prop} (h : JN J) {s : β} {E : Nat → Prop} {A : World} {l : Nat} (o : Obj) (hs : J s E A) (hl : E l) : J s E (A.putObj l o) := h.turn _ _ _ _ _ hs hl (grownBy_putObj' A l o) (by simp)
def KE (E : Nat → Prop) (A C : World) : Prop := A.heap.size ≤ C.heap.size ∧ ∀ i, E i → C.heap[i]? = A.heap[i]?
def IterN (F : Fence) (n : Nat) (P : Program) (g : Nat) (lb : Array Value) (enc : Nat → Value → Array Value) (Fit : Nat → Value → Prop) (D : Nat → Prop) (N : Nat) (w0 : World) : Prop :=
  ∀ (l : Nat) (J : Nat → (Nat → Prop) → World → Prop) (Jx : Unit → (Nat → Prop) → World → Prop) (W : World), KE D w0 W → JN J → JN Jx →
    (∀ k v E W1, J k E W1 → Fit k v → k < N → KE D W W1 → YieldAt F (n - 1) P l (enc k v) W1 fun e W' => (e = .returned (.bool true) ∧ J (k + 1) E W' ∧ KE E W1 W') ∨ (e = .returned (.bool false) ∧ Jx () E W' ∧ KE E W1 W')) →
    J 0 D W → CallsIn F n P g (#[.func (.yield l) #[] #[]] ++ lb) W fun e W' => (∃ v, e = .returned v) ∧ (J N D W' ∨ Jx () D W') ∧ KE D W W'
def OutN (E : Nat → Prop) (I : Nat → (Nat → Prop) → World → Prop) (Ix : Code → (Nat → Prop) → World → Prop) (k : Nat) (W : World) : Exit → Act → World → Prop
  | .normal, _, W' => KE E W W' ∧ I (k + 1) E W'
  | .ret, _, W' => KE E W W' ∧ Ix .ret E W'
  | .exit id, _, W' => KE E W W' ∧ Ix (.exit id) E W'
  | _, _, _ => False
theorem KE.put {E : Nat → Prop} {A : World} {l : Nat} (hl : ¬ E l) (o : Obj) : KE E A (A.putObj l o) := ⟨by simp, fun _ hi => World.putObj_heap_other (fun e => hl (e ▸ hi))⟩
theorem KE.trans {E : Nat → Prop} {A B C : World} (h : KE E A B) (k : KE E B C) : KE E A C := ⟨Nat.le_trans h.1 k.1, fun i hi => (k.2 i hi).trans (h.2 i hi)⟩
theorem KE.mono {E E' : Nat → Prop} {A B : World} (h : KE E A B) (hs : ∀ i, E' i → E i) : KE E' A B := ⟨h.1, fun i hi => h.2 i (hs i hi)⟩
def Ed (E : Nat → Prop) (db : Nat) (i : Nat) : Prop := E i ∨ i = db
theorem jn_one {β : Type} {J : β → (Nat → Prop) → World → Prop} (h : JN J) (db : Nat) (o : Obj) : JN (fun s E W => J s (Ed E db) W ∧ ¬ E db ∧ W.heap[db]? = some o) where
  more := fun s E A C ⟨h1, h2, h3⟩ hg => by
    have hl := (Array.getElem?_eq_some_iff.1 h3).1
    refine ⟨h.less _ _ _ _ (h.more _ _ _ _ h1 hg) (fun i hi => ?_), fun q => ?_, (hg.block db hl (by simp)).trans h3⟩
    · rcases hi with (z | z) | z
      · exact .inl (.inl z)
      · exact .inr z
      · exact .inl (.inr z)
    · rcases q with z | z
      · exact h2 z
      · omega
  turn := fun s E A C r ⟨h1, h2, h3⟩ hr hg hs => ⟨h.turn _ _ _ _ r h1 (.inl hr) hg hs, h2, (hg.block db (Array.getElem?_eq_some_iff.1 h3).1 (fun e => h2 (by cases e; exact hr))).trans h3⟩
  less := fun s E E' A ⟨h1, h2, h3⟩ hl => ⟨h.less _ _ _ _ h1 (fun i hi => hi.imp (hl i) id), fun q => h2 (hl _ q), h3⟩
theorem IterN.one {F : Fence} {n : Nat} {P : Program} {g : Nat} {lb : Array Value} {enc : Nat → Value → Array Value} {Fit : Nat → Value → Prop} {D : Nat → Prop} {N : Nat} {w0 : World} (h : IterN F n P g lb enc Fit D N w0) {ab : Nat} {o : Obj} (hn : ¬ D ab) (ho : w0.heap[ab]? = some o) : IterN F n P g lb enc Fit (Ed D ab) N w0 := fun l J Jx W hK hJ hJx hY h0 => by
  have hoW : W.heap[ab]? = some o := (hK.2 ab (.inr rfl)).trans ho
  refine (h l (fun k E W => J k (Ed E ab) W ∧ ¬ E ab ∧ W.heap[ab]? = some o) (fun s E W => Jx s (Ed E ab) W ∧ ¬ E ab ∧ W.heap[ab]? = some o) W (hK.mono fun i hi => .inl hi) (jn_one hJ ab o) (jn_one hJx ab o) ?_ ⟨h0, hn, hoW⟩).mono ?_
  · rintro k v E W1 ⟨q1, q2, q3⟩ hf hk hke
    obtain ⟨fn, tmps, assign, body, hy, hR⟩ := hY k v (Ed E ab) W1 q1 hf hk ⟨hke.1, fun i hi => hi.elim (hke.2 i) (fun z => by rw [z]; exact q3.trans hoW.symm)⟩
    refine ⟨fn, tmps, assign, body, hy, hR.mono ?_⟩
    rintro e W' (⟨r1, r2, r3⟩ | ⟨r1, r2, r3⟩)
    · exact .inl ⟨r1, ⟨r2, q2, (r3.2 ab (.inr rfl)).trans q3⟩, r3.mono fun i hi => .inl hi⟩
    · exact .inr ⟨r1, ⟨r2, q2, (r3.2 ab (.inr rfl)).trans q3⟩, r3.mono fun i hi => .inl hi⟩
  · rintro e W' ⟨hv, hj, hke⟩
    have hab : W'.heap[ab]? = some o := by rcases hj with z | z <;> exact z.2.2
    refine ⟨hv, hj.imp (·.1) (·.1), hke.1, fun i hi => ?_⟩
    rcases hi with z | z
    · exact hke.2 i z
    · rw [z]; exact hab.trans hoW.symm
def Wi (B : Nat) (E : Nat → Prop) (i : Nat) : Prop := E i ∨ i = B ∨ i = B + 1
theorem range_fitN {F : Fence} {n : Nat} {P : Program} {g : Operand} {ps : Array Tmp} {assign body : Code} {Q : Exit → Act → World → Prop} {a : Act} {w : World}
    (hro : F.round = none) (h1 : 1 ≤ n) {gf : Nat} {lb : Array Value} (hg : a.eval g = .func (.func gf) #[] lb) (hFg : F.fn gf) (eg : ∀ args w, (callFunc gf args).run P w = .ok (.enter gf args) w)
    {enc : Nat → Value → Array Value} {Fit : Nat → Value → Prop} {D : Nat → Prop} {N : Nat} {w0 : World} (hit : IterN F (n - 1) P gf lb enc Fit D N w0) (hw0 : KE D w0 w) (hD : ∀ i, D i → i < w.heap.size) (hps : ∀ k v, (enc k v).size = ps.size)
    (I : Nat → (Nat → Prop) → World → Prop) (Ix : Code → (Nat → Prop) → World → Prop) (hI : JN I) (hIx : JN Ix) (h0 : I 0 D w) (A : Nat → Value → Act → (Nat → Prop) → World → Prop) (hA : ∀ k v, JN (A k v))
    (hassign : ∀ (l k : Nat) (v : Value) (E : Nat → Prop) (W : World), w.heap.size ≤ l → I k E W → (∀ i, D i → E i) → (∀ i, E i → i < W.heap.size) → Fit k v → k < N →
      assign.wpIn (F.inRound l) (n - 1 - 1) P (Exit.then (fun a₁ W₁ => KE E W W₁ ∧ A k v a₁ E W₁) (fun _ _ _ => False)) { tmps := (ps.zip (enc k v)).foldl (fun t (p, v) => t.setIfInBounds p v) a.tmps, defers := [] } W)
    (hbody : ∀ (l k : Nat) (v : Value) (a₁ : Act) (E : Nat → Prop) (W : World), w.heap.size ≤ l → E l → (∃ r, W.heap[l]? = some (.loop r)) → A k v a₁ E W → (∀ i, D i → E i) → (∀ i, E i → i < W.heap.size) → KE D w W → k < N → body.wpIn (F.inRound l) (n - 1 - 1) P (OutN E I Ix k W) a₁ W)
    (hdone : ∀ (d : Nat) (W : World), w.heap.size ≤ d → I N (fun i => D i ∨ i = d) W → W.heap[d]? = some (.deferred (some [])) → KE D w W → Q .normal { a with defers := { target := .collected d, args := #[] } :: a.defers } W)
    (hstop : ∀ (d : Nat) (c : Code) (W : World), w.heap.size ≤ d → Ix c (fun i => D i ∨ i = d) W → W.heap[d]? = some (.deferred (some [])) → KE D w W → c.wpIn F n P Q { a with defers := { target := .collected d, args := #[] } :: a.defers } W) :
    (Code.rangeFunc g ps assign body).wpIn F n P Q a w := by
  refine wpIn_rangeFunc fun fn hfn => ?_
  rw [hro]
  let R : LoopState → Option Code → Loop := fun st pe => { state := st, pending := pe, fn, tmps := a.tmps, params := ps, assign, body, defers := w.heap.size }
  let BK : LoopState → Option Code → World → Prop := fun st pe W => W.heap[w.heap.size + 1]? = some (.loop (R st pe)) ∧ W.heap[w.heap.size]? = some (.deferred (some []))
  have bk_put : ∀ {st pe W} (st' pe'), BK st pe W → BK st' pe' (W.putObj (w.heap.size + 1) (.loop (R st' pe'))) := fun st' pe' h =>
    ⟨World.putObj_heap_same (Array.getElem?_eq_some_iff.1 h.1).1, (World.putObj_heap_other (by omega)).trans h.2⟩
  have bk_kept : ∀ {st pe A C} {E : Nat → Prop}, BK st pe A → KE (Wi w.heap.size E) A C → BK st pe C := fun h k => ⟨(k.2 _ (.inr (.inr rfl))).trans h.1, (k.2 _ (.inr (.inl rfl))).trans h.2⟩
  have bk_grown : ∀ {st pe A C row}, BK st pe A → A.grownBy C row → (∀ r, row = some r → r ≠ w.heap.size ∧ r ≠ w.heap.size + 1) → BK st pe C := fun h k hr =>
    ⟨(k.block _ (Array.getElem?_eq_some_iff.1 h.1).1 (fun e => (hr _ e.symm).2 rfl)).trans h.1, (k.block _ (Array.getElem?_eq_some_iff.1 h.2).1 (fun e => (hr _ e.symm).1 rfl)).trans h.2⟩
  obtain ⟨W1, hW1⟩ : ∃ W1, (w.alloc (.deferred (some []))).alloc (.loop (R .ready none)) = W1 := ⟨_, rfl⟩
  have hs1 : W1.heap.size = w.heap.size + 2 := by rw [← hW1]; simp
  have hg1 : w.grownBy W1 none := by
    rw [← hW1]
    exact ⟨rfl, rfl, rfl, by simp; omega, fun i hi _ => (Below.heap_alloc _ _ _ (by simp; omega)).trans (Below.heap_alloc _ _ _ hi)⟩
  have hBK1 : BK .ready none W1 := by
    rw [← hW1]
    refine ⟨?_, (Below.heap_alloc _ _ _ (by simp)).trans (World.alloc_heap_new w _)⟩
    have := World.alloc_heap_new (w.alloc (.deferred (some []))) (.loop (R .ready none))
    rwa [World.size_alloc] at this
  -- E and the loop's own blocks
  let SD : (Nat → Prop) → Prop := fun E => (∀ i, E i → i ≠ w.heap.size ∧ i ≠ w.heap.size + 1) ∧ ∀ i, D i → E i
  have hSD : SD D := ⟨fun i hi => by have := hD i hi; omega, fun _ h => h⟩
  let JJ : Nat → (Nat → Prop) → World → Prop := fun k E W => ∃ E', (∀ i, E i → E' i) ∧ SD E' ∧ I k (Wi w.heap.size E') W ∧ BK .ready none W ∧ ∀ i, E' i → i < W.heap.size
  let JX : Unit → (Nat → Prop) → World → Prop := fun _ E W => ∃ c E', (∀ i, E i → E' i) ∧ SD E' ∧ Ix c (Wi w.heap.size E') W ∧ BK .done (some c) W ∧ ∀ i, E' i → i < W.heap.size
  have bks : ∀ {st pe W}, BK st pe W → w.heap.size + 1 < W.heap.size := fun h => (Array.getElem?_eq_some_iff.1 h.1).1
  have hJJ : JN JJ := ⟨fun k E X C ⟨E', h1, h2, h3, h4, h5⟩ hg => ⟨fun i => E' i ∨ (X.heap.size ≤ i ∧ i < C.heap.size), fun i hi => hi.imp (h1 i) id, ⟨fun i hi => by
      rcases hi with z | z
      · exact h2.1 i z
      · have := bks h4; omega, fun i hi => .inl (h2.2 i hi)⟩, hI.less _ _ _ _ (hI.more _ _ _ _ h3 hg) (fun i hi => by
      rcases hi with (z | z) | z
      · exact .inl (.inl z)
      · exact .inr z
      · exact .inl (.inr z)), bk_grown h4 hg (fun r e => by cases e), fun i hi => by
      rcases hi with z | z
      · exact Nat.lt_of_lt_of_le (h5 i z) hg.size
      · exact z.2⟩,
    fun k E X C r ⟨E', h1, h2, h3, h4, h5⟩ hr hg hs => ⟨E', h1, h2, hI.turn _ _ _ _ r h3 (.inl (h1 r hr)) hg hs, bk_grown h4 hg (fun q e => by cases e; exact h2.1 r (h1 r hr)), fun i hi => hs ▸ h5 i hi⟩,
    fun k E E2 X ⟨E', h1, h2, h3, h4, h5⟩ hl => ⟨E', fun i hi => h1 i (hl i hi), h2, h3, h4, h5⟩⟩
  have hJX : JN JX := ⟨fun k E X C ⟨c, E', h1, h2, h3, h4, h5⟩ hg => ⟨c, fun i => E' i ∨ (X.heap.size ≤ i ∧ i < C.heap.size), fun i hi => hi.imp (h1 i) id, ⟨fun i hi => by
      rcases hi with z | z
      · exact h2.1 i z
      · have := bks h4; omega, fun i hi => .inl (h2.2 i hi)⟩, hIx.less _ _ _ _ (hIx.more _ _ _ _ h3 hg) (fun i hi => by
      rcases hi with (z | z) | z
      · exact .inl (.inl z)
      · exact .inr z
      · exact .inl (.inr z)), bk_grown h4 hg (fun r e => by cases e), fun i hi => by
      rcases hi with z | z
      · exact Nat.lt_of_lt_of_le (h5 i z) hg.size
      · exact z.2⟩,
    fun k E X C r ⟨c, E', h1, h2, h3, h4, h5⟩ hr hg hs => ⟨c, E', h1, h2, hIx.turn _ _ _ _ r h3 (.inl (h1 r hr)) hg hs, bk_grown h4 hg (fun q e => by cases e; exact h2.1 r (h1 r hr)), fun i hi => hs ▸ h5 i hi⟩,
    fun k E E2 X ⟨c, E', h1, h2, h3, h4, h5⟩ hl => ⟨c, E', fun i hi => h1 i (hl i hi), h2, h3, h4, h5⟩⟩
  have hI1 : JJ 0 D W1 := ⟨D, fun _ h => h, hSD, hI.less _ _ _ _ (hI.more _ _ _ _ h0 hg1) (fun i hi => by
    rcases hi with z | z | z
    · exact .inl z
    · exact .inr (by omega)
    · exact .inr (by omega)), hBK1, fun i hi => by have := hD i hi; omega⟩
  refine ⟨w.heap.size + 1, [{ target := .collected w.heap.size, args := #[] }], W1, { target := .fn (.func gf) lb, args := #[.func (.yield (w.heap.size + 1)) #[] #[]] }, W1, gf, #[.func (.yield (w.heap.size + 1)) #[] #[]] ++ lb, W1, ?_, ?_, ?_, ?_, fun _ => h1, ?_⟩
  · rw [← hW1]; exact run_enterLoop_outer _ _ _ _ _
  · simp only [resolve, hg]; simp [go_sem]
  · intro f' hf'; simp [Target.leads] at hf'; subst hf'; exact hFg
  · simp [invoke, go_sem, eg]
  · refine (hit (w.heap.size + 1) JJ JX W1 (hw0.trans ⟨hg1.size, fun i hi => hg1.block i (hD i hi) (by simp)⟩) hJJ hJX ?_ hI1).mono ?_
    · rintro k v E W ⟨E', hE, hS, hi, hb, hz⟩ hf hk hkd
      have hzw : ∀ {A : World}, W.heap.size ≤ A.heap.size → ∀ i, Wi w.heap.size E' i → i < A.heap.size := fun hA i h => by
        have hbs := bks hb
        rcases h with h | h | h
        · exact Nat.lt_of_lt_of_le (hz i h) hA
        · omega
        · omega
      have hmem : Wi w.heap.size E' (w.heap.size + 1) := .inr (.inr rfl)
      have hDE : ∀ i, D i → Wi w.heap.size E' i := fun i hi => .inl (hS.2 i hi)
      have hnE : ¬ E (w.heap.size + 1) := fun h => (hS.1 _ (hE _ h)).2 rfl
      refine ⟨fn, _, assign, body, run_yield (P := P) (r := R .ready none) (args := enc k v) hb.1 (hps k v), roundIn_of_wpIn hfn (wpIn_mono (hassign _ k v (Wi w.heap.size E') W (by omega) hi hDE (hzw (Nat.le_refl _)) hf hk) ?_)⟩
      rintro e1 a1 Wa hp1
      have hn1 : e1 = .normal := by cases e1 <;> first | rfl | exact hp1.elim
      subst hn1
      obtain ⟨m1, m3⟩ := hp1
      have hb1 := bk_kept hb m1
      refine ⟨_, run_beginRound hb1.1 rfl, ?_⟩
      have hb2 : BK .busy none (Wa.putObj (w.heap.size + 1) (.loop (R .busy none))) := bk_put _ _ hb1
      have m1' : KE E W Wa := m1.mono fun i hi => .inl (hE i hi)
      refine wpIn_mono (hbody _ k v a1 (Wi w.heap.size E') _ (by omega) hmem ⟨_, hb2.1⟩ ((hA k v).put _ m3 hmem) hDE (hzw (by simp; exact m1.1)) (((KE.trans ⟨hg1.size, fun i hi => hg1.block i (hD i hi) (by simp)⟩ hkd).trans (m1.mono fun i hi => hDE i hi)).trans (KE.put (fun q => by have := hD _ q; omega) _)) hk) ?_
      rintro e a3 W3 hp
      cases e with
      | normal =>
        obtain ⟨k2, k3⟩ := hp
        have hb3 := bk_kept hb2 k2
        exact ⟨_, _, run_endRound (P := P) none hb3.1, .inl ⟨rfl, ⟨E', hE, hS, hI.put _ k3 hmem, bk_put .ready none hb3, fun i hi => hzw (by have := m1.1; have := k2.1; simp at this ⊢; omega) i (.inl hi)⟩, (m1'.trans ((KE.put hnE _).trans (k2.mono fun i hi => .inl (hE i hi)))).trans (KE.put hnE _)⟩⟩
      | ret =>
        have hb3 := bk_kept hb2 hp.1
        exact ⟨_, _, run_endRound (P := P) (some .ret) hb3.1, .inr ⟨rfl, ⟨.ret, E', hE, hS, hIx.put _ hp.2 hmem, bk_put .done (some .ret) hb3, fun i hi => hzw (by have := m1.1; have := hp.1.1; simp at this ⊢; omega) i (.inl hi)⟩, (m1'.trans ((KE.put hnE _).trans (hp.1.mono fun i hi => .inl (hE i hi)))).trans (KE.put hnE _)⟩⟩
      | exit id =>
        have hb3 := bk_kept hb2 hp.1
        exact ⟨_, _, run_endRound (P := P) (some (.exit id)) hb3.1, .inr ⟨rfl, ⟨.exit id, E', hE, hS, hIx.put _ hp.2 hmem, bk_put .done (some (.exit id)) hb3, fun i hi => hzw (by have := m1.1; have := hp.1.1; simp at this ⊢; omega) i (.inl hi)⟩, (m1'.trans ((KE.put hnE _).trans (hp.1.mono fun i hi => .inl (hE i hi)))).trans (KE.put hnE _)⟩⟩
      | goto t => exact hp.elim
      | panic ch => exact hp.elim
      | outgrown => exact hp.elim
    · rintro e W2 ⟨⟨v, rfl⟩, ⟨E', hE, hS, hi, hb, -⟩ | ⟨c, E', hE, hS, hc, hb, -⟩, hke⟩
      all_goals have hkf : ∀ o, KE D w (W2.putObj (w.heap.size + 1) o) := fun o => (KE.trans ⟨hg1.size, fun i hi => hg1.block i (hD i hi) (by simp)⟩ hke).trans (KE.put (fun q => by have := hD _ q; omega) o)
      · exact ⟨none, _, run_endLoop (P := P) hb.1 (by simp [R]), hdone _ _ (Nat.le_refl _) (hI.less _ _ _ _ (hI.put _ hi (.inr (.inr rfl))) fun i hi => hi.imp (hE i) .inl) ((World.putObj_heap_other (by omega)).trans hb.2) (hkf _)⟩
      · exact ⟨some c, _, run_endLoop (P := P) hb.1 (by simp [R]), hstop _ c _ (Nat.le_refl _) (hIx.less _ _ _ _ (hIx.put _ hc (.inr (.inr rfl))) fun i hi => hi.imp (hE i) .inl) ((World.putObj_heap_other (by omega)).trans hb.2) (hkf _)⟩
end Go.Proofs.Ytnifnoadfepegaa
namespace Go.Proofs.Ytnifnoadfepegaa.Ev
open Go
open Go.RowKit in
structure Bel (B : Nat) (w w' : World) : Prop extends Below B w w' where
  kept : ∀ (i : Nat) (o : Obj), w.heap[i]? = some o → o.isCells = false → w'.heap[i]? = some o
section
open Go.RowKit
theorem Bel.refl (B : Nat) (w : World) : Bel B w w := ⟨Below.refl B w, fun _ _ h _ => h⟩
theorem Bel.trans {B : Nat} {a b c : World} (h : Bel B a b) (k : Bel B b c) : Bel B a c := ⟨h.toBelow.trans k.toBelow, fun i o hi hc => k.kept i o (h.kept i o hi hc) hc⟩
theorem Bel.mono {B B' : Nat} {w w' : World} (h : Bel B w w') (hB : B' ≤ B) : Bel B' w w' := ⟨h.toBelow.mono hB, h.kept⟩
theorem Bel.drew {B : Nat} {a w : World} (h : Bel B a w) : Bel B a w.drew := ⟨h.toBelow.drew, h.kept⟩
theorem Bel.drawn (B : Nat) (w : World) (n : Nat) : Bel B w { w with drawn := n } := ⟨⟨rfl, rfl, rfl, Nat.le_refl _, fun _ _ => rfl⟩, fun _ _ h _ => h⟩
theorem Bel.alloc {B : Nat} {a w : World} (h : Bel B a w) (hB : B ≤ w.heap.size) (o : Obj) : Bel B a (w.alloc o) :=
  ⟨h.toBelow.alloc hB o, fun i o' hi hc => by rw [Below.heap_alloc _ _ _ (Array.getElem?_eq_some_iff.1 (h.kept i o' hi hc)).1]; exact h.kept i o' hi hc⟩
theorem Bel.setCell {B : Nat} {a w : World} (h : Bel B a w) {p : Addr} (hp : B ≤ p.block) (u : Value) : Bel B a (w.setCell p u) :=
  ⟨h.toBelow.setCell hp u, fun i o hi hc => by
    have h1 := h.kept i o hi hc
    simp only [World.setCell, Array.getElem?_modify, h1]
    split
    · cases o <;> simp_all [Obj.isCells]
    · rfl⟩
theorem Bel.all {w w' : World} (h : Below w.heap.size w w') : Bel w.heap.size w w' :=
  ⟨h, fun i _ hi _ => (h.block i (Array.getElem?_eq_some_iff.1 hi).1).trans hi⟩
end
inductive Ex where
  | lit (n : Int)
  | var (i : Nat)
  | bit (op : BinOp) (k : IntKind) (a b : Ex)
  | ari (op : BinOp) (k : IntKind) (a b : Ex)
  | shl (k : IntKind) (a : Ex) (n : Nat)
  | shr (a : Ex) (n : Nat)
  | con (k : IntKind) (a : Ex)
  | app (f : Nat) (a b : Ex)
  deriving DecidableEq, Repr, Inhabited
inductive SV where
  | int (k : IntKind) (e : Ex)
  | bool (b : Bool)
  | nilp
  | nils (len cap : Nat)
  | nilf
  | ptr (n o : Nat)
  | sl (n o len cap : Nat)
  | slg (n o e len : Nat)
  | str (l : List Nat)
  | clo (f : Nat) (caps : List (Nat × Nat))
  | opq (i : Nat)
  | nili
  | ifp (t n o : Nat)
  | ife (t : Nat)
  | mtp (nm : String) (t n o : Nat)
  | mte (nm : String) (t : Nat)
  | sla (a : Addr) (len cap : Nat)
  | nilm
  deriving DecidableEq, Repr, Inhabited
inductive TV where
  | sc (s : SV)
  | agg (l : List SV)
  deriving DecidableEq, Repr, Inhabited
inductive AV where
  | tv (t : TV)
  | tup (l : List TV)
  deriving DecidableEq, Repr, Inhabited
inductive Tr where
  | emp
  | one (v : AV)
  | br (a b c d e f h k : Tr)
  deriving DecidableEq, Inhabited
def sel8 (a b c d e f h k : Tr) (n : Nat) : Tr := Nat.casesOn (motive := fun _ => Tr) n a (fun n => Nat.casesOn (motive := fun _ => Tr) n b (fun n => Nat.casesOn (motive := fun _ => Tr) n c (fun n => Nat.casesOn (motive := fun _ => Tr) n d (fun n => Nat.casesOn (motive := fun _ => Tr) n e (fun n => Nat.casesOn (motive := fun _ => Tr) n f (fun n => Nat.casesOn (motive := fun _ => Tr) n h (fun _ => k)))))))
def put8 (s : Tr → Tr) (a b c d e f h k : Tr) (n : Nat) : Tr := Nat.casesOn (motive := fun _ => Tr) n (.br (s a) b c d e f h k) (fun n => Nat.casesOn (motive := fun _ => Tr) n (.br a (s b) c d e f h k) (fun n => Nat.casesOn (motive := fun _ => Tr) n (.br a b (s c) d e f h k) (fun n => Nat.casesOn (motive := fun _ => Tr) n (.br a b c (s d) e f h k) (fun n => Nat.casesOn (motive := fun _ => Tr) n (.br a b c d (s e) f h k) (fun n => Nat.casesOn (motive := fun _ => Tr) n (.br a b c d e (s f) h k) (fun n => Nat.casesOn (motive := fun _ => Tr) n (.br a b c d e f (s h) k) (fun _ => .br a b c d e f h (s k))))))))
def Tr.kid (t : Tr) (n : Nat) : Tr := Tr.casesOn (motive := fun _ => Tr) t .emp (fun _ => .emp) (fun a b c d e f h k => sel8 a b c d e f h k n)
def Tr.getS (g : Tr → Nat → Option AV) (t : Tr) (i : Nat) : Option AV := g (t.kid (Nat.mod i 8)) (Nat.div i 8)
def Tr.setS (s : Tr → Nat → AV → Tr) (t : Tr) (i : Nat) (v : AV) : Tr := Tr.casesOn (motive := fun _ => Tr) t (put8 (fun t => s t (Nat.div i 8) v) .emp .emp .emp .emp .emp .emp .emp .emp (Nat.mod i 8)) (fun _ => put8 (fun t => s t (Nat.div i 8) v) .emp .emp .emp .emp .emp .emp .emp .emp (Nat.mod i 8)) (fun a b c d e f h k => put8 (fun t => s t (Nat.div i 8) v) a b c d e f h k (Nat.mod i 8))
def Tr.get0 : Tr → Nat → Option AV := fun t _ => Tr.casesOn (motive := fun _ => Option AV) t none (fun v => some v) (fun _ _ _ _ _ _ _ _ => none)
def Tr.set0 : Tr → Nat → AV → Tr := fun _ _ v => .one v
def Tr.get1 : Tr → Nat → Option AV := Tr.getS Tr.get0
def Tr.get2 : Tr → Nat → Option AV := Tr.getS Tr.get1
def Tr.get3 : Tr → Nat → Option AV := Tr.getS Tr.get2
def Tr.set1 : Tr → Nat → AV → Tr := Tr.setS Tr.set0
def Tr.set2 : Tr → Nat → AV → Tr := Tr.setS Tr.set1
def Tr.set3 : Tr → Nat → AV → Tr := Tr.setS Tr.set2
theorem kid_put8 (s : Tr → Tr) (a b c d e f h k : Tr) (n m : Nat) (hn : n < 8) (hm : m < 8) : (put8 s a b c d e f h k n).kid m = if n = m then s (sel8 a b c d e f h k m) else sel8 a b c d e f h k m := by
  have h1 : n = 0 ∨ n = 1 ∨ n = 2 ∨ n = 3 ∨ n = 4 ∨ n = 5 ∨ n = 6 ∨ n = 7 := by omega
  have h2 : m = 0 ∨ m = 1 ∨ m = 2 ∨ m = 3 ∨ m = 4 ∨ m = 5 ∨ m = 6 ∨ m = 7 := by omega
  rcases h1 with rfl | rfl | rfl | rfl | rfl | rfl | rfl | rfl <;> rcases h2 with rfl | rfl | rfl | rfl | rfl | rfl | rfl | rfl <;> rfl
theorem sel8_emp (m : Nat) (hm : m < 8) : sel8 .emp .emp .emp .emp .emp .emp .emp .emp m = .emp := by
  have h2 : m = 0 ∨ m = 1 ∨ m = 2 ∨ m = 3 ∨ m = 4 ∨ m = 5 ∨ m = 6 ∨ m = 7 := by omega
  rcases h2 with rfl | rfl | rfl | rfl | rfl | rfl | rfl | rfl <;> rfl
theorem kid_setS (s : Tr → Nat → AV → Tr) (t : Tr) (i : Nat) (v : AV) (m : Nat) (hm : m < 8) : (Tr.setS s t i v).kid m = if i % 8 = m then s (t.kid m) (i / 8) v else t.kid m := by
  have hi : i % 8 < 8 := Nat.mod_lt _ (by decide)
  cases t with
  | emp => exact (kid_put8 (fun t => s t (i / 8) v) .emp .emp .emp .emp .emp .emp .emp .emp (i % 8) m hi hm).trans (by rw [sel8_emp m hm]; rfl)
  | one _ => exact (kid_put8 (fun t => s t (i / 8) v) .emp .emp .emp .emp .emp .emp .emp .emp (i % 8) m hi hm).trans (by rw [sel8_emp m hm]; rfl)
  | br a b c d e f h k => exact kid_put8 (fun t => s t (i / 8) v) a b c d e f h k (i % 8) m hi hm
structure Tr.Law (g : Tr → Nat → Option AV) (s : Tr → Nat → AV → Tr) (m : Nat) : Prop where
  emp : ∀ i, g .emp i = none
  put : ∀ t i j v, i < m → j < m → g (s t i v) j = if i = j then some v else g t j
theorem Tr.Law.step {g : Tr → Nat → Option AV} {s : Tr → Nat → AV → Tr} {m : Nat} (h : Tr.Law g s m) : Tr.Law (Tr.getS g) (Tr.setS s) (m * 8) := by
  refine ⟨fun i => h.emp _, fun t i j v hi hj => ?_⟩
  show g ((Tr.setS s t i v).kid (j % 8)) (j / 8) = if i = j then some v else g (t.kid (j % 8)) (j / 8)
  rw [kid_setS s t i v (j % 8) (Nat.mod_lt _ (by decide))]
  by_cases e : i % 8 = j % 8
  · rw [if_pos e, h.put _ _ _ _ (by omega) (by omega)]
    have e2 : (i / 8 = j / 8) = (i = j) := by apply propext; omega
    simp only [e2]
  · rw [if_neg e, if_neg (fun q => e (by rw [q]))]
theorem Tr.law0 : Tr.Law Tr.get0 Tr.set0 1 := ⟨fun _ => rfl, fun t i j v hi hj => by
  have : i = j := by omega
  rw [if_pos this]; rfl⟩
theorem Tr.law3 : Tr.Law Tr.get3 Tr.set3 512 := Tr.law0.step.step.step
structure Tm where
  n : Nat
  tr : Tr
  deriving DecidableEq, Inhabited
def Tm.get (t : Tm) (i : Nat) : Option AV := match Nat.blt i t.n with | true => Tr.get3 t.tr i | false => none
def Tm.set (t : Tm) (i : Nat) (v : AV) : Tm := match Nat.blt i t.n with | true => ⟨t.n, Tr.set3 t.tr i v⟩ | false => t
def Tm.fill : Nat → List AV → Tm → Tm
  | _, [], t => t
  | i, x :: r, t => Tm.fill (i + 1) r (t.set i x)
def Tm.make (n : Nat) (l : List AV) : Tm := Tm.fill 0 l ⟨n, .emp⟩
theorem Tm.get_lt {t : Tm} {i : Nat} {x : AV} (h : t.get i = some x) : i < t.n := by
  unfold Tm.get at h
  split at h
  · rename_i hb
    exact Nat.le_of_ble_eq_true hb
  · cases h
theorem Tm.set_n (t : Tm) (i : Nat) (v : AV) : (t.set i v).n = t.n := by unfold Tm.set; split <;> rfl
theorem Tm.get_set {t : Tm} (hn : t.n ≤ 512) (i j : Nat) (v : AV) : (t.set i v).get j = if i = j ∧ i < t.n then some v else t.get j := by
  by_cases hi : i < t.n
  · have hb : Nat.blt i t.n = true := Nat.ble_eq_true_of_le hi
    have e1 : t.set i v = ⟨t.n, Tr.set3 t.tr i v⟩ := by unfold Tm.set; rw [hb]
    rw [e1]
    by_cases hj : j < t.n
    · have hc : Nat.blt j t.n = true := Nat.ble_eq_true_of_le hj
      simp only [Tm.get, hc]
      rw [Tr.law3.put _ _ _ _ (by omega) (by omega)]
      simp [hi]
    · have hc : Nat.blt j t.n = false := by
        cases hq : Nat.blt j t.n with
        | false => rfl
        | true => exact absurd (Nat.le_of_ble_eq_true hq) hj
      simp only [Tm.get, hc]
      rw [if_neg (by omega)]
  · have hb : Nat.blt i t.n = false := by
      cases hq : Nat.blt i t.n with
      | false => rfl
      | true => exact absurd (Nat.le_of_ble_eq_true hq) hi
    have e1 : t.set i v = t := by unfold Tm.set; rw [hb]
    rw [e1, if_neg (fun h => hi h.2)]
theorem Tm.fill_n : ∀ (l : List AV) (i : Nat) (t : Tm), (Tm.fill i l t).n = t.n
  | [], _, _ => rfl
  | x :: r, i, t => by rw [Tm.fill, Tm.fill_n r, Tm.set_n]
theorem Tm.get_fill : ∀ (l : List AV) (i : Nat) (t : Tm), t.n ≤ 512 → ∀ (j : Nat) (x : AV), (Tm.fill i l t).get j = some x → (i ≤ j ∧ l[j - i]? = some x) ∨ t.get j = some x
  | [], _, _, _, _, _, h => .inr h
  | y :: r, i, t, hn, j, x, h => by
    rw [Tm.fill] at h
    rcases Tm.get_fill r (i + 1) (t.set i y) (by rw [Tm.set_n]; exact hn) j x h with ⟨h1, h2⟩ | h1
    · left
      refine ⟨by omega, ?_⟩
      rw [show j - i = (j - (i + 1)) + 1 by omega, List.getElem?_cons_succ]
      exact h2
    · rw [Tm.get_set hn] at h1
      split at h1
      · rename_i e
        left
        refine ⟨by omega, ?_⟩
        rw [show j - i = 0 by omega]
        simpa using h1
      · exact .inr h1
def SV.plain : SV → Bool
  | .ptr _ _ => false
  | .sl _ _ _ _ => false
  | .slg _ _ _ _ => false
  | .clo _ cs => cs.isEmpty
  | .ifp _ _ _ => false
  | .mtp _ _ _ _ => false
  | _ => true
structure Blk where
  ro : Bool
  pl : Bool
  cap : Nat
  cells : List SV
  deriving DecidableEq, Repr, Inhabited
def newBlk (l : List SV) : Blk := ⟨false, l.all SV.plain, 0, l⟩
def dead : Blk := ⟨true, true, 0, []⟩
def capBlk (s : Nat) : Blk := ⟨true, true, s, []⟩
def nGl : Nat := 0
def Gl (ms : List Nat) : Prop := ∀ g, g < nGl → ms[g]? = some g
structure Env where
  int : Nat → Int
  val : Nat → Value
  fn : Nat → Int → Int → Int
def bitsOf (op : BinOp) (k : IntKind) (x y : Int) : Int :=
  let a := BitVec.ofInt k.bits x
  let b := BitVec.ofInt k.bits y
  match op with
  | .and => k.wrap (a &&& b).toNat
  | .or => k.wrap (a ||| b).toNat
  | .xor => k.wrap (a ^^^ b).toNat
  | _ => k.wrap (a &&& ~~~b).toNat
def ariOf (op : BinOp) (k : IntKind) (x y : Int) : Int :=
  match op with
  | .add => k.wrap (x + y)
  | .sub => k.wrap (x - y)
  | .quo => k.wrap (x.tdiv y)
  | .rem => x.tmod y
  | _ => k.wrap (x * y)
def Ex.den (ρ : Env) : Ex → Int
  | .lit n => n
  | .var i => ρ.int i
  | .bit op k a b => bitsOf op k (a.den ρ) (b.den ρ)
  | .ari op k a b => ariOf op k (a.den ρ) (b.den ρ)
  | .shl k a n => k.wrap (a.den ρ * 2 ^ n)
  | .shr a n => (a.den ρ).fdiv (2 ^ n)
  | .con k a => k.wrap (a.den ρ)
  | .app f a b => ρ.fn f (a.den ρ) (b.den ρ)
structure Lore where
  fact : BinOp → Ex → Ex → Option Bool
  nm : Ex → Ex
  factA : List SV → List SV → Option Bool
def addr (ms : List Nat) (p : Nat × Nat) : Option Value := (ms[p.1]?).map fun b => .pointer (some ⟨b, p.2, none⟩)
def seqO {α : Type} : List (Option α) → Option (List α)
  | [] => some []
  | none :: _ => none
  | some x :: r => (seqO r).map (x :: ·)
theorem seqO_iff {α : Type} : ∀ (l : List (Option α)) (vs : List α), seqO l = some vs ↔ l = vs.map some
  | [], vs => by cases vs <;> simp [seqO]
  | none :: r, vs => by cases vs <;> simp [seqO]
  | some x :: r, vs => by
    cases vs with
    | nil => simp [seqO]
    | cons y ys =>
      simp only [seqO, List.map_cons, List.cons.injEq, Option.some.injEq, Option.map_eq_some_iff]
      constructor
      · rintro ⟨zs, h1, h2, h3⟩
        exact ⟨h2, (seqO_iff r ys).1 (h3 ▸ h1)⟩
      · rintro ⟨rfl, h2⟩
        exact ⟨ys, (seqO_iff r ys).2 h2, rfl, rfl⟩
def bytesOf (l : List Nat) : ByteArray := ⟨(l.map UInt8.ofNat).toArray⟩
def grown (ms : List Nat) (n o e len : Nat) : Option Value :=
  match ms[n]?, ms[n + 1]? with
  | some b, some c => if e + len ≤ c then some (.slice (some ⟨b, o, none⟩) len (c - e)) else none
  | _, _ => none
theorem grown_iff {ms : List Nat} {n o e len : Nat} {v : Value} : grown ms n o e len = some v ↔ ∃ b c, ms[n]? = some b ∧ ms[n + 1]? = some c ∧ e + len ≤ c ∧ v = .slice (some ⟨b, o, none⟩) len (c - e) := by
  unfold grown
  constructor
  · intro h
    split at h
    · rename_i b c h1 h2
      split at h
      · rename_i hc
        simp only [Option.some.injEq] at h
        exact ⟨b, c, h1, h2, hc, h.symm⟩
      · cases h
    · cases h
  · rintro ⟨b, c, h1, h2, h3, rfl⟩
    rw [h1, h2]
    simp [h3]
def SV.inst (ρ : Env) (ms : List Nat) : SV → Option Value
  | .int k e => some (.int k (e.den ρ))
  | .bool b => some (.bool b)
  | .nilp => some (.pointer none)
  | .nils l c => some (.slice none l c)
  | .nilf => some .nilFunc
  | .ptr n o => addr ms (n, o)
  | .sl n o l c => (ms[n]?).map fun b => .slice (some ⟨b, o, none⟩) l c
  | .slg n o e l => grown ms n o e l
  | .str l => some (.string (bytesOf l))
  | .clo f cs => (seqO (cs.map (addr ms))).map fun vs => .func (.func f) #[] vs.toArray
  | .opq i => if (ρ.val i).oneCell' then some (ρ.val i) else none
  | .nili => some .nilIface
  | .ifp t n o => (addr ms (n, o)).map fun v => .iface t v
  | .ife t => some (.iface t (.agg #[]))
  | .mtp nm t n o => (addr ms (n, o)).map fun v => .func (.method nm) #[.iface t v] #[]
  | .mte nm t => some (.func (.method nm) #[.iface t (.agg #[])] #[])
  | .sla a l c => some (.slice (some a) l c)
  | .nilm => some (.map none)
def TV.inst (ρ : Env) (ms : List Nat) : TV → Option Value
  | .sc s => s.inst ρ ms
  | .agg l => (seqO (l.map (SV.inst ρ ms))).map fun vs => .agg vs.toArray
def AV.inst (ρ : Env) (ms : List Nat) : AV → Option Value
  | .tv t => t.inst ρ ms
  | .tup l => (seqO (l.map (TV.inst ρ ms))).map fun vs => .tuple vs.toArray
theorem SV.inst_one {ρ : Env} {ms : List Nat} {s : SV} {v : Value} (h : s.inst ρ ms = some v) : v.oneCell' = true := by
  cases s <;> simp only [SV.inst, addr, Option.map_eq_some_iff, Option.some.injEq] at h
  case opq => split at h <;> simp_all
  case slg => obtain ⟨_, _, _, _, _, rfl⟩ := grown_iff.1 h; rfl
  all_goals first | (obtain ⟨_, _, rfl⟩ := h; rfl) | (subst h; rfl)
section
variable {ρ : Env} {ms ms' : List Nat}
theorem pre_get (hp : ms <+: ms') {n b : Nat} (h : ms[n]? = some b) : ms'[n]? = some b := by
  obtain ⟨r, rfl⟩ := hp
  rw [List.getElem?_append_left (List.getElem?_eq_some_iff.1 h).1]; exact h
theorem addr_mono (hp : ms <+: ms') {p : Nat × Nat} {v : Value} (h : addr ms p = some v) : addr ms' p = some v := by
  unfold addr at *
  rw [Option.map_eq_some_iff] at *
  obtain ⟨b, hb, rfl⟩ := h
  exact ⟨b, pre_get hp hb, rfl⟩
theorem map_mono {α β : Type} {f g : α → Option β} (hfg : ∀ x y, f x = some y → g x = some y) : ∀ (l : List α) (vs : List β), l.map f = vs.map some → l.map g = vs.map some
  | [], [], _ => rfl
  | [], _ :: _, h => by simp at h
  | _ :: _, [], h => by simp at h
  | x :: l, y :: ys, h => by
    simp only [List.map_cons, List.cons.injEq] at h ⊢
    exact ⟨hfg x y h.1, map_mono hfg l ys h.2⟩
theorem SV.inst_mono (hp : ms <+: ms') (s : SV) (v : Value) (h : s.inst ρ ms = some v) : s.inst ρ ms' = some v := by
  cases s <;> simp only [SV.inst] at h ⊢ <;> try exact h
  case ptr => exact addr_mono hp h
  case sl =>
    rw [Option.map_eq_some_iff] at *
    obtain ⟨b, hb, rfl⟩ := h
    exact ⟨b, pre_get hp hb, rfl⟩
  case slg =>
    obtain ⟨b, c, h1, h2, h3, rfl⟩ := grown_iff.1 h
    exact grown_iff.2 ⟨b, c, pre_get hp h1, pre_get hp h2, h3, rfl⟩
  case clo =>
    rw [Option.map_eq_some_iff] at *
    obtain ⟨vs, hb, rfl⟩ := h
    exact ⟨vs, (seqO_iff _ _).2 (map_mono (fun x y => addr_mono hp) _ _ ((seqO_iff _ _).1 hb)), rfl⟩
  case ifp =>
    rw [Option.map_eq_some_iff] at *
    obtain ⟨x, hx, rfl⟩ := h
    exact ⟨x, addr_mono hp hx, rfl⟩
  case mtp =>
    rw [Option.map_eq_some_iff] at *
    obtain ⟨x, hx, rfl⟩ := h
    exact ⟨x, addr_mono hp hx, rfl⟩
theorem TV.inst_mono (hp : ms <+: ms') (s : TV) (v : Value) (h : s.inst ρ ms = some v) : s.inst ρ ms' = some v := by
  cases s with
  | sc s => exact s.inst_mono hp v h
  | agg l =>
    simp only [TV.inst] at h ⊢
    rw [Option.map_eq_some_iff] at *
    obtain ⟨vs, hb, rfl⟩ := h
    exact ⟨vs, (seqO_iff _ _).2 (map_mono (SV.inst_mono hp) _ _ ((seqO_iff _ _).1 hb)), rfl⟩
theorem AV.inst_mono (hp : ms <+: ms') (s : AV) (v : Value) (h : s.inst ρ ms = some v) : s.inst ρ ms' = some v := by
  cases s with
  | tv s => exact s.inst_mono hp v h
  | tup l =>
    simp only [AV.inst] at h ⊢
    rw [Option.map_eq_some_iff] at *
    obtain ⟨vs, hb, rfl⟩ := h
    exact ⟨vs, (seqO_iff _ _).2 (map_mono (TV.inst_mono hp) _ _ ((seqO_iff _ _).1 hb)), rfl⟩
end
structure RelT (ρ : Env) (ms : List Nat) (t : Tm) (tmps : Array Value) : Prop where
  sz : t.n = tmps.size
  le : t.n ≤ 512
  val : ∀ (i : Nat) (x : AV), t.get i = some x → ∃ v, tmps[i]? = some v ∧ x.inst ρ ms = some v
  gl : Gl ms
structure Holds (ρ : Env) (ms : List Nat) (H : List Blk) (B : Nat) (w : World) : Prop where
  len : ms.length = H.length
  gl : Gl ms
  inj : ∀ (i j b : Nat) (k k' : Blk), ms[i]? = some b → ms[j]? = some b → H[i]? = some k → H[j]? = some k' → k.cells ≠ [] → k'.cells ≠ [] → i = j
  low : ∀ (i b : Nat) (k : Blk), ms[i]? = some b → H[i]? = some k → k.ro = false → B ≤ b
  bnd : ∀ (i b : Nat) (k : Blk), ms[i]? = some b → H[i]? = some k → k.cells ≠ [] → b < w.heap.size
  big : B ≤ w.heap.size
  plain : ∀ (i : Nat) (k : Blk), H[i]? = some k → k.pl = true → k.cells.all SV.plain = true
  cell : ∀ (i b : Nat) (k : Blk), ms[i]? = some b → H[i]? = some k → ∀ (j : Nat) (s : SV), k.cells[j]? = some s → ∃ v, s.inst ρ ms = some v ∧ w.cell? ⟨b, j, none⟩ = some v ∧ (k.ro = false → w.frozen? ⟨b, j, none⟩ = false)
  room : ∀ (i b c : Nat) (k0 k : Blk), ms[i]? = some b → ms[i + 1]? = some c → H[i]? = some k0 → k0.ro = false → k0.cells ≠ [] → H[i + 1]? = some k → 0 < k.cap → ∀ j, j < c * k.cap → (w.cell? ⟨b, j, none⟩).isSome = true ∧ w.frozen? ⟨b, j, none⟩ = false
theorem Gl.mono {ms ms' : List Nat} (h : Gl ms) (hp : ms <+: ms') : Gl ms' := fun g hg => pre_get hp (h g hg)
theorem RelT.mono {ρ : Env} {ms ms' : List Nat} {t : Tm} {a : Array Value} (h : RelT ρ ms t a) (hp : ms <+: ms') : RelT ρ ms' t a := ⟨h.sz, h.le, fun i x hx => by
  obtain ⟨v, h1, h2⟩ := h.val i x hx
  exact ⟨v, h1, x.inst_mono hp v h2⟩, h.gl.mono hp⟩
theorem RelT.get {ρ : Env} {ms : List Nat} {t : Tm} {a : Array Value} (h : RelT ρ ms t a) {i : Nat} {x : AV} (hx : t.get i = some x) : ∃ v, a[i]? = some v ∧ x.inst ρ ms = some v := h.val i x hx
theorem RelT.put {ρ : Env} {ms : List Nat} {t : Tm} {a : Act} (h : RelT ρ ms t a.tmps) (d : Nat) {x : AV} {v : Value} (hx : x.inst ρ ms = some v) : RelT ρ ms (t.set d x) (a.put (some d) v).tmps := by
  refine ⟨?_, by rw [Tm.set_n]; exact h.le, ?_, h.gl⟩
  · rw [Tm.set_n, h.sz]; simp [Act.put]
  · intro i y hy
    rw [Tm.get_set h.le] at hy
    simp only [Act.put]
    rw [Array.getElem?_setIfInBounds]
    split at hy
    · rename_i e
      cases hy
      rw [if_pos e.1, if_pos (by rw [← h.sz]; omega)]
      exact ⟨v, rfl, hx⟩
    · rename_i e
      have hlt := Tm.get_lt hy
      rw [if_neg (fun e2 => e ⟨e2, by omega⟩)]
      exact h.val i y hy
theorem RelT.make {ρ : Env} {ms : List Nat} {xs : List AV} {args : Array Value} {n : Nat} (h : xs.map (AV.inst ρ ms) = args.toList.map some) (hn : n ≤ 512) (hx : xs.length ≤ n) (hg : Gl ms) : RelT ρ ms (Tm.make n xs) (args ++ Array.replicate (n - args.size) undef) := by
  have hl : xs.length = args.size := by have := congrArg List.length h; simpa using this
  refine ⟨by rw [Tm.make, Tm.fill_n]; simp; omega, by rw [Tm.make, Tm.fill_n]; exact hn, ?_, hg⟩
  intro i x hi
  rcases Tm.get_fill xs 0 ⟨n, .emp⟩ hn i x hi with ⟨_, h1⟩ | h1
  · rw [Nat.sub_zero] at h1
    have hlt := (List.getElem?_eq_some_iff.1 h1).1
    have e1 : (xs.map (AV.inst ρ ms))[i]? = (args.toList.map some)[i]? := by rw [h]
    rw [List.getElem?_map, h1, List.getElem?_map] at e1
    simp only [Option.map_some, Array.getElem?_toList] at e1
    cases hv : args[i]? with
    | none => rw [hv] at e1; simp at e1
    | some v =>
      rw [hv] at e1
      simp only [Option.map_some, Option.some.injEq] at e1
      refine ⟨v, ?_, e1⟩
      rw [Array.getElem?_append, if_pos (by omega)]
      exact hv
  · unfold Tm.get at h1
    split at h1
    · rw [Tr.law3.emp] at h1; cases h1
    · cases h1
theorem mem_nil_of_get {k : Blk} {j : Nat} {s : SV} (h : k.cells[j]? = some s) : k.cells ≠ [] := fun e => by rw [e] at h; simp at h
theorem Holds.pushAt {ρ : Env} {ms : List Nat} {H : List Blk} {B : Nat} {w w' : World} (h : Holds ρ ms H B w) {l : List SV} {vs : List Value} (hl : l.map (SV.inst ρ ms) = vs.map some) {b0 : Nat} (hsz : w.heap.size ≤ w'.heap.size) (hB0 : B ≤ b0) (hb0 : b0 < w'.heap.size)
    (hfar : ∀ (i b : Nat) (k : Blk), ms[i]? = some b → H[i]? = some k → k.cells ≠ [] → b ≠ b0)
    (hold : ∀ b j, b ≠ b0 → b < w.heap.size → w'.cell? ⟨b, j, none⟩ = w.cell? ⟨b, j, none⟩ ∧ w'.frozen? ⟨b, j, none⟩ = w.frozen? ⟨b, j, none⟩)
    (hsome : ∀ b j, b < w.heap.size → (w.cell? ⟨b, j, none⟩).isSome = true → w.frozen? ⟨b, j, none⟩ = false → (w'.cell? ⟨b, j, none⟩).isSome = true ∧ w'.frozen? ⟨b, j, none⟩ = false)
    (hnew : ∀ j v, vs[j]? = some v → w'.cell? ⟨b0, j, none⟩ = some v ∧ w'.frozen? ⟨b0, j, none⟩ = false) :
    Holds ρ (ms ++ [b0]) (H ++ [newBlk l]) B w' := by
  have hlast : ∀ (i b : Nat), ¬ i < ms.length → (ms ++ [b0])[i]? = some b → i = ms.length ∧ b = b0 := fun i b hi hb => by
    rw [List.getElem?_append, if_neg hi] at hb
    have e1 := (List.getElem?_eq_some_iff.1 hb).1
    have e2 := List.mem_of_getElem? hb
    simp at e1 e2
    exact ⟨by omega, e2⟩
  have hlastk : ∀ (i : Nat) (k : Blk), ¬ i < H.length → (H ++ [newBlk l])[i]? = some k → i = H.length ∧ k = newBlk l := fun i k hi hk => by
    rw [List.getElem?_append, if_neg hi] at hk
    have e1 := (List.getElem?_eq_some_iff.1 hk).1
    have e2 := List.mem_of_getElem? hk
    simp at e1 e2
    exact ⟨by omega, e2⟩
  have hin : ∀ (i : Nat), i < ms.length → (ms ++ [b0])[i]? = ms[i]? := fun i hi => by rw [List.getElem?_append, if_pos hi]
  have hink : ∀ (i : Nat), i < H.length → (H ++ [newBlk l])[i]? = H[i]? := fun i hi => by rw [List.getElem?_append, if_pos hi]
  have hle := h.len
  refine ⟨by simp [h.len], h.gl.mono (List.prefix_append _ _), ?_, ?_, ?_, ?_, ?_, ?_, ?_⟩
  · intro i j b k k' hi hj hk hk' hne hne'
    by_cases h1 : i < ms.length <;> by_cases h2 : j < ms.length
    · rw [hin i h1] at hi; rw [hin j h2] at hj; rw [hink i (by omega)] at hk; rw [hink j (by omega)] at hk'
      exact h.inj i j b k k' hi hj hk hk' hne hne'
    · rw [hin i h1] at hi; rw [hink i (by omega)] at hk
      exact absurd (hlast j b h2 hj).2 (hfar i b k hi hk hne)
    · rw [hin j h2] at hj; rw [hink j (by omega)] at hk'
      exact absurd (hlast i b h1 hi).2 (hfar j b k' hj hk' hne')
    · have := (hlast i b h1 hi).1
      have := (hlast j b h2 hj).1
      omega
  · intro i b k hi hk hr
    by_cases h1 : i < ms.length
    · rw [hin i h1] at hi; rw [hink i (by omega)] at hk; exact h.low i b k hi hk hr
    · rw [(hlast i b h1 hi).2]; exact hB0
  · intro i b k hi hk hne
    by_cases h1 : i < ms.length
    · rw [hin i h1] at hi; rw [hink i (by omega)] at hk
      have := h.bnd i b k hi hk hne; omega
    · have := (hlast i b h1 hi).2; omega
  · have := h.big; omega
  · intro i k hk hp
    by_cases h1 : i < H.length
    · rw [hink i h1] at hk; exact h.plain i k hk hp
    · obtain ⟨_, rfl⟩ := hlastk i k h1 hk
      exact hp
  · intro i b k hi hk j s hs
    by_cases h1 : i < ms.length
    · rw [hin i h1] at hi; rw [hink i (by omega)] at hk
      obtain ⟨v, h2, h3, h4⟩ := h.cell i b k hi hk j s hs
      obtain ⟨e1, e2⟩ := hold b j (hfar i b k hi hk (mem_nil_of_get hs)) (h.bnd i b k hi hk (mem_nil_of_get hs))
      exact ⟨v, s.inst_mono (List.prefix_append _ _) v h2, by rw [e1]; exact h3, fun hr => by rw [e2]; exact h4 hr⟩
    · obtain ⟨_, rfl⟩ := hlast i b h1 hi
      obtain ⟨_, rfl⟩ := hlastk i k (by omega) hk
      have e1 : (l.map (SV.inst ρ ms))[j]? = (vs.map some)[j]? := by rw [hl]
      simp only [List.getElem?_map] at e1
      simp only [newBlk] at hs
      rw [hs] at e1
      cases hv : vs[j]? with
      | none => rw [hv] at e1; simp at e1
      | some v =>
        rw [hv] at e1
        simp only [Option.map_some, Option.some.injEq] at e1
        obtain ⟨h5, h6⟩ := hnew j v hv
        exact ⟨v, s.inst_mono (List.prefix_append _ _) v e1, h5, fun _ => h6⟩
  · intro i b c k0 k hi hc hk0 hr0 hn0 hk hcap j hj
    by_cases h1 : i + 1 < ms.length
    · rw [hin i (by omega)] at hi; rw [hin _ h1] at hc; rw [hink _ (by omega)] at hk hk0
      obtain ⟨e1, e2⟩ := h.room i b c k0 k hi hc hk0 hr0 hn0 hk hcap j hj
      have hlt : b < w.heap.size := by
        cases hx : w.cell? ⟨b, j, none⟩ with
        | none => rw [hx] at e1; simp at e1
        | some x => exact World.block_lt_of_cell? w _ hx
      exact hsome b j hlt e1 e2
    · obtain ⟨_, rfl⟩ := hlastk (i + 1) k (by omega) hk
      simp [newBlk] at hcap
theorem Holds.push {ρ : Env} {ms : List Nat} {H : List Blk} {B : Nat} {w w' : World} (h : Holds ρ ms H B w) {l : List SV} {vs : List Value} (hl : l.map (SV.inst ρ ms) = vs.map some)
    (hsz : w'.heap.size = w.heap.size + 1) (hold : ∀ b j, b < w.heap.size → w'.cell? ⟨b, j, none⟩ = w.cell? ⟨b, j, none⟩ ∧ w'.frozen? ⟨b, j, none⟩ = w.frozen? ⟨b, j, none⟩)
    (hnew : ∀ j v, vs[j]? = some v → w'.cell? ⟨w.heap.size, j, none⟩ = some v ∧ w'.frozen? ⟨w.heap.size, j, none⟩ = false) :
    Holds ρ (ms ++ [w.heap.size]) (H ++ [newBlk l]) B w' := by
  refine h.pushAt hl (by omega) h.big (by omega) (fun i b k hi hk hne e => ?_) (fun b j _ hb => hold b j hb) (fun b j hb h1 h2 => ?_) hnew
  · have := h.bnd i b k hi hk hne; omega
  · obtain ⟨e1, e2⟩ := hold b j hb
    rw [e1, e2]; exact ⟨h1, h2⟩
theorem Holds.alloc {ρ : Env} {ms : List Nat} {H : List Blk} {B : Nat} {w : World} (h : Holds ρ ms H B w) {l : List SV} {vs : List Value} (hl : l.map (SV.inst ρ ms) = vs.map some) (T : TypeId) :
    Holds ρ (ms ++ [w.heap.size]) (H ++ [newBlk l]) B (w.alloc (.cells vs.toArray T)) := by
  refine h.push hl (by rw [World.size_alloc]) (fun b j hb => ⟨World.cell?_alloc_lt _ _ _ hb, World.frozen?_alloc_past _ _ _ hb⟩) (fun j v hv => ⟨?_, ?_⟩)
  · rw [cell_of_row _ _ _ _ _ _ (heap_alloc_new w _)]
    simpa using hv
  · unfold World.frozen?
    rw [heap_alloc_new]
    simp
theorem Holds.pushCap {ρ : Env} {ms : List Nat} {H : List Blk} {B : Nat} {w : World} (h : Holds ρ ms H B w) {b c s : Nat} (hb : ms[ms.length - 1]? = some b)
    (hr : ∀ j, j < c * s → (w.cell? ⟨b, j, none⟩).isSome = true ∧ w.frozen? ⟨b, j, none⟩ = false) : Holds ρ (ms ++ [c]) (H ++ [capBlk s]) B w := by
  have hlastk : ∀ (i : Nat) (k : Blk), ¬ i < H.length → (H ++ [capBlk s])[i]? = some k → i = H.length ∧ k = capBlk s := fun i k hi hk => by
    rw [List.getElem?_append, if_neg hi] at hk
    have e1 := (List.getElem?_eq_some_iff.1 hk).1
    have e2 := List.mem_of_getElem? hk
    simp at e1 e2
    exact ⟨by omega, e2⟩
  have hin : ∀ (i : Nat), i < ms.length → (ms ++ [c])[i]? = ms[i]? := fun i hi => by rw [List.getElem?_append, if_pos hi]
  have hink : ∀ (i : Nat), i < H.length → (H ++ [capBlk s])[i]? = H[i]? := fun i hi => by rw [List.getElem?_append, if_pos hi]
  have hle := h.len
  have hdead : (capBlk s).cells = [] := rfl
  refine ⟨by simp [h.len], h.gl.mono (List.prefix_append _ _), ?_, ?_, ?_, h.big, ?_, ?_, ?_⟩
  · intro i j b k k' hi hj hk hk' hne hne'
    by_cases h1 : i < H.length
    · by_cases h2 : j < H.length
      · rw [hin i (by omega)] at hi; rw [hin j (by omega)] at hj; rw [hink i h1] at hk; rw [hink j h2] at hk'
        exact h.inj i j b k k' hi hj hk hk' hne hne'
      · obtain ⟨_, rfl⟩ := hlastk j k' h2 hk'; exact absurd hdead hne'
    · obtain ⟨_, rfl⟩ := hlastk i k h1 hk; exact absurd hdead hne
  · intro i b k hi hk hr
    by_cases h1 : i < H.length
    · rw [hin i (by omega)] at hi; rw [hink i h1] at hk; exact h.low i b k hi hk hr
    · obtain ⟨_, rfl⟩ := hlastk i k h1 hk; simp [capBlk] at hr
  · intro i b k hi hk hne
    by_cases h1 : i < H.length
    · rw [hin i (by omega)] at hi; rw [hink i h1] at hk; exact h.bnd i b k hi hk hne
    · obtain ⟨_, rfl⟩ := hlastk i k h1 hk; exact absurd hdead hne
  · intro i k hk hp
    by_cases h1 : i < H.length
    · rw [hink i h1] at hk; exact h.plain i k hk hp
    · obtain ⟨_, rfl⟩ := hlastk i k h1 hk; rfl
  · intro i b k hi hk j s' hs
    by_cases h1 : i < H.length
    · rw [hin i (by omega)] at hi; rw [hink i h1] at hk
      obtain ⟨v, h2, h3, h4⟩ := h.cell i b k hi hk j s' hs
      exact ⟨v, s'.inst_mono (List.prefix_append _ _) v h2, h3, h4⟩
    · obtain ⟨_, rfl⟩ := hlastk i k h1 hk; rw [hdead] at hs; simp at hs
  · intro i b' c' k0 k hi hc hk0 hr0 hn0 hk hcap j hj
    by_cases h1 : i + 1 < H.length
    · rw [hin i (by omega)] at hi; rw [hin _ (by omega)] at hc; rw [hink _ h1] at hk; rw [hink _ (by omega)] at hk0
      exact h.room i b' c' k0 k hi hc hk0 hr0 hn0 hk hcap j hj
    · obtain ⟨e1, rfl⟩ := hlastk (i + 1) k h1 hk
      have e2 : i = ms.length - 1 := by omega
      rw [hin i (by omega), e2, hb] at hi
      rw [show i + 1 = ms.length by omega, List.getElem?_append, if_neg (by omega)] at hc
      simp at hi hc
      subst hi hc
      exact hr j hj
theorem Holds.kill {ρ : Env} {ms : List Nat} {H : List Blk} {B : Nat} {w : World} (h : Holds ρ ms H B w) (m : Nat) : Holds ρ ms (H.set m dead) B w := by
  have key : ∀ (i : Nat) (k : Blk), (H.set m dead)[i]? = some k → k = dead ∨ H[i]? = some k := fun i k hk => by
    rw [List.getElem?_set] at hk
    split at hk
    · split at hk
      · exact .inl (by simpa using hk.symm)
      · cases hk
    · exact .inr hk
  refine ⟨by rw [List.length_set]; exact h.len, h.gl, ?_, ?_, ?_, h.big, ?_, ?_, ?_⟩
  · intro i j b k k' hi hj hk hk' hne hne'
    rcases key i k hk with rfl | hk
    · exact absurd rfl hne
    rcases key j k' hk' with rfl | hk'
    · exact absurd rfl hne'
    exact h.inj i j b k k' hi hj hk hk' hne hne'
  · intro i b k hi hk hr
    rcases key i k hk with rfl | hk
    · simp [dead] at hr
    exact h.low i b k hi hk hr
  · intro i b k hi hk hne
    rcases key i k hk with rfl | hk
    · exact absurd rfl hne
    exact h.bnd i b k hi hk hne
  · intro i k hk hp
    rcases key i k hk with rfl | hk
    · rfl
    exact h.plain i k hk hp
  · intro i b k hi hk j s hs
    rcases key i k hk with rfl | hk
    · simp [dead] at hs
    exact h.cell i b k hi hk j s hs
  · intro i b c k0 k hi hc hk0 hr0 hn0 hk hcap j hj
    rcases key _ k hk with rfl | hk
    · simp [dead] at hcap
    rcases key _ k0 hk0 with rfl | hk0
    · simp [dead] at hr0
    exact h.room i b c k0 k hi hc hk0 hr0 hn0 hk hcap j hj
theorem World.cell?_freeze (w : World) (a x : Addr) (n : Nat) : (w.freeze a n).cell? x = w.cell? x := by
  unfold World.freeze
  split
  · rfl
  · unfold World.cell?
    simp only [Array.getElem?_modify]
    by_cases e : a.block = x.block
    · rw [if_pos e]
      cases hx : w.heap[x.block]? with
      | none => rfl
      | some o => cases o <;> rfl
    · rw [if_neg e]
theorem World.frozen?_freeze_far (w : World) (a x : Addr) (n : Nat) (h : x.block ≠ a.block) : (w.freeze a n).frozen? x = w.frozen? x := by
  unfold World.freeze
  split
  · rfl
  · unfold World.frozen?
    simp only [Array.getElem?_modify]
    rw [if_neg (fun e => h e.symm)]
theorem World.size_freeze (w : World) (a : Addr) (n : Nat) : (w.freeze a n).heap.size = w.heap.size := by
  unfold World.freeze
  split <;> simp
open Go.RowKit in
theorem below_freeze {B : Nat} {w : World} {a : Addr} (n : Nat) (ha : B ≤ a.block) : Bel B w (w.freeze a n) := by
  unfold World.freeze
  split
  · exact Bel.refl _ _
  · refine ⟨⟨rfl, rfl, rfl, by simp, fun k hk => ?_⟩, fun i o hi hc => ?_⟩
    · simp only [Array.getElem?_modify]
      rw [if_neg (by omega)]
    · simp only [Array.getElem?_modify, hi]
      split
      · cases o <;> simp_all [Obj.isCells]
      · rfl
theorem Holds.mark {ρ : Env} {ms : List Nat} {H : List Blk} {B : Nat} {w : World} (h : Holds ρ ms H B w) {m b : Nat} {k : Blk} (hb : ms[m]? = some b) (hk : H[m]? = some k) (hne : k.cells ≠ []) (a : Addr) (ha : a.block = b) (n : Nat) :
    Holds ρ ms (H.set m ⟨true, k.pl, 0, k.cells⟩) B (w.freeze a n) := by
  have key : ∀ (i : Nat) (k' : Blk), (H.set m ⟨true, k.pl, 0, k.cells⟩)[i]? = some k' → (i = m ∧ k' = ⟨true, k.pl, 0, k.cells⟩) ∨ (i ≠ m ∧ H[i]? = some k') := fun i k' hk' => by
    rw [List.getElem?_set] at hk'
    split at hk'
    · rename_i e
      split at hk'
      · exact .inl ⟨e.symm, by simpa using hk'.symm⟩
      · cases hk'
    · rename_i e
      exact .inr ⟨fun e2 => e e2.symm, hk'⟩
  have old : ∀ (i : Nat) (k' : Blk), (H.set m ⟨true, k.pl, 0, k.cells⟩)[i]? = some k' → k'.cells ≠ [] → ∃ k2, H[i]? = some k2 ∧ k2.cells ≠ [] := fun i k' hk' hn => by
    rcases key i k' hk' with ⟨rfl, rfl⟩ | ⟨_, h2⟩
    · exact ⟨k, hk, hne⟩
    · exact ⟨k', h2, hn⟩
  refine ⟨by rw [List.length_set]; exact h.len, h.gl, ?_, ?_, ?_, by rw [World.size_freeze]; exact h.big, ?_, ?_, ?_⟩
  · intro i j b' k1 k2 hi hj hk1 hk2 hn1 hn2
    obtain ⟨k3, h3, h4⟩ := old i k1 hk1 hn1
    obtain ⟨k5, h5, h6⟩ := old j k2 hk2 hn2
    exact h.inj i j b' k3 k5 hi hj h3 h5 h4 h6
  · intro i b' k' hi hk' hr
    rcases key i k' hk' with ⟨rfl, rfl⟩ | ⟨_, h2⟩
    · simp at hr
    · exact h.low i b' k' hi h2 hr
  · intro i b' k' hi hk' hn
    obtain ⟨k3, h3, h4⟩ := old i k' hk' hn
    rw [World.size_freeze]; exact h.bnd i b' k3 hi h3 h4
  · intro i k' hk' hp
    rcases key i k' hk' with ⟨rfl, rfl⟩ | ⟨_, h2⟩
    · exact h.plain i k hk hp
    · exact h.plain i k' h2 hp
  · intro i b' k' hi hk' j s hs
    rcases key i k' hk' with ⟨rfl, rfl⟩ | ⟨e, h2⟩
    · obtain ⟨v, q1, q2, _⟩ := h.cell i b' k hi hk j s hs
      exact ⟨v, q1, by rw [World.cell?_freeze]; exact q2, fun hr => by simp at hr⟩
    · obtain ⟨v, q1, q2, q3⟩ := h.cell i b' k' hi h2 j s hs
      have hbb : b' ≠ b := fun e2 => by subst e2; exact e (h.inj i m b' k' k hi hb h2 hk (mem_nil_of_get hs) hne)
      exact ⟨v, q1, by rw [World.cell?_freeze]; exact q2, fun hr => by rw [World.frozen?_freeze_far _ _ _ _ (by rw [ha]; exact hbb)]; exact q3 hr⟩
  · intro i b' c k0 k' hi hc hk0 hr0 hn0 hk' hcap j hj
    rcases key i k0 hk0 with ⟨rfl, rfl⟩ | ⟨e, h2⟩
    · simp at hr0
    · rcases key _ k' hk' with ⟨_, rfl⟩ | ⟨_, h3⟩
      · simp at hcap
      · obtain ⟨q1, q2⟩ := h.room i b' c k0 k' hi hc h2 hr0 hn0 h3 hcap j hj
        have hbb : b' ≠ b := fun e2 => by subst e2; exact e (h.inj i m b' k0 k hi hb h2 hk hn0 hne)
        exact ⟨by rw [World.cell?_freeze]; exact q1, by rw [World.frozen?_freeze_far _ _ _ _ (by rw [ha]; exact hbb)]; exact q2⟩
end Go.Proofs.Ytnifnoadfepegaa.Ev
