/- Of the road to uebReadCard_holds: Base, Opens, CutMath, CutLeaf, UbAgain. -/
import Derived.WalkKit
import Derived.WalkSpells
import Derived.WalkLawsBesides
import Derived.Deep.QuietTactic
import Derived.BigQuiet
import Derived.Test.YtklklldmhoofnaaDoorRows
import Derived.ProofKit
import Derived.OpenShut
import Derived.ShutString
import Derived.ChangeOld
import Derived.Deep.Slices
import Derived.JoinedCond
import Derived.SizedLaws
import Derived.Test.YtklklldmhoofnaaDoorChecked
import Derived.Laws.Rows
import Derived.RegionTactic
import Derived.Deep.RegionHeld
import Derived.Deep.MidRow
set_option linter.unusedVariables false
set_option linter.unusedSimpArgs false
namespace Go.Proofs.YtklklldmhoofnaaDoor
open Go.RowKit
theorem hid {p : Prop} (h : p) : Hid p := h
def HB (w : World) (v : Value) (l : List Int) : Prop :=
  (∃ (p : Option Addr) (c : Nat), v = .slice p l.length c ∧ l.length ≤ c ∧ c ≤ maxLen ∧ (p = none → c = 0) ∧
    (l ≠ [] → ∃ b off, p = some ⟨b, off, none⟩ ∧ ∀ j, j < l.length → w.cell? ⟨b, off + j, none⟩ = some (.int .u8 (l.getD j 0)))) ∧ ∀ x ∈ l, 0 ≤ x ∧ x < 256
theorem HB.open {w : World} {v : Value} {l : List Int} (h : HB w v l) : ∃ (p : Option Addr) (c : Nat), v = .slice p l.length c ∧ l.length ≤ c ∧ c ≤ maxLen := by
  obtain ⟨⟨p, c, h1, h2, h3, _⟩, _⟩ := h
  exact ⟨p, c, h1, h2, h3⟩
theorem HB.ne {w : World} {v : Value} {l : List Int} (h : HB w v l) (hl : 0 < l.length) :
    ∃ b off c, v = .slice (some ⟨b, off, none⟩) l.length c ∧ l.length ≤ c ∧ c ≤ maxLen ∧ ∀ j, j < l.length → w.cell? ⟨b, off + j, none⟩ = some (.int .u8 (l.getD j 0)) := by
  obtain ⟨⟨p, c, h1, h2, h3, _, h4⟩, _⟩ := h
  obtain ⟨b, off, rfl, hc⟩ := h4 (by intro e; subst e; simp at hl)
  exact ⟨b, off, c, h1, h2, h3, hc⟩
theorem HB.byte {w : World} {v : Value} {l : List Int} (h : HB w v l) (j : Nat) : 0 ≤ l.getD j 0 ∧ l.getD j 0 < 256 := by
  by_cases hj : j < l.length
  · have e : l.getD j 0 = l[j] := by simp [List.getD, List.getElem?_eq_getElem hj]
    rw [e]
    exact h.2 _ (List.getElem_mem hj)
  · have e : l.getD j 0 = 0 := by simp [List.getD, List.getElem?_eq_none (by omega : l.length ≤ j)]
    rw [e]; omega
theorem HB.later {w w' : World} {v : Value} {l : List Int} (h : HB w v l) (hc : ∀ a (n : Int), w.cell? a = some (.int .u8 n) → w'.cell? a = some (.int .u8 n)) : HB w' v l := by
  obtain ⟨⟨p, c, h1, h2, h3, h6, h4⟩, h5⟩ := h
  refine ⟨⟨p, c, h1, h2, h3, h6, fun hl => ?_⟩, h5⟩
  obtain ⟨b, off, e, hh⟩ := h4 hl
  exact ⟨b, off, e, fun j hj => hc _ _ (hh j hj)⟩
theorem HB.below {w w' : World} {v : Value} {l : List Int} (h : HB w v l) (hb : Below w.heap.size w w') : HB w' v l :=
  h.later fun a _ hx => (hb.cell (World.block_lt_of_cell? w a hx)).trans hx
theorem HB.drewN {w : World} {v : Value} {l : List Int} (h : HB w v l) (q : Nat) : HB (w.drewN q) v l := h.later fun _ _ hx => hx
theorem getD_of_lt {l : List Int} {k : Nat} (h : k < l.length) : l.getD k 0 = l[k] := by simp [List.getD, List.getElem?_eq_getElem h]
theorem ownsRow_cells {w : World} {B : Nat} {e : TypeId} {v : Value} {n : Nat} {xs : List Value} (h : w.ownsRow B e 1 v n xs) (h0 : 0 < n) :
    ∃ g cap, v = .slice (some ⟨g, 0, none⟩) n cap ∧ B ≤ g ∧ n ≤ cap ∧ cap ≤ maxLen ∧ ∀ j u, xs[j]? = some u → w.cell? ⟨g, 0 + j, none⟩ = some u := by
  have hc := @World.ownsRow.cells w B e 1 v n xs h
  rcases h.2 with ⟨_, e0⟩ | ⟨g, cap, cur, rfl, hb, _, hn, hm, _, _⟩
  · omega
  · refine ⟨g, cap, rfl, hb, hn, hm, fun j u hj => ?_⟩
    have := @hc g rfl j u hj
    rwa [Go.WideShapes.add_plain] at this
theorem HB.of_own {w : World} {B : Nat} {e : TypeId} {v : Value} {l : List Int} (h : w.ownsRow B e 1 v l.length (l.map (Value.int .u8))) (hx : ∀ x ∈ l, 0 ≤ x ∧ x < 256) : HB w v l := by
  refine ⟨?_, hx⟩
  by_cases h0 : 0 < l.length
  · obtain ⟨g, cap, rfl, _, hn, hm, hc⟩ := ownsRow_cells h h0
    refine ⟨_, cap, rfl, hn, hm, (fun e => by cases e), fun _ => ⟨g, 0, rfl, fun j hj => ?_⟩⟩
    exact hc j _ (by simp [List.getD, List.getElem?_eq_getElem hj])
  · have e : l = [] := List.length_eq_zero_iff.1 (by omega)
    subst e
    rcases h.2 with ⟨rfl, _⟩ | ⟨g, cap, cur, rfl, _, _, hn, hm, _⟩
    · exact ⟨none, 0, rfl, Nat.le_refl _, Nat.zero_le _, fun _ => rfl, fun h => absurd rfl h⟩
    · exact ⟨_, cap, rfl, hn, hm, (fun e => by cases e), fun h => absurd rfl h⟩
theorem HB.grown {w w' : World} {v : Value} {l : List Int} {g : Nat} (h : HB w v l) (hg : w.grownBy w' (some g)) (hn : ∀ o sp (n : Int), w.cell? ⟨g, o, sp⟩ ≠ some (.int .u8 n)) : HB w' v l :=
  h.later fun a n hx => hg.cell hx (by
    intro e
    obtain ⟨b, o, sp⟩ := a
    simp only [Option.some.injEq] at e
    subst e
    exact hn o sp n hx)
theorem HB.nil (w : World) : HB w (.slice none 0 0) [] := ⟨⟨none, 0, rfl, Nat.zero_le _, Nat.zero_le _, fun _ => rfl, fun h => absurd rfl h⟩, by simp⟩
def BT (w : World) (g : Nat) (T : TypeId) : Prop := ∃ cur fz, w.heap[g]? = some (.cells cur T fz)
def HL (w : World) (v : Value) (ls : List (List Int)) : Prop :=
  ∃ (p : Option Addr) (c : Nat), v = .slice p ls.length c ∧ ls.length ≤ c ∧ c ≤ maxLen ∧ (p = none → c = 0) ∧
    (ls ≠ [] → ∃ b off, p = some ⟨b, off, none⟩ ∧ ∀ j, j < ls.length → ∃ u, w.cell? ⟨b, off + j, none⟩ = some u ∧ HB w u (ls.getD j []))
theorem HL.ne {w : World} {v : Value} {ls : List (List Int)} (h : HL w v ls) (hl : 0 < ls.length) :
    ∃ b off c, v = .slice (some ⟨b, off, none⟩) ls.length c ∧ ls.length ≤ c ∧ c ≤ maxLen ∧ ∀ j, j < ls.length → ∃ u, w.cell? ⟨b, off + j, none⟩ = some u ∧ HB w u (ls.getD j []) := by
  obtain ⟨p, c, h1, h2, h3, _, h4⟩ := h
  obtain ⟨b, off, rfl, hc⟩ := h4 (by intro e; subst e; simp at hl)
  exact ⟨b, off, c, h1, h2, h3, hc⟩
theorem HL.open {w : World} {v : Value} {ls : List (List Int)} (h : HL w v ls) : ∃ (p : Option Addr) (c : Nat), v = .slice p ls.length c ∧ ls.length ≤ c ∧ c ≤ maxLen := by
  obtain ⟨p, c, h1, h2, h3, _⟩ := h
  exact ⟨p, c, h1, h2, h3⟩
theorem HL.later {w w' : World} {v : Value} {ls : List (List Int)} (h : HL w v ls) (hc : ∀ a x, w.cell? a = some x → w'.cell? a = some x) : HL w' v ls := by
  obtain ⟨p, c, h1, h2, h3, h5, h4⟩ := h
  refine ⟨p, c, h1, h2, h3, h5, fun hl => ?_⟩
  obtain ⟨b, off, e, hh⟩ := h4 hl
  refine ⟨b, off, e, fun j hj => ?_⟩
  obtain ⟨u, hu, hb⟩ := hh j hj
  exact ⟨u, hc _ _ hu, hb.later fun a n => hc a _⟩
theorem HL.below {w w' : World} {v : Value} {ls : List (List Int)} (h : HL w v ls) (hb : Below w.heap.size w w') : HL w' v ls :=
  h.later fun a _ hx => (hb.cell (World.block_lt_of_cell? w a hx)).trans hx
theorem HL.byt {w : World} {v : Value} {ls : List (List Int)} (h : HL w v ls) : ∀ x ∈ ls.flatten, 0 ≤ x ∧ x < 256 := by
  intro x hx
  obtain ⟨l, hl, hxl⟩ := List.mem_flatten.1 hx
  obtain ⟨j, hj, rfl⟩ := List.getElem_of_mem hl
  obtain ⟨b, off, c, _, _, _, hh⟩ := h.ne (by omega)
  obtain ⟨u, _, hb⟩ := hh j hj
  have e : ls.getD j [] = ls[j] := by simp [List.getD, List.getElem?_eq_getElem hj]
  rw [e] at hb
  exact hb.2 x hxl
theorem HL.nil (w : World) : HL w (.slice none 0 0) [] := ⟨none, 0, rfl, Nat.zero_le _, Nat.zero_le _, fun _ => rfl, fun h => absurd rfl h⟩
def Dr (w w' : World) : Prop := ∃ q, w' = w.drewN q
theorem Dr.refl (w : World) : Dr w w := ⟨0, rfl⟩
theorem Dr.drewN {w u : World} (h : Dr w u) (n : Nat) : Dr w (u.drewN n) := by
  obtain ⟨q, rfl⟩ := h
  exact ⟨q + n, World.drewN_drewN w q n⟩
theorem Dr.one (w : World) (n : Nat) : Dr w (w.drewN n) := ⟨n, rfl⟩
theorem Dr.trans {a b c : World} (h : Dr a b) (k : Dr b c) : Dr a c := by
  obtain ⟨q, rfl⟩ := k
  exact h.drewN q
theorem Dr.cell {w w' : World} (h : Dr w w') (a : Addr) : w'.cell? a = w.cell? a := by obtain ⟨q, rfl⟩ := h; rfl
theorem Dr.heap {w w' : World} (h : Dr w w') : w'.heap = w.heap := by obtain ⟨q, rfl⟩ := h; rfl
theorem Dr.below {w w' : World} (h : Dr w w') (B : Nat) : Below B w w' := by obtain ⟨q, rfl⟩ := h; exact ⟨rfl, rfl, rfl, Nat.le_refl _, fun _ _ => rfl⟩
theorem HB.dr {w w' : World} {v : Value} {l : List Int} (h : HB w v l) (d : Dr w w') : HB w' v l := h.later fun a _ hx => (d.cell a).trans hx
theorem HL.dr {w w' : World} {v : Value} {ls : List (List Int)} (h : HL w v ls) (d : Dr w w') : HL w' v ls := h.below (d.below _)
end Go.Proofs.YtklklldmhoofnaaDoor
namespace Go.Proofs.YtklklldmhoofnaaDoor
open Go.ChangeShapes Go.WideShapes Go.ChangeAt Go.RowKit
theorem Opn.own : ownKnob Tryd.prog.godebug = none := by kernel_rfl
theorem Opn.laidOut : laidOutB Tryd.prog = true := by kernel_rfl
theorem Opn.cells_u8 : Tryd.prog.cellsOf 5 = 1 := by kernel_rfl
theorem Opn.cells_int : Tryd.prog.cellsOf 3 = 1 := by kernel_rfl
theorem bulk_pos {H : Type} (d : DataW H) : 1 ≤ Rows.uptoBulk d := by
  cases d with
  | lit l => cases l <;> simp [Rows.uptoBulk]
  | _ => simp [Rows.uptoBulk]
theorem bulk_len {H : Type} (l : List (DataW H)) : l.length ≤ Rows.uptoBulkAll l := by
  induction l with
  | nil => simp
  | cons x r ih => have := bulk_pos x; simp only [Rows.uptoBulkAll, List.length_cons]; omega
theorem bulk_slice {H : Type} (a b : List (DataW H)) : a.length + b.length + 1 ≤ Rows.uptoBulk (.slice a b) := by
  have h1 := bulk_len a
  have h2 := bulk_len b
  simp only [Rows.uptoBulk]
  omega
theorem bulk_all {H : Type} {l : List (DataW H)} (hk : Rows.uptoSmall H l = true) : Rows.uptoBulkAll l ≤ 1048576 := of_decide_eq_true hk
variable {H : Type} {enc : TypeId × Value → H} {W : World}
theorem open_row {k : IntKind} {t e : TypeId} {fuel base : Nat} {cs : List Value} {d : DataW H} {p : List MemPlace} (ht : Tryd.prog.underlying t = some (.slice e)) (he : Tryd.prog.underlying e = some (.int k)) (hc : Tryd.prog.cellsOf e = 1)
    (hf : DataW.trod enc Tryd.prog W base (fun _ => true) true fuel t cs = some (d, p)) :
    ∃ (q : Option Addr) (c : Nat) (l : List Int), cs = [.slice q l.length c] ∧ l.length ≤ c ∧ c ≤ maxLen ∧ (q = none → c = 0) ∧ (l ≠ [] → ∃ b off, q = some ⟨b, off, none⟩ ∧ ∀ j, j < l.length → W.cell? ⟨b, off + j, none⟩ = some (.int k (l.getD j 0))) ∧ (∀ n ∈ l, (Lit.int k n).wf = true) ∧ l.length + 1 ≤ Rows.uptoBulk d := by
  rcases open_ints ht he hc hf with ⟨rfl, hx⟩ | ⟨x, len, cap, zs, rfl, _, hl, hm, hz, hx, hcell, hwz⟩
  · cases hx
    exact ⟨none, 0, [], rfl, Nat.le_refl _, Nat.zero_le _, fun _ => rfl, fun h => absurd rfl h, by simp, by simp [Rows.uptoBulk]⟩
  · simp only [Prod.mk.injEq] at hx
    obtain ⟨rfl, _⟩ := hx
    simp only [if_true] at hz
    have hlen : (zs.take len).length = len := by simp; omega
    refine ⟨some x, cap, zs.take len, by rw [hlen], by omega, hm, (fun e => by cases e), fun hne => ?_, fun n hn => hwz n (List.mem_of_mem_take hn), ?_⟩
    · have h0 : 0 < len := by
        apply Classical.byContradiction
        intro h
        exact hne (List.length_eq_zero_iff.1 (by omega))
      obtain ⟨b, off, rfl, hh⟩ := ints_at hcell (by omega)
      refine ⟨b, off, rfl, fun j hj => ?_⟩
      rw [hlen] at hj
      rw [hh j (by omega)]
      simp only [List.getD, List.getElem?_take]
      rw [if_pos hj]
    · have := bulk_slice (lits (H := H) k (zs.take len)) (lits k (zs.drop len))
      simp only [lits, List.length_map] at this ⊢
      omega
theorem byte_wf {l : List Int} (h : ∀ n ∈ l, (Lit.int .u8 n).wf = true) : ∀ x ∈ l, 0 ≤ x ∧ x < 256 := by
  intro x hx
  have := bounds_u8 (h x hx)
  omega
theorem open_HB {base : Nat} {v : Value} {d : DataW H} {p : List MemPlace} (h : DataW.Trod enc Tryd.prog W base (fun _ => true) true 26 v d p) (hv : ∃ a n c, v = .slice a n c) : ∃ l, HB W v l ∧ l.length + 1 ≤ Rows.uptoBulk d := by
  obtain ⟨a, n, c, rfl⟩ := hv
  obtain ⟨fuel, hf⟩ := h
  obtain ⟨q, c', l, hcs, h1, h2, h3, h4, h5, h6⟩ := open_row Tryd.underlying26 Tryd.underlying5 Opn.cells_u8 hf
  simp only [Value.cells, List.cons.injEq, and_true] at hcs
  exact ⟨l, ⟨⟨q, c', hcs, h1, h2, h3, h4⟩, byte_wf h5⟩, h6⟩
theorem Opn.bytes_u8 : Tryd.prog.bytesOf 5 = 1 := by kernel_rfl
theorem len_reach {ts : List TypeId} {ds : List (DataW H)} {j base : Nat} {v : Value} {d : DataW H} {p : List MemPlace} {l : List Int} (h : (DataW.weightsEach Tryd.prog ts ds).all (· ≤ reachBytes) = true) (ht : ts[j]? = some 26) (hd : ds[j]? = some d)
    (hT : DataW.Trod enc Tryd.prog W base (fun _ => true) true 26 v d p) (hb : HB W v l) : l.length ≤ 140737488351232 := by
  obtain ⟨q, c, rfl, _, _⟩ := hb.open
  obtain ⟨fuel, hf⟩ := hT
  rcases open_ints Tryd.underlying26 Tryd.underlying5 Opn.cells_u8 hf with ⟨hcs, _⟩ | ⟨x, len, cap, zs, hcs, _, hl, hm, hz, hx, _, _⟩
  · simp only [Value.cells, List.cons.injEq, and_true, Value.slice.injEq] at hcs
    omega
  · simp only [Value.cells, List.cons.injEq, and_true, Value.slice.injEq] at hcs
    simp only [Prod.mk.injEq] at hx
    obtain ⟨rfl, _⟩ := hx
    have := sized_slice h ht hd Tryd.underlying26
    rw [Opn.bytes_u8] at this
    simp only [lits, List.length_map, List.length_take, List.length_drop, reachBytes, if_true] at this hz
    omega
theorem bulk_mem {H : Type} {d : DataW H} {l : List (DataW H)} (h : d ∈ l) : Rows.uptoBulk d ≤ Rows.uptoBulkAll l := by
  induction l with
  | nil => cases h
  | cons x r ih =>
    simp only [Rows.uptoBulkAll]
    rcases List.mem_cons.1 h with e | e
    · subst e; omega
    · have := ih e; omega
theorem bulk_sum {H : Type} : ∀ (n : Nat) (D : Nat → DataW H) (L : Nat → List Int), (∀ i, i < n → (L i).length + 1 ≤ Rows.uptoBulk (D i)) → ((List.range n).map L).flatten.length + n ≤ Rows.uptoBulkAll ((List.range n).map D)
  | 0, _, _, _ => by simp [Rows.uptoBulkAll]
  | n + 1, D, L, h => by
    have ih := bulk_sum n (fun i => D (i + 1)) (fun i => L (i + 1)) (fun i hi => h (i + 1) (by omega))
    have h0 := h 0 (by omega)
    rw [List.range_succ_eq_map]
    simp only [List.map_cons, List.map_map, List.flatten_cons, List.length_append, Rows.uptoBulkAll]
    have e1' : (List.range n).map (L ∘ Nat.succ) = (List.range n).map (fun i => L (i + 1)) := rfl
    have e2' : (List.range n).map (D ∘ Nat.succ) = (List.range n).map (fun i => D (i + 1)) := rfl
    rw [e1', e2']
    omega
theorem choose_lists {P : Nat → List Int → Prop} (n : Nat) (h : ∀ i, i < n → ∃ l, P i l) : ∃ L : Nat → List Int, ∀ i, i < n → P i (L i) :=
  ⟨fun i => if hi : i < n then Classical.choose (h i hi) else [], fun i hi => by simp only [hi, dif_pos]; exact Classical.choose_spec (h i hi)⟩
theorem Opn.cells_bytes : Tryd.prog.cellsOf 26 = 1 := by kernel_rfl
theorem open_HL {base : Nat} {v : Value} {d : DataW H} {p : List MemPlace} (h : DataW.Trod enc Tryd.prog W base (fun _ => true) true 37 v d p) (hv : ∃ a n c, v = .slice a n c) : ∃ ls, HL W v ls ∧ ls.flatten.length + ls.length + 1 ≤ Rows.uptoBulk d := by
  obtain ⟨a, n, c, rfl⟩ := hv
  obtain ⟨fuel, hf⟩ := h
  rcases Go.Deep.open_slice Tryd.underlying37 hf with ⟨hcs, hx⟩ | ⟨a, len, cap, m, n, D, Pl, hcs, hb, hl, hm, hmm, hx, hel⟩
  · simp only [Value.cells, List.cons.injEq, and_true] at hcs
    cases hx
    rw [hcs]
    exact ⟨[], HL.nil _, by simp [Rows.uptoBulk]⟩
  · simp only [Value.cells, List.cons.injEq, and_true] at hcs
    rw [hcs]
    simp only [if_true] at hmm
    subst hmm
    simp only [Prod.mk.injEq] at hx
    obtain ⟨rfl, _⟩ := hx
    have each : ∀ i, i < len → ∃ l, (∃ u, W.cell? (a.add i) = some u ∧ HB W u l) ∧ l.length + 1 ≤ Rows.uptoBulk (D i) := by
      intro i hi
      obtain ⟨cs', h1, h2⟩ := hel i (by omega)
      rw [Opn.cells_bytes, Nat.mul_one] at h1
      obtain ⟨q, c', l, rfl, k1, k2, k3, k4, k5, k6⟩ := open_row Tryd.underlying26 Tryd.underlying5 Opn.cells_u8 h2
      exact ⟨l, ⟨_, cell_of_cells?_one h1, ⟨⟨q, c', rfl, k1, k2, k3, k4⟩, byte_wf k5⟩⟩, k6⟩
    obtain ⟨L, hL⟩ := choose_lists len each
    have hlen : ((List.range len).map L).length = len := by simp
    refine ⟨(List.range len).map L, ⟨some a, m, by rw [hlen], by omega, hm, (fun e => by cases e), fun hne => ?_⟩, ?_⟩
    · have h0 : 0 < len := by
        apply Classical.byContradiction
        intro h
        exact hne (List.length_eq_zero_iff.1 (by omega))
      obtain ⟨b, off, sp⟩ := a
      obtain ⟨⟨u, hu, _⟩, _⟩ := hL 0 h0
      have hsp : sp = none := by simpa [Addr.add] using World.cell?_spot hu
      subst hsp
      refine ⟨b, off, rfl, fun j hj => ?_⟩
      rw [hlen] at hj
      obtain ⟨⟨u, hu, hb⟩, _⟩ := hL j hj
      rw [Go.WideShapes.add_plain] at hu
      refine ⟨u, hu, ?_⟩
      have e : ((List.range len).map L).getD j [] = L j := by simp [List.getD, hj]
      rw [e]
      exact hb
    · have h1 := bulk_sum len D L (fun i hi => (hL i hi).2)
      rw [hlen]
      simp only [Rows.uptoBulk]
      omega
end Go.Proofs.YtklklldmhoofnaaDoor
namespace Go.Proofs.YtklklldmhoofnaaDoor
open Go Go.RowKit
def upI (x y : Int) : Int := (x - 1) / y + 1
def tlI (x y : Int) : Int := (x - 1) % y + 1
theorem upI_pos {x y : Int} (hx : 1 ≤ x) (hy : 1 ≤ y) : 1 ≤ upI x y := by
  unfold upI
  have := Int.ediv_nonneg (show 0 ≤ x - 1 by omega) (show 0 ≤ y by omega)
  omega
theorem upI_le {x y : Int} (hx : 1 ≤ x) (hy : 1 ≤ y) : upI x y ≤ x := by
  unfold upI
  have := Int.ediv_le_self y (show 0 ≤ x - 1 by omega)
  omega
theorem upI_tdiv {x y : Int} (hx : 1 ≤ x) (hy : 1 ≤ y) : (x - 1).tdiv y + 1 = upI x y := by
  unfold upI
  rw [Int.tdiv_eq_ediv_of_nonneg (by omega)]
theorem up_split (x y : Int) : (upI x y - 1) * y + tlI x y = x := by
  unfold upI tlI
  have := Int.mul_ediv_add_emod (x - 1) y
  rw [show (x - 1) / y + 1 - 1 = (x - 1) / y by omega, Int.mul_comm]
  omega
theorem tlI_pos {x y : Int} (hy : 1 ≤ y) : 1 ≤ tlI x y := by
  unfold tlI
  have := Int.emod_nonneg (x - 1) (show y ≠ 0 by omega)
  omega
theorem tlI_le {x y : Int} (hy : 1 ≤ y) : tlI x y ≤ y := by
  unfold tlI
  have := Int.emod_lt_of_pos (x - 1) (show 0 < y by omega)
  omega
theorem tail_eq (x y : Int) : x - (upI x y - 1) * y = tlI x y := by
  have := up_split x y
  omega
theorem upI_unique {x y q t : Int} (hy : 1 ≤ y) (h : (q - 1) * y + t = x) (h1 : 1 ≤ t) (h2 : t ≤ y) : upI x y = q ∧ tlI x y = t := by
  have e : x - 1 = (t - 1) + y * (q - 1) := by rw [Int.mul_comm y]; omega
  constructor
  · unfold upI
    rw [e, Int.add_mul_ediv_left _ _ (by omega), Int.ediv_eq_zero_of_lt (by omega) (by omega)]
    omega
  · unfold tlI
    rw [e, Int.add_mul_emod_self_left, Int.emod_eq_of_lt (by omega) (by omega)]
    omega
theorem up_ref {x y : Int} (hx : 0 ≤ x) (hy : 1 ≤ y) : x / y + (x % y + y - 1) / y = upI x y := by
  have h1 := Int.mul_ediv_add_emod x y
  have h2 := Int.emod_nonneg x (show y ≠ 0 by omega)
  have h3 := Int.emod_lt_of_pos x (show 0 < y by omega)
  have h4 : y * (x / y) = (x / y) * y := Int.mul_comm _ _
  by_cases h0 : x % y = 0
  · have e : (x % y + y - 1) / y = 0 := by rw [h0]; exact Int.ediv_eq_zero_of_lt (by omega) (by omega)
    rw [e, Int.add_zero]
    exact (upI_unique (t := y) hy (by rw [Int.sub_mul]; omega) hy (Int.le_refl _)).1.symm
  · have e : (x % y + y - 1) / y = 1 := by
      rw [show x % y + y - 1 = (x % y - 1) + y * 1 by omega, Int.add_mul_ediv_left _ _ (by omega), Int.ediv_eq_zero_of_lt (by omega) (by omega)]
      omega
    rw [e]
    exact (upI_unique (t := x % y) hy (by rw [show x / y + 1 - 1 = x / y by omega]; omega) (by omega) (by omega)).1.symm
theorem up_ge {x y : Int} (hy : 1 ≤ y) : x ≤ y * upI x y := by
  have h1 := up_split x y
  have h2 := tlI_le (x := x) hy
  rw [Int.sub_mul] at h1
  rw [Int.mul_comm]
  omega
theorem up_lt {x y : Int} (hy : 1 ≤ y) : y * upI x y ≤ x + y - 1 := by
  have h1 := up_split x y
  have h2 := tlI_pos (x := x) hy
  rw [Int.sub_mul] at h1
  rw [Int.mul_comm]
  omega
theorem up_mult {x y : Int} (hy : 1 ≤ y) (h : x % y = 0) : y * upI x y = x := by
  have h1 := Int.mul_ediv_add_emod x y
  have e := upI_unique (x := x) (y := y) (q := x / y) (t := y) hy (by rw [Int.sub_mul, Int.mul_comm (x / y)]; omega) hy (Int.le_refl _)
  rw [e.1]; omega
theorem up_mono {x z y : Int} (hy : 1 ≤ y) (h : x ≤ z) : upI x y ≤ upI z y := by
  unfold upI
  have := Int.ediv_le_ediv (c := y) (by omega) (show x - 1 ≤ z - 1 by omega)
  omega
def shR (k n g z : Int) : List Int := [k, n, g, z, upI z g, tlI z g, g / k, upI (tlI z g) k]
def sh0 : List Int := [0, 0, 0, 0, 0, 0, 0, 0]
def OkS (k n g z : Int) : Prop := 1 ≤ k ∧ k ≤ n ∧ n ≤ 255 ∧ 1 ≤ g ∧ g ≤ k * upI 65536 k ∧ g % k = 0 ∧ 33 ≤ z ∧ z ≤ 16777216 ∧ upI z g ≤ 512
instance (k n g z : Int) : Decidable (OkS k n g z) := by unfold OkS; infer_instance
def OkP (k n g l : Int) : Prop := 1 ≤ k ∧ k ≤ n ∧ n ≤ 255 ∧ 1 ≤ g ∧ g ≤ 65536 ∧ l ≤ 64
instance (k n g l : Int) : Decidable (OkP k n g l) := by unfold OkP; infer_instance
def chkE (k n g l : Int) : Int := if OkP k n g l then 0 else 3
def shpE (k n g l z : Int) : Int := if OkP k n g l then (if 33 ≤ z ∧ z ≤ 16777216 then (if upI z (k * upI g k) ≤ 512 then 0 else 3) else 4) else 3
def shpT (k n g l z : Int) : List Int := if shpE k n g l z = 0 then shR k n (k * upI g k) z else sh0
def agE (k n g z : Int) : Int := if OkS k n g z then 0 else 92
def agT (k n g z : Int) : List Int := if OkS k n g z then shR k n g z else sh0
theorem most_lt {k : Int} (h1 : 1 ≤ k) (h2 : k ≤ 255) : 65536 ≤ k * upI 65536 k ∧ k * upI 65536 k ≤ 65790 := by
  have := up_ge (x := 65536) h1
  have := up_lt (x := 65536) h1
  omega
theorem again_iff (k n g z : Int) : OkS k n g z ↔ (shpE k n g 0 z = 0 ∧ k * upI g k = g) ∨ (shpE k n 65536 0 z = 0 ∧ k * upI 65536 k = g) := by
  constructor
  · rintro ⟨h1, h2, h3, h4, h5, h6, h7, h8, h9⟩
    by_cases hg : g ≤ 65536
    · left
      have e := up_mult h1 h6
      refine ⟨?_, e⟩
      rw [shpE, if_pos ⟨h1, h2, h3, h4, hg, by omega⟩, if_pos ⟨h7, h8⟩, e, if_pos h9]
    · right
      have e : k * upI 65536 k = g := by
        have a := up_lt (x := 65536) h1
        have b := up_mult h1 h6
        have hle : upI 65536 k ≤ upI g k := up_mono h1 (by omega)
        have c := Int.mul_le_mul_of_nonneg_left hle (show 0 ≤ k by omega)
        omega
      refine ⟨?_, e⟩
      rw [shpE, if_pos ⟨h1, h2, h3, by decide, by decide, by omega⟩, if_pos ⟨h7, h8⟩, e, if_pos h9]
  · have key : ∀ q, shpE k n q 0 z = 0 → k * upI q k = g → OkS k n g z := by
      intro q hq hg
      unfold shpE at hq
      split at hq
      · rename_i hp
        obtain ⟨h1, h2, h3, h4, h5, h6⟩ := hp
        split at hq
        · rename_i hz
          split at hq
          · rename_i h9
            rw [hg] at h9
            have hu := upI_pos h4 h1
            have hle : upI q k ≤ upI 65536 k := up_mono h1 h5
            have c := Int.mul_le_mul_of_nonneg_left hle (show 0 ≤ k by omega)
            have d := up_ge (x := q) h1
            exact ⟨h1, h2, h3, by omega, by omega, by rw [← hg]; exact Int.mul_emod_right _ _, hz.1, hz.2, h9⟩
          · cases hq
        · cases hq
      · cases hq
    rintro (⟨a, b⟩ | ⟨a, b⟩)
    · exact key _ a b
    · exact key _ a b
theorem shpE_ok {k n g l z : Int} (h : shpE k n g l z = 0) : OkP k n g l ∧ 33 ≤ z ∧ z ≤ 16777216 ∧ upI z (k * upI g k) ≤ 512 := by
  unfold shpE at h
  split at h
  · rename_i hp
    split at h
    · rename_i hz
      split at h
      · rename_i h9
        exact ⟨hp, hz.1, hz.2, h9⟩
      · cases h
    · cases h
  · cases h
theorem shp_okS {k n g l z : Int} (h : shpE k n g l z = 0) : OkS k n (k * upI g k) z := by
  obtain ⟨⟨h1, h2, h3, h4, h5, h6⟩, h7, h8, h9⟩ := shpE_ok h
  rw [again_iff]
  by_cases hg : k * upI g k ≤ 65536
  · left
    have e : k * upI (k * upI g k) k = k * upI g k := up_mult h1 (Int.mul_emod_right _ _)
    have hu := up_ge (x := g) h1
    refine ⟨?_, e⟩
    rw [shpE, if_pos ⟨h1, h2, h3, by omega, hg, by omega⟩, if_pos ⟨h7, h8⟩, e, if_pos h9]
  · right
    have hle : upI g k ≤ upI 65536 k := up_mono h1 h5
    have c := Int.mul_le_mul_of_nonneg_left hle (show 0 ≤ k by omega)
    have a := up_lt (x := 65536) h1
    have hle2 : upI 65536 k ≤ upI (k * upI g k) k := up_mono h1 (by omega)
    have c2 := Int.mul_le_mul_of_nonneg_left hle2 (show 0 ≤ k by omega)
    have e2 : k * upI (k * upI g k) k = k * upI g k := up_mult h1 (Int.mul_emod_right _ _)
    have e : k * upI 65536 k = k * upI g k := by omega
    refine ⟨?_, e⟩
    rw [shpE, if_pos ⟨h1, h2, h3, by decide, by decide, by omega⟩, if_pos ⟨h7, h8⟩, e, if_pos h9]
set_option maxRecDepth 100000 in
set_option maxHeartbeats 4000000 in
theorem upward_any (w : World) (x y : Int) (hx : 1 ≤ x) (hx2 : x ≤ 4611686018427387904) (hy : 1 ≤ y) : Calls Tryd.prog 53 #[.int .i64 x, .int .i64 y] w fun e w' => e = .returned (.int .i64 (upI x y)) ∧ w' = w := by
  have E := hid (upI_tdiv hx hy)
  have q1 := upI_pos hx hy
  have q2 := upI_le hx hy
  obtain ⟨d, Hd⟩ : ∃ d, Hid ((x - 1).tdiv y = d) := ⟨_, rfl⟩
  have hd : (x - 1).tdiv y = d := Hd.out
  have hdu : d + 1 = upI x y := by rw [← Hd.out]; exact E.out
  have k1 : IntKind.i64.wrap (x - 1) = x - 1 := by rw [IntKind.wrap_i64]; omega
  have k2 : IntKind.i64.wrap d = d := by rw [IntKind.wrap_i64]; omega
  have k3 : IntKind.i64.wrap (d + 1) = d + 1 := by rw [IntKind.wrap_i64]; omega
  have hy0 : ¬ y = 0 := by omega
  have HU := hid hdu
  clear hdu q1 q2
  go_enter Tryd.func53, Tryd.ntmps53
  go_wp2
  go_ret
  rw [← HU.out]
  exact ⟨rfl, rfl⟩
set_option maxRecDepth 100000 in
set_option maxHeartbeats 4000000 in
theorem most_any (w : World) (k : Int) (h1 : 1 ≤ k) (h2 : k ≤ 255) : Calls Tryd.prog 39 #[.int .i64 k] w fun e w' => e = .returned (.int .i64 (k * upI 65536 k)) ∧ w' = w := by
  have C := hid (upward_any w 65536 k (by decide) (by decide) h1)
  obtain ⟨m1, m2⟩ := most_lt h1 h2
  obtain ⟨m, Hm⟩ : ∃ m, Hid (k * upI 65536 k = m) := ⟨_, rfl⟩
  have hm : k * upI 65536 k = m := Hm.out
  have k1 : IntKind.i64.wrap m = m := by rw [IntKind.wrap_i64]; omega
  clear m1 m2
  go_enter Tryd.func39, Tryd.ntmps39
  go_wp2_with fail
  refine C.out.mono ?_
  rintro e w' ⟨rfl, rfl⟩
  go_wp2
  go_ret
  first | exact ⟨rfl, rfl⟩ | (rw [Hm.out]; exact ⟨rfl, rfl⟩)
def cntB (k n : Int) : Bool := decide (1 ≤ k ∧ k ≤ n ∧ n ≤ 255)
set_option maxRecDepth 100000 in
set_option maxHeartbeats 4000000 in
theorem counts_any (w : World) (k n : Int) : Calls Tryd.prog 38 #[.int .i64 k, .int .i64 n] w fun e w' => e = .returned (.bool (cntB k n)) ∧ w' = w := by
  go_enter Tryd.func38, Tryd.ntmps38
  by_cases h1 : 1 ≤ k
  · by_cases h2 : k ≤ n
    · by_cases h3 : n ≤ 255
      · have F : Hid (cntB k n = true) := decide_eq_true ⟨h1, h2, h3⟩
        go_wp2; go_ret; rw [F.out]; exact ⟨rfl, rfl⟩
      · have F : Hid (cntB k n = false) := decide_eq_false fun h => h3 h.2.2
        go_wp2; go_ret; rw [F.out]; exact ⟨rfl, rfl⟩
    · have F : Hid (cntB k n = false) := decide_eq_false fun h => h2 h.2.1
      go_wp2; go_ret; rw [F.out]; exact ⟨rfl, rfl⟩
  · have F : Hid (cntB k n = false) := decide_eq_false fun h => h1 h.1
    go_wp2; go_ret; rw [F.out]; exact ⟨rfl, rfl⟩
def szB (z : Int) : Bool := decide (33 ≤ z ∧ z ≤ 16777216)
set_option maxRecDepth 100000 in
set_option maxHeartbeats 4000000 in
theorem shared_any (w : World) (z : Int) : Calls Tryd.prog 40 #[.int .i64 z] w fun e w' => e = .returned (.bool (szB z)) ∧ w' = w := by
  go_enter Tryd.func40, Tryd.ntmps40
  by_cases h1 : 32 < z
  · by_cases h2 : z ≤ 16777216
    · have F : Hid (szB z = true) := decide_eq_true ⟨by omega, h2⟩
      go_wp2; go_ret; rw [F.out]; exact ⟨rfl, rfl⟩
    · have F : Hid (szB z = false) := decide_eq_false fun h => h2 h.2
      go_wp2; go_ret; rw [F.out]; exact ⟨rfl, rfl⟩
  · have F : Hid (szB z = false) := decide_eq_false fun h => h1 (by have := h.1; omega)
    go_wp2; go_ret; rw [F.out]; exact ⟨rfl, rfl⟩
def prV (k n g h : Int) (s : Value) : Value := .agg #[.int .i64 k, .int .i64 n, .int .i64 g, .int .i64 h, s]
theorem below_alloc (w : World) (o : Obj) : Below w.heap.size w (w.alloc o) := (Below.refl _ w).alloc (Nat.le_refl _) o
theorem rup_tdiv {x y : Int} (hx : 0 ≤ x) (hy : 1 ≤ y) : x.tdiv y + (x.tmod y + y - 1).tdiv y = upI x y := by
  have h2 := Int.emod_nonneg x (show y ≠ 0 by omega)
  rw [Int.tdiv_eq_ediv_of_nonneg hx, Int.tmod_eq_emod_of_nonneg hx, Int.tdiv_eq_ediv_of_nonneg (by omega)]
  exact up_ref hx hy
def ShS (w W : World) : Prop := Below w.heap.size w W ∧ ∃ cs, W.heap[w.heap.size]? = some (.cells cs 51 (0, 0)) ∧ cs.size = 8
theorem bel_setRow {B : Nat} {w W : World} {g : Nat} (h : Below B w W) (hg : B ≤ g) (cs : Array Value) : Below B w (W.setRow g cs) := ⟨h.os, h.tape, h.output, by simp [World.setRow]; exact h.size, fun k hk => by rw [← h.block k hk]; simp [World.setRow, Array.getElem?_modify, show g ≠ k by omega]⟩
def shA (l : List Int) : Array Value := (l.map (Value.int .i64)).toArray
theorem size_shape : (Tryd.prog.info? 51).map (·.size) = some 8 := by kernel_rfl
theorem zero_shape : (Tryd.prog.info? 51).map (·.zero) = some (some (.agg (shA sh0))) := by kernel_rfl
set_option maxRecDepth 100000 in
set_option maxHeartbeats 4000000 in
theorem shapedH_any (w : World) (k n g z : Int) (h1 : 1 ≤ k) (h2 : k ≤ 255) (hg : 1 ≤ g) (hg2 : g ≤ 65790) (hz : 1 ≤ z) (hz2 : z ≤ 16777216) : Calls Tryd.prog 41 #[.int .i64 k, .int .i64 n, .int .i64 g, .int .i64 z] w fun e w' => e = .returned (.agg (shA (shR k n g z))) ∧ Below w.heap.size w w' := by
  have C1 := hid fun w => upward_any w z g hz (by omega) hg
  have t1 := tlI_pos (x := z) hg
  have t2 := tlI_le (x := z) hg
  have u1 := upI_pos hz hg
  have u2 := upI_le hz hg
  have hsp := up_split z g
  have C2 := hid fun w => upward_any w (tlI z g) k t1 (by omega) h1
  have hq : g.tdiv k = g / k := Int.tdiv_eq_ediv_of_nonneg (by omega)
  have hq2 : 0 ≤ g / k ∧ g / k ≤ g := ⟨Int.ediv_nonneg (by omega) (by omega), Int.ediv_le_self _ (by omega)⟩
  have HR : Hid (shR k n g z = [k, n, g, z, upI z g, tlI z g, g / k, upI (tlI z g) k]) := rfl
  rw [HR.out]
  obtain ⟨U, HU⟩ : ∃ x, Hid (upI z g = x) := ⟨_, rfl⟩
  obtain ⟨T, HT⟩ : ∃ x, Hid (tlI z g = x) := ⟨_, rfl⟩
  rw [HT.out] at C2 t1 t2 hsp ⊢
  obtain ⟨V, HV⟩ : ∃ x, Hid (upI T k = x) := ⟨_, rfl⟩
  obtain ⟨D, HD⟩ : ∃ x, Hid (g / k = x) := ⟨_, rfl⟩
  rw [HU.out] at C1 u1 u2 hsp ⊢
  rw [HV.out] at C2 ⊢
  rw [HD.out] at hq hq2 ⊢
  have k1 : IntKind.i64.wrap (U - 1) = U - 1 := by rw [IntKind.wrap_i64]; omega
  have hp : (U - 1) * g = z - T := by omega
  have k2 : IntKind.i64.wrap (z - T) = z - T := by rw [IntKind.wrap_i64]; omega
  have k3 : IntKind.i64.wrap (z - (z - T)) = T := by rw [IntKind.wrap_i64]; omega
  have k4 : IntKind.i64.wrap D = D := by rw [IntKind.wrap_i64]; omega
  have hk0 : ¬ k = 0 := by omega
  clear HR hsp
  obtain ⟨zz, HZ⟩ : ∃ x, Hid (shA sh0 = x) := ⟨_, rfl⟩
  obtain ⟨yy, HY⟩ : ∃ x, Hid (shA [k, n, g, z, U, T, D, V] = x) := ⟨_, rfl⟩
  have HYs : Hid (yy.size = 8) := by rw [← HY.out]; rfl
  have HY1 : Hid (yy.all (·.oneCell') = true) := by refine hid ?_; rw [← HY.out]; simp [shA, Value.oneCell']
  rw [HY.out]
  go_enter Tryd.func41, Tryd.ntmps41
  go_wp2_with fail
  refine (C1.out _).mono ?_
  rintro e w1 ⟨rfl, rfl⟩
  go_wp2
  refine wp_region_held_drew (S := ShS w) (by kernel_rfl) ⟨((Below.refl _ w).alloc (Nat.le_refl _) _).drew, _, heap_alloc_new w _, rfl⟩ (fun hHeld => ?_)
  have HS := hid hHeld
  clear hHeld
  change wpAnyH _ _ _ _ _ _ _ _ (World.drew _)
  refine wpAnyH_take (i := 0) (v := ?_) rfl (by kernel_rfl) (by kernel_rfl) (by kernel_rfl) (fun _ _ _ h => h) (Or.inl ⟨by rfl, ?q0⟩) HS.out ?_
  case q0 => intro w hSw; go_simp; rfl
  simp only [Act.put, List.getElem_toArray, List.getElem_cons_zero, List.getElem_cons_succ, List.setIfInBounds_toArray, List.set_cons_zero, List.set_cons_succ]
  refine wpAnyH_take (i := 1) (v := ?_) rfl (by kernel_rfl) (by kernel_rfl) (by kernel_rfl) (fun _ _ _ h => h) (Or.inl ⟨by rfl, ?q1⟩) HS.out ?_
  case q1 => intro w hSw; go_simp; rfl
  simp only [Act.put, List.getElem_toArray, List.getElem_cons_zero, List.getElem_cons_succ, List.setIfInBounds_toArray, List.set_cons_zero, List.set_cons_succ]
  refine wpAnyH_take (i := 2) (v := ?_) rfl (by kernel_rfl) (by kernel_rfl) (by kernel_rfl) (fun _ _ _ h => h) (Or.inl ⟨by rfl, ?q2⟩) HS.out ?_
  case q2 => intro w hSw; go_simp; rfl
  simp only [Act.put, List.getElem_toArray, List.getElem_cons_zero, List.getElem_cons_succ, List.setIfInBounds_toArray, List.set_cons_zero, List.set_cons_succ]
  refine wpAnyH_take (i := 3) (v := ?_) rfl (by kernel_rfl) (by kernel_rfl) (by kernel_rfl) (fun _ _ _ h => h) (Or.inl ⟨by rfl, ?q3⟩) HS.out ?_
  case q3 => intro w hSw; go_simp; rfl
  simp only [Act.put, List.getElem_toArray, List.getElem_cons_zero, List.getElem_cons_succ, List.setIfInBounds_toArray, List.set_cons_zero, List.set_cons_succ]
  refine wpAnyH_take (i := 4) (v := ?_) rfl (by kernel_rfl) (by kernel_rfl) (by kernel_rfl) (fun _ _ _ h => h) (Or.inl ⟨by rfl, ?q4⟩) HS.out ?_
  case q4 => intro w hSw; go_simp; rfl
  simp only [Act.put, List.getElem_toArray, List.getElem_cons_zero, List.getElem_cons_succ, List.setIfInBounds_toArray, List.set_cons_zero, List.set_cons_succ]
  refine wpAnyH_take (i := 5) (v := ?_) rfl (by kernel_rfl) (by kernel_rfl) (by kernel_rfl) (fun _ _ _ h => h) (Or.inl ⟨by rfl, ?q5⟩) HS.out ?_
  case q5 => intro w hSw; go_simp; rfl
  simp only [Act.put, List.getElem_toArray, List.getElem_cons_zero, List.getElem_cons_succ, List.setIfInBounds_toArray, List.set_cons_zero, List.set_cons_succ]
  refine wpAnyH_take (i := 6) (v := ?_) rfl (by kernel_rfl) (by kernel_rfl) (by kernel_rfl) (fun _ _ _ h => h) (Or.inl ⟨by rfl, ?q6⟩) HS.out ?_
  case q6 => intro w hSw; go_simp; rfl
  simp only [Act.put, List.getElem_toArray, List.getElem_cons_zero, List.getElem_cons_succ, List.setIfInBounds_toArray, List.set_cons_zero, List.set_cons_succ]
  refine wpAnyH_take (i := 7) (v := ?_) rfl (by kernel_rfl) (by kernel_rfl) (by kernel_rfl) (fun _ _ _ h => h) (Or.inl ⟨by rfl, ?q7⟩) HS.out ?_
  case q7 => intro w hSw; go_simp; rfl
  simp only [Act.put, List.getElem_toArray, List.getElem_cons_zero, List.getElem_cons_succ, List.setIfInBounds_toArray, List.set_cons_zero, List.set_cons_succ]
  refine wpAnyH_take (i := 8) (v := .int .i64 D) rfl (by kernel_rfl) (by kernel_rfl) (by kernel_rfl) (fun _ _ _ h => h) (Or.inl ⟨by rfl, ?q8⟩) HS.out ?_
  case q8 => intro w hSw; go_simp
  simp only [Act.put, List.getElem_toArray, List.getElem_cons_zero, List.getElem_cons_succ, List.setIfInBounds_toArray, List.set_cons_zero, List.set_cons_succ]
  refine wpAnyH_take (i := 9) (v := ?_) rfl (by kernel_rfl) (by kernel_rfl) (by kernel_rfl) (fun _ _ _ h => h) (Or.inl ⟨by rfl, ?q9⟩) HS.out ?_
  case q9 => intro w hSw; go_simp; rfl
  simp only [Act.put, List.getElem_toArray, List.getElem_cons_zero, List.getElem_cons_succ, List.setIfInBounds_toArray, List.set_cons_zero, List.set_cons_succ]
  refine wpAnyH_take (i := 10) (v := ?_) rfl (by kernel_rfl) (by kernel_rfl) (by kernel_rfl) (fun _ _ _ h => h) (Or.inl ⟨by rfl, ?q10⟩) HS.out ?_
  case q10 => intro w hSw; go_simp; rfl
  simp only [Act.put, List.getElem_toArray, List.getElem_cons_zero, List.getElem_cons_succ, List.setIfInBounds_toArray, List.set_cons_zero, List.set_cons_succ]
  refine wpAnyH_ready (rs := [11]) (by kernel_rfl) (by simp) ?_
  refine AllReadyH.cons rfl (fun K hK => ?_) AllReadyH.nil
  go_simp
  refine (C2.out _).mono ?_
  rintro e v9 ⟨rfl, rfl⟩
  refine hK.out _ _ HS.out (fun _ => ?_)
  clear hK K
  refine wpAnyH_take (i := 12) (v := .agg (shA [k, n, g, z, U, T, D, V])) rfl (by kernel_rfl) (by kernel_rfl) (by kernel_rfl) (fun _ _ _ h => h) (Or.inl ⟨by rfl, ?q12⟩) HS.out ?_
  case q12 => intro w hSw; go_simp; rfl
  simp only [Act.put, List.getElem_toArray, List.getElem_cons_zero, List.getElem_cons_succ, List.setIfInBounds_toArray, List.set_cons_zero, List.set_cons_succ]
  rw [HY.out]
  refine wpAnyH_ready (rs := [13]) (by kernel_rfl) (by simp) ?_
  refine AllReadyH.cons rfl (fun K hK => ?_) AllReadyH.nil
  obtain ⟨hB5, cs, hc5, hs5⟩ := HS.out
  refine wp_store_row 51 _ _ rfl w.heap.size yy rfl rfl 51 cs hc5 (by rw [HYs.out]; exact size_shape) (by rw [hs5, HYs.out]) HY1.out ?_
  have hS6 : ShS w (World.setRow _ w.heap.size yy) := ⟨bel_setRow hB5 (Nat.le_refl _) _, yy, setRow_heap _ _ _ _ _ _ hc5, HYs.out⟩
  refine hK.out _ _ hS6 (fun _ => ?_)
  clear hK K
  simp only [Act.put]
  refine wpAnyH_done (by kernel_rfl) ?_ _
  go_wp2
  refine bodyPost_ret (v := .agg yy) (results_cell_row (p := 8) (ty := 51) rfl _ _ w.heap.size 51 yy (0, 0) _ rfl (setRow_heap _ _ _ _ _ _ hc5) Tryd.underlying51 rfl (by rw [HYs.out]; exact size_shape)) rfl ?_
  exact ⟨rfl, hS6.1⟩
end Go.Proofs.YtklklldmhoofnaaDoor
