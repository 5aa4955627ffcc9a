/- Of the road to shaCallsUptoCard_holds: Base, Opens, U8, Join, AppB, SameBytes, Marks, Owns, Lists, MarksMore, Apart, Slices, LentKit, ListKit. -/
import Derived.WalkKit
import Derived.WalkSpells
import Derived.WalkLawsBesides
import Derived.Deep.QuietTactic
import Derived.BigQuiet
import Derived.Test.YtinahldjpobigaaDoorRows
import Derived.ProofKit
import Derived.OpenShut
import Derived.ShutString
import Derived.ChangeOld
import Derived.Deep.Slices
import Derived.JoinedCond
import Derived.SizedLaws
import Derived.Test.YtinahldjpobigaaDoorChecked
import Derived.Laws.AppendOwnNone
import Derived.Laws.AppendOwn
import Derived.Deep.RegionHeld3
set_option linter.unusedVariables false
set_option linter.unusedSimpArgs false
namespace Go.Proofs.YtinahldjpobigaaDoor
open Go.RowKit
theorem hid {p : Prop} (h : p) : Hid p := h
def HB (w : World) (v : Value) (l : List Int) : Prop :=
  (∃ (p : Option Addr) (c : Nat), v = .slice p l.length c ∧ l.length ≤ c ∧ c ≤ maxLen ∧ (p = none → c = 0) ∧
    (l ≠ [] → ∃ b off, p = some ⟨b, off, none⟩ ∧ ∀ j, j < l.length → w.cell? ⟨b, off + j, none⟩ = some (.int .u8 (l.getD j 0)))) ∧ ∀ x ∈ l, 0 ≤ x ∧ x < 256
theorem HB.open {w : World} {v : Value} {l : List Int} (h : HB w v l) : ∃ (p : Option Addr) (c : Nat), v = .slice p l.length c ∧ l.length ≤ c ∧ c ≤ maxLen := by
  obtain ⟨⟨p, c, h1, h2, h3, _⟩, _⟩ := h
  exact ⟨p, c, h1, h2, h3⟩
theorem HB.ne {w : World} {v : Value} {l : List Int} (h : HB w v l) (hl : 0 < l.length) :
    ∃ b off c, v = .slice (some ⟨b, off, none⟩) l.length c ∧ l.length ≤ c ∧ c ≤ maxLen ∧ ∀ j, j < l.length → w.cell? ⟨b, off + j, none⟩ = some (.int .u8 (l.getD j 0)) := by
  obtain ⟨⟨p, c, h1, h2, h3, _, h4⟩, _⟩ := h
  obtain ⟨b, off, rfl, hc⟩ := h4 (by intro e; subst e; simp at hl)
  exact ⟨b, off, c, h1, h2, h3, hc⟩
theorem HB.byte {w : World} {v : Value} {l : List Int} (h : HB w v l) (j : Nat) : 0 ≤ l.getD j 0 ∧ l.getD j 0 < 256 := by
  by_cases hj : j < l.length
  · have e : l.getD j 0 = l[j] := by simp [List.getD, List.getElem?_eq_getElem hj]
    rw [e]
    exact h.2 _ (List.getElem_mem hj)
  · have e : l.getD j 0 = 0 := by simp [List.getD, List.getElem?_eq_none (by omega : l.length ≤ j)]
    rw [e]; omega
theorem HB.later {w w' : World} {v : Value} {l : List Int} (h : HB w v l) (hc : ∀ a (n : Int), w.cell? a = some (.int .u8 n) → w'.cell? a = some (.int .u8 n)) : HB w' v l := by
  obtain ⟨⟨p, c, h1, h2, h3, h6, h4⟩, h5⟩ := h
  refine ⟨⟨p, c, h1, h2, h3, h6, fun hl => ?_⟩, h5⟩
  obtain ⟨b, off, e, hh⟩ := h4 hl
  exact ⟨b, off, e, fun j hj => hc _ _ (hh j hj)⟩
theorem HB.below {w w' : World} {v : Value} {l : List Int} (h : HB w v l) (hb : Below w.heap.size w w') : HB w' v l :=
  h.later fun a _ hx => (hb.cell (World.block_lt_of_cell? w a hx)).trans hx
theorem HB.drewN {w : World} {v : Value} {l : List Int} (h : HB w v l) (q : Nat) : HB (w.drewN q) v l := h.later fun _ _ hx => hx
theorem getD_of_lt {l : List Int} {k : Nat} (h : k < l.length) : l.getD k 0 = l[k] := by simp [List.getD, List.getElem?_eq_getElem h]
theorem ownsRow_cells {w : World} {B : Nat} {e : TypeId} {v : Value} {n : Nat} {xs : List Value} (h : w.ownsRow B e 1 v n xs) (h0 : 0 < n) :
    ∃ g cap, v = .slice (some ⟨g, 0, none⟩) n cap ∧ B ≤ g ∧ n ≤ cap ∧ cap ≤ maxLen ∧ ∀ j u, xs[j]? = some u → w.cell? ⟨g, 0 + j, none⟩ = some u := by
  have hc := @World.ownsRow.cells w B e 1 v n xs h
  rcases h.2 with ⟨_, e0⟩ | ⟨g, cap, cur, rfl, hb, _, hn, hm, _, _⟩
  · omega
  · refine ⟨g, cap, rfl, hb, hn, hm, fun j u hj => ?_⟩
    have := @hc g rfl j u hj
    rwa [Go.WideShapes.add_plain] at this
theorem HB.of_own {w : World} {B : Nat} {e : TypeId} {v : Value} {l : List Int} (h : w.ownsRow B e 1 v l.length (l.map (Value.int .u8))) (hx : ∀ x ∈ l, 0 ≤ x ∧ x < 256) : HB w v l := by
  refine ⟨?_, hx⟩
  by_cases h0 : 0 < l.length
  · obtain ⟨g, cap, rfl, _, hn, hm, hc⟩ := ownsRow_cells h h0
    refine ⟨_, cap, rfl, hn, hm, (fun e => by cases e), fun _ => ⟨g, 0, rfl, fun j hj => ?_⟩⟩
    exact hc j _ (by simp [List.getD, List.getElem?_eq_getElem hj])
  · have e : l = [] := List.length_eq_zero_iff.1 (by omega)
    subst e
    rcases h.2 with ⟨rfl, _⟩ | ⟨g, cap, cur, rfl, _, _, hn, hm, _⟩
    · exact ⟨none, 0, rfl, Nat.le_refl _, Nat.zero_le _, fun _ => rfl, fun h => absurd rfl h⟩
    · exact ⟨_, cap, rfl, hn, hm, (fun e => by cases e), fun h => absurd rfl h⟩
theorem HB.grown {w w' : World} {v : Value} {l : List Int} {g : Nat} (h : HB w v l) (hg : w.grownBy w' (some g)) (hn : ∀ o sp (n : Int), w.cell? ⟨g, o, sp⟩ ≠ some (.int .u8 n)) : HB w' v l :=
  h.later fun a n hx => hg.cell hx (by
    intro e
    obtain ⟨b, o, sp⟩ := a
    simp only [Option.some.injEq] at e
    subst e
    exact hn o sp n hx)
theorem HB.nil (w : World) : HB w (.slice none 0 0) [] := ⟨⟨none, 0, rfl, Nat.zero_le _, Nat.zero_le _, fun _ => rfl, fun h => absurd rfl h⟩, by simp⟩
def BT (w : World) (g : Nat) (T : TypeId) : Prop := ∃ cur fz, w.heap[g]? = some (.cells cur T fz)
def HL (w : World) (v : Value) (ls : List (List Int)) : Prop :=
  ∃ (p : Option Addr) (c : Nat), v = .slice p ls.length c ∧ ls.length ≤ c ∧ c ≤ maxLen ∧ (p = none → c = 0) ∧
    (ls ≠ [] → ∃ b off, p = some ⟨b, off, none⟩ ∧ ∀ j, j < ls.length → ∃ u, w.cell? ⟨b, off + j, none⟩ = some u ∧ HB w u (ls.getD j []))
theorem HL.ne {w : World} {v : Value} {ls : List (List Int)} (h : HL w v ls) (hl : 0 < ls.length) :
    ∃ b off c, v = .slice (some ⟨b, off, none⟩) ls.length c ∧ ls.length ≤ c ∧ c ≤ maxLen ∧ ∀ j, j < ls.length → ∃ u, w.cell? ⟨b, off + j, none⟩ = some u ∧ HB w u (ls.getD j []) := by
  obtain ⟨p, c, h1, h2, h3, _, h4⟩ := h
  obtain ⟨b, off, rfl, hc⟩ := h4 (by intro e; subst e; simp at hl)
  exact ⟨b, off, c, h1, h2, h3, hc⟩
theorem HL.open {w : World} {v : Value} {ls : List (List Int)} (h : HL w v ls) : ∃ (p : Option Addr) (c : Nat), v = .slice p ls.length c ∧ ls.length ≤ c ∧ c ≤ maxLen := by
  obtain ⟨p, c, h1, h2, h3, _⟩ := h
  exact ⟨p, c, h1, h2, h3⟩
theorem HL.later {w w' : World} {v : Value} {ls : List (List Int)} (h : HL w v ls) (hc : ∀ a x, w.cell? a = some x → w'.cell? a = some x) : HL w' v ls := by
  obtain ⟨p, c, h1, h2, h3, h5, h4⟩ := h
  refine ⟨p, c, h1, h2, h3, h5, fun hl => ?_⟩
  obtain ⟨b, off, e, hh⟩ := h4 hl
  refine ⟨b, off, e, fun j hj => ?_⟩
  obtain ⟨u, hu, hb⟩ := hh j hj
  exact ⟨u, hc _ _ hu, hb.later fun a n => hc a _⟩
theorem HL.below {w w' : World} {v : Value} {ls : List (List Int)} (h : HL w v ls) (hb : Below w.heap.size w w') : HL w' v ls :=
  h.later fun a _ hx => (hb.cell (World.block_lt_of_cell? w a hx)).trans hx
theorem HL.byt {w : World} {v : Value} {ls : List (List Int)} (h : HL w v ls) : ∀ x ∈ ls.flatten, 0 ≤ x ∧ x < 256 := by
  intro x hx
  obtain ⟨l, hl, hxl⟩ := List.mem_flatten.1 hx
  obtain ⟨j, hj, rfl⟩ := List.getElem_of_mem hl
  obtain ⟨b, off, c, _, _, _, hh⟩ := h.ne (by omega)
  obtain ⟨u, _, hb⟩ := hh j hj
  have e : ls.getD j [] = ls[j] := by simp [List.getD, List.getElem?_eq_getElem hj]
  rw [e] at hb
  exact hb.2 x hxl
theorem HL.nil (w : World) : HL w (.slice none 0 0) [] := ⟨none, 0, rfl, Nat.zero_le _, Nat.zero_le _, fun _ => rfl, fun h => absurd rfl h⟩
def Dr (w w' : World) : Prop := ∃ q, w' = w.drewN q
theorem Dr.refl (w : World) : Dr w w := ⟨0, rfl⟩
theorem Dr.drewN {w u : World} (h : Dr w u) (n : Nat) : Dr w (u.drewN n) := by
  obtain ⟨q, rfl⟩ := h
  exact ⟨q + n, World.drewN_drewN w q n⟩
theorem Dr.one (w : World) (n : Nat) : Dr w (w.drewN n) := ⟨n, rfl⟩
theorem Dr.trans {a b c : World} (h : Dr a b) (k : Dr b c) : Dr a c := by
  obtain ⟨q, rfl⟩ := k
  exact h.drewN q
theorem Dr.cell {w w' : World} (h : Dr w w') (a : Addr) : w'.cell? a = w.cell? a := by obtain ⟨q, rfl⟩ := h; rfl
theorem Dr.heap {w w' : World} (h : Dr w w') : w'.heap = w.heap := by obtain ⟨q, rfl⟩ := h; rfl
theorem Dr.below {w w' : World} (h : Dr w w') (B : Nat) : Below B w w' := by obtain ⟨q, rfl⟩ := h; exact ⟨rfl, rfl, rfl, Nat.le_refl _, fun _ _ => rfl⟩
theorem HB.dr {w w' : World} {v : Value} {l : List Int} (h : HB w v l) (d : Dr w w') : HB w' v l := h.later fun a _ hx => (d.cell a).trans hx
theorem HL.dr {w w' : World} {v : Value} {ls : List (List Int)} (h : HL w v ls) (d : Dr w w') : HL w' v ls := h.below (d.below _)
end Go.Proofs.YtinahldjpobigaaDoor
namespace Go.Proofs.YtinahldjpobigaaDoor
open Go.ChangeShapes Go.WideShapes Go.ChangeAt Go.RowKit
theorem Opn.own : ownKnob Tryd.prog.godebug = none := by kernel_rfl
theorem Opn.laidOut : laidOutB Tryd.prog = true := by kernel_rfl
theorem Opn.cells_u8 : Tryd.prog.cellsOf 5 = 1 := by kernel_rfl
theorem Opn.cells_int : Tryd.prog.cellsOf 3 = 1 := by kernel_rfl
theorem bulk_pos {H : Type} (d : DataW H) : 1 ≤ Rows.uptoBulk d := by
  cases d with
  | lit l => cases l <;> simp [Rows.uptoBulk]
  | _ => simp [Rows.uptoBulk]
theorem bulk_len {H : Type} (l : List (DataW H)) : l.length ≤ Rows.uptoBulkAll l := by
  induction l with
  | nil => simp
  | cons x r ih => have := bulk_pos x; simp only [Rows.uptoBulkAll, List.length_cons]; omega
theorem bulk_slice {H : Type} (a b : List (DataW H)) : a.length + b.length + 1 ≤ Rows.uptoBulk (.slice a b) := by
  have h1 := bulk_len a
  have h2 := bulk_len b
  simp only [Rows.uptoBulk]
  omega
theorem bulk_all {H : Type} {l : List (DataW H)} (hk : Rows.uptoSmall H l = true) : Rows.uptoBulkAll l ≤ 1048576 := of_decide_eq_true hk
variable {H : Type} {enc : TypeId × Value → H} {W : World}
theorem open_row {k : IntKind} {t e : TypeId} {fuel base : Nat} {cs : List Value} {d : DataW H} {p : List MemPlace} (ht : Tryd.prog.underlying t = some (.slice e)) (he : Tryd.prog.underlying e = some (.int k)) (hc : Tryd.prog.cellsOf e = 1)
    (hf : DataW.trod enc Tryd.prog W base (fun _ => true) true fuel t cs = some (d, p)) :
    ∃ (q : Option Addr) (c : Nat) (l : List Int), cs = [.slice q l.length c] ∧ l.length ≤ c ∧ c ≤ maxLen ∧ (q = none → c = 0) ∧ (l ≠ [] → ∃ b off, q = some ⟨b, off, none⟩ ∧ ∀ j, j < l.length → W.cell? ⟨b, off + j, none⟩ = some (.int k (l.getD j 0))) ∧ (∀ n ∈ l, (Lit.int k n).wf = true) ∧ l.length + 1 ≤ Rows.uptoBulk d := by
  rcases open_ints ht he hc hf with ⟨rfl, hx⟩ | ⟨x, len, cap, zs, rfl, _, hl, hm, hz, hx, hcell, hwz⟩
  · cases hx
    exact ⟨none, 0, [], rfl, Nat.le_refl _, Nat.zero_le _, fun _ => rfl, fun h => absurd rfl h, by simp, by simp [Rows.uptoBulk]⟩
  · simp only [Prod.mk.injEq] at hx
    obtain ⟨rfl, _⟩ := hx
    simp only [if_true] at hz
    have hlen : (zs.take len).length = len := by simp; omega
    refine ⟨some x, cap, zs.take len, by rw [hlen], by omega, hm, (fun e => by cases e), fun hne => ?_, fun n hn => hwz n (List.mem_of_mem_take hn), ?_⟩
    · have h0 : 0 < len := by
        apply Classical.byContradiction
        intro h
        exact hne (List.length_eq_zero_iff.1 (by omega))
      obtain ⟨b, off, rfl, hh⟩ := ints_at hcell (by omega)
      refine ⟨b, off, rfl, fun j hj => ?_⟩
      rw [hlen] at hj
      rw [hh j (by omega)]
      simp only [List.getD, List.getElem?_take]
      rw [if_pos hj]
    · have := bulk_slice (lits (H := H) k (zs.take len)) (lits k (zs.drop len))
      simp only [lits, List.length_map] at this ⊢
      omega
theorem byte_wf {l : List Int} (h : ∀ n ∈ l, (Lit.int .u8 n).wf = true) : ∀ x ∈ l, 0 ≤ x ∧ x < 256 := by
  intro x hx
  have := bounds_u8 (h x hx)
  omega
theorem open_HB {base : Nat} {v : Value} {d : DataW H} {p : List MemPlace} (h : DataW.Trod enc Tryd.prog W base (fun _ => true) true 32 v d p) (hv : ∃ a n c, v = .slice a n c) : ∃ l, HB W v l ∧ l.length + 1 ≤ Rows.uptoBulk d := by
  obtain ⟨a, n, c, rfl⟩ := hv
  obtain ⟨fuel, hf⟩ := h
  obtain ⟨q, c', l, hcs, h1, h2, h3, h4, h5, h6⟩ := open_row Tryd.underlying32 Tryd.underlying5 Opn.cells_u8 hf
  simp only [Value.cells, List.cons.injEq, and_true] at hcs
  exact ⟨l, ⟨⟨q, c', hcs, h1, h2, h3, h4⟩, byte_wf h5⟩, h6⟩
theorem Opn.bytes_u8 : Tryd.prog.bytesOf 5 = 1 := by kernel_rfl
theorem len_reach {ts : List TypeId} {ds : List (DataW H)} {j base : Nat} {v : Value} {d : DataW H} {p : List MemPlace} {l : List Int} (h : (DataW.weightsEach Tryd.prog ts ds).all (· ≤ reachBytes) = true) (ht : ts[j]? = some 32) (hd : ds[j]? = some d)
    (hT : DataW.Trod enc Tryd.prog W base (fun _ => true) true 32 v d p) (hb : HB W v l) : l.length ≤ 140737488351232 := by
  obtain ⟨q, c, rfl, _, _⟩ := hb.open
  obtain ⟨fuel, hf⟩ := hT
  rcases open_ints Tryd.underlying32 Tryd.underlying5 Opn.cells_u8 hf with ⟨hcs, _⟩ | ⟨x, len, cap, zs, hcs, _, hl, hm, hz, hx, _, _⟩
  · simp only [Value.cells, List.cons.injEq, and_true, Value.slice.injEq] at hcs
    omega
  · simp only [Value.cells, List.cons.injEq, and_true, Value.slice.injEq] at hcs
    simp only [Prod.mk.injEq] at hx
    obtain ⟨rfl, _⟩ := hx
    have := sized_slice h ht hd Tryd.underlying32
    rw [Opn.bytes_u8] at this
    simp only [lits, List.length_map, List.length_take, List.length_drop, reachBytes, if_true] at this hz
    omega
theorem bulk_mem {H : Type} {d : DataW H} {l : List (DataW H)} (h : d ∈ l) : Rows.uptoBulk d ≤ Rows.uptoBulkAll l := by
  induction l with
  | nil => cases h
  | cons x r ih =>
    simp only [Rows.uptoBulkAll]
    rcases List.mem_cons.1 h with e | e
    · subst e; omega
    · have := ih e; omega
theorem bulk_sum {H : Type} : ∀ (n : Nat) (D : Nat → DataW H) (L : Nat → List Int), (∀ i, i < n → (L i).length + 1 ≤ Rows.uptoBulk (D i)) → ((List.range n).map L).flatten.length + n ≤ Rows.uptoBulkAll ((List.range n).map D)
  | 0, _, _, _ => by simp [Rows.uptoBulkAll]
  | n + 1, D, L, h => by
    have ih := bulk_sum n (fun i => D (i + 1)) (fun i => L (i + 1)) (fun i hi => h (i + 1) (by omega))
    have h0 := h 0 (by omega)
    rw [List.range_succ_eq_map]
    simp only [List.map_cons, List.map_map, List.flatten_cons, List.length_append, Rows.uptoBulkAll]
    have e1' : (List.range n).map (L ∘ Nat.succ) = (List.range n).map (fun i => L (i + 1)) := rfl
    have e2' : (List.range n).map (D ∘ Nat.succ) = (List.range n).map (fun i => D (i + 1)) := rfl
    rw [e1', e2']
    omega
theorem choose_lists {P : Nat → List Int → Prop} (n : Nat) (h : ∀ i, i < n → ∃ l, P i l) : ∃ L : Nat → List Int, ∀ i, i < n → P i (L i) :=
  ⟨fun i => if hi : i < n then Classical.choose (h i hi) else [], fun i hi => by simp only [hi, dif_pos]; exact Classical.choose_spec (h i hi)⟩
theorem Opn.cells_bytes : Tryd.prog.cellsOf 32 = 1 := by kernel_rfl
theorem open_HL {base : Nat} {v : Value} {d : DataW H} {p : List MemPlace} (h : DataW.Trod enc Tryd.prog W base (fun _ => true) true 27 v d p) (hv : ∃ a n c, v = .slice a n c) : ∃ ls, HL W v ls ∧ ls.flatten.length + ls.length + 1 ≤ Rows.uptoBulk d := by
  obtain ⟨a, n, c, rfl⟩ := hv
  obtain ⟨fuel, hf⟩ := h
  rcases Go.Deep.open_slice Tryd.underlying27 hf with ⟨hcs, hx⟩ | ⟨a, len, cap, m, n, D, Pl, hcs, hb, hl, hm, hmm, hx, hel⟩
  · simp only [Value.cells, List.cons.injEq, and_true] at hcs
    cases hx
    rw [hcs]
    exact ⟨[], HL.nil _, by simp [Rows.uptoBulk]⟩
  · simp only [Value.cells, List.cons.injEq, and_true] at hcs
    rw [hcs]
    simp only [if_true] at hmm
    subst hmm
    simp only [Prod.mk.injEq] at hx
    obtain ⟨rfl, _⟩ := hx
    have each : ∀ i, i < len → ∃ l, (∃ u, W.cell? (a.add i) = some u ∧ HB W u l) ∧ l.length + 1 ≤ Rows.uptoBulk (D i) := by
      intro i hi
      obtain ⟨cs', h1, h2⟩ := hel i (by omega)
      rw [Opn.cells_bytes, Nat.mul_one] at h1
      obtain ⟨q, c', l, rfl, k1, k2, k3, k4, k5, k6⟩ := open_row Tryd.underlying32 Tryd.underlying5 Opn.cells_u8 h2
      exact ⟨l, ⟨_, cell_of_cells?_one h1, ⟨⟨q, c', rfl, k1, k2, k3, k4⟩, byte_wf k5⟩⟩, k6⟩
    obtain ⟨L, hL⟩ := choose_lists len each
    have hlen : ((List.range len).map L).length = len := by simp
    refine ⟨(List.range len).map L, ⟨some a, m, by rw [hlen], by omega, hm, (fun e => by cases e), fun hne => ?_⟩, ?_⟩
    · have h0 : 0 < len := by
        apply Classical.byContradiction
        intro h
        exact hne (List.length_eq_zero_iff.1 (by omega))
      obtain ⟨b, off, sp⟩ := a
      obtain ⟨⟨u, hu, _⟩, _⟩ := hL 0 h0
      have hsp : sp = none := by simpa [Addr.add] using World.cell?_spot hu
      subst hsp
      refine ⟨b, off, rfl, fun j hj => ?_⟩
      rw [hlen] at hj
      obtain ⟨⟨u, hu, hb⟩, _⟩ := hL j hj
      rw [Go.WideShapes.add_plain] at hu
      refine ⟨u, hu, ?_⟩
      have e : ((List.range len).map L).getD j [] = L j := by simp [List.getD, hj]
      rw [e]
      exact hb
    · have h1 := bulk_sum len D L (fun i hi => (hL i hi).2)
      rw [hlen]
      simp only [Rows.uptoBulk]
      omega
end Go.Proofs.YtinahldjpobigaaDoor
namespace Go.Proofs.YtinahldjpobigaaDoor
open Go.RowKit
theorem info_u8 : (Tryd.prog.info? 5).map (fun i => (i.zero, i.size, i.bytes)) = some (some (.int .u8 0), 1, 1) := by kernel_rfl
theorem size_u8 : ∀ w, Sem.run Tryd.prog (Go.sizeOf 5) w = .ok 1 w := fun w => by
  obtain ⟨i0, hi, hz0, hz1, hz2⟩ := info_parts info_u8
  simp [Go.sizeOf, typeInfo, hi, hz1]
theorem eql_nil_bytes : ∀ (w : World) (a : Option Addr) (n c n' c' : Nat), (binOp .eql 32 (.slice a n c) (.slice none n' c')).run Tryd.prog w = .ok (.bool a.isNone) w :=
  fun w a n c n' c' => Lib.run_eql_slice_nil w _ _ a n c n' c' Tryd.underlying32
theorem wpList_append_HB {w : World} {ops : Array Oper} {rest : List Oper} {o : Oper} {a : Act} {Q : Exit → Act → World → Prop} (hgd : o.guard = none) (s x : Operand)
    (ho : o.op = .call { callee := .builtin .append, args := #[s, x], argTypes := #[32, 32] })
    (base : Nat) (v : Value) (n : Nat) (xs : List Value) (hs : a.eval s = v) (hown : w.ownsRow base 5 1 v n xs)
    (u : Value) (l : List Int) (hx : a.eval x = u) (hu : HB w u l) (hbytes : n + l.length ≤ 140737488355328) (hbase : base ≤ w.heap.size)
    (h : ∀ v' w', w'.ownsRow base 5 1 v' (n + l.length) (xs ++ l.map (Value.int .u8)) → w.grownBy w' v.ownBlock → wpList Tryd.prog ops Q rest (a.put o.dst v') w') : wpList Tryd.prog ops Q (o :: rest) a w := by
  obtain ⟨i0, hi, hz0, hz1, hz2⟩ := info_parts info_u8
  obtain ⟨⟨p, c, rfl, hlc, hm, hpc, hcell⟩, hby⟩ := hu
  cases p with
  | none =>
    have e : l = [] := by
      apply Classical.byContradiction
      intro hne
      obtain ⟨b, off, e, _⟩ := hcell hne
      cases e
    subst e
    have := hpc rfl
    subst this
    refine wpList_append_own_none hgd s x 32 ho base 5 i0 1 Tryd.underlying32 hi v n xs hs hown hx ?_
    exact h v w (by simpa using hown) ⟨rfl, rfl, rfl, Nat.le_refl _, fun _ _ _ => rfl⟩
  | some ad =>
    refine wpList_append_own w hgd s x 32 ho base 5 i0 (.int .u8 0) 1 1 Tryd.underlying32 hi hz0 hz1 hz2 rfl (by decide) v n xs hs hown ad l.length c (l.map (Value.int .u8)) hx (by simp) ?_ ?_ (by unfold maxLen; omega) (by omega) hbase (fun v' w' h1 h2 _ => h v' w' h1 h2)
    · intro j y hj
      have hjn : j < l.length := by
        have := (List.getElem?_eq_some_iff.1 hj).1
        simpa using this
      obtain ⟨b, off, e, hh⟩ := hcell (by intro e; subst e; simp at hjn)
      cases e
      rw [Go.WideShapes.add_plain, hh j hjn]
      have e : (l.map (Value.int .u8))[j]? = some (Value.int .u8 (l.getD j 0)) := by simp [List.getD, List.getElem?_eq_getElem hjn]
      rw [e] at hj
      exact hj
    · intro u hu; obtain ⟨x, _, rfl⟩ := List.mem_map.1 hu; rfl
theorem flat_snoc (ls : List (List Int)) (k : Nat) (hk : k < ls.length) : (ls.take (k + 1)).flatten = (ls.take k).flatten ++ ls.getD k [] := by
  rw [List.take_succ_eq_append_getElem hk, List.flatten_append]
  simp [List.getD, List.getElem?_eq_getElem hk]
theorem flat_take_le (ls : List (List Int)) (k : Nat) : (ls.take k).flatten.length ≤ ls.flatten.length := by
  conv => rhs; rw [← List.take_append_drop k ls, List.flatten_append, List.length_append]
  omega
def lensTo (ls : List (List Int)) (k : Nat) : Nat := (ls.take k).flatten.length
def flatTo (ls : List (List Int)) (k : Nat) : List Int := (ls.take k).flatten
set_option maxHeartbeats 1000000 in
theorem join_any (w : World) (v : Value) (ls : List (List Int)) (h : HL w v ls) (hbig : ls.flatten.length ≤ 140737488355328) :
    Calls Tryd.prog 33 #[v] w fun e w' => ∃ v', e = .returned v' ∧ w'.ownsRow w.heap.size 5 1 v' ls.flatten.length (ls.flatten.map (Value.int .u8)) ∧ Below w.heap.size w w' := by
  obtain ⟨i0, hi, hz0, hz1, hz2⟩ := info_parts info_u8
  obtain ⟨p, c, e, hlc, hm⟩ := h.open
  unfold maxLen at hm
  have A : Hid (0 < ls.length → ∃ b off, p = some ⟨b, off, none⟩ ∧ ∀ j, j < ls.length → ∃ u, w.cell? ⟨b, off + j, none⟩ = some u ∧ HB w u (ls.getD j [])) := by
    intro h0
    obtain ⟨b, off, c', e', _, _, hh⟩ := h.ne h0
    rw [e] at e'
    simp only [Value.slice.injEq, true_and] at e'
    exact ⟨b, off, e'.1, hh⟩
  clear h
  subst e
  obtain ⟨fl, HF⟩ : ∃ fl : List Int, Hid (fl = ls.flatten) := ⟨_, rfl⟩
  rw [← HF.out] at hbig ⊢
  obtain ⟨N, HN⟩ : ∃ N, Hid (N = fl.length) := ⟨_, rfl⟩
  rw [← HN.out] at hbig ⊢
  have hle : ∀ k, lensTo ls k ≤ N := fun k => by rw [HN.out, HF.out]; exact flat_take_le ls k
  go_enter Tryd.func33, Tryd.ntmps33
  go_wp2
  go_loop [3, 11] (fun s i => ∃ k : Nat, k ≤ ls.length ∧ i = .int .i64 k ∧ s = .int .i64 (lensTo ls k)) (fun _ i => ls.length - (intOf i).toNat)
  case atStart => exact ⟨0, Nat.zero_le _, rfl, rfl⟩
  case round =>
    obtain ⟨k, hk, rfl, rfl⟩ := hrel
    have hf := hle k
    by_cases hlt : k < ls.length
    · obtain ⟨b, off, rfl, hh⟩ := A.out (by omega)
      obtain ⟨u, hu, hb⟩ := hh k hlt
      obtain ⟨p2, c2, rfl, _, _⟩ := hb.open
      have hf2 := hle (k + 1)
      obtain ⟨m, HM⟩ : ∃ m, Hid (m = (ls.getD k []).length) := ⟨_, rfl⟩
      have HS : Hid (lensTo ls (k + 1) = lensTo ls k + m) := by
        show _ = _
        unfold lensTo
        rw [flat_snoc ls k hlt, List.length_append, HM.out]
      rw [HS.out] at hf2
      rw [← HM.out] at hu
      clear hh hb hle
      go_wp2
      exact ⟨⟨k + 1, by omega, by go_num, by rw [HS.out]; go_num⟩, by simp [intOf]; omega⟩
    · have HK : Hid (lensTo ls k = N) := by
        show _ = _
        unfold lensTo
        rw [List.take_of_length_le (by omega), HN.out, HF.out]
      rw [HK.out] at hf ⊢
      obtain ⟨w1, hmk, hown, hgr⟩ := run_make_own (P := Tryd.prog) w w.heap.size 32 5 i0 (.int .u8 0) 1 Tryd.underlying32 hi hz0 hz1 .i64 .i64 N (by rw [hz2]; omega) (by unfold maxLen; omega) (Nat.le_refl _)
      have hB1 : Below w.heap.size w w1 := (Below.refl _ w).grown hgr (Nat.le_refl _) (fun k e => by cases e)
      have hsz : w.heap.size ≤ w1.heap.size := hB1.size
      clear hk hf hgr hle
      go_wp2
      go_loopw [6, 24] (fun o i wr => ∃ k : Nat, k ≤ ls.length ∧ i = .int .i64 k ∧ wr.ownsRow w.heap.size 5 1 o (flatTo ls k).length ((flatTo ls k).map (Value.int .u8)) ∧ Below w.heap.size w wr) (fun _ i _ => ls.length - (intOf i).toNat)
      case atStart => exact ⟨0, Nat.zero_le _, rfl, hown, hB1⟩
      case round =>
        clear hmk hown hB1 hsz HK hlt
        obtain ⟨k, hk, rfl, hown, hB⟩ := hrel
        by_cases hlt : k < ls.length
        · obtain ⟨b, off, rfl, hh⟩ := A.out (by omega)
          obtain ⟨u, hu0, hb⟩ := hh k hlt
          have hu : wr.cell? ⟨b, off + k, none⟩ = some u := (hB.cell (World.block_lt_of_cell? w _ hu0)).trans hu0
          have HBu := hid (hb.below hB)
          have HS : Hid (flatTo ls (k + 1) = flatTo ls k ++ ls.getD k []) := flat_snoc ls k hlt
          have HL2 : Hid ((flatTo ls k).length + (ls.getD k []).length ≤ 140737488355328) := by
            have := flat_take_le ls (k + 1)
            rw [flat_snoc ls k hlt, List.length_append, ← HF.out, ← HN.out] at this
            exact Nat.le_trans this hbig
          have HO := hid hown
          have HBel := hid hB
          obtain ⟨lk, HK⟩ : ∃ lk, Hid (lk = ls.getD k []) := ⟨_, rfl⟩
          rw [← HK.out] at HBu HS HL2 hb
          obtain ⟨p2, c2, hu2, _, _⟩ := hb.open
          clear hh hb hu0 hown hB
          subst hu2
          go_wp2_with (at_builtin; refine wpList_append_HB rfl _ _ rfl w.heap.size _ _ _ rfl HO.out _ _ rfl HBu.out ?q1 ?q2 ?_)
          case q1 => exact HL2.out
          case q2 => exact HBel.out.size
          intro v' w2 hown2 hgr2
          have HO2 : Hid (w2.ownsRow w.heap.size 5 1 v' (flatTo ls (k + 1)).length ((flatTo ls (k + 1)).map (Value.int .u8))) := by
            show World.ownsRow _ _ _ _ _ _ _
            rw [HS.out, List.length_append, List.map_append]
            exact hown2
          have HB2 : Hid (Below w.heap.size w w2) := HBel.out.grown hgr2 HBel.out.size (fun k e => (HO.out.lt k e).1)
          clear hown2 hgr2
          go_wp2
          exact ⟨⟨k + 1, by omega, by go_num, HO2.out, HB2.out⟩, by simp [intOf]; omega⟩
        · have HK : Hid (flatTo ls k = fl) := by
            show _ = _
            unfold flatTo
            rw [List.take_of_length_le (by omega), HF.out]
          go_wp2
          go_ret
          refine ⟨_, rfl, ?_, hB⟩
          rw [HK.out, ← HN.out] at hown
          exact hown
theorem run_append_byte (w : World) (base : Nat) (ty : TypeId) (v : Value) (n : Nat) (xs : List Value) (hown : w.ownsRow base 5 1 v n xs) (a : Addr) (c : Nat) (x : Int) (hx : w.cell? a = some (.int .u8 x)) (hn : n + 1 ≤ 140737488355328) (hbase : base ≤ w.heap.size) :
    ∃ v' w', (Builtin.append_ #[32, 32] ty #[v, .slice (some a) 1 c]).run Tryd.prog w = .ok v' w' ∧ w'.ownsRow base 5 1 v' (n + 1) (xs ++ [.int .u8 x]) ∧ w.grownBy w' v.ownBlock ∧
      (v'.ownBlock = v.ownBlock ∨ (v'.ownBlock = some w.heap.size ∧ w.grownBy w' none)) := by
  obtain ⟨i0, hi, hz0, hz1, hz2⟩ := info_parts info_u8
  have hnews : ∀ j u, [Value.int .u8 x][j]? = some u → w.cell? (a.add j) = some u := by
    intro j u hj
    match j, hj with
    | 0, hj => simp at hj; subst hj; simpa [Addr.add] using hx
  have h1 : ∀ u ∈ [Value.int .u8 x], u.oneCell' = true := by intro u hu; simp at hu; subst hu; rfl
  obtain ⟨v', w', hr, h2, h3, _⟩ := run_append_own (P := Tryd.prog) w base 32 ty 5 i0 (.int .u8 0) 1 1 Tryd.underlying32 hi hz0 hz1 hz2 rfl (by decide) v n xs hown a 1 c [.int .u8 x] rfl hnews h1 (by unfold maxLen; omega) (by omega) hbase
  refine ⟨v', w', hr, h2, h3, ?_⟩
  rcases hown.2 with ⟨rfl, rfl⟩ | ⟨g, cap, cur, rfl, hbg, hg, hnc, hcm, hcs, htake⟩
  · have hr2 := run_append_nil (P := Tryd.prog) w 32 ty 5 i0 (.int .u8 0) Tryd.underlying32 hi hz0 a 1 c [.int .u8 x] (by rw [hz1]; rfl) hnews (by omega) (by omega) (by rw [hz2]; omega)
    rw [hr] at hr2
    simp only [Result.ok.injEq] at hr2
    obtain ⟨rfl, rfl⟩ := hr2
    exact .inr ⟨rfl, ⟨rfl, rfl, rfl, by simp, fun k hk _ => heap_alloc_old w.drew _ hk⟩⟩
  · by_cases hroom : n + 1 ≤ cap
    · obtain ⟨w2, hr2, _⟩ := run_append_fits (P := Tryd.prog) w base 32 ty 5 i0 1 Tryd.underlying32 hi hz1 g n cap xs hown a 1 c [.int .u8 x] rfl hnews h1 hroom
      rw [hr] at hr2
      simp only [Result.ok.injEq] at hr2
      obtain ⟨rfl, rfl⟩ := hr2
      exact .inl rfl
    · have hr2 := run_append_grow (P := Tryd.prog) w 32 ty 5 i0 (.int .u8 0) Tryd.underlying32 hi hz0 ⟨g, 0, none⟩ n cap xs (by rw [hz1]; exact hown.1) (hown.cells (g := g) rfl) a 1 c [.int .u8 x] (by rw [hz1]; rfl) hnews (by omega) (by omega) (growslice_fits (by omega) (by rw [hz2]; omega))
      rw [hr] at hr2
      simp only [Result.ok.injEq] at hr2
      obtain ⟨rfl, rfl⟩ := hr2
      exact .inr ⟨rfl, ⟨rfl, rfl, rfl, by simp, fun k hk _ => heap_alloc_old w.drew _ hk⟩⟩
theorem wpList_append_byte {w : World} {ops : Array Oper} {rest : List Oper} {o : Oper} {a : Act} {Q : Exit → Act → World → Prop} (hgd : o.guard = none) (s x : Operand)
    (ho : o.op = .call { callee := .builtin .append, args := #[s, x], argTypes := #[32, 32] })
    (base : Nat) (v : Value) (n : Nat) (xs : List Value) (hs : a.eval s = v) (hown : w.ownsRow base 5 1 v n xs)
    (ad : Addr) (c : Nat) (y : Int) (hx : a.eval x = .slice (some ad) 1 c) (hy : w.cell? ad = some (.int .u8 y)) (hn : n + 1 ≤ 140737488355328) (hbase : base ≤ w.heap.size)
    (h : ∀ v' w', w'.ownsRow base 5 1 v' (n + 1) (xs ++ [.int .u8 y]) → w.grownBy w' v.ownBlock → (v'.ownBlock = v.ownBlock ∨ (v'.ownBlock = some w.heap.size ∧ w.grownBy w' none)) → wpList Tryd.prog ops Q rest (a.put o.dst v') w') : wpList Tryd.prog ops Q (o :: rest) a w := by
  refine wpList_plain hgd fun K hK => ?_
  obtain ⟨v', w', hr, h2, h3, h4⟩ := run_append_byte w base o.type v n xs hown ad c y hy hn hbase
  unfold Oper.wp execOp
  simp only [ho, resolve, invoke, builtin, Sem.run_bind, Sem.run_pure, Result.andThen_ok, List.map_toArray, List.map_cons, List.map_nil, hs, hx, hr]
  exact hK _ _ (h v' w' h2 h3 h4)
theorem take_eq_step (la lb : List Int) (k : Nat) (ha : k < la.length) (hb : k < lb.length) (h : la.take k = lb.take k) (e : la.getD k 0 = lb.getD k 0) : la.take (k + 1) = lb.take (k + 1) := by
  rw [List.take_succ_eq_append_getElem ha, List.take_succ_eq_append_getElem hb, h]
  have e1 : la.getD k 0 = la[k] := by simp [List.getD, List.getElem?_eq_getElem ha]
  have e2 : lb.getD k 0 = lb[k] := by simp [List.getD, List.getElem?_eq_getElem hb]
  rw [e1, e2] at e
  rw [e]
theorem take_ne (la lb : List Int) (k : Nat) (e : la.getD k 0 ≠ lb.getD k 0) : la ≠ lb := fun h => e (by rw [h])
set_option maxHeartbeats 400000 in
theorem sameBytes_any (w : World) (va vb : Value) (la lb : List Int) (ha : HB w va la) (hb : HB w vb lb) :
    Calls Tryd.prog 38 #[va, vb] w fun e w' => e = .returned (.bool (decide (la = lb))) ∧ Dr w w' := by
  by_cases hlen : la.length = lb.length
  · by_cases h0 : 0 < la.length
    · obtain ⟨b1, o1, c1, rfl, hc1, hm1, hk1⟩ := ha.ne h0
      obtain ⟨b2, o2, c2, rfl, hc2, hm2, hk2⟩ := hb.ne (by omega)
      unfold maxLen at hm1 hm2
      have hm : la.length ≤ 9223372036854775807 := by omega
      have HL : Hid (la.length = lb.length) := hlen
      rw [← hlen]
      have hcd : ∀ j, j < la.length → w.cell? ⟨b2, o2 + j, none⟩ = some (.int .u8 (lb.getD j 0)) := fun j hj => hk2 j (by omega)
      clear hlen hk2
      go_enter Tryd.func38, Tryd.ntmps38
      go_wp2
      go_loopw [5] (fun i wr => ∃ k : Nat, k ≤ la.length ∧ i = .int .i64 k ∧ la.take k = lb.take k ∧ Dr w wr) (fun i _ => la.length - (intOf i).toNat)
      case atStart => exact ⟨0, Nat.zero_le _, rfl, rfl, Dr.refl _⟩
      case round =>
        obtain ⟨k, hk, rfl, ht, q, rfl⟩ := hrel
        by_cases hlt : k < la.length
        · have g1 := hk1 k hlt
          have g2 := hcd k hlt
          obtain ⟨x, hx⟩ : ∃ x, la.getD k 0 = x := ⟨_, rfl⟩
          obtain ⟨y, hy⟩ : ∃ y, lb.getD k 0 = y := ⟨_, rfl⟩
          rw [hx] at g1
          rw [hy] at g2
          have HX := hid hx
          have HY := hid hy
          clear hx hy hk1 hcd
          by_cases he : x = y
          · have hne : (x != y) = false := by simpa using he
            have HE := hid he
            clear he
            go_wp2
            go_quiet (fail)
            go_wp2
            exact ⟨⟨k + 1, by omega, by go_num, take_eq_step la lb k hlt (by have := HL.out; omega) ht (by rw [HX.out, HY.out, HE.out]), Dr.one _ _⟩, by simp [intOf]; omega⟩
          · have hne : (x != y) = true := by simpa using he
            go_wp2
            go_quiet (fail)
            go_wp2
            go_ret
            exact ⟨by simp [take_ne la lb k (by rw [HX.out, HY.out]; exact he)], (Dr.one _ _).drewN _⟩
        · go_wp2
          go_ret
          have e : la = lb := by
            have h1 := List.take_of_length_le (show la.length ≤ k by omega)
            have h2 := List.take_of_length_le (show lb.length ≤ k by have := HL.out; omega)
            rw [← h1, ← h2, ht]
          exact ⟨by simp [e], Dr.one _ _⟩
    · obtain ⟨p1, c1, rfl, _, _⟩ := ha.open
      obtain ⟨p2, c2, rfl, _, _⟩ := hb.open
      have e1 : la = [] := List.length_eq_zero_iff.1 (by omega)
      have e2 : lb = [] := List.length_eq_zero_iff.1 (by omega)
      subst e1 e2
      go_enter Tryd.func38, Tryd.ntmps38
      go_wp2
      go_loop [5] (fun i => i = .int .i64 0) (fun _ => 0)
      case atStart => rfl
      case round =>
        subst hrel
        go_wp2
        go_ret
        exact ⟨rfl, Dr.refl _⟩
  · obtain ⟨p1, c1, rfl, _, _⟩ := ha.open
    obtain ⟨p2, c2, rfl, _, _⟩ := hb.open
    have hne : ((la.length : Int) != (lb.length : Int)) = true := by rw [bne_iff_ne]; omega
    go_enter Tryd.func38, Tryd.ntmps38
    go_wp2
    go_ret
    exact ⟨by simp [show la ≠ lb from fun e => hlen (by rw [e])], Dr.refl _⟩
def mkB (k i : Nat) : Int := ((151 * k + 7 * i + 1) % 256 : Nat)
theorem mkB_byt (k i : Nat) : 0 ≤ mkB k i ∧ mkB k i < 256 := by unfold mkB; omega
set_option maxHeartbeats 400000 in
theorem mark_any (w : World) (k i : Nat) (hk : k ≤ 1125899906842624) (hi : i ≤ 1125899906842624) : Calls Tryd.prog 39 #[.int .i64 k, .int .i64 i] w fun e w' => e = .returned (.int .u8 (mkB k i)) ∧ w' = w := by
  go_enter Tryd.func39, Tryd.ntmps39
  go_wp2
  go_ret
  exact ⟨by unfold mkB; first | rfl | (congr 2; done) | (congr 2; omega), rfl⟩
theorem mark_eq (w : World) (k i : Nat) (a b : Int) (ha : a = (k : Int)) (hb : b = (i : Int)) (hk : k ≤ 1125899906842624) (hi : i ≤ 1125899906842624) : Calls Tryd.prog 39 #[.int .i64 a, .int .i64 b] w fun e w' => e = .returned (.int .u8 (mkB k i)) ∧ w' = w := by
  subst ha hb
  exact mark_any w k i hk hi
theorem wrap_succ (k : Nat) (h : k ≤ 1125899906842624) : IntKind.i64.wrap ((k : Int) + 1) = ((k + 1 : Nat) : Int) := by rw [IntKind.wrap_i64]; omega
def lent (l : List Int) : List Int := l ++ (List.range 70).map fun i => mkB 0 (l.length + i)
def lentTo (l : List Int) (m : Nat) : List Int := l ++ (List.range m).map fun i => mkB 0 (l.length + i)
theorem lent_length (l : List Int) : (lent l).length = l.length + 70 := by simp [lent]
theorem lentTo_length (l : List Int) (m : Nat) : (lentTo l m).length = l.length + m := by simp [lentTo]
theorem lentTo_succ (l : List Int) (m : Nat) : lentTo l (m + 1) = lentTo l m ++ [mkB 0 (l.length + m)] := by simp [lentTo, List.range_succ]
theorem lent_byt {l : List Int} (h : ∀ x ∈ l, 0 ≤ x ∧ x < 256) : ∀ x ∈ lent l, 0 ≤ x ∧ x < 256 := by
  intro x hx
  unfold lent at hx
  rcases List.mem_append.1 hx with hx | hx
  · exact h x hx
  · obtain ⟨i, _, rfl⟩ := List.mem_map.1 hx
    exact mkB_byt _ _
theorem lent_take (l : List Int) : (lent l).take l.length = l := by simp [lent]
set_option maxHeartbeats 1000000 in
theorem lent_any (w : World) (v : Value) (l : List Int) (h : HB w v l) (hbig : l.length ≤ 140737488351232) :
    Calls Tryd.prog 17 #[v] w fun e w' => ∃ v', e = .returned v' ∧ w'.ownsRow w.heap.size 5 1 v' (lent l).length ((lent l).map (Value.int .u8)) ∧ Below w.heap.size w w' := by
  obtain ⟨p, c, e, hlc, hm⟩ := h.open
  unfold maxLen at hm
  have A : Hid (0 < l.length → ∃ b off, p = some ⟨b, off, none⟩ ∧ ∀ j, j < l.length → w.cell? ⟨b, off + j, none⟩ = some (.int .u8 (l.getD j 0))) := by
    intro h0
    obtain ⟨b, off, c', e', _, _, hh⟩ := h.ne h0
    rw [e] at e'
    simp only [Value.slice.injEq, true_and] at e'
    exact ⟨b, off, e'.1, hh⟩
  clear h
  subst e
  go_enter Tryd.func17, Tryd.ntmps17
  go_wp2
  go_loopw [3, 4] (fun o i wr => ∃ k : Nat, k ≤ l.length ∧ i = .int .i64 k ∧ Hid (wr.ownsRow w.heap.size 5 1 o k ((l.take k).map (Value.int .u8))) ∧ Hid (Below w.heap.size w wr)) (fun _ i _ => l.length - (intOf i).toNat)
  case atStart => exact ⟨0, Nat.zero_le _, rfl, World.ownsRow_nil _ _ _ _, Below.refl _ _⟩
  case round =>
    obtain ⟨k, hk, rfl, HO, HBw⟩ := hrel
    by_cases hlt : k < l.length
    · obtain ⟨b, off, rfl, hh⟩ := A.out (by omega)
      have hu0 := hh k hlt
      have hu := (HBw.out.cell (World.block_lt_of_cell? w _ hu0)).trans hu0
      have HS : Hid (l.take (k + 1) = l.take k ++ [l.getD k 0]) := by
        show _ = _
        rw [List.take_succ_eq_append_getElem hlt, getD_of_lt hlt]
      obtain ⟨x, HX⟩ : ∃ x, Hid (l.getD k 0 = x) := ⟨_, rfl⟩
      rw [HX.out] at hu HS
      clear hh hu0
      go_wp2_with (at_builtin; refine wpList_append_byte rfl _ _ rfl w.heap.size _ k _ rfl (HO.out.alloc _) ⟨wr.heap.size, 0, none⟩ 1 x rfl (by simp) ?q1 ?q2 ?_)
      case q1 => omega
      case q2 => have := HBw.out.size; simp; omega
      intro v' w2 hown2 hgr2 _
      have HO2 : Hid (w2.ownsRow w.heap.size 5 1 v' (k + 1) ((l.take (k + 1)).map (Value.int .u8))) := by
        rw [HS.out, List.map_append, List.map_take]
        exact hown2
      have HB2 := hid ((HBw.out.alloc HBw.out.size _).grown hgr2 (by have := HBw.out.size; simp; omega) (fun k e => (HO.out.lt k e).1))
      clear hown2 hgr2
      go_wp2
      exact ⟨⟨k + 1, by omega, by go_num, HO2, HB2⟩, by simp [intOf]; omega⟩
    · have hkl : k = l.length := by omega
      have HO' : Hid (wr.ownsRow w.heap.size 5 1 u3 (l.length + 0) ((lentTo l 0).map (Value.int .u8))) := by
        show World.ownsRow _ _ _ _ _ _ _
        have := HO.out
        rw [hkl, List.take_of_length_le (Nat.le_refl _)] at this
        simpa [lentTo] using this
      clear hkl
      go_wp2
      go_loopw [3, 5] (fun o i wz => ∃ m : Nat, m ≤ 70 ∧ i = .int .i64 m ∧ Hid (wz.ownsRow w.heap.size 5 1 o (l.length + m) ((lentTo l m).map (Value.int .u8))) ∧ Hid (Below w.heap.size w wz)) (fun _ i _ => 70 - (intOf i).toNat)
      case atStart => exact ⟨0, Nat.zero_le _, rfl, HO', HBw⟩
      case round =>
        clear HO' HBw HO
        obtain ⟨m, hm70, rfl, HO, HBw⟩ := hrel
        by_cases hlt2 : m < 70
        · have hlt3 : (m : Int) < 70 := by omega
          have HS := hid (lentTo_succ l m)
          go_wp2_with fail
          have e1 : ((l.length : Int) + (m : Int)) = ((l.length + m : Nat) : Int) := by omega
          rw [e1]
          refine (mark_any wr 0 (l.length + m) (by omega) (by omega)).mono ?_
          rintro e wz ⟨rfl, hw⟩
          have hw' := hw.symm
          subst hw'
          clear hw e1
          go_wp2_with (at_builtin; refine wpList_append_byte rfl _ _ rfl w.heap.size _ (l.length + m) _ rfl (HO.out.alloc _) ⟨wr.heap.size, 0, none⟩ 1 (mkB 0 (l.length + m)) rfl (by simp) ?q1 ?q2 ?_)
          case q1 => omega
          case q2 => have := HBw.out.size; simp; omega
          intro v' w2 hown2 hgr2 _
          have HO2 : Hid (w2.ownsRow w.heap.size 5 1 v' (l.length + (m + 1)) ((lentTo l (m + 1)).map (Value.int .u8))) := by
            rw [HS.out, List.map_append]
            exact hown2
          have HB2 := hid ((HBw.out.alloc HBw.out.size _).grown hgr2 (by have := HBw.out.size; simp; omega) (fun k e => (HO.out.lt k e).1))
          clear hown2 hgr2
          go_wp2
          exact ⟨⟨m + 1, by omega, by go_num, HO2, HB2⟩, by simp [intOf]; omega⟩
        · have e70 : m = 70 := by omega
          subst e70
          go_wp2
          go_ret
          refine ⟨_, rfl, ?_, HBw.out⟩
          rw [lent_length]
          exact HO.out
set_option maxHeartbeats 400000 in
theorem kept_any (w : World) (vf vl : Value) (fl l : List Int) (hf : HB w vf fl) (hl : HB w vl l) (hbig : l.length ≤ 140737488351232) :
    Calls Tryd.prog 19 #[vf, vl] w fun e w' => e = .returned (.bool (decide (fl = lent l))) ∧ Below w.heap.size w w' := by
  have HF := hid hf
  have HLl := hid hl
  obtain ⟨p1, c1, rfl, _, _⟩ := hf.open
  obtain ⟨p2, c2, rfl, _, _⟩ := hl.open
  clear hf hl
  go_enter Tryd.func19, Tryd.ntmps19
  go_wp2_with fail
  refine (lent_any w _ l HLl.out hbig).mono ?_
  rintro e w1 ⟨v1, rfl, hown, hB⟩
  have H1 := hid (HB.of_own hown (lent_byt HLl.out.2))
  have HF1 := hid (HF.out.below hB)
  have B1 := hid hB
  obtain ⟨p3, c3, e3, _, _⟩ := H1.out.open
  clear hown hB
  subst e3
  obtain ⟨ll, HLL⟩ : ∃ ll, Hid (lent l = ll) := ⟨_, rfl⟩
  rw [HLL.out] at H1 ⊢
  go_wp2_with fail
  refine (sameBytes_any w1 _ _ fl ll HF1.out H1.out).mono ?_
  rintro e w2 ⟨rfl, hD⟩
  have B2 := hid (B1.out.trans (hD.below _))
  obtain ⟨z, HZ⟩ : ∃ z, Hid (decide (fl = ll) = z) := ⟨_, rfl⟩
  rw [HZ.out]
  clear hD
  go_wp2
  go_ret
  exact ⟨by rw [HLL.out, HZ.out]; rfl, B2.out⟩
set_option maxHeartbeats 1000000 in
theorem over_any (w : World) (B : Nat) (v : Value) (n : Nat) (xs : List Value) (h : w.ownsRow B 5 1 v n xs) (hn : n ≤ 140737488355328) :
    Calls Tryd.prog 20 #[v] w fun e w' => e = .returned (.tuple #[]) ∧ (∃ ys, w'.ownsRow B 5 1 v n ys) ∧ w.grownBy w' v.ownBlock := by
  rcases h.2 with ⟨rfl, rfl⟩ | ⟨g, cap, cur, rfl, hbg, hg, hnc, hcm, hcs, htake⟩
  · go_enter Tryd.func20, Tryd.ntmps20
    go_wp2
    go_loop [2] (fun i => i = .int .i64 0) (fun _ => 0)
    case atStart => rfl
    case round =>
      subst hrel
      go_wp2
      go_end0
      exact ⟨rfl, ⟨xs, h⟩, ⟨rfl, rfl, rfl, Nat.le_refl _, fun _ _ _ => rfl⟩⟩
  · have HO := hid h
    clear h hg htake hcs hbg
    unfold maxLen at hcm
    go_enter Tryd.func20, Tryd.ntmps20
    go_wp2
    go_loopw [2] (fun i wr => ∃ k : Nat, k ≤ n ∧ i = .int .i64 k ∧ Hid (∃ ys, wr.ownsRow B 5 1 (.slice (some ⟨g, 0, none⟩) n cap) n ys) ∧ Hid (w.grownBy wr (some g))) (fun i _ => n - (intOf i).toNat)
    case atStart => exact ⟨0, Nat.zero_le _, rfl, ⟨_, HO.out⟩, ⟨rfl, rfl, rfl, Nat.le_refl _, fun _ _ _ => rfl⟩⟩
    case round =>
      obtain ⟨k, hk, rfl, HY, HG⟩ := hrel
      by_cases hlt : k < n
      · obtain ⟨ys, hy⟩ := HY.out
        have hc := hy.cellAt k (by omega)
        have hfz := hy.frozenAt k
        obtain ⟨z, hz⟩ : ∃ z, ys[k]? = some z := ⟨_, List.getElem?_eq_getElem (by have := hy.1; omega)⟩
        rw [hz] at hc
        have HYY := hid hy
        clear hz hy
        go_wp2_with fail
        have e1 : ((k : Int) + 3) = ((k + 3 : Nat) : Int) := by omega
        rw [e1]
        refine (mark_any wr 7 (k + 3) (by omega) (by omega)).mono ?_
        rintro e wz ⟨rfl, hw⟩
        have hw' := hw.symm
        subst hw'
        clear hw e1
        go_wp2
        exact ⟨⟨k + 1, by omega, by go_num, ⟨_, (HYY.out.stored k _).1⟩, ⟨HG.out.os, HG.out.tape, HG.out.output, by simpa using HG.out.size, fun i hi hne => by
          rw [heap_setCell_other _ _ _ _ (fun e => hne (by simp [e]))]
          exact HG.out.block i hi hne⟩⟩, by simp [intOf]; omega⟩
      · go_wp2
        go_end0
        exact ⟨rfl, HY.out, HG.out⟩
theorem own_mono {w : World} {B B' e n : Nat} {v : Value} {xs : List Value} (h : w.ownsRow B e 1 v n xs) (hb : B' ≤ B) : w.ownsRow B' e 1 v n xs := by
  refine ⟨h.1, ?_⟩
  rcases h.2 with h2 | ⟨g, cap, cur, h1, h2, h3⟩
  · exact .inl h2
  · exact .inr ⟨g, cap, cur, h1, Nat.le_trans hb h2, h3⟩
theorem own_slc {w : World} {B n : Nat} {e : TypeId} {v : Value} {xs : List Value} (h : w.ownsRow B e 1 v n xs) : ∃ p c, v = .slice p n c := by
  rcases h.2 with ⟨rfl, rfl⟩ | ⟨g, cap, cur, rfl, _⟩
  · exact ⟨none, 0, rfl⟩
  · exact ⟨_, _, rfl⟩
theorem none_or (z : Option Nat) : z = none ∨ z ≠ none := by cases z <;> simp
theorem own_below {w w' : World} {B n : Nat} {e : TypeId} {v : Value} {xs : List Value} (h : w.ownsRow B e 1 v n xs) (hb : Below w.heap.size w w') : w'.ownsRow B e 1 v n xs :=
  h.kept ⟨hb.os, hb.tape, hb.output, hb.size, fun k hk _ => hb.block k hk⟩ (none_or _)
theorem own_ne {w w' : World} {B B' n n' : Nat} {e e' : TypeId} {v v' : Value} {xs xs' : List Value} (h : w.ownsRow B e 1 v n xs) (h' : w'.ownsRow B' e' 1 v' n' xs') (hb : w.heap.size ≤ B') :
    (v.ownBlock = none ∨ v.ownBlock ≠ v'.ownBlock) ∧ (v'.ownBlock = none ∨ v'.ownBlock ≠ v.ownBlock) := by
  constructor
  · rcases none_or v.ownBlock with q | q
    · exact .inl q
    · refine .inr fun e => ?_
      obtain ⟨k, hk⟩ := Option.ne_none_iff_exists'.1 q
      have h1 := h.lt k hk
      have h2 := h'.lt k (e ▸ hk)
      omega
  · rcases none_or v'.ownBlock with q | q
    · exact .inl q
    · refine .inr fun e => ?_
      obtain ⟨k, hk⟩ := Option.ne_none_iff_exists'.1 q
      have h1 := h'.lt k hk
      have h2 := h.lt k (e ▸ hk)
      omega
theorem info_bytes : (Tryd.prog.info? 32).map (fun i => (i.zero, i.size, i.bytes)) = some (some (.slice none 0 0), 1, 24) := by kernel_rfl
def BytI (l : List Int) : Prop := ∀ x ∈ l, 0 ≤ x ∧ x < 256
def EL (w0 w : World) (u : Value) (l : List Int) : Prop :=
  (w.ownsRow w0.heap.size 5 1 u l.length (l.map (Value.int .u8)) ∧ BytI l) ∨ HB w0 u l
def OWL (w0 w : World) (v : Value) (ls : List (List Int)) : Prop :=
  ∃ xs, w.ownsRow w0.heap.size 32 1 v ls.length xs ∧ ∀ j, j < ls.length → EL w0 w (xs.getD j undef) (ls.getD j [])
theorem EL.hb {w0 w : World} {u : Value} {l : List Int} (h : EL w0 w u l) (hb : Below w0.heap.size w0 w) : HB w u l := by
  rcases h with ⟨h, hx⟩ | h
  · exact HB.of_own h hx
  · exact h.below hb
theorem own_block_ne {w : World} {B e n : Nat} {v : Value} {xs : List Value} (h : w.ownsRow B e 1 v n xs) {g : Nat} {cur : Array Value} {e' : TypeId} {fz : Nat × Nat} (hg : w.heap[g]? = some (.cells cur e' fz)) (hne : e ≠ e') : v.ownBlock ≠ some g := by
  intro hv
  rcases h.2 with ⟨rfl, _⟩ | ⟨g', cap, cur', rfl, _, hh, _⟩
  · simp [Value.ownBlock] at hv
  · simp only [Value.ownBlock, Option.some.injEq] at hv
    subst hv
    rw [hh] at hg
    simp only [Option.some.injEq, Obj.cells.injEq] at hg
    exact hne hg.2.1
theorem EL.grown {w0 w w' : World} {u : Value} {l : List Int} {row : Option Nat} (h : EL w0 w u l) (hg : w.grownBy w' row) (hr : ∀ g, row = some g → ∃ cur e fz, w.heap[g]? = some (.cells cur e fz) ∧ 5 ≠ e) : EL w0 w' u l := by
  rcases h with ⟨h, hx⟩ | h
  · refine .inl ⟨h.kept hg ?_, hx⟩
    cases hrow : row with
    | none =>
      cases hv : u.ownBlock with
      | none => exact .inl rfl
      | some k => exact .inr (by simp)
    | some g =>
      obtain ⟨cur, e, fz, hh, hne⟩ := hr g hrow
      exact .inr (own_block_ne h hh hne)
  · exact .inr h
theorem OWL.grown {w0 w w' : World} {v : Value} {ls : List (List Int)} {row : Option Nat} (h : OWL w0 w v ls) (hg : w.grownBy w' row) (hr : ∀ g, row = some g → ∃ cur e fz, w.heap[g]? = some (.cells cur e fz) ∧ 5 ≠ e ∧ 32 ≠ e) : OWL w0 w' v ls := by
  obtain ⟨xs, h1, h2⟩ := h
  refine ⟨xs, h1.kept hg ?_, fun j hj => (h2 j hj).grown hg fun g e => ?_⟩
  · cases hrow : row with
    | none =>
      cases hv : v.ownBlock with
      | none => exact .inl rfl
      | some k => exact .inr (by simp)
    | some g =>
      obtain ⟨cur, e, fz, hh, _, hne⟩ := hr g hrow
      exact .inr (own_block_ne h1 hh hne)
  · obtain ⟨cur, e', fz, hh, hne, _⟩ := hr g e
    exact ⟨cur, e', fz, hh, hne⟩
theorem OWL.below {w0 w w' : World} {v : Value} {ls : List (List Int)} (h : OWL w0 w v ls) (hb : Below w.heap.size w w') : OWL w0 w' v ls :=
  h.grown (row := none) ⟨hb.os, hb.tape, hb.output, hb.size, fun k hk _ => hb.block k hk⟩ (fun g e => by cases e)
theorem OWL.hl {w0 w : World} {v : Value} {ls : List (List Int)} (h : OWL w0 w v ls) (hb : Below w0.heap.size w0 w) : HL w v ls := by
  obtain ⟨xs, h1, h2⟩ := h
  by_cases h0 : 0 < ls.length
  · obtain ⟨g, cap, rfl, _, hn, hm, hc⟩ := ownsRow_cells h1 h0
    refine ⟨_, cap, rfl, hn, hm, (fun e => by cases e), fun _ => ⟨g, 0, rfl, fun j hj => ⟨xs.getD j undef, ?_, (h2 j hj).hb hb⟩⟩⟩
    have hx : xs.length = ls.length := by have := h1.1; omega
    exact hc j _ (by simp [List.getD, List.getElem?_eq_getElem (show j < xs.length by omega)])
  · have e : ls = [] := List.length_eq_zero_iff.1 (by omega)
    subst e
    rcases h1.2 with ⟨rfl, _⟩ | ⟨g, cap, cur, rfl, _, _, hn, hm, _⟩
    · exact HL.nil _
    · exact ⟨_, cap, rfl, hn, hm, (fun e => by cases e), fun h => absurd rfl h⟩
theorem OWL.nil (w0 w : World) : OWL w0 w (.slice none 0 0) [] := ⟨[], World.ownsRow_nil _ _ _ _, fun j hj => by simp at hj⟩
theorem getD_app {α : Type} (l m : List α) (d : α) (j : Nat) : (l ++ m).getD j d = if j < l.length then l.getD j d else m.getD (j - l.length) d := by
  simp only [List.getD, List.getElem?_append]
  split <;> rfl
theorem wpList_append_OWL {w0 w : World} {ops : Array Oper} {rest : List Oper} {o : Oper} {a : Act} {Q : Exit → Act → World → Prop} (hgd : o.guard = none) (s x : Operand)
    (ho : o.op = .call { callee := .builtin .append, args := #[s, x], argTypes := #[27, 27] })
    (v : Value) (ls : List (List Int)) (hs : a.eval s = v) (hown : OWL w0 w v ls)
    (ad : Addr) (m c : Nat) (us : List Value) (ns : List (List Int)) (hx : a.eval x = .slice (some ad) m c) (hl : us.length = m) (hn : ns.length = m) (hcell : ∀ j u, us[j]? = some u → w.cell? (ad.add j) = some u)
    (hu : ∀ j, j < m → EL w0 w (us.getD j undef) (ns.getD j [])) (h1 : ∀ u ∈ us, u.oneCell' = true)
    (hbytes : (ls.length + m) * 24 ≤ 140737488355328) (hbase : w0.heap.size ≤ w.heap.size)
    (h : ∀ v' w', OWL w0 w' v' (ls ++ ns) → w.grownBy w' v.ownBlock → (∀ g, v.ownBlock = some g → w0.heap.size ≤ g ∧ BT w g 32) → wpList Tryd.prog ops Q rest (a.put o.dst v') w') : wpList Tryd.prog ops Q (o :: rest) a w := by
  obtain ⟨i0, hi, hz0, hz1, hz2⟩ := info_parts info_bytes
  obtain ⟨xs, hrow, hel⟩ := hown
  have hblk : ∀ g, v.ownBlock = some g → w0.heap.size ≤ g ∧ BT w g 32 := by
    intro g hg
    refine ⟨(hrow.lt g hg).1, ?_⟩
    rcases hrow.2 with ⟨rfl, _⟩ | ⟨g', cap, cur, rfl, _, hh, _⟩
    · simp [Value.ownBlock] at hg
    · simp only [Value.ownBlock, Option.some.injEq] at hg
      subst hg
      exact ⟨cur, _, hh⟩
  refine wpList_append_own w hgd s x 27 ho w0.heap.size 32 i0 (.slice none 0 0) 1 24 Tryd.underlying27 hi hz0 hz1 hz2 rfl (by decide) v ls.length xs hs hrow ad m c us hx (by omega) hcell h1 (by unfold maxLen; omega) hbytes hbase (fun v' w' h2 h3 _ => h v' w' ?_ h3 hblk)
  refine ⟨xs ++ us, by rw [List.length_append, hn]; exact h2, fun j hj => ?_⟩
  have key : ∀ u l, EL w0 w u l → EL w0 w' u l := fun u l he => he.grown h3 fun g hg => by
    obtain ⟨_, cur, fz, hh⟩ := hblk g hg
    exact ⟨cur, _, fz, hh, by decide⟩
  have hxl : xs.length = ls.length := by have := hrow.1; omega
  rw [getD_app, getD_app, hxl]
  rw [List.length_append] at hj
  split
  · exact key _ _ (hel j ‹_›)
  · exact key _ _ (hu _ (by omega))
theorem takel_eq_step (la lb : List (List Int)) (k : Nat) (ha : k < la.length) (hb : k < lb.length) (h : la.take k = lb.take k) (e : la.getD k [] = lb.getD k []) : la.take (k + 1) = lb.take (k + 1) := by
  rw [List.take_succ_eq_append_getElem ha, List.take_succ_eq_append_getElem hb, h]
  have e1 : la.getD k [] = la[k] := by simp [List.getD, List.getElem?_eq_getElem ha]
  have e2 : lb.getD k [] = lb[k] := by simp [List.getD, List.getElem?_eq_getElem hb]
  rw [e1, e2] at e
  rw [e]
set_option maxHeartbeats 400000 in
theorem sameLists_any (w : World) (va vb : Value) (la lb : List (List Int)) (ha : HL w va la) (hb : HL w vb lb) :
    Calls Tryd.prog 13 #[va, vb] w fun e w' => e = .returned (.bool (decide (la = lb))) ∧ Dr w w' := by
  by_cases hlen : la.length = lb.length
  · by_cases h0 : 0 < la.length
    · obtain ⟨b1, o1, c1, rfl, hc1, hm1, hk1⟩ := ha.ne h0
      obtain ⟨b2, o2, c2, rfl, hc2, hm2, hk2⟩ := hb.ne (by omega)
      unfold maxLen at hm1 hm2
      have hm : la.length ≤ 9223372036854775807 := by omega
      have HL : Hid (la.length = lb.length) := hlen
      rw [← hlen]
      have hcd : ∀ j, j < la.length → ∃ u, w.cell? ⟨b2, o2 + j, none⟩ = some u ∧ HB w u (lb.getD j []) := fun j hj => hk2 j (by omega)
      clear hlen hk2
      go_enter Tryd.func13, Tryd.ntmps13
      go_wp2
      go_loopw [5] (fun i wr => ∃ k : Nat, k ≤ la.length ∧ i = .int .i64 k ∧ la.take k = lb.take k ∧ Dr w wr) (fun i _ => la.length - (intOf i).toNat)
      case atStart => exact ⟨0, Nat.zero_le _, rfl, rfl, Dr.refl _⟩
      case round =>
        obtain ⟨k, hk, rfl, ht, hD⟩ := hrel
        have HD := hid hD
        clear hD
        by_cases hlt : k < la.length
        · obtain ⟨u1, g1, e1⟩ := hk1 k hlt
          obtain ⟨u2, g2, e2⟩ := hcd k hlt
          replace g1 := (HD.out.cell _).trans g1
          replace g2 := (HD.out.cell _).trans g2
          replace e1 := e1.dr HD.out
          replace e2 := e2.dr HD.out
          obtain ⟨x, HX⟩ : ∃ x, Hid (la.getD k [] = x) := ⟨_, rfl⟩
          obtain ⟨y, HY⟩ : ∃ y, Hid (lb.getD k [] = y) := ⟨_, rfl⟩
          rw [HX.out] at e1
          rw [HY.out] at e2
          obtain ⟨p1, c1', r1, _, _⟩ := e1.open
          obtain ⟨p2, c2', r2, _, _⟩ := e2.open
          subst r1 r2
          have E1 := hid e1
          have E2 := hid e2
          clear hk1 hcd e1 e2
          by_cases he : x = y
          · have hne : decide (x = y) = true := by simpa using he
            have HE := hid he
            clear he
            go_wp2
            go_quiet ((go_at_call 38; exact Calls.quiet_of (sameBytes_any _ _ _ x y (E1.out.later fun _ _ hx => hx) (E2.out.later fun _ _ hx => hx))))
            go_wp2
            exact ⟨⟨k + 1, by omega, by go_num, takel_eq_step la lb k hlt (by have := HL.out; omega) ht (by rw [HX.out, HY.out, HE.out]), HD.out.drewN _⟩, by simp [intOf]; omega⟩
          · have hne : decide (x = y) = false := by simpa using he
            go_wp2
            go_quiet ((go_at_call 38; exact Calls.quiet_of (sameBytes_any _ _ _ x y (E1.out.later fun _ _ hx => hx) (E2.out.later fun _ _ hx => hx))))
            go_wp2
            go_ret
            exact ⟨by rw [decide_eq_false (fun h => he ((HX.out.symm.trans (congrArg (fun z => List.getD z k []) h)).trans HY.out))]; rfl, HD.out.drewN _⟩
        · go_wp2
          go_ret
          have e : la = lb := by
            have h1 := List.take_of_length_le (show la.length ≤ k by omega)
            have h2 := List.take_of_length_le (show lb.length ≤ k by have := HL.out; omega)
            rw [← h1, ← h2, ht]
          exact ⟨by simp [e], HD.out⟩
    · obtain ⟨p1, c1, rfl, _, _⟩ := ha.open
      obtain ⟨p2, c2, rfl, _, _⟩ := hb.open
      have e1 : la = [] := List.length_eq_zero_iff.1 (by omega)
      have e2 : lb = [] := List.length_eq_zero_iff.1 (by omega)
      subst e1 e2
      go_enter Tryd.func13, Tryd.ntmps13
      go_wp2
      go_loop [5] (fun i => i = .int .i64 0) (fun _ => 0)
      case atStart => rfl
      case round =>
        subst hrel
        go_wp2
        go_ret
        exact ⟨rfl, Dr.refl _⟩
  · obtain ⟨p1, c1, rfl, _, _⟩ := ha.open
    obtain ⟨p2, c2, rfl, _, _⟩ := hb.open
    have hne : ((la.length : Int) != (lb.length : Int)) = true := by rw [bne_iff_ne]; omega
    go_enter Tryd.func13, Tryd.ntmps13
    go_wp2
    go_ret
    exact ⟨by simp [show la ≠ lb from fun e => hlen (by rw [e])], Dr.refl _⟩
set_option maxHeartbeats 1000000 in
theorem over_byt (w : World) (B : Nat) (v : Value) (l : List Int) (h : w.ownsRow B 5 1 v l.length (l.map (Value.int .u8))) (hl : ∀ x ∈ l, 0 ≤ x ∧ x < 256) (hn : l.length ≤ 140737488355328) :
    Calls Tryd.prog 20 #[v] w fun e w' => e = .returned (.tuple #[]) ∧ (∃ l' : List Int, l'.length = l.length ∧ (∀ x ∈ l', 0 ≤ x ∧ x < 256) ∧ w'.ownsRow B 5 1 v l.length (l'.map (Value.int .u8))) ∧ w.grownBy w' v.ownBlock := by
  obtain ⟨n, hnl⟩ : ∃ n, n = l.length := ⟨_, rfl⟩
  rw [← hnl] at h hn ⊢
  rcases h.2 with ⟨rfl, h0⟩ | ⟨g, cap, cur, rfl, hbg, hg, hnc, hcm, hcs, htake⟩
  · subst h0
    clear hnl h
    go_enter Tryd.func20, Tryd.ntmps20
    go_wp2
    go_loop [2] (fun i => i = .int .i64 0) (fun _ => 0)
    case atStart => rfl
    case round =>
      subst hrel
      go_wp2
      go_end0
      exact ⟨rfl, World.ownsRow_nil _ _ _ _, ⟨rfl, rfl, rfl, Nat.le_refl _, fun _ _ _ => rfl⟩⟩
  · have HO : Hid (∃ l' : List Int, l'.length = n ∧ (∀ x ∈ l', 0 ≤ x ∧ x < 256) ∧ w.ownsRow B 5 1 (.slice (some ⟨g, 0, none⟩) n cap) n (l'.map (Value.int .u8))) := ⟨l, hnl.symm, hl, h⟩
    clear h hg htake hcs hbg hl hnl
    unfold maxLen at hcm
    go_enter Tryd.func20, Tryd.ntmps20
    go_wp2
    go_loopw [2] (fun i wr => ∃ k : Nat, k ≤ n ∧ i = .int .i64 k ∧ Hid (∃ l' : List Int, l'.length = n ∧ (∀ x ∈ l', 0 ≤ x ∧ x < 256) ∧ wr.ownsRow B 5 1 (.slice (some ⟨g, 0, none⟩) n cap) n (l'.map (Value.int .u8))) ∧ Hid (w.grownBy wr (some g))) (fun i _ => n - (intOf i).toNat)
    case atStart => exact ⟨0, Nat.zero_le _, rfl, HO, ⟨rfl, rfl, rfl, Nat.le_refl _, fun _ _ _ => rfl⟩⟩
    case round =>
      clear HO
      obtain ⟨k, hk, rfl, HY, HG⟩ := hrel
      by_cases hlt : k < n
      · obtain ⟨l', hl', hby', hy⟩ := HY.out
        have hc := hy.cellAt k (by omega)
        have hfz := hy.frozenAt k
        obtain ⟨z, hz⟩ : ∃ z, (l'.map (Value.int .u8))[k]? = some z := ⟨_, List.getElem?_eq_getElem (by rw [List.length_map]; omega)⟩
        rw [hz] at hc
        have HYY := hid hy
        have HL' := hid hl'
        have HBY := hid hby'
        clear hz hy hl' hby' HY
        go_wp2_with fail
        have e1 : ((k : Int) + 3) = ((k + 3 : Nat) : Int) := by omega
        rw [e1]
        refine (mark_any wr 7 (k + 3) (by omega) (by omega)).mono ?_
        rintro e wz ⟨rfl, hw⟩
        have hw' := hw.symm
        subst hw'
        clear hw e1
        go_wp2
        refine ⟨⟨k + 1, by omega, by go_num, ⟨l'.set k (mkB 7 (k + 3)), by rw [List.length_set]; exact HL'.out, fun x hx => ?_, by rw [List.map_set]; exact (HYY.out.stored k _).1⟩, ⟨HG.out.os, HG.out.tape, HG.out.output, by simpa using HG.out.size, fun i hi hne => by
          rw [heap_setCell_other _ _ _ _ (fun e => hne (by simp [e]))]
          exact HG.out.block i hi hne⟩⟩, by simp [intOf]; omega⟩
        rcases List.mem_or_eq_of_mem_set hx with h1 | h1
        · exact HBY.out x h1
        · rw [h1]; exact mkB_byt _ _
      · go_wp2
        go_end0
        exact ⟨rfl, HY.out, HG.out⟩
def marksL (k n : Nat) : List Int := (List.range n).map (mkB k)
theorem marksL_length (k n : Nat) : (marksL k n).length = n := by simp [marksL]
theorem marksL_getD (k n i : Nat) (h : i < n) : (marksL k n).getD i 0 = mkB k i := by simp [marksL, List.getD, h]
theorem marksL_byt (k n : Nat) : ∀ x ∈ marksL k n, 0 ≤ x ∧ x < 256 := by
  intro x hx
  obtain ⟨i, _, rfl⟩ := List.mem_map.1 hx
  exact mkB_byt _ _
theorem marksL_succ (k n : Nat) : marksL k (n + 1) = marksL k n ++ [mkB k n] := by simp [marksL, List.range_succ]
theorem marksL_take (k n m : Nat) (h : n ≤ m) : (marksL k m).take n = marksL k n := by
  unfold marksL
  rw [← List.map_take, List.take_range]
  congr 2
  omega
def Apt (B : Nat) (w : World) (us : List Value) (ls : List (List Int)) : Prop :=
  us.length = ls.length ∧ (∀ k, k < us.length → w.ownsRow B 5 1 (us.getD k undef) (ls.getD k []).length ((ls.getD k []).map (Value.int .u8))) ∧
    ∀ i j, i < us.length → j < us.length → i ≠ j → (us.getD i undef).ownBlock = none ∨ (us.getD i undef).ownBlock ≠ (us.getD j undef).ownBlock
def HV (w : World) (v : Value) (us : List Value) : Prop :=
  ∃ (p : Option Addr) (c : Nat), v = .slice p us.length c ∧ us.length ≤ c ∧ c ≤ maxLen ∧
    (us ≠ [] → ∃ b off, p = some ⟨b, off, none⟩ ∧ BT w b 32 ∧ ∀ k, k < us.length → w.cell? ⟨b, off + k, none⟩ = some (us.getD k undef))
theorem BT.grown {w w' : World} {b : Nat} {T : TypeId} {row : Option Nat} (h : BT w b T) (hg : w.grownBy w' row) (hr : ∀ g, row = some g → ∃ e, BT w g e ∧ e ≠ T) : BT w' b T := by
  obtain ⟨cur, fz, hh⟩ := h
  refine ⟨cur, fz, ?_⟩
  rw [hg.block b (Array.getElem?_eq_some_iff.1 hh).1 ?_]
  · exact hh
  · intro e
    obtain ⟨e', ⟨cur', fz', hh'⟩, hne⟩ := hr b e.symm
    rw [hh] at hh'
    simp only [Option.some.injEq, Obj.cells.injEq] at hh'
    exact hne hh'.2.1.symm
theorem HV.grown {w w' : World} {v : Value} {us : List Value} {row : Option Nat} (h : HV w v us) (hg : w.grownBy w' row) (hr : ∀ g, row = some g → BT w g 5) : HV w' v us := by
  obtain ⟨p, c, h1, h2, h3, h4⟩ := h
  refine ⟨p, c, h1, h2, h3, fun hne => ?_⟩
  obtain ⟨b, off, e, hb, hc⟩ := h4 hne
  have hb' : BT w' b 32 := hb.grown hg (fun g e => ⟨_, hr g e, by decide⟩)
  refine ⟨b, off, e, hb', fun k hk => hg.cell (hc k hk) ?_⟩
  intro e
  obtain ⟨cur, fz, hh⟩ := hb
  obtain ⟨cur', fz', hh'⟩ := hr b e.symm
  rw [hh] at hh'
  simp at hh'
theorem own_BT {w : World} {B n : Nat} {v : Value} {xs : List Value} {e : TypeId} (h : w.ownsRow B e 1 v n xs) : ∀ g, v.ownBlock = some g → BT w g e := by
  intro g hg
  rcases h.2 with ⟨rfl, _⟩ | ⟨g', cap, cur, rfl, _, hh, _⟩
  · simp [Value.ownBlock] at hg
  · simp only [Value.ownBlock, Option.some.injEq] at hg
    subst hg
    exact ⟨cur, _, hh⟩
theorem BT.ne {w : World} {b g : Nat} {T U : TypeId} (h : BT w b T) (k : BT w g U) (hne : T ≠ U) : b ≠ g := by
  intro e
  subst e
  obtain ⟨cur, fz, hh⟩ := h
  obtain ⟨cur', fz', hh'⟩ := k
  rw [hh] at hh'
  simp only [Option.some.injEq, Obj.cells.injEq] at hh'
  exact hne hh'.2.1
theorem HV.block {w : World} {b off n c : Nat} {us : List Value} (h : HV w (.slice (some ⟨b, off, none⟩) n c) us) (h0 : 0 < us.length) : BT w b 32 := by
  obtain ⟨p, c', e, _, _, h4⟩ := h
  obtain ⟨b', off', e2, hb, _⟩ := h4 (by intro e; subst e; simp at h0)
  simp only [Value.slice.injEq] at e
  rw [← e.1] at e2
  simp only [Option.some.injEq, Addr.mk.injEq, and_true] at e2
  rw [e2.1]
  exact hb
theorem getD_set {α : Type} (l : List α) (d x : α) (k j : Nat) (hk : k < l.length) : (l.set k x).getD j d = if j = k then x else l.getD j d := by
  by_cases h : j = k
  · subst h
    simp [List.getD, hk]
  · rw [if_neg h]
    simp only [List.getD]
    rw [List.getElem?_set_ne (Ne.symm h)]
theorem Apt.store {B : Nat} {w : World} {us : List Value} {ls : List (List Int)} (h : Apt B w us ls) (k i : Nat) (x : Int) (hk : k < us.length) {g cap n : Nat} (hu : us.getD k undef = .slice (some ⟨g, 0, none⟩) n cap) :
    Apt B (w.setCell ⟨g, i, none⟩ (.int .u8 x)) us (ls.set k ((ls.getD k []).set i x)) ∧ w.grownBy (w.setCell ⟨g, i, none⟩ (.int .u8 x)) (some g) := by
  obtain ⟨h1, h2, h3⟩ := h
  have hok := h2 k hk
  rw [hu] at hok
  have hn : n = (ls.getD k []).length := by
    rcases hok.2 with ⟨e, _⟩ | ⟨_, _, _, e, _⟩
    · cases e
    · cases e; rfl
  subst hn
  have hst := hok.stored i (.int .u8 x)
  refine ⟨⟨by simpa using h1, fun j hj => ?_, h3⟩, hst.2⟩
  rw [getD_set ls [] _ k j (by omega)]
  by_cases hjk : j = k
  · subst hjk
    rw [if_pos rfl, hu, List.length_set, List.map_set]
    exact hst.1
  · rw [if_neg hjk]
    refine (h2 j hj).kept hst.2 ?_
    have := h3 j k hj hk hjk
    rw [hu] at this
    exact this
theorem Apt.slice {B : Nat} {w : World} {us : List Value} {ls : List (List Int)} (h : Apt B w us ls) (k : Nat) (hk : k < us.length) : ∃ p c, us.getD k undef = .slice p (ls.getD k []).length c := by
  rcases (h.2.1 k hk).2 with ⟨e, e2⟩ | ⟨g, cap, _, e, _⟩
  · exact ⟨none, 0, by rw [e, e2]⟩
  · exact ⟨_, _, e⟩
theorem Apt.some {B : Nat} {w : World} {us : List Value} {ls : List (List Int)} (h : Apt B w us ls) (k : Nat) (hk : k < us.length) (h0 : 0 < (ls.getD k []).length) : ∃ g c, us.getD k undef = .slice (Option.some ⟨g, 0, none⟩) (ls.getD k []).length c ∧ c ≤ maxLen ∧ (ls.getD k []).length ≤ c ∧ B ≤ g ∧ BT w g 5 := by
  rcases (h.2.1 k hk).2 with ⟨_, e2⟩ | ⟨g, cap, cur, e, hb, hh, h1, h2, _⟩
  · omega
  · exact ⟨g, cap, e, h2, h1, hb, cur, _, hh⟩
def Ph1 (B : Nat) (w : World) (us : List Value) (ls : List (List Int)) (K i : Nat) : Prop :=
  ∃ ms, Apt B w us ms ∧ (∀ j, (ms.getD j []).length = (ls.getD j []).length) ∧ (∀ j, j < K → ms.getD j [] = marksL (j + 1) (ls.getD j []).length) ∧ (ms.getD K []).take i = marksL (K + 1) i
theorem Ph1.start {B : Nat} {w : World} {us : List Value} {ls : List (List Int)} (h : Apt B w us ls) : Ph1 B w us ls 0 0 := ⟨ls, h, fun _ => rfl, fun j hj => by omega, by simp [marksL]⟩
theorem take_set_succ (l : List Int) (i : Nat) (x : Int) (hi : i < l.length) : (l.set i x).take (i + 1) = l.take i ++ [x] := by
  rw [List.take_succ_eq_append_getElem (by simpa using hi)]
  have e : (l.set i x).take i = l.take i := by
    apply List.ext_getElem?
    intro j
    simp only [List.getElem?_take]
    split
    · rw [List.getElem?_set_ne (by omega)]
    · rfl
  rw [e]
  simp
theorem Ph1.step {B : Nat} {w : World} {us : List Value} {ls : List (List Int)} {K i : Nat} (h : Ph1 B w us ls K i) (hK : K < us.length) (hi : i < (ls.getD K []).length) {g cap n : Nat} (hu : us.getD K undef = .slice (some ⟨g, 0, none⟩) n cap) :
    Ph1 B (w.setCell ⟨g, i, none⟩ (.int .u8 (mkB (K + 1) i))) us ls K (i + 1) ∧ w.grownBy (w.setCell ⟨g, i, none⟩ (.int .u8 (mkB (K + 1) i))) (some g) := by
  obtain ⟨ms, ha, hl, hd, ht⟩ := h
  have hs := ha.store K i (mkB (K + 1) i) hK hu
  have hKm : K < ms.length := by have := ha.1; omega
  refine ⟨⟨_, hs.1, fun j => ?_, fun j hj => ?_, ?_⟩, hs.2⟩
  · rw [getD_set ms [] _ K j hKm]
    split
    · rename_i e; subst e; rw [List.length_set]; exact hl _
    · exact hl j
  · rw [getD_set ms [] _ K j hKm, if_neg (by omega)]
    exact hd j hj
  · rw [getD_set ms [] _ K K hKm, if_pos rfl, take_set_succ _ _ _ (by rw [hl]; exact hi), ht, marksL_succ]
theorem Ph1.next {B : Nat} {w : World} {us : List Value} {ls : List (List Int)} {K i : Nat} (h : Ph1 B w us ls K i) (hi : (ls.getD K []).length ≤ i) : Ph1 B w us ls (K + 1) 0 := by
  obtain ⟨ms, ha, hl, hd, ht⟩ := h
  refine ⟨ms, ha, hl, fun j hj => ?_, by simp [marksL]⟩
  by_cases hj2 : j < K
  · exact hd j hj2
  · have e : j = K := by omega
    subst e
    have e1 := congrArg (List.take (ls.getD j []).length) ht
    rw [List.take_take, marksL_take _ _ _ hi] at e1
    rw [← e1, List.take_of_length_le]
    rw [hl]
    omega
theorem Ph1.slice {B : Nat} {w : World} {us : List Value} {ls : List (List Int)} {K i : Nat} (h : Ph1 B w us ls K i) (k : Nat) (hk : k < us.length) : ∃ p c, us.getD k undef = .slice p (ls.getD k []).length c := by
  obtain ⟨ms, ha, hl, _, _⟩ := h
  obtain ⟨p, c, e⟩ := ha.slice k hk
  rw [hl] at e
  exact ⟨p, c, e⟩
theorem Ph1.some {B : Nat} {w : World} {us : List Value} {ls : List (List Int)} {K i : Nat} (h : Ph1 B w us ls K i) (k : Nat) (hk : k < us.length) (h0 : 0 < (ls.getD k []).length) : ∃ g c, us.getD k undef = .slice (Option.some ⟨g, 0, none⟩) (ls.getD k []).length c ∧ c ≤ maxLen ∧ (ls.getD k []).length ≤ c ∧ B ≤ g ∧ BT w g 5 ∧ ∀ j, j < (ls.getD k []).length → (∃ z, w.cell? ⟨g, j, none⟩ = Option.some z) ∧ w.frozen? ⟨g, j, none⟩ = false := by
  obtain ⟨ms, ha, hl, _, _⟩ := h
  obtain ⟨g, c, e, h1, h2, h3, h4⟩ := ha.some k hk (by rw [hl]; exact h0)
  have hrow := ha.2.1 k hk
  rw [e] at hrow
  rw [hl] at e h2
  refine ⟨g, c, e, h1, h2, h3, h4, fun j hj => ⟨?_, hrow.frozenAt j⟩⟩
  have := hrow.cellAt j (by rw [hl]; omega)
  rw [this]
  exact ⟨_, List.getElem?_eq_getElem (by simp only [List.length_map]; rw [hl]; exact hj)⟩
theorem Ph1.drew {B : Nat} {w : World} {us : List Value} {ls : List (List Int)} {K i : Nat} (h : Ph1 B w us ls K i) : Ph1 B w.drew us ls K i := h
theorem HV.drew {w : World} {v : Value} {us : List Value} (h : HV w v us) : HV w.drew v us := h
theorem HB.away {w w' : World} {u : Value} {l : List Int} {row : Option Nat} (h : HB w u l) (hg : w.grownBy w' row) (hr : u.ownBlock = none ∨ u.ownBlock ≠ row) : HB w' u l := by
  obtain ⟨⟨p, c, rfl, h2, h3, h6, h4⟩, h5⟩ := h
  refine ⟨⟨p, c, rfl, h2, h3, h6, fun hl => ?_⟩, h5⟩
  obtain ⟨b, off, rfl, hh⟩ := h4 hl
  refine ⟨b, off, rfl, fun j hj => hg.cell (hh j hj) ?_⟩
  rcases hr with hr | hr
  · simp [Value.ownBlock] at hr
  · exact hr
def Usf (w : World) (us : List Value) (ls : List (List Int)) : Prop :=
  (∀ i j, i < us.length → j < us.length → i ≠ j → (us.getD i undef).ownBlock = none ∨ (us.getD i undef).ownBlock ≠ (us.getD j undef).ownBlock) ∧
  (∀ j b, j < us.length → (us.getD j undef).ownBlock = some b → b < w.heap.size ∧ ∃ c, us.getD j undef = .slice (some ⟨b, 0, none⟩) (ls.getD j []).length c ∧ (ls.getD j []).length ≤ c ∧ c ≤ maxLen) ∧
  (∀ j, j < us.length → ∃ p c, us.getD j undef = .slice p (ls.getD j []).length c)
theorem Usf.grown {w w' : World} {us : List Value} {ls : List (List Int)} (h : Usf w us ls) (hs : w.heap.size ≤ w'.heap.size) : Usf w' us ls :=
  ⟨h.1, fun j b hj hb => ⟨Nat.lt_of_lt_of_le (h.2.1 j b hj hb).1 hs, (h.2.1 j b hj hb).2⟩, h.2.2⟩
def Pool (B : Nat) (w : World) (us : List Value) (ls : List (List Int)) (K L : Nat) (gl : List Value) : Prop :=
  gl.length = K ∧ Usf w us ls ∧
  (∀ j, j < K → w.ownsRow B 5 1 (gl.getD j undef) ((ls.getD j []).length + 70) ((marksL (j + 1) ((ls.getD j []).length + 70)).map (Value.int .u8)) ∧ HB w (us.getD j undef) (marksL (j + 1) (ls.getD j []).length)) ∧
  (∀ j, L ≤ j → j < us.length → w.ownsRow B 5 1 (us.getD j undef) (ls.getD j []).length ((marksL (j + 1) (ls.getD j []).length).map (Value.int .u8))) ∧
  (∀ i j, i < K → K ≤ j → j < us.length → (gl.getD i undef).ownBlock ≠ (us.getD j undef).ownBlock)
theorem Pool.grown {B : Nat} {w w' : World} {us : List Value} {ls : List (List Int)} {K L : Nat} {gl : List Value} {row : Option Nat} (h : Pool B w us ls K L gl) (hg : w.grownBy w' row)
    (hr1 : ∀ i, i < K → (gl.getD i undef).ownBlock = none ∨ (gl.getD i undef).ownBlock ≠ row) (hr2 : ∀ j, j < us.length → (j < K ∨ L ≤ j) → (us.getD j undef).ownBlock = none ∨ (us.getD j undef).ownBlock ≠ row) (hKL : K ≤ us.length) : Pool B w' us ls K L gl := by
  obtain ⟨h1, h2, h3, h4, h5⟩ := h
  refine ⟨h1, h2.grown hg.size, fun j hj => ⟨(h3 j hj).1.kept hg (hr1 j hj), (h3 j hj).2.away hg (hr2 j (by omega) (.inl hj))⟩, fun j hj hj2 => (h4 j hj hj2).kept hg (hr2 j hj2 (.inr hj)), h5⟩
def Cur (B : Nat) (w : World) (us : List Value) (ls : List (List Int)) (K : Nat) (gl : List Value) (g : Value) (m : Nat) : Prop :=
  Pool B w us ls K (K + 1) gl ∧ w.ownsRow B 5 1 g ((ls.getD K []).length + m) ((marksL (K + 1) ((ls.getD K []).length + m)).map (Value.int .u8)) ∧ HB w (us.getD K undef) (marksL (K + 1) (ls.getD K []).length) ∧
  (∀ i, i < K → (gl.getD i undef).ownBlock ≠ g.ownBlock) ∧ ∀ j, j < us.length → j ≠ K → (us.getD j undef).ownBlock = none ∨ (us.getD j undef).ownBlock ≠ g.ownBlock
theorem Cur.start {B : Nat} {w : World} {us : List Value} {ls : List (List Int)} {K : Nat} {gl : List Value} (h : Pool B w us ls K K gl) (hK : K < us.length) : Cur B w us ls K gl (us.getD K undef) 0 := by
  obtain ⟨h1, h2, h3, h4, h5⟩ := h
  have hk := h4 K (Nat.le_refl _) hK
  refine ⟨⟨h1, h2, h3, fun j hj => h4 j (by omega), h5⟩, by simpa using hk, HB.of_own (by rw [marksL_length]; exact hk) (marksL_byt _ _), fun i hi => h5 i K hi (Nat.le_refl _) hK, fun j hj hne => h2.1 j K hj hK hne⟩
theorem Cur.finish {B : Nat} {w : World} {us : List Value} {ls : List (List Int)} {K : Nat} {gl : List Value} {g : Value} (h : Cur B w us ls K gl g 70) (hK : K < us.length) : Pool B w us ls (K + 1) (K + 1) (gl ++ [g]) := by
  obtain ⟨⟨h1, h2, h3, h4, h5⟩, hg, hu, hs1, hs2⟩ := h
  have gd : ∀ j, (gl ++ [g]).getD j undef = if j < K then gl.getD j undef else if j = K then g else undef := by
    intro j
    rw [getD_app, h1]
    split
    · rfl
    · split
      · rename_i e; subst e; simp
      · rename_i h6 h7
        have : 0 < j - K := by omega
        obtain ⟨t, ht⟩ : ∃ t, j - K = t + 1 := ⟨j - K - 1, by omega⟩
        rw [ht]; rfl
  refine ⟨by simp [h1], h2, fun j hj => ?_, h4, fun i j hi hj hj2 => ?_⟩
  · rw [gd]
    by_cases hjk : j < K
    · rw [if_pos hjk]; exact h3 j hjk
    · have e : j = K := by omega
      subst e
      rw [if_neg hjk, if_pos rfl]
      exact ⟨hg, hu⟩
  · rw [gd]
    by_cases hik : i < K
    · rw [if_pos hik]; exact h5 i j hik (by omega) hj2
    · have e : i = K := by omega
      subst e
      rw [if_neg hik, if_pos rfl]
      rcases hs2 j hj2 (by omega) with h | h
      · rw [h]
        intro e
        rcases hg.2 with ⟨_, e2⟩ | ⟨g', cap, cur, e2, _⟩
        · omega
        · rw [e2] at e; simp [Value.ownBlock] at e
      · exact Ne.symm h
theorem Cur.alloc {B : Nat} {w : World} {us : List Value} {ls : List (List Int)} {K : Nat} {gl : List Value} {g : Value} {m : Nat} (h : Cur B w us ls K gl g m) (hK : K < us.length) (o : Obj) : Cur B (w.alloc o) us ls K gl g m := by
  have hg := World.grownBy_alloc w o none
  have tr : ∀ x : Option Nat, x = none ∨ x ≠ none := fun x => by cases x <;> simp
  exact ⟨h.1.grown hg (fun i _ => tr _) (fun j _ _ => tr _) (by omega), h.2.1.kept hg (tr _), h.2.2.1.away hg (tr _), h.2.2.2⟩
theorem Cur.step {B : Nat} {w w' : World} {us : List Value} {ls : List (List Int)} {K : Nat} {gl : List Value} {g g' : Value} {m : Nat} (h : Cur B w us ls K gl g m) (hK : K < us.length)
    (hown : w'.ownsRow B 5 1 g' ((ls.getD K []).length + m + 1) ((marksL (K + 1) ((ls.getD K []).length + m)).map (Value.int .u8) ++ [.int .u8 (mkB (K + 1) ((ls.getD K []).length + m))])) (hgr : w.grownBy w' g.ownBlock)
    (hd : g'.ownBlock = g.ownBlock ∨ (g'.ownBlock = some w.heap.size ∧ w.grownBy w' none)) : Cur B w' us ls K gl g' (m + 1) := by
  obtain ⟨hp, hg, hu, hs1, hs2⟩ := h
  have hp2 := hp
  obtain ⟨h1, h2, h3, h4, h5⟩ := hp2
  have hown2 : w'.ownsRow B 5 1 g' ((ls.getD K []).length + (m + 1)) ((marksL (K + 1) ((ls.getD K []).length + (m + 1))).map (Value.int .u8)) := by
    rw [← Nat.add_assoc, marksL_succ, List.map_append]
    exact hown
  have tr : ∀ x : Option Nat, x = none ∨ x ≠ none := fun x => by cases x <;> simp
  have hpool : Pool B w' us ls K (K + 1) gl := hp.grown hgr (fun i hi => .inr (hs1 i hi)) (fun j hj hj2 => hs2 j hj (by omega)) (by omega)
  rcases hd with hd | ⟨hd, hgn⟩
  · refine ⟨hpool, hown2, ?_, fun i hi => by rw [hd]; exact hs1 i hi, fun j hj hne => by rw [hd]; exact hs2 j hj hne⟩
    by_cases hsame : (us.getD K undef).ownBlock = none ∨ (us.getD K undef).ownBlock ≠ g.ownBlock
    · exact hu.away hgr hsame
    · obtain ⟨b, hb⟩ : ∃ b, (us.getD K undef).ownBlock = some b := by
        cases hx : (us.getD K undef).ownBlock with
        | none => exact absurd (.inl hx) hsame
        | some b => exact ⟨b, rfl⟩
      have hbg : g.ownBlock = some b := by
        apply Classical.byContradiction
        intro hn
        exact hsame (.inr (by rw [hb]; exact Ne.symm hn))
      obtain ⟨_, c, e, hc1, hc2⟩ := h2.2.1 K b hK hb
      rw [e]
      refine ⟨⟨some ⟨b, 0, none⟩, c, by rw [marksL_length], by rw [marksL_length]; exact hc1, hc2, (fun e => by cases e), fun _ => ⟨b, 0, rfl, fun j hj => ?_⟩⟩, marksL_byt _ _⟩
      rw [marksL_length] at hj
      obtain ⟨g2, cap, e2, _, _, _, hcell⟩ := ownsRow_cells hown2 (by omega)
      rw [hbg, e2] at hd
      simp only [Value.ownBlock, Option.some.injEq] at hd
      subst hd
      have hjl : j < (marksL (K + 1) ((ls.getD K []).length + (m + 1))).length := by rw [marksL_length]; omega
      have := hcell j (.int .u8 (mkB (K + 1) j)) (by
        rw [List.getElem?_map, List.getElem?_eq_getElem hjl, ← getD_of_lt hjl, marksL_getD _ _ _ (by omega)]; rfl)
      rw [this, marksL_getD _ _ _ hj]
  · refine ⟨hpool, hown2, hu.away hgn (tr _), fun i hi => ?_, fun j hj hne => ?_⟩
    · rw [hd]
      intro e
      have := ((h3 i hi).1.lt _ e).2
      omega
    · rw [hd]
      right
      intro e
      have := (h2.2.1 j _ hj e).1
      omega
theorem Ph1.pool {B : Nat} {w : World} {us : List Value} {ls : List (List Int)} (h : Ph1 B w us ls us.length 0) : Pool B w us ls 0 0 [] := by
  obtain ⟨ms, ha, hl, hd, _⟩ := h
  refine ⟨rfl, ⟨ha.2.2, fun j b hj hb => ?_, fun j hj => ?_⟩, fun j hj => by omega, fun j _ hj => ?_, fun i j hi => by omega⟩
  · have hrow := ha.2.1 j hj
    refine ⟨(hrow.lt b hb).2, ?_⟩
    rcases hrow.2 with ⟨e, _⟩ | ⟨g, cap, cur, e, _, _, h1, h2, _⟩
    · rw [e] at hb; simp [Value.ownBlock] at hb
    · rw [e] at hb
      simp only [Value.ownBlock, Option.some.injEq] at hb
      subst hb
      rw [hl] at e h1
      exact ⟨cap, e, h1, h2⟩
  · obtain ⟨p, c, e⟩ := ha.slice j hj
    rw [hl] at e
    exact ⟨p, c, e⟩
  · have := ha.2.1 j hj
    rw [hd j hj, marksL_length] at this
    exact this
theorem HV.apart {w w' : World} {v : Value} {us : List Value} {row : Option Nat} {N : Nat} (h : HV w v us) (hg : w.grownBy w' row) (hr : ∀ g, row = some g → N ≤ g) (hv : ∀ b off n c, v = .slice (some ⟨b, off, none⟩) n c → 0 < us.length → b < N) : HV w' v us := by
  obtain ⟨p, c, h1, h2, h3, h4⟩ := h
  refine ⟨p, c, h1, h2, h3, fun hne => ?_⟩
  obtain ⟨b, off, e, ⟨cur, fz, hh⟩, hc⟩ := h4 hne
  have hb : b < N := hv b off us.length c (by rw [h1, e]) (by cases us with | nil => exact absurd rfl hne | cons _ _ => simp)
  have hne2 : some b ≠ row := fun e => by have := hr b e.symm; omega
  exact ⟨b, off, e, ⟨cur, fz, by rw [hg.block b (Array.getElem?_eq_some_iff.1 hh).1 hne2]; exact hh⟩, fun k hk => hg.cell (hc k hk) hne2⟩
theorem HV.cellAt {w : World} {b off n c : Nat} {us : List Value} (h : HV w (.slice (some ⟨b, off, none⟩) n c) us) (k : Nat) (hk : k < us.length) : w.cell? ⟨b, off + k, none⟩ = some (us.getD k undef) := by
  obtain ⟨p', c', e', _, _, h4⟩ := h
  obtain ⟨b', off', e2, _, hc⟩ := h4 (by intro e; subst e; simp at hk)
  simp only [Value.slice.injEq] at e'
  rw [← e'.1] at e2
  simp only [Option.some.injEq, Addr.mk.injEq, and_true] at e2
  obtain ⟨rfl, rfl⟩ := e2
  exact hc k hk
set_option maxHeartbeats 4000000 in
theorem apart_any (B : Nat) (w : World) (v : Value) (us : List Value) (ls : List (List Int)) (hv : HV w v us) (ha : Apt B w us ls) (hB : B ≤ w.heap.size) (hn : us.length ≤ 5864062014634) (hls : ∀ k, (ls.getD k []).length ≤ 140737488351232) :
    Calls Tryd.prog 14 #[v] w fun e w' => e = .returned (.bool true) ∧ Below B w w' := by
  obtain ⟨p, c, e, hlc, hm, hcell⟩ := id hv
  unfold maxLen at hm
  subst e
  have A : Hid (0 < us.length → ∃ b off, p = some ⟨b, off, none⟩) := fun h0 => by
    obtain ⟨b, off, e, _⟩ := hcell (by intro e; subst e; simp at h0)
    exact ⟨b, off, e⟩
  have HV0 := hid hv
  have HA0 := hid (Ph1.start ha)
  have HLS := hid hls
  clear hcell hv ha hls
  go_enter Tryd.func14, Tryd.ntmps14
  go_wp2
  go_loopw [3] (fun k wr => ∃ K : Nat, K ≤ us.length ∧ k = .int .i64 K ∧ Hid (Ph1 B wr us ls K 0) ∧ Hid (HV wr (.slice p us.length c) us) ∧ Hid (Below B w wr)) (fun k _ => us.length - (intOf k).toNat)
  case atStart => exact ⟨0, Nat.zero_le _, rfl, HA0, HV0, Below.refl _ _⟩
  case round =>
    clear HA0 HV0
    obtain ⟨K, hK, rfl, HP, HVr, HBr⟩ := hrel
    by_cases hlt : K < us.length
    · obtain ⟨b, off, rfl⟩ := A.out (by omega)
      have hcells : Hid (∀ wz, HV wz (.slice (some ⟨b, off, none⟩) us.length c) us → wz.cell? ⟨b, off + K, none⟩ = some (us.getD K undef)) := by
        intro wz hz
        obtain ⟨p', c', e', _, _, h4⟩ := hz
        obtain ⟨b', off', e2, _, hc⟩ := h4 (by intro e; subst e; simp at hlt)
        simp only [Value.slice.injEq, true_and] at e'
        rw [← e'.1] at e2
        simp only [Option.some.injEq, Addr.mk.injEq, and_true] at e2
        obtain ⟨rfl, rfl⟩ := e2
        exact hc K hlt
      obtain ⟨n, HN⟩ : ∃ n, Hid ((ls.getD K []).length = n) := ⟨_, rfl⟩
      have hn2 : n ≤ 140737488351232 := by rw [← HN.out]; exact HLS.out K
      obtain ⟨pk, ck, HU⟩ : ∃ pk ck, Hid (us.getD K undef = .slice pk n ck) := by
        obtain ⟨pk, ck, e⟩ := HP.out.slice K hlt
        rw [HN.out] at e
        exact ⟨pk, ck, e⟩
      go_wp2
      go_loopw [4] (fun i wz => ∃ I : Nat, I ≤ n ∧ i = .int .i64 I ∧ Hid (Ph1 B wz us ls K I) ∧ Hid (HV wz (.slice (some ⟨b, off, none⟩) us.length c) us) ∧ Hid (Below B w wz)) (fun i _ => n - (intOf i).toNat)
      case atStart => exact ⟨0, Nat.zero_le _, rfl, HP, HVr, HBr⟩
      case round =>
        clear HP HVr HBr
        obtain ⟨I, hI, rfl, HP, HVr, HBr⟩ := hrel
        have hc1 := hcells.out wr HVr.out
        rw [HU.out] at hc1
        by_cases hli : I < n
        · obtain ⟨g, ck', e, hck, hck2, hgB, hBT, hcc⟩ := HP.out.some K hlt (by rw [HN.out]; omega)
          rw [HU.out, HN.out] at e
          simp only [Value.slice.injEq, true_and] at e
          obtain ⟨rfl, rfl⟩ := e
          obtain ⟨⟨z, hz⟩, hfz⟩ := hcc I (by rw [HN.out]; exact hli)
          rw [HN.out] at hck2
          unfold maxLen at hck
          have HBT := hid hBT
          have hgb : b ≠ g := (HVr.out.block (by omega)).ne hBT (by decide)
          have hbg : g ≠ b := Ne.symm hgb
          clear hcc hBT
          go_wp2
          go_region_held3 (fun w' => w'.cell? ⟨b, off + K, none⟩ = some (.slice (some ⟨g, 0, none⟩) n ck)) (go_keep) ((go_at_call 39; refine (mark_eq _ (K + 1) I _ _ (wrap_succ K (by omega)) rfl (by omega) (by omega)).mono ?_; rintro e wz ⟨rfl, hw⟩; have hw' := hw.symm; subst hw'; clear hw))
          have hst := HP.out.step hlt (by rw [HN.out]; exact hli) HU.out
          have HP2 := hid hst.1.drew
          have HV2 := hid (HVr.out.grown hst.2 (fun g' e => by cases e; exact HBT.out)).drew
          have HB2 := hid (HBr.out.setCell (p := ⟨g, I, none⟩) hgB (.int .u8 (mkB (K + 1) I))).drew
          clear hst
          go_wp2
          exact ⟨⟨I + 1, by omega, by go_num, HP2, HV2, HB2⟩, by simp [intOf]; omega⟩
        · have HP2 := hid (HP.out.next (by rw [HN.out]; omega))
          go_wp2
          exact ⟨⟨K + 1, by omega, by go_num, HP2, HVr, HBr⟩, by simp [intOf]; omega⟩
    · have hKn : K = us.length := by omega
      have HPl : Hid (Pool B wr us ls 0 0 []) := by
        have := HP.out
        rw [hKn] at this
        exact this.pool
      obtain ⟨N, HN⟩ : ∃ N, Hid (wr.heap.size = N) := ⟨_, rfl⟩
      have HNu : Hid (∀ j b, j < us.length → (us.getD j undef).ownBlock = some b → b < N) := fun j b hj hb => by rw [← HN.out]; exact (HPl.out.2.1.2.1 j b hj hb).1
      have HNv : Hid (∀ b off n c', Value.slice p us.length c = .slice (some ⟨b, off, none⟩) n c' → 0 < us.length → b < N) := fun b off n c' e h0 => by
        rw [← HN.out]
        have h1 := HVr.out
        rw [e] at h1
        obtain ⟨cur, fz, hh⟩ := h1.block h0
        exact (Array.getElem?_eq_some_iff.1 hh).1
      have HNB : Hid (B ≤ N) := by rw [← HN.out]; exact Nat.le_trans hB HBr.out.size
      have HNs : Hid (N ≤ wr.heap.size) := by rw [HN.out]; exact Nat.le_refl N
      clear HP hKn HN
      go_wp2
      go_loopw [5, 6] (fun gs k wz => ∃ (K : Nat) (gl : List Value), K ≤ us.length ∧ k = .int .i64 K ∧ Hid (Pool B wz us ls K K gl) ∧ Hid (wz.ownsRow N 32 1 gs K gl) ∧ Hid (HV wz (.slice p us.length c) us) ∧ Hid (Below B w wz) ∧ Hid (N ≤ wz.heap.size)) (fun _ k _ => us.length - (intOf k).toNat)
      case atStart => exact ⟨0, [], Nat.zero_le _, rfl, HPl, World.ownsRow_nil _ _ _ _, HVr, HBr, HNs⟩
      case round =>
        clear HPl HVr HBr HNs hlt hK
        obtain ⟨K, gl, hK, rfl, HP, HG, HVr, HBr, HNs⟩ := hrel
        by_cases hlt : K < us.length
        · obtain ⟨b, off, rfl⟩ := A.out (by omega)
          obtain ⟨n, HNn⟩ : ∃ n, Hid ((ls.getD K []).length = n) := ⟨_, rfl⟩
          have hn2 : n ≤ 140737488351232 := by rw [← HNn.out]; exact HLS.out K
          obtain ⟨pk, ck, HU⟩ : ∃ pk ck, Hid (us.getD K undef = .slice pk n ck) := by
            obtain ⟨pk, ck, e⟩ := HP.out.2.1.2.2 K hlt
            rw [HNn.out] at e
            exact ⟨pk, ck, e⟩
          have hc1 := HVr.out.cellAt K hlt
          rw [HU.out] at hc1
          have HC := hid (Cur.start HP.out hlt)
          rw [HU.out] at HC
          go_wp2
          go_loopw [7, 8] (fun g i wz => ∃ m : Nat, m ≤ 70 ∧ i = .int .i64 m ∧ Hid (Cur B wz us ls K gl g m) ∧ Hid (wz.ownsRow N 32 1 u5 K gl) ∧ Hid (HV wz (.slice (some ⟨b, off, none⟩) us.length c) us) ∧ Hid (Below B w wz) ∧ Hid (N ≤ wz.heap.size)) (fun _ i _ => 70 - (intOf i).toNat)
          case atStart => exact ⟨0, Nat.zero_le _, rfl, HC, HG, HVr, HBr, HNs⟩
          case round =>
            clear HC HG HVr HBr HNs hc1
            obtain ⟨m, hm70, rfl, HC, HG, HVr, HBr, HNs⟩ := hrel
            have hc1 := HVr.out.cellAt K hlt
            rw [HU.out] at hc1
            by_cases hlm : m < 70
            · have hlm2 : (m : Int) < 70 := by omega
              go_wp2_with fail
              refine (mark_eq wr (K + 1) (n + m) _ _ (by omega) (by omega) (by omega) (by omega)).mono ?_
              rintro e wz ⟨rfl, hw⟩
              have hw' := hw.symm
              subst hw'
              clear hw
              have HCa := hid (HC.out.alloc hlt (.cells #[.int .u8 (mkB (K + 1) (n + m))] 5))
              have HO := HCa.out.2.1
              rw [HNn.out] at HO
              have HOh := hid HO
              clear HO
              go_wp2_with (at_builtin; refine wpList_append_byte rfl _ _ rfl B _ (n + m) _ rfl HOh.out ⟨wr.heap.size, 0, none⟩ 1 (mkB (K + 1) (n + m)) rfl (by simp) ?q1 ?q2 ?_)
              case q1 => omega
              case q2 => have := HBr.out.size; simp; omega
              intro g' w2 hown2 hgr2 hd2
              have hBT := own_BT HOh.out
              have hal := World.grownBy_alloc wr (.cells #[.int .u8 (mkB (K + 1) (n + m))] 5) none
              have HC2 := hid (HCa.out.step hlt (by rw [HNn.out]; exact hown2) hgr2 (by rw [World.size_alloc]; exact hd2))
              have HG2 : Hid (w2.ownsRow N 32 1 u5 K gl) := by
                have h1 := HG.out.alloc (.cells #[.int .u8 (mkB (K + 1) (n + m))] 5)
                refine h1.kept hgr2 ?_
                cases hx : u7.ownBlock with
                | none => cases hy : u5.ownBlock <;> simp
                | some q =>
                  obtain ⟨cur, fz, hh⟩ := hBT q hx
                  exact .inr (own_block_ne h1 hh (by decide))
              have HV2 := hid ((HVr.out.grown hal (fun g e => by cases e)).grown hgr2 hBT)
              have HB2 := hid ((HBr.out.alloc (Nat.le_trans hB HBr.out.size) (.cells #[.int .u8 (mkB (K + 1) (n + m))] 5)).grown hgr2 (by have := HBr.out.size; simp; omega) (fun k e => (HOh.out.lt k e).1))
              have HN2 : Hid (N ≤ w2.heap.size) := by have h1 := hgr2.size; have h2 := HNs.out; simp at h1; exact Nat.le_trans h2 (by omega)
              clear hown2 hgr2 hd2 hBT hal
              go_wp2
              exact ⟨⟨m + 1, by omega, by go_num, HC2, HG2, HV2, HB2, HN2⟩, by simp [intOf]; omega⟩
            · have e70 : m = 70 := by omega
              subst e70
              have HPn := hid (HC.out.finish hlt)
              have HOg := HC.out.2.1
              rw [HNn.out] at HOg
              obtain ⟨pg, cg, eg, _, _⟩ : ∃ pg cg, u7 = .slice pg (n + 70) cg ∧ True ∧ True := by
                rcases HOg.2 with ⟨_, e⟩ | ⟨g', cap, cur, e, _⟩
                · omega
                · exact ⟨_, _, e, trivial, trivial⟩
              subst eg
              obtain ⟨i0, hi, hz0, hz1, hz2⟩ := info_parts info_bytes
              have HGa := hid (HG.out.alloc (.cells #[.slice pg (n + 70) cg] 32))
              have hal := World.grownBy_alloc wr (.cells #[.slice pg (n + 70) cg] 32) none
              have tr : ∀ x : Option Nat, x = none ∨ x ≠ none := fun x => by cases x <;> simp
              have HPa := hid (HPn.out.grown hal (fun i _ => tr _) (fun j _ _ => tr _) (by omega))
              have HVa := hid (HVr.out.grown hal (fun g e => by cases e))
              have HBa := hid (HBr.out.alloc (Nat.le_trans hB HBr.out.size) (.cells #[.slice pg (n + 70) cg] 32))
              clear HOg tr hal
              go_wp2_with (at_builtin; refine wpList_append_own _ rfl _ _ 27 rfl N 32 i0 (.slice none 0 0) 1 24 Tryd.underlying27 hi hz0 hz1 hz2 rfl (by decide) _ K gl rfl HGa.out ⟨wr.heap.size, 0, none⟩ 1 1 [_] rfl rfl (cell_one_new _ _ _) ?q1 ?q2 ?q3 ?q4 ?_)
              case q1 => intro u hu; simp only [List.mem_singleton] at hu; subst hu; rfl
              case q2 => unfold maxLen; omega
              case q3 => omega
              case q4 => have := HNs.out; simp; omega
              intro gs' w2 hown2 hgr2 _
              have hlo : ∀ g, u5.ownBlock = some g → N ≤ g := fun g e => (HGa.out.lt g e).1
              have HP2 : Hid (Pool B w2 us ls (K + 1) (K + 1) (gl ++ [.slice pg (n + 70) cg])) := by
                refine HPa.out.grown hgr2 (fun i hi => ?_) (fun j hj _ => ?_) (by omega)
                · cases hx : u5.ownBlock with
                  | none => cases hy : ((gl ++ [Value.slice pg (n + 70) cg]).getD i undef).ownBlock <;> simp
                  | some q =>
                    obtain ⟨cur, fz, hh⟩ := own_BT HGa.out q hx
                    exact .inr (own_block_ne (HPa.out.2.2.1 i hi).1 hh (by decide))
                · cases hx : (us.getD j undef).ownBlock with
                  | none => exact .inl rfl
                  | some q =>
                    right
                    intro e
                    have h1 := HNu.out j q hj hx
                    have h2 := hlo q e.symm
                    omega
              have HV2 := hid (HVa.out.apart hgr2 hlo HNv.out)
              have HB2 := hid (HBa.out.grown hgr2 (by have := HBr.out.size; simp; omega) (fun k e => Nat.le_trans HNB.out (hlo k e)))
              have HG2 : Hid (w2.ownsRow N 32 1 gs' (K + 1) (gl ++ [.slice pg (n + 70) cg])) := hown2
              have HN2 : Hid (N ≤ w2.heap.size) := by have h1 := hgr2.size; have h2 := HNs.out; simp at h1; exact Nat.le_trans h2 (by omega)
              clear hown2 hgr2 hlo
              go_wp2
              exact ⟨⟨K + 1, _, by omega, by go_num, HP2, HG2, HV2, HB2, HN2⟩, by simp [intOf]; omega⟩
        · have hKn : K = us.length := by omega
          subst hKn
          obtain ⟨pg, cg, eg⟩ : ∃ pg cg, u5 = .slice pg us.length cg := by
            rcases HG.out.2 with ⟨e, e2⟩ | ⟨g', cap, cur, e, _⟩
            · exact ⟨none, 0, by rw [e, e2]⟩
            · exact ⟨_, _, e⟩
          subst eg
          go_wp2
          go_loop [9] (fun k => ∃ Q : Nat, Q ≤ us.length ∧ k = .int .i64 Q) (fun k => us.length - (intOf k).toNat)
          case atStart => exact ⟨0, Nat.zero_le _, rfl⟩
          case round =>
            obtain ⟨Q, hQ, rfl⟩ := hrel
            by_cases hlq : Q < us.length
            · obtain ⟨b, off, rfl⟩ := A.out (by omega)
              obtain ⟨n, HNn⟩ : ∃ n, Hid ((ls.getD Q []).length = n) := ⟨_, rfl⟩
              have hn2 : n ≤ 140737488351232 := by rw [← HNn.out]; exact HLS.out Q
              have hc1 := HVr.out.cellAt Q hlq
              obtain ⟨hrow, hu⟩ := HP.out.2.2.1 Q hlq
              rw [HNn.out] at hrow hu
              obtain ⟨pk, ck, HU⟩ : ∃ pk ck, Hid (us.getD Q undef = .slice pk n ck) := by
                obtain ⟨pk, ck, e⟩ := HP.out.2.1.2.2 Q hlq
                rw [HNn.out] at e
                exact ⟨pk, ck, e⟩
              rw [HU.out] at hc1 hu
              obtain ⟨gg, capg, eg, _, hcg1, hcg2, hgc⟩ := ownsRow_cells HG.out (by omega)
              simp only [Value.slice.injEq, true_and] at eg
              obtain ⟨rfl, rfl⟩ := eg
              have hgl : gl.length = us.length := HP.out.1
              have hc2 := hgc Q (gl.getD Q undef) (by simp [List.getD, List.getElem?_eq_getElem (show Q < gl.length by omega)])
              rw [Nat.zero_add] at hc2
              obtain ⟨gq, capq, eq, _, hq1, hq2, hqc⟩ := ownsRow_cells hrow (by omega)
              rw [eq] at hc2
              have HQ : Hid (∀ I, I < n + 70 → wr.cell? ⟨gq, I, none⟩ = some (.int .u8 (mkB (Q + 1) I))) := fun I hI => by
                have hjl : I < (marksL (Q + 1) (n + 70)).length := by rw [marksL_length]; exact hI
                have := hqc I (.int .u8 (mkB (Q + 1) I)) (by rw [List.getElem?_map, List.getElem?_eq_getElem hjl, ← getD_of_lt hjl, marksL_getD _ _ _ hI]; rfl)
                rwa [Nat.zero_add] at this
              have HUc : Hid (∀ I, I < n → ∃ b' off', pk = some ⟨b', off', none⟩ ∧ wr.cell? ⟨b', off' + I, none⟩ = some (.int .u8 (mkB (Q + 1) I)) ∧ n ≤ ck) := fun I hI => by
                obtain ⟨b', off', c', e, h1, h2, hh⟩ := hu.ne (by rw [marksL_length]; omega)
                rw [marksL_length] at e hh h1
                simp only [Value.slice.injEq, true_and] at e
                obtain ⟨rfl, rfl⟩ := e
                have := hh I hI
                rw [marksL_getD _ _ _ hI] at this
                exact ⟨b', off', rfl, this, h1⟩
              unfold maxLen at hcg2 hq2
              clear hrow hu hgc hqc eq hgl
              go_wp2
              go_loop [10] (fun i => ∃ I : Nat, I ≤ n + 70 ∧ i = .int .i64 I) (fun i => n + 70 - (intOf i).toNat)
              case atStart => exact ⟨0, Nat.zero_le _, rfl⟩
              case round =>
                obtain ⟨I, hI, rfl⟩ := hrel
                by_cases hli : I < n + 70
                · have hx1 := HQ.out I hli
                  have hli2 : (I : Int) < (n : Int) + 70 := by omega
                  go_wp2_with fail
                  refine (mark_eq wr (Q + 1) I _ _ (by omega) rfl (by omega) (by omega)).mono ?_
                  rintro e wz ⟨rfl, hw⟩
                  have hw' := hw.symm
                  subst hw'
                  clear hw
                  obtain ⟨x, HX⟩ : ∃ x, Hid (mkB (Q + 1) I = x) := ⟨_, rfl⟩
                  rw [HX.out] at hx1 ⊢
                  have hxx : (x != x) = false := by simp
                  by_cases hln : I < n
                  · have hdn : decide ((I : Int) < (n : Int)) = true := by simp; omega
                    have hln2 : (I : Int) < (n : Int) := by omega
                    obtain ⟨b', off', rfl, hx2, _⟩ := HUc.out I hln
                    rw [HX.out] at hx2
                    go_wp2
                    exact ⟨⟨I + 1, by omega, by go_num⟩, by simp [intOf]; omega⟩
                  · have hdn : decide ((I : Int) < (n : Int)) = false := by simp; omega
                    go_wp2
                    exact ⟨⟨I + 1, by omega, by go_num⟩, by simp [intOf]; omega⟩
                · have hli2 : ¬ ((I : Int) < (n : Int) + 70) := by omega
                  go_wp2
                  exact ⟨⟨Q + 1, by omega, by go_num⟩, by simp [intOf]; omega⟩
            · go_wp2
              go_ret
              exact ⟨rfl, HBr.out⟩
theorem grown_set (w : World) (g o : Nat) (u : Value) : w.grownBy (w.setCell ⟨g, o, none⟩ u) (some g) :=
  ⟨rfl, rfl, rfl, by simp, fun k _ hk => heap_setCell_other w ⟨g, o, none⟩ k u (fun e => hk (by simp [e]))⟩
theorem grown_trans {a b c : World} {r : Option Nat} (h : a.grownBy b r) (k : b.grownBy c r) : a.grownBy c r :=
  ⟨k.os.trans h.os, k.tape.trans h.tape, k.output.trans h.output, Nat.le_trans h.size k.size, fun i hi hr => (k.block i (Nat.lt_of_lt_of_le hi h.size) hr).trans (h.block i hi hr)⟩
theorem grown_below {a b : World} {r : Option Nat} (h : Below a.heap.size a b) : a.grownBy b r :=
  ⟨h.os, h.tape, h.output, h.size, fun i hi _ => h.block i hi⟩
theorem HB.sliced {w : World} {p : Option Addr} {c : Nat} {l : List Int} (h : HB w (.slice p l.length c) l) (lo hi m : Nat) (h1 : lo ≤ hi) (h2 : hi ≤ l.length) (h3 : hi ≤ m) (h4 : m ≤ c) : HB w (.slice (if m = lo then p else p.map (·.add lo)) (hi - lo) (m - lo)) ((l.take hi).drop lo) := by
  obtain ⟨⟨p', c', e, hc, hm, hpc, hcell⟩, hby⟩ := h
  simp only [Value.slice.injEq, true_and] at e
  obtain ⟨rfl, rfl⟩ := e
  have hlen : ((l.take hi).drop lo).length = hi - lo := by simp; omega
  refine ⟨⟨_, m - lo, by rw [hlen], by omega, by omega, fun e => ?_, fun hne => ?_⟩, fun x hx => hby x (List.mem_of_mem_take (List.mem_of_mem_drop hx))⟩
  · have : p = none := by
      split at e
      · exact e
      · cases p <;> simp_all
    have := hpc this
    omega
  have hlt : lo < hi := by
    apply Classical.byContradiction
    intro hn
    exact hne (List.length_eq_zero_iff.1 (by omega))
  obtain ⟨b, off, rfl, hk⟩ := hcell (by intro e; subst e; simp at h2; omega)
  rw [if_neg (by omega)]
  refine ⟨b, off + lo, by simp [Go.WideShapes.add_plain], fun j hj => ?_⟩
  rw [hlen] at hj
  have := hk (lo + j) (by omega)
  rw [show off + lo + j = off + (lo + j) by omega, this]
  have e1 : ((l.take hi).drop lo).getD j 0 = l.getD (lo + j) 0 := by
    simp only [List.getD, List.getElem?_drop, List.getElem?_take]
    rw [if_pos (by omega)]
  rw [e1]
theorem HB.pre {w : World} {p : Option Addr} {c : Nat} {l : List Int} (h : HB w (.slice p l.length c) l) (n : Nat) (hn : n ≤ l.length) : HB w (.slice p n n) (l.take n) := by
  obtain ⟨p', c', e, hc, _⟩ := h.open
  simp only [Value.slice.injEq, true_and] at e
  obtain ⟨rfl, rfl⟩ := e
  have := h.sliced 0 n n (Nat.zero_le _) hn (Nat.le_refl _) (by omega)
  have e : (if n = 0 then p else p.map (·.add 0)) = p := by
    split
    · rfl
    · cases p <;> simp [Addr.add]
  simpa [e] using this
theorem HB.suf {w : World} {p : Option Addr} {c : Nat} {l : List Int} (h : HB w (.slice p l.length c) l) (n : Nat) (hn : n ≤ l.length) : HB w (.slice (if c = n then p else p.map (·.add n)) (l.length - n) (c - n)) (l.drop n) := by
  obtain ⟨p', c', e, hc, _⟩ := h.open
  simp only [Value.slice.injEq, true_and] at e
  obtain ⟨rfl, rfl⟩ := e
  have := h.sliced n l.length c hn (Nat.le_refl _) hc (Nat.le_refl _)
  rwa [List.take_of_length_le (Nat.le_refl _)] at this
theorem HB.slice_form {w : World} {v : Value} {l : List Int} (h : HB w v l) : ∃ p c, v = .slice p l.length c := by
  obtain ⟨p, c, e, _⟩ := h.open
  exact ⟨p, c, e⟩
end Go.Proofs.YtinahldjpobigaaDoor
namespace Go.Proofs.YtinahldjpobigaaDoor
open Go Go.RowKit
theorem HV.three (w : World) (a b c : Value) : HV (w.alloc (.cells #[a, b, c] 32)) (.slice (some ⟨w.heap.size, 0, none⟩) 3 3) [a, b, c] := by
  refine ⟨_, _, rfl, by simp, by decide, fun _ => ⟨w.heap.size, 0, rfl, ⟨_, _, heap_alloc_new w _⟩, fun k hk => ?_⟩⟩
  match k, hk with
  | 0, _ => simp
  | 1, _ => simp
  | 2, _ => simp
theorem lent_part {w : World} {B : Nat} {v : Value} {l : List Int} (h : w.ownsRow B 5 1 v (lent l).length ((lent l).map (Value.int .u8))) (hby : ∀ x ∈ l, 0 ≤ x ∧ x < 256) :
    ∃ g c, v = .slice (some ⟨g, 0, none⟩) (l.length + 70) c ∧ B ≤ g ∧ g < w.heap.size ∧ l.length + 70 ≤ c ∧ c ≤ 9223372036854775807 ∧ HB w (.slice (some ⟨g, 0, none⟩) l.length c) l ∧ HB w (.slice (some ⟨g, 0, none⟩) (l.length + 70) c) (lent l) := by
  have hf := HB.of_own h (lent_byt hby)
  have hll := lent_length l
  rcases h.2 with ⟨_, e0⟩ | ⟨g, cap, cur, rfl, hb, hh, hn, hm, _⟩
  · omega
  · unfold maxLen at hm
    refine ⟨g, cap, by rw [hll], hb, (Array.getElem?_eq_some_iff.1 hh).1, by omega, hm, ?_, by rw [hll] at hf; exact hf⟩
    have h3 := hf.sliced 0 l.length cap (Nat.zero_le _) (by omega) (by omega) (Nat.le_refl _)
    rw [lent_take] at h3
    have e : (if cap = 0 then (some (⟨g, 0, none⟩ : Addr)) else (some (⟨g, 0, none⟩ : Addr)).map (·.add 0)) = some ⟨g, 0, none⟩ := by
      split
      · rfl
      · simp [Addr.add]
    rw [e] at h3
    simpa using h3
theorem own_pre {w : World} {B g n c : Nat} {l : List Int} (h : w.ownsRow B 5 1 (.slice (some ⟨g, 0, none⟩) n c) l.length (l.map (Value.int .u8))) (hl : ∀ x ∈ l, 0 ≤ x ∧ x < 256) (m : Nat) (hm : m ≤ l.length) (hmc : m ≤ c) : HB w (.slice (some ⟨g, 0, none⟩) m c) (l.take m) := by
  have hf := HB.of_own h hl
  obtain ⟨p, c', e, h1, h2⟩ := hf.open
  simp only [Value.slice.injEq] at e
  obtain ⟨rfl, rfl, rfl⟩ := e
  have h3 := hf.sliced 0 m c (Nat.zero_le _) hm (by omega) (Nat.le_refl _)
  have e : (if c = 0 then (some (⟨g, 0, none⟩ : Addr)) else (some (⟨g, 0, none⟩ : Addr)).map (·.add 0)) = some ⟨g, 0, none⟩ := by
    split
    · rfl
    · simp [Addr.add]
  rw [e] at h3
  simpa using h3
theorem own_other {w w' : World} {B n g : Nat} {e : TypeId} {v : Value} {xs : List Value} (h : w.ownsRow B e 1 v n xs) (hg : w.grownBy w' (some g)) (hb : g < B) : w'.ownsRow B e 1 v n xs :=
  h.kept hg (by
    rcases none_or v.ownBlock with q | q
    · exact .inl q
    · exact .inr fun e => by have := (h.lt g e).1; omega)
theorem HB.other {w w' : World} {u : Value} {l : List Int} {g : Nat} (h : HB w u l) (hg : w.grownBy w' (some g)) (hr : u.ownBlock = none ∨ u.ownBlock ≠ some g) : HB w' u l := h.away hg hr
end Go.Proofs.YtinahldjpobigaaDoor
namespace Go.Proofs.YtinahldjpobigaaDoor
open Go.RowKit
theorem Apt.away {B : Nat} {w w' : World} {us : List Value} {ls : List (List Int)} {row : Option Nat} (h : Apt B w us ls) (hg : w.grownBy w' row) (hr : ∀ k, row = Option.some k → ∃ e, BT w k e ∧ e ≠ 5) : Apt B w' us ls := by
  refine ⟨h.1, fun k hk => (h.2.1 k hk).kept hg ?_, h.2.2⟩
  cases hrow : row with
  | none => cases (us.getD k undef).ownBlock <;> simp
  | some q =>
    obtain ⟨e, ⟨cur, fz, hh⟩, hne⟩ := hr q hrow
    exact .inr (own_block_ne (h.2.1 k hk) hh (Ne.symm hne))
theorem own_slice {w : World} {B n : Nat} {e : TypeId} {v : Value} {xs : List Value} (h : w.ownsRow B e 1 v n xs) : ∃ p c, v = .slice p n c := by
  rcases h.2 with ⟨rfl, rfl⟩ | ⟨g, cap, cur, rfl, _⟩
  · exact ⟨_, _, rfl⟩
  · exact ⟨_, _, rfl⟩
theorem Dr.grownBy {w w' : World} (h : Dr w w') : w.grownBy w' none := by
  have b := h.below w.heap.size
  exact ⟨b.os, b.tape, b.output, b.size, fun k hk _ => b.block k hk⟩
theorem one_cell {w : World} {g : Nat} {a : Value} {T : TypeId} (h : w.heap[g]? = some (.cells #[a] T (0, 0))) : w.cell? ⟨g, 0, none⟩ = some a ∧ w.frozen? ⟨g, 0, none⟩ = false := by
  simp [World.cell?, World.frozen?, h]
theorem third_cell {w : World} {g : Nat} {a b c : Value} {T : TypeId} (h : w.heap[g]? = some (.cells #[a, b, c] T (0, 0))) : w.cell? ⟨g, 2, none⟩ = some c := by
  simp [World.cell?, h]
theorem Apt.snoc {B : Nat} {w : World} {us : List Value} {ls : List (List Int)} (h : Apt B w us ls) {u : Value} {l : List Int} (hu : w.ownsRow B 5 1 u l.length (l.map (Value.int .u8))) (hd : ∀ j, j < us.length → u.ownBlock = none ∨ u.ownBlock ≠ (us.getD j undef).ownBlock) : Apt B w (us ++ [u]) (ls ++ [l]) := by
  obtain ⟨h1, h2, h3⟩ := h
  have gd : ∀ j, j < us.length + 1 → (us ++ [u]).getD j undef = if j < us.length then us.getD j undef else u := by
    intro j hj
    rw [getD_app]
    split
    · rfl
    · have : j - us.length = 0 := by omega
      rw [this]; rfl
  refine ⟨by simp [h1], fun k hk => ?_, fun i j hi hj hij => ?_⟩
  · rw [List.length_append, List.length_singleton] at hk
    rw [gd k hk, getD_app]
    by_cases hk2 : k < us.length
    · rw [if_pos hk2, if_pos (by omega)]
      exact h2 k hk2
    · have e : k - ls.length = 0 := by omega
      rw [if_neg hk2, if_neg (by omega), e]
      exact hu
  · rw [List.length_append, List.length_singleton] at hi hj
    rw [gd i hi, gd j hj]
    by_cases hi2 : i < us.length
    · by_cases hj2 : j < us.length
      · rw [if_pos hi2, if_pos hj2]; exact h3 i j hi2 hj2 hij
      · rw [if_pos hi2, if_neg hj2]
        rcases hd i hi2 with h | h
        · rw [h]
          cases (us.getD i undef).ownBlock <;> simp
        · exact .inr (Ne.symm h)
    · have hj2 : j < us.length := by omega
      rw [if_neg hi2, if_pos hj2]
      exact hd j hj2
theorem run_append_slice (w : World) (base : Nat) (ty : TypeId) (v : Value) (n : Nat) (xs : List Value) (hown : w.ownsRow base 32 1 v n xs) (a : Addr) (c : Nat) (x : Value) (hx : w.cell? a = some x) (hx1 : x.oneCell' = true) (hn : (n + 1) * 24 ≤ 140737488355328) (hbase : base ≤ w.heap.size) :
    ∃ v' w', (Builtin.append_ #[27, 27] ty #[v, .slice (some a) 1 c]).run Tryd.prog w = .ok v' w' ∧ w'.ownsRow base 32 1 v' (n + 1) (xs ++ [x]) ∧ w.grownBy w' v.ownBlock ∧
      (v'.ownBlock = v.ownBlock ∨ v'.ownBlock = some w.heap.size) := by
  obtain ⟨i0, hi, hz0, hz1, hz2⟩ := info_parts info_bytes
  have hnews : ∀ j u, [x][j]? = some u → w.cell? (a.add j) = some u := by
    intro j u hj
    match j, hj with
    | 0, hj => simp at hj; subst hj; simpa [Addr.add] using hx
  have h1 : ∀ u ∈ [x], u.oneCell' = true := by intro u hu; simp at hu; subst hu; exact hx1
  obtain ⟨v', w', hr, h2, h3, _⟩ := run_append_own (P := Tryd.prog) w base 27 ty 32 i0 (.slice none 0 0) 1 24 Tryd.underlying27 hi hz0 hz1 hz2 rfl (by decide) v n xs hown a 1 c [x] rfl hnews h1 (by unfold maxLen; omega) hn hbase
  refine ⟨v', w', hr, h2, h3, ?_⟩
  rcases hown.2 with ⟨rfl, rfl⟩ | ⟨g, cap, cur, rfl, hbg, hg, hnc, hcm, hcs, htake⟩
  · have hr2 := run_append_nil (P := Tryd.prog) w 27 ty 32 i0 (.slice none 0 0) Tryd.underlying27 hi hz0 a 1 c [x] (by rw [hz1]; rfl) hnews (by omega) (by omega) (by rw [hz2]; omega)
    rw [hr] at hr2
    simp only [Result.ok.injEq] at hr2
    obtain ⟨rfl, rfl⟩ := hr2
    exact .inr rfl
  · by_cases hroom : n + 1 ≤ cap
    · obtain ⟨w2, hr2, _⟩ := run_append_fits (P := Tryd.prog) w base 27 ty 32 i0 1 Tryd.underlying27 hi hz1 g n cap xs hown a 1 c [x] rfl hnews h1 hroom
      rw [hr] at hr2
      simp only [Result.ok.injEq] at hr2
      obtain ⟨rfl, rfl⟩ := hr2
      exact .inl rfl
    · have hr2 := run_append_grow (P := Tryd.prog) w 27 ty 32 i0 (.slice none 0 0) Tryd.underlying27 hi hz0 ⟨g, 0, none⟩ n cap xs (by rw [hz1]; exact hown.1) (hown.cells (g := g) rfl) a 1 c [x] (by rw [hz1]; rfl) hnews (by omega) (by omega) (growslice_fits (by omega) (by rw [hz2]; exact hn))
      rw [hr] at hr2
      simp only [Result.ok.injEq] at hr2
      obtain ⟨rfl, rfl⟩ := hr2
      exact .inr rfl
theorem wpList_append_slice {w : World} {ops : Array Oper} {rest : List Oper} {o : Oper} {a : Act} {Q : Exit → Act → World → Prop} (hgd : o.guard = none) (s x : Operand)
    (ho : o.op = .call { callee := .builtin .append, args := #[s, x], argTypes := #[27, 27] })
    (base : Nat) (v : Value) (n : Nat) (xs : List Value) (hs : a.eval s = v) (hown : w.ownsRow base 32 1 v n xs)
    (ad : Addr) (c : Nat) (y : Value) (hx : a.eval x = .slice (some ad) 1 c) (hy : w.cell? ad = some y) (hy1 : y.oneCell' = true) (hn : (n + 1) * 24 ≤ 140737488355328) (hbase : base ≤ w.heap.size)
    (h : ∀ v' w', w'.ownsRow base 32 1 v' (n + 1) (xs ++ [y]) → w.grownBy w' v.ownBlock → (v'.ownBlock = v.ownBlock ∨ v'.ownBlock = some w.heap.size) → wpList Tryd.prog ops Q rest (a.put o.dst v') w') : wpList Tryd.prog ops Q (o :: rest) a w := by
  refine wpList_plain hgd fun K hK => ?_
  obtain ⟨v', w', hr, h2, h3, h4⟩ := run_append_slice w base o.type v n xs hown ad c y hy hy1 hn hbase
  unfold Oper.wp execOp
  simp only [ho, resolve, invoke, builtin, Sem.run_bind, Sem.run_pure, Result.andThen_ok, List.map_toArray, List.map_cons, List.map_nil, hs, hx, hr]
  exact hK _ _ (h v' w' h2 h3 h4)
theorem lent_pre {w : World} {p : Option Addr} {c : Nat} {l : List Int} (h : HB w (.slice p (l.length + 70) c) (lent l)) (hc : l.length ≤ c) : HB w (.slice p l.length c) l := by
  have hll := lent_length l
  have h2 : HB w (.slice p (lent l).length c) (lent l) := by rw [hll]; exact h
  have h3 := h2.sliced 0 l.length c (Nat.zero_le _) (by rw [hll]; omega) hc (Nat.le_refl _)
  rw [lent_take] at h3
  have e : (if c = 0 then p else p.map (·.add 0)) = p := by
    split
    · rfl
    · cases p <;> simp [Addr.add]
  rw [e] at h3
  simpa using h3
structure Fr (S : Nat → Prop) (w w' : World) : Prop where
  os : w'.os = w.os
  tape : w'.tape = w.tape
  output : w'.output = w.output
  size : w.heap.size ≤ w'.heap.size
  block : ∀ k, k < w.heap.size → ¬ S k → w'.heap[k]? = w.heap[k]?
theorem Fr.refl (S : Nat → Prop) (w : World) : Fr S w w := ⟨rfl, rfl, rfl, Nat.le_refl _, fun _ _ _ => rfl⟩
theorem Fr.step {S : Nat → Prop} {w w1 w2 : World} {row : Option Nat} (h : Fr S w w1) (hg : w1.grownBy w2 row) (hr : ∀ k, row = some k → S k ∨ w.heap.size ≤ k) : Fr S w w2 :=
  ⟨hg.os.trans h.os, hg.tape.trans h.tape, hg.output.trans h.output, Nat.le_trans h.size hg.size, fun k hk hs => (hg.block k (Nat.lt_of_lt_of_le hk h.size) (fun e => by
    rcases hr k e.symm with h1 | h1
    · exact hs h1
    · omega)).trans (h.block k hk hs)⟩
end Go.Proofs.YtinahldjpobigaaDoor
