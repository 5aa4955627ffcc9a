/- Of the road to uebPackCard_holds: Base, Opens, BsNumM, U8, BsStr, UbM, Owns, UbRow, OpensRv, BsIdx, Join, AppB, SameBytes, Marks, Lists. -/
import Derived.WalkKit
import Derived.WalkSpells
import Derived.WalkLawsBesides
import Derived.Deep.QuietTactic
import Derived.BigQuiet
import Derived.Test.YtcbnlfghhcpkmaaDoorRows
import Derived.ProofKit
import Derived.OpenShut
import Derived.ShutString
import Derived.ChangeOld
import Derived.Deep.Slices
import Derived.JoinedCond
import Derived.SizedLaws
import Derived.Test.YtcbnlfghhcpkmaaDoorChecked
import Derived.Lib.AtoiAll
import Derived.Lib.ItoaNum
import Derived.Laws.IdiomStrings
import Derived.Laws.Strings
import Derived.Laws.Strings2
import Derived.Laws.Concat
import Derived.Lib.Strings
import Derived.Lib.Bytealg
import Derived.Lib.Bytes
import Derived.Laws.AppendOwnNone
import Derived.Laws.AppendOwn
import Derived.Deep.MidRow
set_option linter.unusedVariables false
set_option linter.unusedSimpArgs false
namespace Go.Proofs.YtcbnlfghhcpkmaaDoor
open Go.RowKit
theorem hid {p : Prop} (h : p) : Hid p := h
def HB (w : World) (v : Value) (l : List Int) : Prop :=
  (∃ (p : Option Addr) (c : Nat), v = .slice p l.length c ∧ l.length ≤ c ∧ c ≤ maxLen ∧ (p = none → c = 0) ∧
    (l ≠ [] → ∃ b off, p = some ⟨b, off, none⟩ ∧ ∀ j, j < l.length → w.cell? ⟨b, off + j, none⟩ = some (.int .u8 (l.getD j 0)))) ∧ ∀ x ∈ l, 0 ≤ x ∧ x < 256
theorem HB.open {w : World} {v : Value} {l : List Int} (h : HB w v l) : ∃ (p : Option Addr) (c : Nat), v = .slice p l.length c ∧ l.length ≤ c ∧ c ≤ maxLen := by
  obtain ⟨⟨p, c, h1, h2, h3, _⟩, _⟩ := h
  exact ⟨p, c, h1, h2, h3⟩
theorem HB.ne {w : World} {v : Value} {l : List Int} (h : HB w v l) (hl : 0 < l.length) :
    ∃ b off c, v = .slice (some ⟨b, off, none⟩) l.length c ∧ l.length ≤ c ∧ c ≤ maxLen ∧ ∀ j, j < l.length → w.cell? ⟨b, off + j, none⟩ = some (.int .u8 (l.getD j 0)) := by
  obtain ⟨⟨p, c, h1, h2, h3, _, h4⟩, _⟩ := h
  obtain ⟨b, off, rfl, hc⟩ := h4 (by intro e; subst e; simp at hl)
  exact ⟨b, off, c, h1, h2, h3, hc⟩
theorem HB.byte {w : World} {v : Value} {l : List Int} (h : HB w v l) (j : Nat) : 0 ≤ l.getD j 0 ∧ l.getD j 0 < 256 := by
  by_cases hj : j < l.length
  · have e : l.getD j 0 = l[j] := by simp [List.getD, List.getElem?_eq_getElem hj]
    rw [e]
    exact h.2 _ (List.getElem_mem hj)
  · have e : l.getD j 0 = 0 := by simp [List.getD, List.getElem?_eq_none (by omega : l.length ≤ j)]
    rw [e]; omega
theorem HB.later {w w' : World} {v : Value} {l : List Int} (h : HB w v l) (hc : ∀ a (n : Int), w.cell? a = some (.int .u8 n) → w'.cell? a = some (.int .u8 n)) : HB w' v l := by
  obtain ⟨⟨p, c, h1, h2, h3, h6, h4⟩, h5⟩ := h
  refine ⟨⟨p, c, h1, h2, h3, h6, fun hl => ?_⟩, h5⟩
  obtain ⟨b, off, e, hh⟩ := h4 hl
  exact ⟨b, off, e, fun j hj => hc _ _ (hh j hj)⟩
theorem HB.below {w w' : World} {v : Value} {l : List Int} (h : HB w v l) (hb : Below w.heap.size w w') : HB w' v l :=
  h.later fun a _ hx => (hb.cell (World.block_lt_of_cell? w a hx)).trans hx
theorem HB.drewN {w : World} {v : Value} {l : List Int} (h : HB w v l) (q : Nat) : HB (w.drewN q) v l := h.later fun _ _ hx => hx
theorem getD_of_lt {l : List Int} {k : Nat} (h : k < l.length) : l.getD k 0 = l[k] := by simp [List.getD, List.getElem?_eq_getElem h]
theorem ownsRow_cells {w : World} {B : Nat} {e : TypeId} {v : Value} {n : Nat} {xs : List Value} (h : w.ownsRow B e 1 v n xs) (h0 : 0 < n) :
    ∃ g cap, v = .slice (some ⟨g, 0, none⟩) n cap ∧ B ≤ g ∧ n ≤ cap ∧ cap ≤ maxLen ∧ ∀ j u, xs[j]? = some u → w.cell? ⟨g, 0 + j, none⟩ = some u := by
  have hc := @World.ownsRow.cells w B e 1 v n xs h
  rcases h.2 with ⟨_, e0⟩ | ⟨g, cap, cur, rfl, hb, _, hn, hm, _, _⟩
  · omega
  · refine ⟨g, cap, rfl, hb, hn, hm, fun j u hj => ?_⟩
    have := @hc g rfl j u hj
    rwa [Go.WideShapes.add_plain] at this
theorem HB.of_own {w : World} {B : Nat} {e : TypeId} {v : Value} {l : List Int} (h : w.ownsRow B e 1 v l.length (l.map (Value.int .u8))) (hx : ∀ x ∈ l, 0 ≤ x ∧ x < 256) : HB w v l := by
  refine ⟨?_, hx⟩
  by_cases h0 : 0 < l.length
  · obtain ⟨g, cap, rfl, _, hn, hm, hc⟩ := ownsRow_cells h h0
    refine ⟨_, cap, rfl, hn, hm, (fun e => by cases e), fun _ => ⟨g, 0, rfl, fun j hj => ?_⟩⟩
    exact hc j _ (by simp [List.getD, List.getElem?_eq_getElem hj])
  · have e : l = [] := List.length_eq_zero_iff.1 (by omega)
    subst e
    rcases h.2 with ⟨rfl, _⟩ | ⟨g, cap, cur, rfl, _, _, hn, hm, _⟩
    · exact ⟨none, 0, rfl, Nat.le_refl _, Nat.zero_le _, fun _ => rfl, fun h => absurd rfl h⟩
    · exact ⟨_, cap, rfl, hn, hm, (fun e => by cases e), fun h => absurd rfl h⟩
theorem HB.grown {w w' : World} {v : Value} {l : List Int} {g : Nat} (h : HB w v l) (hg : w.grownBy w' (some g)) (hn : ∀ o sp (n : Int), w.cell? ⟨g, o, sp⟩ ≠ some (.int .u8 n)) : HB w' v l :=
  h.later fun a n hx => hg.cell hx (by
    intro e
    obtain ⟨b, o, sp⟩ := a
    simp only [Option.some.injEq] at e
    subst e
    exact hn o sp n hx)
theorem HB.nil (w : World) : HB w (.slice none 0 0) [] := ⟨⟨none, 0, rfl, Nat.zero_le _, Nat.zero_le _, fun _ => rfl, fun h => absurd rfl h⟩, by simp⟩
def BT (w : World) (g : Nat) (T : TypeId) : Prop := ∃ cur fz, w.heap[g]? = some (.cells cur T fz)
def HL (w : World) (v : Value) (ls : List (List Int)) : Prop :=
  ∃ (p : Option Addr) (c : Nat), v = .slice p ls.length c ∧ ls.length ≤ c ∧ c ≤ maxLen ∧ (p = none → c = 0) ∧
    (ls ≠ [] → ∃ b off, p = some ⟨b, off, none⟩ ∧ ∀ j, j < ls.length → ∃ u, w.cell? ⟨b, off + j, none⟩ = some u ∧ HB w u (ls.getD j []))
theorem HL.ne {w : World} {v : Value} {ls : List (List Int)} (h : HL w v ls) (hl : 0 < ls.length) :
    ∃ b off c, v = .slice (some ⟨b, off, none⟩) ls.length c ∧ ls.length ≤ c ∧ c ≤ maxLen ∧ ∀ j, j < ls.length → ∃ u, w.cell? ⟨b, off + j, none⟩ = some u ∧ HB w u (ls.getD j []) := by
  obtain ⟨p, c, h1, h2, h3, _, h4⟩ := h
  obtain ⟨b, off, rfl, hc⟩ := h4 (by intro e; subst e; simp at hl)
  exact ⟨b, off, c, h1, h2, h3, hc⟩
theorem HL.open {w : World} {v : Value} {ls : List (List Int)} (h : HL w v ls) : ∃ (p : Option Addr) (c : Nat), v = .slice p ls.length c ∧ ls.length ≤ c ∧ c ≤ maxLen := by
  obtain ⟨p, c, h1, h2, h3, _⟩ := h
  exact ⟨p, c, h1, h2, h3⟩
theorem HL.later {w w' : World} {v : Value} {ls : List (List Int)} (h : HL w v ls) (hc : ∀ a x, w.cell? a = some x → w'.cell? a = some x) : HL w' v ls := by
  obtain ⟨p, c, h1, h2, h3, h5, h4⟩ := h
  refine ⟨p, c, h1, h2, h3, h5, fun hl => ?_⟩
  obtain ⟨b, off, e, hh⟩ := h4 hl
  refine ⟨b, off, e, fun j hj => ?_⟩
  obtain ⟨u, hu, hb⟩ := hh j hj
  exact ⟨u, hc _ _ hu, hb.later fun a n => hc a _⟩
theorem HL.below {w w' : World} {v : Value} {ls : List (List Int)} (h : HL w v ls) (hb : Below w.heap.size w w') : HL w' v ls :=
  h.later fun a _ hx => (hb.cell (World.block_lt_of_cell? w a hx)).trans hx
theorem HL.byt {w : World} {v : Value} {ls : List (List Int)} (h : HL w v ls) : ∀ x ∈ ls.flatten, 0 ≤ x ∧ x < 256 := by
  intro x hx
  obtain ⟨l, hl, hxl⟩ := List.mem_flatten.1 hx
  obtain ⟨j, hj, rfl⟩ := List.getElem_of_mem hl
  obtain ⟨b, off, c, _, _, _, hh⟩ := h.ne (by omega)
  obtain ⟨u, _, hb⟩ := hh j hj
  have e : ls.getD j [] = ls[j] := by simp [List.getD, List.getElem?_eq_getElem hj]
  rw [e] at hb
  exact hb.2 x hxl
theorem HL.nil (w : World) : HL w (.slice none 0 0) [] := ⟨none, 0, rfl, Nat.zero_le _, Nat.zero_le _, fun _ => rfl, fun h => absurd rfl h⟩
def Dr (w w' : World) : Prop := ∃ q, w' = w.drewN q
theorem Dr.refl (w : World) : Dr w w := ⟨0, rfl⟩
theorem Dr.drewN {w u : World} (h : Dr w u) (n : Nat) : Dr w (u.drewN n) := by
  obtain ⟨q, rfl⟩ := h
  exact ⟨q + n, World.drewN_drewN w q n⟩
theorem Dr.one (w : World) (n : Nat) : Dr w (w.drewN n) := ⟨n, rfl⟩
theorem Dr.trans {a b c : World} (h : Dr a b) (k : Dr b c) : Dr a c := by
  obtain ⟨q, rfl⟩ := k
  exact h.drewN q
theorem Dr.cell {w w' : World} (h : Dr w w') (a : Addr) : w'.cell? a = w.cell? a := by obtain ⟨q, rfl⟩ := h; rfl
theorem Dr.heap {w w' : World} (h : Dr w w') : w'.heap = w.heap := by obtain ⟨q, rfl⟩ := h; rfl
theorem Dr.below {w w' : World} (h : Dr w w') (B : Nat) : Below B w w' := by obtain ⟨q, rfl⟩ := h; exact ⟨rfl, rfl, rfl, Nat.le_refl _, fun _ _ => rfl⟩
theorem HB.dr {w w' : World} {v : Value} {l : List Int} (h : HB w v l) (d : Dr w w') : HB w' v l := h.later fun a _ hx => (d.cell a).trans hx
theorem HL.dr {w w' : World} {v : Value} {ls : List (List Int)} (h : HL w v ls) (d : Dr w w') : HL w' v ls := h.below (d.below _)
end Go.Proofs.YtcbnlfghhcpkmaaDoor
namespace Go.Proofs.YtcbnlfghhcpkmaaDoor
open Go.ChangeShapes Go.WideShapes Go.ChangeAt Go.RowKit
theorem Opn.own : ownKnob Tryd.prog.godebug = none := by kernel_rfl
theorem Opn.laidOut : laidOutB Tryd.prog = true := by kernel_rfl
theorem Opn.cells_u8 : Tryd.prog.cellsOf 5 = 1 := by kernel_rfl
theorem Opn.cells_int : Tryd.prog.cellsOf 3 = 1 := by kernel_rfl
theorem bulk_pos {H : Type} (d : DataW H) : 1 ≤ Rows.uptoBulk d := by
  cases d with
  | lit l => cases l <;> simp [Rows.uptoBulk]
  | _ => simp [Rows.uptoBulk]
theorem bulk_len {H : Type} (l : List (DataW H)) : l.length ≤ Rows.uptoBulkAll l := by
  induction l with
  | nil => simp
  | cons x r ih => have := bulk_pos x; simp only [Rows.uptoBulkAll, List.length_cons]; omega
theorem bulk_slice {H : Type} (a b : List (DataW H)) : a.length + b.length + 1 ≤ Rows.uptoBulk (.slice a b) := by
  have h1 := bulk_len a
  have h2 := bulk_len b
  simp only [Rows.uptoBulk]
  omega
theorem bulk_all {H : Type} {l : List (DataW H)} (hk : Rows.uptoSmall H l = true) : Rows.uptoBulkAll l ≤ 1048576 := of_decide_eq_true hk
variable {H : Type} {enc : TypeId × Value → H} {W : World}
theorem open_row {k : IntKind} {t e : TypeId} {fuel base : Nat} {cs : List Value} {d : DataW H} {p : List MemPlace} (ht : Tryd.prog.underlying t = some (.slice e)) (he : Tryd.prog.underlying e = some (.int k)) (hc : Tryd.prog.cellsOf e = 1)
    (hf : DataW.trod enc Tryd.prog W base (fun _ => true) true fuel t cs = some (d, p)) :
    ∃ (q : Option Addr) (c : Nat) (l : List Int), cs = [.slice q l.length c] ∧ l.length ≤ c ∧ c ≤ maxLen ∧ (q = none → c = 0) ∧ (l ≠ [] → ∃ b off, q = some ⟨b, off, none⟩ ∧ ∀ j, j < l.length → W.cell? ⟨b, off + j, none⟩ = some (.int k (l.getD j 0))) ∧ (∀ n ∈ l, (Lit.int k n).wf = true) ∧ l.length + 1 ≤ Rows.uptoBulk d := by
  rcases open_ints ht he hc hf with ⟨rfl, hx⟩ | ⟨x, len, cap, zs, rfl, _, hl, hm, hz, hx, hcell, hwz⟩
  · cases hx
    exact ⟨none, 0, [], rfl, Nat.le_refl _, Nat.zero_le _, fun _ => rfl, fun h => absurd rfl h, by simp, by simp [Rows.uptoBulk]⟩
  · simp only [Prod.mk.injEq] at hx
    obtain ⟨rfl, _⟩ := hx
    simp only [if_true] at hz
    have hlen : (zs.take len).length = len := by simp; omega
    refine ⟨some x, cap, zs.take len, by rw [hlen], by omega, hm, (fun e => by cases e), fun hne => ?_, fun n hn => hwz n (List.mem_of_mem_take hn), ?_⟩
    · have h0 : 0 < len := by
        apply Classical.byContradiction
        intro h
        exact hne (List.length_eq_zero_iff.1 (by omega))
      obtain ⟨b, off, rfl, hh⟩ := ints_at hcell (by omega)
      refine ⟨b, off, rfl, fun j hj => ?_⟩
      rw [hlen] at hj
      rw [hh j (by omega)]
      simp only [List.getD, List.getElem?_take]
      rw [if_pos hj]
    · have := bulk_slice (lits (H := H) k (zs.take len)) (lits k (zs.drop len))
      simp only [lits, List.length_map] at this ⊢
      omega
theorem byte_wf {l : List Int} (h : ∀ n ∈ l, (Lit.int .u8 n).wf = true) : ∀ x ∈ l, 0 ≤ x ∧ x < 256 := by
  intro x hx
  have := bounds_u8 (h x hx)
  omega
theorem open_HB {base : Nat} {v : Value} {d : DataW H} {p : List MemPlace} (h : DataW.Trod enc Tryd.prog W base (fun _ => true) true 27 v d p) (hv : ∃ a n c, v = .slice a n c) : ∃ l, HB W v l ∧ l.length + 1 ≤ Rows.uptoBulk d := by
  obtain ⟨a, n, c, rfl⟩ := hv
  obtain ⟨fuel, hf⟩ := h
  obtain ⟨q, c', l, hcs, h1, h2, h3, h4, h5, h6⟩ := open_row Tryd.underlying27 Tryd.underlying5 Opn.cells_u8 hf
  simp only [Value.cells, List.cons.injEq, and_true] at hcs
  exact ⟨l, ⟨⟨q, c', hcs, h1, h2, h3, h4⟩, byte_wf h5⟩, h6⟩
theorem Opn.bytes_u8 : Tryd.prog.bytesOf 5 = 1 := by kernel_rfl
theorem len_reach {ts : List TypeId} {ds : List (DataW H)} {j base : Nat} {v : Value} {d : DataW H} {p : List MemPlace} {l : List Int} (h : (DataW.weightsEach Tryd.prog ts ds).all (· ≤ reachBytes) = true) (ht : ts[j]? = some 27) (hd : ds[j]? = some d)
    (hT : DataW.Trod enc Tryd.prog W base (fun _ => true) true 27 v d p) (hb : HB W v l) : l.length ≤ 140737488351232 := by
  obtain ⟨q, c, rfl, _, _⟩ := hb.open
  obtain ⟨fuel, hf⟩ := hT
  rcases open_ints Tryd.underlying27 Tryd.underlying5 Opn.cells_u8 hf with ⟨hcs, _⟩ | ⟨x, len, cap, zs, hcs, _, hl, hm, hz, hx, _, _⟩
  · simp only [Value.cells, List.cons.injEq, and_true, Value.slice.injEq] at hcs
    omega
  · simp only [Value.cells, List.cons.injEq, and_true, Value.slice.injEq] at hcs
    simp only [Prod.mk.injEq] at hx
    obtain ⟨rfl, _⟩ := hx
    have := sized_slice h ht hd Tryd.underlying27
    rw [Opn.bytes_u8] at this
    simp only [lits, List.length_map, List.length_take, List.length_drop, reachBytes, if_true] at this hz
    omega
theorem bulk_mem {H : Type} {d : DataW H} {l : List (DataW H)} (h : d ∈ l) : Rows.uptoBulk d ≤ Rows.uptoBulkAll l := by
  induction l with
  | nil => cases h
  | cons x r ih =>
    simp only [Rows.uptoBulkAll]
    rcases List.mem_cons.1 h with e | e
    · subst e; omega
    · have := ih e; omega
theorem bulk_sum {H : Type} : ∀ (n : Nat) (D : Nat → DataW H) (L : Nat → List Int), (∀ i, i < n → (L i).length + 1 ≤ Rows.uptoBulk (D i)) → ((List.range n).map L).flatten.length + n ≤ Rows.uptoBulkAll ((List.range n).map D)
  | 0, _, _, _ => by simp [Rows.uptoBulkAll]
  | n + 1, D, L, h => by
    have ih := bulk_sum n (fun i => D (i + 1)) (fun i => L (i + 1)) (fun i hi => h (i + 1) (by omega))
    have h0 := h 0 (by omega)
    rw [List.range_succ_eq_map]
    simp only [List.map_cons, List.map_map, List.flatten_cons, List.length_append, Rows.uptoBulkAll]
    have e1' : (List.range n).map (L ∘ Nat.succ) = (List.range n).map (fun i => L (i + 1)) := rfl
    have e2' : (List.range n).map (D ∘ Nat.succ) = (List.range n).map (fun i => D (i + 1)) := rfl
    rw [e1', e2']
    omega
theorem choose_lists {P : Nat → List Int → Prop} (n : Nat) (h : ∀ i, i < n → ∃ l, P i l) : ∃ L : Nat → List Int, ∀ i, i < n → P i (L i) :=
  ⟨fun i => if hi : i < n then Classical.choose (h i hi) else [], fun i hi => by simp only [hi, dif_pos]; exact Classical.choose_spec (h i hi)⟩
theorem Opn.cells_bytes : Tryd.prog.cellsOf 27 = 1 := by kernel_rfl
theorem open_HL {base : Nat} {v : Value} {d : DataW H} {p : List MemPlace} (h : DataW.Trod enc Tryd.prog W base (fun _ => true) true 23 v d p) (hv : ∃ a n c, v = .slice a n c) : ∃ ls, HL W v ls ∧ ls.flatten.length + ls.length + 1 ≤ Rows.uptoBulk d := by
  obtain ⟨a, n, c, rfl⟩ := hv
  obtain ⟨fuel, hf⟩ := h
  rcases Go.Deep.open_slice Tryd.underlying23 hf with ⟨hcs, hx⟩ | ⟨a, len, cap, m, n, D, Pl, hcs, hb, hl, hm, hmm, hx, hel⟩
  · simp only [Value.cells, List.cons.injEq, and_true] at hcs
    cases hx
    rw [hcs]
    exact ⟨[], HL.nil _, by simp [Rows.uptoBulk]⟩
  · simp only [Value.cells, List.cons.injEq, and_true] at hcs
    rw [hcs]
    simp only [if_true] at hmm
    subst hmm
    simp only [Prod.mk.injEq] at hx
    obtain ⟨rfl, _⟩ := hx
    have each : ∀ i, i < len → ∃ l, (∃ u, W.cell? (a.add i) = some u ∧ HB W u l) ∧ l.length + 1 ≤ Rows.uptoBulk (D i) := by
      intro i hi
      obtain ⟨cs', h1, h2⟩ := hel i (by omega)
      rw [Opn.cells_bytes, Nat.mul_one] at h1
      obtain ⟨q, c', l, rfl, k1, k2, k3, k4, k5, k6⟩ := open_row Tryd.underlying27 Tryd.underlying5 Opn.cells_u8 h2
      exact ⟨l, ⟨_, cell_of_cells?_one h1, ⟨⟨q, c', rfl, k1, k2, k3, k4⟩, byte_wf k5⟩⟩, k6⟩
    obtain ⟨L, hL⟩ := choose_lists len each
    have hlen : ((List.range len).map L).length = len := by simp
    refine ⟨(List.range len).map L, ⟨some a, m, by rw [hlen], by omega, hm, (fun e => by cases e), fun hne => ?_⟩, ?_⟩
    · have h0 : 0 < len := by
        apply Classical.byContradiction
        intro h
        exact hne (List.length_eq_zero_iff.1 (by omega))
      obtain ⟨b, off, sp⟩ := a
      obtain ⟨⟨u, hu, _⟩, _⟩ := hL 0 h0
      have hsp : sp = none := by simpa [Addr.add] using World.cell?_spot hu
      subst hsp
      refine ⟨b, off, rfl, fun j hj => ?_⟩
      rw [hlen] at hj
      obtain ⟨⟨u, hu, hb⟩, _⟩ := hL j hj
      rw [Go.WideShapes.add_plain] at hu
      refine ⟨u, hu, ?_⟩
      have e : ((List.range len).map L).getD j [] = L j := by simp [List.getD, hj]
      rw [e]
      exact hb
    · have h1 := bulk_sum len D L (fun i hi => (hL i hi).2)
      rw [hlen]
      simp only [Rows.uptoBulk]
      omega
end Go.Proofs.YtcbnlfghhcpkmaaDoor
namespace Go.Proofs.YtcbnlfghhcpkmaaDoor
open Go
def dig (c : UInt8) : Prop := 48 ≤ c.toNat ∧ c.toNat ≤ 57
instance (c : UInt8) : Decidable (dig c) := by unfold dig; infer_instance
def stp (a : Nat) (c : UInt8) : Nat := a * 10 + (c.toNat - 48)
def fD (a : Nat) (l : List UInt8) : Nat := l.foldl stp a
def valD (l : List UInt8) : Nat := fD 0 l
theorem fD_cons (a : Nat) (c : UInt8) (r : List UInt8) : fD a (c :: r) = fD (a * 10 + (c.toNat - 48)) r := by
  unfold fD
  rw [List.foldl_cons]
  unfold stp
  rfl
theorem fD_nil (a : Nat) : fD a [] = a := by unfold fD; rw [List.foldl_nil]
theorem fD_append (l m : List UInt8) (a : Nat) : fD a (l ++ m) = fD (fD a l) m := by
  induction l generalizing a with
  | nil => rw [List.nil_append, fD_nil]
  | cons c r ih => rw [List.cons_append, fD_cons, fD_cons, ih]
theorem fD_snoc (l : List UInt8) (a : Nat) (c : UInt8) : fD a (l ++ [c]) = fD a l * 10 + (c.toNat - 48) := by rw [fD_append, fD_cons, fD_nil]
theorem pow10_cons (c : UInt8) (r : List UInt8) : (10 : Nat) ^ (c :: r).length = 10 * 10 ^ r.length := by rw [List.length_cons, Nat.pow_succ, Nat.mul_comm]
theorem fD_ge (l : List UInt8) : ∀ (a : Nat), a * 10 ^ l.length ≤ fD a l := by
  induction l with
  | nil => intro a; rw [List.length_nil, Nat.pow_zero, Nat.mul_one]; exact Nat.le_refl _
  | cons c r ih =>
    intro a
    have h := ih (a * 10 + (c.toNat - 48))
    rw [fD_cons, pow10_cons, ← Nat.mul_assoc]
    generalize (10 : Nat) ^ r.length = P at *
    exact Nat.le_trans (Nat.mul_le_mul_right P (Nat.le_add_right _ _)) h
theorem fD_le (l : List UInt8) (a : Nat) : a ≤ fD a l := by
  have := fD_ge l a
  have h2 : a * 1 ≤ a * 10 ^ l.length := Nat.mul_le_mul_left _ (Nat.pow_pos (by decide))
  rw [Nat.mul_one] at h2
  exact Nat.le_trans h2 this
theorem fD_lt (l : List UInt8) (hd : ∀ c ∈ l, dig c) : ∀ (a : Nat), fD a l < (a + 1) * 10 ^ l.length := by
  induction l with
  | nil => intro a; rw [List.length_nil, Nat.pow_zero, Nat.mul_one]; exact Nat.lt_succ_self _
  | cons c r ih =>
    intro a
    have hc := hd c (List.mem_cons_self ..)
    have h := ih (fun x hx => hd x (List.mem_cons_of_mem _ hx)) (a * 10 + (c.toNat - 48))
    unfold dig at hc
    rw [fD_cons, pow10_cons, ← Nat.mul_assoc]
    generalize (10 : Nat) ^ r.length = P at *
    exact Nat.lt_of_lt_of_le h (Nat.mul_le_mul_right P (by omega))
def Canon (l : List UInt8) : Prop := l ≠ [] ∧ (∀ c ∈ l, dig c) ∧ (1 < l.length → l.head? ≠ some 48)
instance (l : List UInt8) : Decidable (Canon l) := by unfold Canon; infer_instance
theorem ofNat_dig {d : Nat} (h : d < 10) : (UInt8.ofNat (48 + d)).toNat = 48 + d := by
  rw [UInt8.toNat_ofNat']; omega
theorem dec_canon (n : Nat) : Canon (Lib.decDigits n) ∧ valD (Lib.decDigits n) = n ∧ (0 < n → (Lib.decDigits n).head? ≠ some 48) := by
  induction n using Nat.strongRecOn with
  | ind n ih =>
    by_cases h : n < 10
    · rw [Lib.decDigits, dif_pos h]
      refine ⟨⟨by simp, fun c hc => ?_, by simp⟩, ?_, fun h0 => ?_⟩
      · have hc := List.mem_singleton.1 hc
        subst hc
        unfold dig
        rw [ofNat_dig h]
        omega
      · unfold valD
        rw [fD_cons, fD_nil, ofNat_dig h]
        omega
      · simp only [List.head?_cons, ne_eq, Option.some.injEq]
        intro e
        have := congrArg UInt8.toNat e
        rw [ofNat_dig h] at this
        have h48 : (48 : UInt8).toNat = 48 := rfl
        omega
    · obtain ⟨⟨h1, h2, h3⟩, h4, h5⟩ := ih (n / 10) (by omega)
      rw [Lib.decDigits, dif_neg h]
      have hh : (Lib.decDigits (n / 10) ++ [UInt8.ofNat (48 + n % 10)]).head? = (Lib.decDigits (n / 10)).head? := by
        cases hl : Lib.decDigits (n / 10) with
        | nil => exact absurd hl h1
        | cons a b => rfl
      have hne := h5 (by omega)
      refine ⟨⟨by simp, fun c hc => ?_, fun _ => by rw [hh]; exact hne⟩, ?_, fun _ => by rw [hh]; exact hne⟩
      · rcases List.mem_append.1 hc with hc | hc
        · exact h2 c hc
        · have hc := List.mem_singleton.1 hc
          subst hc
          unfold dig
          rw [ofNat_dig (by omega)]
          omega
      · unfold valD at *
        rw [fD_snoc, h4, ofNat_dig (by omega)]
        omega
theorem snoc_cases (l : List UInt8) (h : l ≠ []) : ∃ m c, l = m ++ [c] := ⟨l.dropLast, l.getLast h, (List.dropLast_concat_getLast h).symm⟩
theorem valD_pos {l : List UInt8} (h : Canon l) (hl : 1 < l.length ∨ l.head? ≠ some 48) : 10 ^ (l.length - 1) ≤ valD l := by
  obtain ⟨h1, h2, h3⟩ := h
  have hne : l.head? ≠ some 48 := by rcases hl with hl | hl; exact h3 hl; exact hl
  cases l with
  | nil => exact absurd rfl h1
  | cons c r =>
    have hc := h2 c (List.mem_cons_self ..)
    have hc2 : c.toNat ≠ 48 := fun e => hne (by
      have : c = 48 := UInt8.toNat_inj.1 (by rw [e]; rfl)
      rw [this]; rfl)
    unfold dig at hc
    have := fD_ge r (0 * 10 + (c.toNat - 48))
    have h4 : 1 * 10 ^ r.length ≤ (0 * 10 + (c.toNat - 48)) * 10 ^ r.length := Nat.mul_le_mul_right _ (by omega)
    unfold valD
    rw [fD_cons, List.length_cons, Nat.add_sub_cancel]
    rw [Nat.one_mul] at h4
    exact Nat.le_trans h4 this
theorem canon_dec : ∀ (n : Nat) (l : List UInt8), l.length = n → Canon l → Lib.decDigits (valD l) = l := by
  intro n
  induction n with
  | zero => intro l hl h; exact absurd (List.length_eq_zero_iff.1 hl) h.1
  | succ n ih =>
    intro l hl h
    obtain ⟨m, c, rfl⟩ := snoc_cases l h.1
    have hc := h.2.1 c (by simp)
    have hc' : UInt8.ofNat (48 + (c.toNat - 48)) = c := by
      apply UInt8.toNat_inj.1
      unfold dig at hc
      rw [ofNat_dig (by omega)]
      omega
    have hv : valD (m ++ [c]) = valD m * 10 + (c.toNat - 48) := fD_snoc m 0 c
    have hd : c.toNat - 48 < 10 := by unfold dig at hc; omega
    by_cases hm : m = []
    · subst hm
      have hv0 : valD [] = 0 := by unfold valD; rw [fD_nil]
      rw [hv, hv0, Nat.zero_mul, Nat.zero_add, Lib.decDigits, dif_pos hd, hc']
      rfl
    · have hh : (m ++ [c]).head? = m.head? := by cases m with | nil => exact absurd rfl hm | cons a b => rfl
      have hlm : 1 ≤ m.length := by cases m with | nil => exact absurd rfl hm | cons a b => simp
      have hne := h.2.2 (by simp; omega)
      rw [hh] at hne
      have hcm : Canon m := ⟨hm, fun x hx => h.2.1 x (by simp [hx]), fun _ => hne⟩
      have hp := valD_pos hcm (Or.inr hne)
      have hp1 : 1 ≤ valD m := Nat.le_trans (Nat.pow_pos (by decide)) hp
      rw [hv, Lib.decDigits, dif_neg (by omega), show (valD m * 10 + (c.toNat - 48)) / 10 = valD m by omega, show (valD m * 10 + (c.toNat - 48)) % 10 = c.toNat - 48 by omega, ih m (by simp at hl; exact hl) hcm, hc']
theorem parse_ok (l : List UInt8) (a : Nat) (hd : ∀ c ∈ l, dig c) (h : fD a l < 18446744073709551616) : Lib.parseUint10 a l = .ok (fD a l) := by
  induction l generalizing a with
  | nil => rw [fD_nil]; unfold Lib.parseUint10; rfl
  | cons c r ih =>
    have hc := hd c (List.mem_cons_self ..)
    have h2 := fD_le r (a * 10 + (c.toNat - 48))
    have h3 := fD_cons a c r
    unfold Lib.parseUint10
    unfold dig at hc
    rw [if_pos hc, if_neg (by omega), if_neg (by omega), h3]
    exact ih _ (fun x hx => hd x (List.mem_cons_of_mem _ hx)) (by omega)
theorem atoi_canon (l : List UInt8) (h : Canon l) (hv : valD l < 9223372036854775808) : Lib.atoiAll l = .ok (valD l) := by
  obtain ⟨h1, h2, _⟩ := h
  cases l with
  | nil => exact absurd rfl h1
  | cons c r =>
    have hc := h2 c (List.mem_cons_self ..)
    unfold dig at hc
    have hp : Lib.parseMag (c :: r) = .ok (valD (c :: r)) := by
      unfold Lib.parseMag
      rw [if_neg (by simp)]
      exact parse_ok _ 0 h2 (by unfold valD at hv; omega)
    unfold Lib.atoiAll
    simp only []
    rw [if_neg (by omega), hp]
    simp only []
    rw [if_neg (by omega), if_neg (by omega), if_neg (by omega)]
def rdOk (l : List UInt8) (most : Int) : Prop := Canon l ∧ (valD l : Int) ≤ most
instance (l : List UInt8) (m : Int) : Decidable (rdOk l m) := by unfold rdOk; infer_instance
def rdV (l : List UInt8) (most : Int) : Int := if rdOk l most then valD l else 0
def rdE (l : List UInt8) (most : Int) : Int := if rdOk l most then 0 else 102
theorem rd_ok {l : List UInt8} {most : Int} (h : rdOk l most) : rdV l most = valD l ∧ rdE l most = 0 := by unfold rdV rdE; rw [if_pos h, if_pos h]; exact ⟨rfl, rfl⟩
theorem rd_no {l : List UInt8} {most : Int} (h : ¬ rdOk l most) : rdV l most = 0 ∧ rdE l most = 102 := by unfold rdV rdE; rw [if_neg h, if_neg h]; exact ⟨rfl, rfl⟩
end Go.Proofs.YtcbnlfghhcpkmaaDoor
namespace Go.Proofs.YtcbnlfghhcpkmaaDoor
open Go.RowKit
theorem info_u8 : (Tryd.prog.info? 5).map (fun i => (i.zero, i.size, i.bytes)) = some (some (.int .u8 0), 1, 1) := by kernel_rfl
theorem size_u8 : ∀ w, Sem.run Tryd.prog (Go.sizeOf 5) w = .ok 1 w := fun w => by
  obtain ⟨i0, hi, hz0, hz1, hz2⟩ := info_parts info_u8
  simp [Go.sizeOf, typeInfo, hi, hz1]
theorem eql_nil_bytes : ∀ (w : World) (a : Option Addr) (n c n' c' : Nat), (binOp .eql 27 (.slice a n c) (.slice none n' c')).run Tryd.prog w = .ok (.bool a.isNone) w :=
  fun w a n c n' c' => Lib.run_eql_slice_nil w _ _ a n c n' c' Tryd.underlying27
def bS (l : List Int) : ByteArray := ⟨(l.map fun x => UInt8.ofNat x.toNat).toArray⟩
def sB (s : ByteArray) : List Int := s.data.toList.map fun b => (b.toNat : Int)
def Byt8 (l : List Int) : Prop := ∀ x ∈ l, 0 ≤ x ∧ x < 256
theorem sB_bS {l : List Int} (h : Byt8 l) : sB (bS l) = l := by
  unfold sB bS
  simp only [List.map_map]
  have : ∀ x ∈ l, ((fun b : UInt8 => (b.toNat : Int)) ∘ fun x : Int => UInt8.ofNat x.toNat) x = x := by
    intro x hx
    have := h x hx
    simp only [Function.comp, UInt8.toNat_ofNat']
    omega
  rw [List.map_congr_left this, List.map_id']
theorem bS_sB (s : ByteArray) : bS (sB s) = s := by
  unfold sB bS
  simp only [List.map_map]
  have : ∀ x ∈ s.data.toList, ((fun x : Int => UInt8.ofNat x.toNat) ∘ fun b : UInt8 => (b.toNat : Int)) x = x := by
    intro x hx
    simp
  rw [List.map_congr_left this, List.map_id']
theorem sB_byt (s : ByteArray) : Byt8 (sB s) := by
  intro x hx
  obtain ⟨b, _, rfl⟩ := List.mem_map.1 hx
  have := b.toNat_lt
  omega
theorem sB_length (s : ByteArray) : (sB s).length = s.size := by
  unfold sB
  rw [List.length_map]
  exact (Lib.size_eq s).symm
theorem bS_size (l : List Int) : (bS l).size = l.length := by
  simp [bS, ByteArray.size]
theorem sB_inj {a b : ByteArray} (h : sB a = sB b) : a = b := by rw [← bS_sB a, h, bS_sB]
theorem sB_get (s : ByteArray) (i : Nat) (h : i < s.size) : (s[i].toNat : Int) = (sB s).getD i 0 := by
  have h2 : i < (sB s).length := by rw [sB_length]; exact h
  rw [getD_of_lt h2]
  simp [sB]
  rfl
theorem sB_cut (s : ByteArray) (a b : Nat) : sB (s.extract a b) = ((sB s).drop a).take (b - a) := by
  unfold sB
  rw [Lib.extract_data, List.map_take, List.map_drop]
theorem sB_app (a b : ByteArray) : sB (a ++ b) = sB a ++ sB b := by
  unfold sB
  rw [← List.map_append]
  congr 1
theorem eq_iff_sB (a b : ByteArray) : (a.toList == b.toList) = decide (sB a = sB b) := by
  rw [ByteArray.toList_eq, ByteArray.toList_eq]
  by_cases h : a = b
  · subst h; simp
  · have h2 : ¬ sB a = sB b := fun e => h (sB_inj e)
    have h3 : ¬ a.data.toList = b.data.toList := by
      intro e
      apply h2
      unfold sB
      rw [e]
    simp [h2, h3]
    intro e
    exact h3 (by rw [e])
end Go.Proofs.YtcbnlfghhcpkmaaDoor
namespace Go.Proofs.YtcbnlfghhcpkmaaDoor
open Go
abbrev Rw := ByteArray × List Int
def leS (a b : ByteArray) : Bool := Op.bytesLess a.toList b.toList || a.toList == b.toList
def dgL (n : Nat) : List Int := (Lib.decDigits n).map fun b => (b.toNat : Int)
def fld (l : List Int) : List Int := dgL l.length ++ 58 :: (l ++ [44])
def rowL (r : Rw) : List Int := fld (sB r.1) ++ fld r.2
def packL : List Rw → List Int
  | [] => []
  | r :: t => rowL r ++ packL t
def RwB (r : Rw) : Prop := Byt8 r.2
theorem dgL_dig (n : Nat) : ∀ x ∈ dgL n, 48 ≤ x ∧ x ≤ 57 := by
  intro x hx
  obtain ⟨b, hb, rfl⟩ := List.mem_map.1 hx
  have := (dec_canon n).1.2.1 b hb
  unfold dig at this
  omega
theorem dgL_no (n : Nat) : (58 : Int) ∉ dgL n := fun h => by have := dgL_dig n _ h; omega
theorem dgL_byt (n : Nat) : Byt8 (dgL n) := fun x hx => by have := dgL_dig n x hx; omega
theorem bytesOf_dgL (n : Nat) : Lib.bytesOf (dgL n) = Lib.decDigits n := by
  unfold Lib.bytesOf dgL
  rw [List.map_map]
  have : ∀ x ∈ Lib.decDigits n, ((fun x : Int => UInt8.ofNat x.toNat) ∘ fun b : UInt8 => (b.toNat : Int)) x = x := by
    intro x hx
    simp
  rw [List.map_congr_left this, List.map_id']
theorem dgL_inj {m n : Nat} (h : dgL m = dgL n) : m = n := by
  have h2 : Lib.decDigits m = Lib.decDigits n := by rw [← bytesOf_dgL, h, bytesOf_dgL]
  rw [← (dec_canon m).2.1, h2, (dec_canon n).2.1]
theorem dgL_length (n : Nat) : (dgL n).length = (Lib.decDigits n).length := by unfold dgL; rw [List.length_map]
theorem split58 : ∀ {a b x y : List Int}, (58 : Int) ∉ a → (58 : Int) ∉ b → a ++ 58 :: x = b ++ 58 :: y → a = b ∧ x = y
  | [], [], x, y, _, _, h => ⟨rfl, by simpa using h⟩
  | [], c :: b, x, y, _, hb, h => by
    simp only [List.nil_append, List.cons_append, List.cons.injEq] at h
    exact absurd (h.1 ▸ List.mem_cons_self ..) hb
  | c :: a, [], x, y, ha, _, h => by
    simp only [List.nil_append, List.cons_append, List.cons.injEq] at h
    exact absurd (h.1 ▸ List.mem_cons_self ..) ha
  | c :: a, d :: b, x, y, ha, hb, h => by
    simp only [List.cons_append, List.cons.injEq] at h
    obtain ⟨h1, h2⟩ := split58 (fun q => ha (List.mem_cons_of_mem _ q)) (fun q => hb (List.mem_cons_of_mem _ q)) h.2
    exact ⟨by rw [h.1, h1], h2⟩
theorem fld_app (f x : List Int) : fld f ++ x = dgL f.length ++ 58 :: (f ++ 44 :: x) := by unfold fld; simp
theorem fld_inj {f g x y : List Int} (h : fld f ++ x = fld g ++ y) : f = g ∧ x = y := by
  rw [fld_app, fld_app] at h
  obtain ⟨h1, h2⟩ := split58 (dgL_no _) (dgL_no _) h
  obtain ⟨h3, h4⟩ := List.append_inj h2 (dgL_inj h1)
  exact ⟨h3, by simpa using h4⟩
theorem row_inj {r s : Rw} {x y : List Int} (h : rowL r ++ x = rowL s ++ y) : r = s ∧ x = y := by
  unfold rowL at h
  rw [List.append_assoc, List.append_assoc] at h
  obtain ⟨h1, h2⟩ := fld_inj h
  obtain ⟨h3, h4⟩ := fld_inj h2
  exact ⟨Prod.ext (sB_inj h1) h3, h4⟩
theorem fld_len (f : List Int) : (fld f).length = (dgL f.length).length + f.length + 2 := by unfold fld; simp; omega
theorem dgL_pos (n : Nat) : 1 ≤ (dgL n).length := by
  rw [dgL_length]
  have := (dec_canon n).1.1
  cases h : Lib.decDigits n with
  | nil => exact absurd h this
  | cons a b => simp
theorem row_len (r : Rw) : 6 ≤ (rowL r).length := by
  unfold rowL
  rw [List.length_append, fld_len, fld_len]
  have := dgL_pos (sB r.1).length
  have := dgL_pos r.2.length
  omega
theorem packL_app (a b : List Rw) : packL (a ++ b) = packL a ++ packL b := by
  induction a with
  | nil => rfl
  | cons r t ih => rw [List.cons_append, packL, packL, ih, List.append_assoc]
theorem packL_snoc (a : List Rw) (r : Rw) : packL (a ++ [r]) = packL a ++ rowL r := by rw [packL_app, packL, packL, List.append_nil]
theorem pack_split : ∀ (rs rows : List Rw) (x : List Int), packL rs ++ x = packL rows → ∃ t, rows = rs ++ t ∧ x = packL t
  | [], rows, x, h => ⟨rows, rfl, h⟩
  | r :: rs, [], x, h => by
    have := congrArg List.length h
    rw [packL, packL, List.length_append, List.length_append, List.length_nil] at this
    have := row_len r
    omega
  | r :: rs, s :: rows, x, h => by
    rw [packL, packL, List.append_assoc] at h
    obtain ⟨rfl, h2⟩ := row_inj h
    obtain ⟨t, rfl, rfl⟩ := pack_split rs rows x h2
    exact ⟨t, rfl, rfl⟩
theorem pack_inj {a b : List Rw} (h : packL a = packL b) : a = b := by
  obtain ⟨t, rfl, h2⟩ := pack_split a b [] (by rw [List.append_nil]; exact h)
  cases t with
  | nil => rw [List.append_nil]
  | cons r t =>
    have := congrArg List.length h2
    rw [packL, List.length_append, List.length_nil] at this
    have := row_len r
    omega
def okRow (last : ByteArray) (r : Rw) : Prop := leS r.1 last = false ∧ r.1.size ≤ 64 ∧ r.2.length ≤ 65536
instance (last : ByteArray) (r : Rw) : Decidable (okRow last r) := by unfold okRow; infer_instance
def okRows : ByteArray → List Rw → Prop
  | _, [] => True
  | last, r :: t => okRow last r ∧ okRows r.1 t
instance : ∀ (l : List Rw) (last : ByteArray), Decidable (okRows last l)
  | [], _ => by unfold okRows; infer_instance
  | r :: t, last => by
    unfold okRows
    have := instDecidableOkRows t r.1
    infer_instance
def lastN : ByteArray → List Rw → ByteArray
  | last, [] => last
  | _, r :: t => lastN r.1 t
def noS : ByteArray := ⟨#[]⟩
def mayT (l : List Rw) : Prop := l.length ≤ 64 ∧ okRows noS l
instance (l : List Rw) : Decidable (mayT l) := by unfold mayT; infer_instance
theorem okRows_app : ∀ (a b : List Rw) (last : ByteArray), okRows last (a ++ b) ↔ okRows last a ∧ okRows (lastN last a) b
  | [], b, last => by simp [okRows, lastN]
  | r :: a, b, last => by
    rw [List.cons_append, okRows, okRows, okRows_app a b r.1, lastN, and_assoc]
theorem okRows_snoc (a : List Rw) (r : Rw) (last : ByteArray) : okRows last (a ++ [r]) ↔ okRows last a ∧ okRow (lastN last a) r := by
  rw [okRows_app, okRows, okRows, and_true]
theorem lastN_app : ∀ (a b : List Rw) (last : ByteArray), lastN last (a ++ b) = lastN (lastN last a) b
  | [], b, last => rfl
  | r :: a, b, last => by rw [List.cons_append, lastN, lastN, lastN_app a b r.1]
theorem lastN_snoc (a : List Rw) (r : Rw) (last : ByteArray) : lastN last (a ++ [r]) = r.1 := by rw [lastN_app, lastN, lastN]
theorem okRows_take {a : List Rw} {last : ByteArray} (h : okRows last a) (i : Nat) : okRows last (a.take i) := by
  rw [← List.take_append_drop i a, okRows_app] at h
  exact h.1
theorem mayT_take {a : List Rw} (h : mayT a) (i : Nat) : mayT (a.take i) := ⟨by have := h.1; rw [List.length_take]; omega, okRows_take h.2 i⟩
def UnpQ (l : List Int) (rows : List Rw) (at_ : Nat) (e : Int) : Prop :=
  (e = 0 ∧ at_ = 0 ∧ mayT rows ∧ packL rows = l) ∨
  (e = 131 ∧ rows = [] ∧ at_ < l.length ∧ ∃ rs, mayT rs ∧ packL rs = l.take at_ ∧ ∀ r x, rs.length < 64 → okRow (lastN noS rs) r → l.drop at_ ≠ rowL r ++ x)
theorem UnpQ.of_pack {rows t : List Rw} {a : Nat} {e : Int} (hm : mayT rows) (h : UnpQ (packL rows) t a e) : e = 0 ∧ a = 0 ∧ t = rows := by
  rcases h with ⟨h1, h2, h3, h4⟩ | ⟨h1, h2, h3, rs, h4, h5, h6⟩
  · exact ⟨h1, h2, pack_inj h4⟩
  · exfalso
    obtain ⟨u, hu, hx⟩ := pack_split rs rows ((packL rows).drop a) (by rw [h5, List.take_append_drop])
    cases u with
    | nil =>
      have := congrArg List.length hx
      rw [packL, List.length_nil, List.length_drop] at this
      omega
    | cons r u =>
      have h7 := hm.2
      rw [hu, okRows_app, okRows] at h7
      have h8 := hm.1
      rw [hu, List.length_append, List.length_cons] at h8
      exact h6 r (packL u) (by omega) h7.2.1 (by rw [hx, packL])
theorem UnpQ.one {l : List Int} {r s : List Rw} {a b : Nat} {e f : Int} (h : UnpQ l r a e) (g : UnpQ l s b f) (he : e = 0) : f = 0 ∧ b = 0 ∧ s = r := by
  rcases h with ⟨_, _, h3, h4⟩ | ⟨h1, _⟩
  · rw [← h4] at g
    exact g.of_pack h3
  · omega
theorem pack_take_lt (rows : List Rw) (i : Nat) (h : i < rows.length) : (packL (rows.take i)).length < (packL (rows.take (i + 1))).length := by
  rw [List.take_succ_eq_append_getElem h, packL_snoc, List.length_append]
  have := row_len rows[i]
  omega
theorem pack_take_le (rows : List Rw) (i j : Nat) (h : i ≤ j) : (packL (rows.take i)).length ≤ (packL (rows.take j)).length := by
  have : rows.take i = (rows.take j).take i := by rw [List.take_take, Nat.min_eq_left h]
  rw [this]
  conv => rhs; rw [← List.take_append_drop i (rows.take j), packL_app, List.length_append]
  omega
theorem pack_take_pre (rows : List Rw) (i : Nat) : packL (rows.take i) = (packL rows).take (packL (rows.take i)).length := by
  conv => rhs; rw [← List.take_append_drop i rows]
  rw [packL_app, List.take_append_drop, List.take_left']
  rfl
theorem cut_hit {rows t : List Rw} {a : Nat} {e : Int} {k i : Nat} (hm : mayT rows) (h : UnpQ ((packL rows).take k) t a e) (hi : (packL (rows.take i)).length = k) : e = 0 ∧ a = 0 ∧ t = rows.take i := by
  rw [← hi, ← pack_take_pre] at h
  exact h.of_pack (mayT_take hm i)
theorem cut_miss {rows t : List Rw} {a : Nat} {e : Int} {k : Nat} (hk : k ≤ (packL rows).length) (h : UnpQ ((packL rows).take k) t a e) (hi : ∀ i, i ≤ rows.length → (packL (rows.take i)).length ≠ k) : e = 131 ∧ t = [] ∧ a < k := by
  rcases h with ⟨h1, h2, h3, h4⟩ | ⟨h1, h2, h3, _⟩
  · exfalso
    obtain ⟨u, hu, _⟩ := pack_split t rows ((packL rows).drop k) (by rw [h4, List.take_append_drop])
    refine hi t.length (by rw [hu]; simp) ?_
    rw [hu, List.take_left', h4, List.length_take]
    · omega
    · rfl
  · rw [List.length_take] at h3
    exact ⟨h1, h2, by omega⟩
theorem idx58 : ∀ (xs : List Int), Byt8 xs → (Lib.indexByte (Lib.bytesOf xs) 58 = -1 ∧ (58 : Int) ∉ xs) ∨ ∃ pre suf, xs = pre ++ 58 :: suf ∧ (58 : Int) ∉ pre ∧ Lib.indexByte (Lib.bytesOf xs) 58 = pre.length
  | [], _ => Or.inl ⟨rfl, by simp⟩
  | x :: xs, h => by
    have hx := h x (List.mem_cons_self ..)
    have he : Lib.bytesOf (x :: xs) = UInt8.ofNat x.toNat :: Lib.bytesOf xs := rfl
    by_cases hc : x = 58
    · subst hc
      refine Or.inr ⟨[], xs, rfl, by simp, ?_⟩
      rw [he, Lib.indexByte]
      rfl
    · have hb : (UInt8.ofNat x.toNat == 58) = false := by
        rw [beq_eq_false_iff_ne]
        intro e
        have := congrArg UInt8.toNat e
        rw [UInt8.toNat_ofNat'] at this
        have h58 : (58 : UInt8).toNat = 58 := rfl
        omega
      rcases idx58 xs (fun y hy => h y (List.mem_cons_of_mem _ hy)) with ⟨h1, h2⟩ | ⟨pre, suf, h1, h2, h3⟩
      · refine Or.inl ⟨?_, fun hm => ?_⟩
        · rw [he, Lib.indexByte, hb, h1]; rfl
        · rcases List.mem_cons.1 hm with hm | hm
          · exact hc hm.symm
          · exact h2 hm
      · refine Or.inr ⟨x :: pre, suf, by rw [h1, List.cons_append], fun hm => ?_, ?_⟩
        · rcases List.mem_cons.1 hm with hm | hm
          · exact hc hm.symm
          · exact h2 hm
        · rw [he, Lib.indexByte, hb, h3]
          have : ((pre.length : Int) == -1) = false := by rw [beq_eq_false_iff_ne]; omega
          rw [this]
          simp
theorem dec_len_mono : ∀ (n m : Nat), m ≤ n → (Lib.decDigits m).length ≤ (Lib.decDigits n).length := by
  intro n
  induction n using Nat.strongRecOn with
  | ind n ih =>
    intro m hm
    by_cases h : n < 10
    · rw [Lib.decDigits, dif_pos (by omega), Lib.decDigits, dif_pos h]
      simp
    · by_cases h2 : m < 10
      · rw [Lib.decDigits, dif_pos h2]
        conv => rhs; rw [Lib.decDigits, dif_neg h]
        simp
      · rw [Lib.decDigits, dif_neg h2]
        conv => rhs; rw [Lib.decDigits, dif_neg h]
        have := ih (n / 10) (by omega) (m / 10) (by omega)
        simp only [List.length_append, List.length_singleton]
        omega
theorem fld_none {l : List Int} {most : Nat} (h : (58 : Int) ∉ l.take ((dgL most).length + 1)) (f x : List Int) (hf : f.length ≤ most) : l ≠ fld f ++ x := by
  intro e
  apply h
  rw [e, fld_app]
  have h1 := dec_len_mono most f.length hf
  rw [← dgL_length, ← dgL_length] at h1
  rw [List.take_append]
  apply List.mem_append.2
  right
  rw [show (dgL most).length + 1 - (dgL f.length).length = ((dgL most).length - (dgL f.length).length) + 1 by omega, List.take_succ_cons]
  exact List.mem_cons_self ..
theorem take_colon {l pre suf : List Int} {n : Nat} (h : l.take n = pre ++ 58 :: suf) : ∃ l', l = pre ++ 58 :: l' ∧ pre.length < n := by
  refine ⟨suf ++ l.drop n, ?_, ?_⟩
  · conv => lhs; rw [← List.take_append_drop n l, h]
    simp
  · have := congrArg List.length h
    rw [List.length_take, List.length_append, List.length_cons] at this
    omega
theorem fld_bad {l pre l' : List Int} {most : Nat} (h : l = pre ++ 58 :: l') (hn : (58 : Int) ∉ pre) (hr : ¬ rdOk (Lib.bytesOf pre) (most : Int)) (f x : List Int) (hf : f.length ≤ most) : l ≠ fld f ++ x := by
  intro e
  rw [h, fld_app] at e
  obtain ⟨h1, _⟩ := split58 hn (dgL_no _) e
  apply hr
  rw [h1, bytesOf_dgL]
  obtain ⟨h2, h3, _⟩ := dec_canon f.length
  exact ⟨h2, by rw [h3]; omega⟩
theorem pre_dgL {pre : List Int} {most : Int} (hb : Byt8 pre) (hr : rdOk (Lib.bytesOf pre) most) : pre = dgL (valD (Lib.bytesOf pre)) := by
  have h := canon_dec _ _ rfl hr.1
  unfold dgL
  rw [h]
  unfold Lib.bytesOf
  rw [List.map_map]
  have : ∀ x ∈ pre, ((fun b : UInt8 => (b.toNat : Int)) ∘ fun x : Int => UInt8.ofNat x.toNat) x = x := by
    intro x hx
    have := hb x hx
    simp only [Function.comp, UInt8.toNat_ofNat']
    omega
  rw [List.map_congr_left this, List.map_id']
theorem fld_short {l l' : List Int} {v most : Nat} (h : l = dgL v ++ 58 :: l') (hs : l'.length ≤ v ∨ l'.getD v 0 ≠ 44) (f x : List Int) (hf : f.length ≤ most) : l ≠ fld f ++ x := by
  intro e
  rw [h, fld_app] at e
  obtain ⟨h1, h2⟩ := split58 (dgL_no _) (dgL_no _) e
  have h3 := dgL_inj h1
  subst h3
  rcases hs with hs | hs
  · rw [h2, List.length_append, List.length_cons] at hs
    omega
  · apply hs
    rw [h2]
    simp
theorem fld_hit {l l' : List Int} {v : Nat} (h : l = dgL v ++ 58 :: l') (hs : v < l'.length) (hc : l'.getD v 0 = 44) : l = fld (l'.take v) ++ l'.drop (v + 1) ∧ (l'.take v).length = v := by
  have hl : (l'.take v).length = v := by rw [List.length_take]; omega
  refine ⟨?_, hl⟩
  rw [fld_app, hl, h]
  congr 2
  conv => lhs; rw [← List.take_append_drop v l']
  rw [List.drop_eq_getElem_cons hs]
  congr 2
  rw [← hc]
  simp [List.getD, List.getElem?_eq_getElem hs]
end Go.Proofs.YtcbnlfghhcpkmaaDoor
namespace Go.Proofs.YtcbnlfghhcpkmaaDoor
open Go.RowKit
theorem own_mono {w : World} {B B' e n : Nat} {v : Value} {xs : List Value} (h : w.ownsRow B e 1 v n xs) (hb : B' ≤ B) : w.ownsRow B' e 1 v n xs := by
  refine ⟨h.1, ?_⟩
  rcases h.2 with h2 | ⟨g, cap, cur, h1, h2, h3⟩
  · exact .inl h2
  · exact .inr ⟨g, cap, cur, h1, Nat.le_trans hb h2, h3⟩
theorem own_slc {w : World} {B n : Nat} {e : TypeId} {v : Value} {xs : List Value} (h : w.ownsRow B e 1 v n xs) : ∃ p c, v = .slice p n c := by
  rcases h.2 with ⟨rfl, rfl⟩ | ⟨g, cap, cur, rfl, _⟩
  · exact ⟨none, 0, rfl⟩
  · exact ⟨_, _, rfl⟩
theorem none_or (z : Option Nat) : z = none ∨ z ≠ none := by cases z <;> simp
theorem own_below {w w' : World} {B n : Nat} {e : TypeId} {v : Value} {xs : List Value} (h : w.ownsRow B e 1 v n xs) (hb : Below w.heap.size w w') : w'.ownsRow B e 1 v n xs :=
  h.kept ⟨hb.os, hb.tape, hb.output, hb.size, fun k hk _ => hb.block k hk⟩ (none_or _)
theorem own_ne {w w' : World} {B B' n n' : Nat} {e e' : TypeId} {v v' : Value} {xs xs' : List Value} (h : w.ownsRow B e 1 v n xs) (h' : w'.ownsRow B' e' 1 v' n' xs') (hb : w.heap.size ≤ B') :
    (v.ownBlock = none ∨ v.ownBlock ≠ v'.ownBlock) ∧ (v'.ownBlock = none ∨ v'.ownBlock ≠ v.ownBlock) := by
  constructor
  · rcases none_or v.ownBlock with q | q
    · exact .inl q
    · refine .inr fun e => ?_
      obtain ⟨k, hk⟩ := Option.ne_none_iff_exists'.1 q
      have h1 := h.lt k hk
      have h2 := h'.lt k (e ▸ hk)
      omega
  · rcases none_or v'.ownBlock with q | q
    · exact .inl q
    · refine .inr fun e => ?_
      obtain ⟨k, hk⟩ := Option.ne_none_iff_exists'.1 q
      have h1 := h'.lt k hk
      have h2 := h.lt k (e ▸ hk)
      omega
def rw0 : Rw := (noS, [])
theorem range_below2 {w w' : World} {b o : Nat} {cs : List Value} (h : w.rangeAt b o cs) (hB : Below w.heap.size w w') (hb : b < w.heap.size) : w'.rangeAt b o cs := fun j u hj => (hB.cell hb).trans (h j u hj)
def HRw (w : World) (v : Value) (rs : List Rw) : Prop :=
  ∃ (p : Option Addr) (c : Nat), v = .slice p rs.length c ∧ rs.length ≤ c ∧ c ≤ maxLen ∧
    (rs ≠ [] → ∃ b off, p = some ⟨b, off, none⟩ ∧ ∀ i, i < rs.length → ∃ u, w.rangeAt b (off + i * 2) [.string (rs.getD i rw0).1, u] ∧ HB w u (rs.getD i rw0).2)
theorem HRw.open {w : World} {v : Value} {rs : List Rw} (h : HRw w v rs) : ∃ (p : Option Addr) (c : Nat), v = .slice p rs.length c ∧ rs.length ≤ c ∧ c ≤ maxLen ∧
    (0 < rs.length → ∃ b off, p = some ⟨b, off, none⟩ ∧ b < w.heap.size ∧ ∀ i, i < rs.length → ∃ u, w.rangeAt b (off + i * 2) [.string (rs.getD i rw0).1, u] ∧ HB w u (rs.getD i rw0).2) := by
  obtain ⟨p, c, h1, h2, h3, h4⟩ := h
  refine ⟨p, c, h1, h2, h3, fun h0 => ?_⟩
  obtain ⟨b, off, q1, q2⟩ := h4 (fun e => by rw [e] at h0; cases h0)
  refine ⟨b, off, q1, ?_, q2⟩
  obtain ⟨u, hu, _⟩ := q2 0 h0
  exact World.block_lt_of_cell? w _ (hu 0 _ rfl)
theorem HRw.below {w w' : World} {v : Value} {rs : List Rw} (h : HRw w v rs) (hB : Below w.heap.size w w') : HRw w' v rs := by
  obtain ⟨p, c, h1, h2, h3, h4⟩ := h.open
  refine ⟨p, c, h1, h2, h3, fun hne => ?_⟩
  obtain ⟨b, off, q1, q2, q3⟩ := h4 (List.length_pos_iff.2 hne)
  refine ⟨b, off, q1, fun i hi => ?_⟩
  obtain ⟨u, hu, hv⟩ := q3 i hi
  exact ⟨u, range_below2 hu hB q2, hv.below hB⟩
theorem HRw.nil (w : World) : HRw w (.slice none 0 0) [] := ⟨none, 0, rfl, Nat.le_refl _, Nat.zero_le _, fun h => absurd rfl h⟩
theorem HRw.byt {w : World} {v : Value} {rs : List Rw} (h : HRw w v rs) : ∀ r ∈ rs, Byt8 r.2 := by
  intro r hr
  obtain ⟨p, c, h1, h2, h3, h4⟩ := h
  obtain ⟨b, off, _, q⟩ := h4 (fun e => by rw [e] at hr; cases hr)
  obtain ⟨i, hi, rfl⟩ := List.getElem_of_mem hr
  obtain ⟨u, _, hv⟩ := q i hi
  have e : rs.getD i rw0 = rs[i] := by simp [List.getD, List.getElem?_eq_getElem hi]
  rw [e] at hv
  exact hv.2
theorem HRw.pre {w : World} {p : Option Addr} {n c k : Nat} {rs : List Rw} (h : HRw w (.slice p n c) rs) (hk : k ≤ rs.length) : HRw w (.slice p k c) (rs.take k) := by
  obtain ⟨p', c', h1, h2, h3, h4⟩ := h
  injection h1 with e1 e2 e3
  subst e1 e2 e3
  have hl : (rs.take k).length = k := by rw [List.length_take]; omega
  refine ⟨p, c, by rw [hl], by rw [hl]; omega, h3, fun hne => ?_⟩
  obtain ⟨b, off, q1, q2⟩ := h4 (fun e => hne (by rw [e]; simp))
  refine ⟨b, off, q1, fun i hi => ?_⟩
  rw [hl] at hi
  obtain ⟨u, hu, hv⟩ := q2 i (by omega)
  have e : (rs.take k).getD i rw0 = rs.getD i rw0 := by simp [List.getD, List.getElem?_take, hi]
  rw [e]
  exact ⟨u, hu, hv⟩
def rcs : List Rw → List Value → List Value
  | r :: rs, v :: vs => .string r.1 :: v :: rcs rs vs
  | _, _ => []
theorem rcs_app : ∀ (a : List Rw) (x : List Value) (b : List Rw) (y : List Value), a.length = x.length → rcs (a ++ b) (x ++ y) = rcs a x ++ rcs b y
  | [], [], b, y, _ => rfl
  | [], v :: x, b, y, h => by cases h
  | r :: a, [], b, y, h => by cases h
  | r :: a, v :: x, b, y, h => by
    simp only [List.cons_append, rcs]
    rw [rcs_app a x b y (by simpa using h)]
theorem rcs_length : ∀ (a : List Rw) (x : List Value), a.length = x.length → (rcs a x).length = a.length * 2
  | [], [], _ => rfl
  | [], v :: x, h => by cases h
  | r :: a, [], h => by cases h
  | r :: a, v :: x, h => by
    simp only [rcs, List.length_cons]
    rw [rcs_length a x (by simpa using h)]
    omega
theorem rcs_get : ∀ (a : List Rw) (x : List Value) (i : Nat), a.length = x.length → i < a.length → (rcs a x)[i * 2]? = some (.string (a.getD i rw0).1) ∧ (rcs a x)[i * 2 + 1]? = some (x.getD i (.bool false))
  | [], _, i, _, h => by cases h
  | r :: a, [], i, h, _ => by cases h
  | r :: a, v :: x, 0, _, _ => ⟨rfl, rfl⟩
  | r :: a, v :: x, i + 1, h, hi => by
    have := rcs_get a x i (by simpa using h) (by simpa using hi)
    rw [show (i + 1) * 2 = i * 2 + 2 by omega, show i * 2 + 2 + 1 = (i * 2 + 1) + 2 by omega]
    simp only [rcs, List.getElem?_cons_succ, List.getD_cons_succ]
    exact this
theorem HRw.of_own {w : World} {base : Nat} {e : TypeId} {v : Value} {rs : List Rw} {vs : List Value} (h : w.ownsRow base e 2 v rs.length (rcs rs vs)) (hl : rs.length = vs.length) (hv : ∀ i, i < rs.length → HB w (vs.getD i (.bool false)) (rs.getD i rw0).2) : HRw w v rs := by
  have h0 := h
  rcases h.2 with ⟨rfl, hn⟩ | ⟨g, cap, cur, rfl, hbg, hg, hnc, hcm, hcs, htake⟩
  · exact ⟨none, 0, by rw [hn], by rw [hn]; exact Nat.le_refl _, Nat.zero_le _, fun hne => absurd (List.length_eq_zero_iff.1 hn) hne⟩
  · refine ⟨_, cap, rfl, hnc, hcm, fun _ => ⟨g, 0, rfl, fun i hi => ⟨vs.getD i (.bool false), fun j u hj => ?_, hv i hi⟩⟩⟩
    obtain ⟨q1, q2⟩ := rcs_get rs vs i hl hi
    have hc := fun k u hk => h0.cells (g := g) rfl k u hk
    simp only [Go.WideShapes.add_plain] at hc
    match j, hj with
    | 0, hj =>
      simp only [List.getElem?_cons_zero, Option.some.injEq] at hj
      subst hj
      have := hc _ _ q1
      rw [show (0 : Nat) + i * 2 + 0 = 0 + i * 2 by omega]
      exact this
    | 1, hj =>
      simp only [List.getElem?_cons_succ, List.getElem?_cons_zero, Option.some.injEq] at hj
      subst hj
      have := hc _ _ q2
      rw [show (0 : Nat) + i * 2 + 1 = 0 + (i * 2 + 1) by omega]
      exact this
    | j + 2, hj => simp at hj
end Go.Proofs.YtcbnlfghhcpkmaaDoor
namespace Go.Proofs.YtcbnlfghhcpkmaaDoor
open Go.ChangeShapes Go.WideShapes Go.ChangeAt Go.RowKit
variable {H : Type} {enc : TypeId × Value → H} {W : World}
theorem Opn.cells_row : Tryd.prog.cellsOf 37 = 2 := by kernel_rfl
theorem Opn.cells_strR : Tryd.prog.cellsOf 9 = 1 := by kernel_rfl
theorem Opn.cells_bytesR : Tryd.prog.cellsOf 27 = 1 := by kernel_rfl
theorem weights_memV {P : Program} {e : TypeId} {q : Nat → Bool} {d : DataW H} : ∀ {l : List (DataW H)}, d ∈ l → (DataW.weightsAll P e l).all q = true → (d.weights P e).all q = true
  | [], h, _ => by cases h
  | x :: r, h, k => by
    rw [DataW.weightsAll, List.all_append, Bool.and_eq_true] at k
    rcases List.mem_cons.1 h with rfl | h
    · exact k.1
    · exact weights_memV h k.2
theorem weights_atV {P : Program} {q : Nat → Bool} : ∀ {ts : List TypeId} {ds : List (DataW H)} {j : Nat} {t : TypeId} {d : DataW H}, ts[j]? = some t → ds[j]? = some d → (DataW.weightsEach P ts ds).all q = true → (d.weights P t).all q = true := fun ht hd h =>
  List.all_eq_true.2 fun n hn => List.all_eq_true.1 h n (DataW.weights_mem_each ht hd n hn)
theorem Opn.bytes_row : Tryd.prog.bytesOf 37 = 40 := by kernel_rfl
theorem open_rwV {base fuel : Nat} {cs : List Value} {x : DataW H × List MemPlace} (h : DataW.trod enc Tryd.prog W base (fun _ => true) true fuel 37 cs = some x) : (∃ (r : Rw) (u : Value), (HB W u r.2 ∧ ((x.1.weights Tryd.prog 37).all (· ≤ reachBytes) = true → r.2.length ≤ 140737488351232)) ∧ cs = [.string r.1, u]) := by
  obtain ⟨y0, y1, k, ex, hlen, t0, t1⟩ := trod_struct2 Tryd.underlying37 h
  rw [Opn.cells_row] at hlen
  dsimp only at t0 t1
  rw [Opn.cells_strR] at t0
  rw [Opn.cells_bytesR] at t1
  obtain ⟨s, e1, _⟩ := DataW.trod_string Tryd.underlying9 t0
  obtain ⟨q, c', l, e2, k1, k2, k3, k4, k5, k6⟩ := open_row (d := y1.1) (p := y1.2) Tryd.underlying27 Tryd.underlying5 Opn.cells_u8 t1
  have hHB : HB W (.slice q l.length c') l := ⟨⟨q, c', rfl, k1, k2, k3, k4⟩, byte_wf k5⟩
  have hx6 : (x.1.weights Tryd.prog 37).all (· ≤ reachBytes) = true → l.length ≤ 140737488351232 := fun hw => by
    rw [ex] at hw
    have hw2 : (DataW.weightsEach Tryd.prog [9, 27] [y0.1, y1.1]).all (· ≤ reachBytes) = true := by
      simpa [DataW.weights, Tryd.underlying37] using hw
    refine len_reach (enc := enc) (j := 1) (base := base) (v := .slice q l.length c') (p := y1.2) hw2 rfl rfl ⟨k, ?_⟩ hHB
    rw [e2] at t1
    simpa [Value.cells] using t1
  refine ⟨(s, l), _, ⟨hHB, hx6⟩, ?_⟩
  have h1 : cs = cs.take 1 ++ (cs.drop 1).take 1 := by
    rw [List.take_of_length_le (l := cs.drop 1) (by rw [List.length_drop, hlen]; omega), List.take_append_drop]
  rw [h1, e2]
  have e3 : cs.take 1 = [.string s] := e1
  rw [e3]
  rfl
theorem open_HRv {base : Nat} {v : Value} {d : DataW H} {p : List MemPlace} (h : DataW.Trod enc Tryd.prog W base (fun _ => true) true 22 v d p) (hv : ∃ a n c, v = .slice a n c) : ∃ rs, HRw W v rs ∧ ((d.weights Tryd.prog 22).all (· ≤ reachBytes) = true → rs.length ≤ 3518437208780 ∧ ∀ r ∈ rs, r.2.length ≤ 140737488351232) := by
  obtain ⟨a, n, c, rfl⟩ := hv
  obtain ⟨fuel, hf⟩ := h
  rcases Go.Deep.open_slice Tryd.underlying22 hf with ⟨hcs, hx⟩ | ⟨a, len, cap, m, n, D, Pl, hcs, hb, hl, hm, hmm, hx, hel⟩
  · simp only [Value.cells, List.cons.injEq, and_true] at hcs
    rw [hcs]
    exact ⟨[], HRw.nil _, fun _ => ⟨Nat.zero_le _, fun r hr => by cases hr⟩⟩
  · simp only [Value.cells, List.cons.injEq, and_true] at hcs
    rw [hcs]
    simp only [if_true] at hmm
    subst hmm
    simp only [Prod.mk.injEq] at hx
    obtain ⟨rfl, _⟩ := hx
    have each : ∀ i, i < len → ∃ t : Rw × Value, (HB W t.2 t.1.2 ∧ (((D i).weights Tryd.prog 37).all (· ≤ reachBytes) = true → t.1.2.length ≤ 140737488351232)) ∧ ∀ j u, [Value.string t.1.1, t.2][j]? = some u → W.cell? ((a.add (i * 2)).add j) = some u := by
      intro i hi
      obtain ⟨cs', h1, h2⟩ := hel i (by omega)
      rw [Opn.cells_row] at h1
      obtain ⟨r, u, d1, d2⟩ := open_rwV h2
      obtain ⟨_, _, hc⟩ := World.cells?_some h1
      refine ⟨(r, u), d1, fun j u' hj => ?_⟩
      have hj2 : j < 2 := by
        have := (List.getElem?_eq_some_iff.1 hj).1
        simpa using this
      rw [hc j hj2, d2]
      exact hj
    have hch : ∃ T : Nat → Rw × Value, ∀ i, i < len → (HB W (T i).2 (T i).1.2 ∧ (((D i).weights Tryd.prog 37).all (· ≤ reachBytes) = true → (T i).1.2.length ≤ 140737488351232)) ∧ ∀ j u, [Value.string (T i).1.1, (T i).2][j]? = some u → W.cell? ((a.add (i * 2)).add j) = some u := by
      refine ⟨fun i => if hi : i < len then Classical.choose (each i hi) else (rw0, .bool false), fun i hi => ?_⟩
      simp only [hi, dif_pos]
      exact Classical.choose_spec (each i hi)
    obtain ⟨T, hT⟩ := hch
    have hlen : ((List.range len).map fun i => (T i).1).length = len := by simp
    refine ⟨(List.range len).map fun i => (T i).1, ⟨some a, m, by rw [hlen], by rw [hlen]; omega, hm, fun hne => ?_⟩, fun hw => ?_⟩
    rotate_left
    · simp only [DataW.weights, Tryd.underlying22, List.all_cons, List.all_append, Bool.and_eq_true, decide_eq_true_eq] at hw
      obtain ⟨h1, h2, _⟩ := hw
      rw [Opn.bytes_row] at h1
      simp only [List.length_map, List.length_range, reachBytes] at h1
      refine ⟨by rw [hlen]; omega, fun r hr => ?_⟩
      obtain ⟨i, hi, rfl⟩ := List.mem_map.1 hr
      have hi' := List.mem_range.1 hi
      exact (hT i hi').1.2 (weights_memV (List.mem_map.2 ⟨i, hi, rfl⟩) h2)
    obtain ⟨b, off, sp⟩ := a
    have h0 : 0 < len := by
      apply Classical.byContradiction
      intro h
      exact hne (by rw [show len = 0 by omega]; rfl)
    have hsp : sp = none := by
      have := (hT 0 h0).2 0 _ rfl
      simpa [Addr.add] using World.cell?_spot this
    subst hsp
    refine ⟨b, off, rfl, fun i hi => ⟨(T i).2, fun j u hj => ?_, ?_⟩⟩
    · rw [hlen] at hi
      have e : ((List.range len).map fun i => (T i).1).getD i rw0 = (T i).1 := by simp [List.getD, hi]
      rw [e] at hj
      have := (hT i hi).2 j u hj
      simpa only [Go.WideShapes.add_plain] using this
    · rw [hlen] at hi
      have e : ((List.range len).map fun i => (T i).1).getD i rw0 = (T i).1 := by simp [List.getD, hi]
      rw [e]
      exact (hT i hi).1.1
end Go.Proofs.YtcbnlfghhcpkmaaDoor
namespace Go.Proofs.YtcbnlfghhcpkmaaDoor
open Go Go.RowKit
theorem idx_str (w : World) (s : ByteArray) (i : Nat) (h : i < s.size) : (Instr.index 9 (.string s) (.int .i64 (i : Int))).run Tryd.prog w = .ok (.int .u8 ((sB s).getD i 0)) w := by
  rw [run_index_string w 9 s .i64 i Tryd.underlying9, dif_pos (by omega)]
  congr 2
  rw [← sB_get s i h]
  congr
theorem cut_str (w : World) (s : ByteArray) (i j : Nat) (h : i ≤ j) (hj : j ≤ s.size) : (Instr.slice 9 (.string s) (some (.int .i64 (i : Int))) (some (.int .i64 (j : Int))) none).run Tryd.prog w = .ok (.string (bS (((sB s).drop i).take (j - i)))) w := by
  rw [run_slice_string w 9 s .i64 .i64 i j Tryd.underlying9 (by omega) (by omega) (by omega), ← sB_cut, bS_sB]
  congr
theorem cut_str_end (w : World) (s : ByteArray) (i : Nat) (h : i ≤ s.size) : (Instr.slice 9 (.string s) (some (.int .i64 (i : Int))) none none).run Tryd.prog w = .ok (.string (bS ((sB s).drop i))) w := by
  have e : bS ((sB s).drop i) = s.extract i s.size := by
    apply sB_inj
    rw [sB_cut, sB_bS (fun x hx => sB_byt s x (List.mem_of_mem_drop hx)), List.take_of_length_le (by rw [List.length_drop, sB_length]; exact Nat.le_refl _)]
  rw [e]
  simp [Instr.slice, Instr.sliceBounds, Instr.sliceBound, asIntOf, run_underlying Tryd.underlying9, h]
theorem conv_str {w : World} {v : Value} {l : List Int} (h : HB w v l) : (convert 27 9 v).run Tryd.prog w = .ok (.string (bS l)) w := by
  have hby : Byt8 l := h.2
  by_cases h0 : 0 < l.length
  · obtain ⟨b, off, c, rfl, _, _, hc⟩ := h.ne h0
    obtain ⟨u, Hu⟩ : ∃ u : List UInt8, l.map (fun x => UInt8.ofNat x.toNat) = u := ⟨_, rfl⟩
    have hul : u.length = l.length := by rw [← Hu]; simp
    have := run_convert_bytes_back (P := Tryd.prog) w 27 9 5 ⟨b, off, none⟩ c u Tryd.underlying27 Tryd.underlying5 Tryd.underlying9 (by
      intro j hj
      rw [Go.WideShapes.add_plain, hc j (by omega)]
      subst Hu
      simp only [List.getElem_map, UInt8.toNat_ofNat']
      rw [getD_of_lt (by omega)]
      have := hby _ (List.getElem_mem (by omega : j < l.length))
      congr 2
      omega)
    rw [hul] at this
    rw [this]
    unfold bS
    rw [Hu]
  · have e : l = [] := List.length_eq_zero_iff.1 (by omega)
    subst e
    obtain ⟨p, c, rfl, _, _⟩ := h.open
    cases p with
    | none =>
      rw [List.length_nil, run_convert_bytes_string w 27 9 5 none 0 c Tryd.underlying27 Tryd.underlying5 Tryd.underlying9]
      simp [Conv.bytesToString, loadCells, bS]
      rfl
    | some a =>
      exact run_convert_bytes_back (P := Tryd.prog) w 27 9 5 a c [] Tryd.underlying27 Tryd.underlying5 Tryd.underlying9 (by intro j hj; simp at hj)
end Go.Proofs.YtcbnlfghhcpkmaaDoor
namespace Go.Proofs.YtcbnlfghhcpkmaaDoor
open Go.RowKit
theorem wpList_append_HB {w : World} {ops : Array Oper} {rest : List Oper} {o : Oper} {a : Act} {Q : Exit → Act → World → Prop} (hgd : o.guard = none) (s x : Operand)
    (ho : o.op = .call { callee := .builtin .append, args := #[s, x], argTypes := #[27, 27] })
    (base : Nat) (v : Value) (n : Nat) (xs : List Value) (hs : a.eval s = v) (hown : w.ownsRow base 5 1 v n xs)
    (u : Value) (l : List Int) (hx : a.eval x = u) (hu : HB w u l) (hbytes : n + l.length ≤ 140737488355328) (hbase : base ≤ w.heap.size)
    (h : ∀ v' w', w'.ownsRow base 5 1 v' (n + l.length) (xs ++ l.map (Value.int .u8)) → w.grownBy w' v.ownBlock → wpList Tryd.prog ops Q rest (a.put o.dst v') w') : wpList Tryd.prog ops Q (o :: rest) a w := by
  obtain ⟨i0, hi, hz0, hz1, hz2⟩ := info_parts info_u8
  obtain ⟨⟨p, c, rfl, hlc, hm, hpc, hcell⟩, hby⟩ := hu
  cases p with
  | none =>
    have e : l = [] := by
      apply Classical.byContradiction
      intro hne
      obtain ⟨b, off, e, _⟩ := hcell hne
      cases e
    subst e
    have := hpc rfl
    subst this
    refine wpList_append_own_none hgd s x 27 ho base 5 i0 1 Tryd.underlying27 hi v n xs hs hown hx ?_
    exact h v w (by simpa using hown) ⟨rfl, rfl, rfl, Nat.le_refl _, fun _ _ _ => rfl⟩
  | some ad =>
    refine wpList_append_own w hgd s x 27 ho base 5 i0 (.int .u8 0) 1 1 Tryd.underlying27 hi hz0 hz1 hz2 rfl (by decide) v n xs hs hown ad l.length c (l.map (Value.int .u8)) hx (by simp) ?_ ?_ (by unfold maxLen; omega) (by omega) hbase (fun v' w' h1 h2 _ => h v' w' h1 h2)
    · intro j y hj
      have hjn : j < l.length := by
        have := (List.getElem?_eq_some_iff.1 hj).1
        simpa using this
      obtain ⟨b, off, e, hh⟩ := hcell (by intro e; subst e; simp at hjn)
      cases e
      rw [Go.WideShapes.add_plain, hh j hjn]
      have e : (l.map (Value.int .u8))[j]? = some (Value.int .u8 (l.getD j 0)) := by simp [List.getD, List.getElem?_eq_getElem hjn]
      rw [e] at hj
      exact hj
    · intro u hu; obtain ⟨x, _, rfl⟩ := List.mem_map.1 hu; rfl
theorem flat_snoc (ls : List (List Int)) (k : Nat) (hk : k < ls.length) : (ls.take (k + 1)).flatten = (ls.take k).flatten ++ ls.getD k [] := by
  rw [List.take_succ_eq_append_getElem hk, List.flatten_append]
  simp [List.getD, List.getElem?_eq_getElem hk]
theorem flat_take_le (ls : List (List Int)) (k : Nat) : (ls.take k).flatten.length ≤ ls.flatten.length := by
  conv => rhs; rw [← List.take_append_drop k ls, List.flatten_append, List.length_append]
  omega
def lensTo (ls : List (List Int)) (k : Nat) : Nat := (ls.take k).flatten.length
def flatTo (ls : List (List Int)) (k : Nat) : List Int := (ls.take k).flatten
theorem run_append_byte (w : World) (base : Nat) (ty : TypeId) (v : Value) (n : Nat) (xs : List Value) (hown : w.ownsRow base 5 1 v n xs) (a : Addr) (c : Nat) (x : Int) (hx : w.cell? a = some (.int .u8 x)) (hn : n + 1 ≤ 140737488355328) (hbase : base ≤ w.heap.size) :
    ∃ v' w', (Builtin.append_ #[27, 27] ty #[v, .slice (some a) 1 c]).run Tryd.prog w = .ok v' w' ∧ w'.ownsRow base 5 1 v' (n + 1) (xs ++ [.int .u8 x]) ∧ w.grownBy w' v.ownBlock ∧
      (v'.ownBlock = v.ownBlock ∨ (v'.ownBlock = some w.heap.size ∧ w.grownBy w' none)) := by
  obtain ⟨i0, hi, hz0, hz1, hz2⟩ := info_parts info_u8
  have hnews : ∀ j u, [Value.int .u8 x][j]? = some u → w.cell? (a.add j) = some u := by
    intro j u hj
    match j, hj with
    | 0, hj => simp at hj; subst hj; simpa [Addr.add] using hx
  have h1 : ∀ u ∈ [Value.int .u8 x], u.oneCell' = true := by intro u hu; simp at hu; subst hu; rfl
  obtain ⟨v', w', hr, h2, h3, _⟩ := run_append_own (P := Tryd.prog) w base 27 ty 5 i0 (.int .u8 0) 1 1 Tryd.underlying27 hi hz0 hz1 hz2 rfl (by decide) v n xs hown a 1 c [.int .u8 x] rfl hnews h1 (by unfold maxLen; omega) (by omega) hbase
  refine ⟨v', w', hr, h2, h3, ?_⟩
  rcases hown.2 with ⟨rfl, rfl⟩ | ⟨g, cap, cur, rfl, hbg, hg, hnc, hcm, hcs, htake⟩
  · have hr2 := run_append_nil (P := Tryd.prog) w 27 ty 5 i0 (.int .u8 0) Tryd.underlying27 hi hz0 a 1 c [.int .u8 x] (by rw [hz1]; rfl) hnews (by omega) (by omega) (by rw [hz2]; omega)
    rw [hr] at hr2
    simp only [Result.ok.injEq] at hr2
    obtain ⟨rfl, rfl⟩ := hr2
    exact .inr ⟨rfl, ⟨rfl, rfl, rfl, by simp, fun k hk _ => heap_alloc_old w.drew _ hk⟩⟩
  · by_cases hroom : n + 1 ≤ cap
    · obtain ⟨w2, hr2, _⟩ := run_append_fits (P := Tryd.prog) w base 27 ty 5 i0 1 Tryd.underlying27 hi hz1 g n cap xs hown a 1 c [.int .u8 x] rfl hnews h1 hroom
      rw [hr] at hr2
      simp only [Result.ok.injEq] at hr2
      obtain ⟨rfl, rfl⟩ := hr2
      exact .inl rfl
    · have hr2 := run_append_grow (P := Tryd.prog) w 27 ty 5 i0 (.int .u8 0) Tryd.underlying27 hi hz0 ⟨g, 0, none⟩ n cap xs (by rw [hz1]; exact hown.1) (hown.cells (g := g) rfl) a 1 c [.int .u8 x] (by rw [hz1]; rfl) hnews (by omega) (by omega) (growslice_fits (by omega) (by rw [hz2]; omega))
      rw [hr] at hr2
      simp only [Result.ok.injEq] at hr2
      obtain ⟨rfl, rfl⟩ := hr2
      exact .inr ⟨rfl, ⟨rfl, rfl, rfl, by simp, fun k hk _ => heap_alloc_old w.drew _ hk⟩⟩
theorem wpList_append_byte {w : World} {ops : Array Oper} {rest : List Oper} {o : Oper} {a : Act} {Q : Exit → Act → World → Prop} (hgd : o.guard = none) (s x : Operand)
    (ho : o.op = .call { callee := .builtin .append, args := #[s, x], argTypes := #[27, 27] })
    (base : Nat) (v : Value) (n : Nat) (xs : List Value) (hs : a.eval s = v) (hown : w.ownsRow base 5 1 v n xs)
    (ad : Addr) (c : Nat) (y : Int) (hx : a.eval x = .slice (some ad) 1 c) (hy : w.cell? ad = some (.int .u8 y)) (hn : n + 1 ≤ 140737488355328) (hbase : base ≤ w.heap.size)
    (h : ∀ v' w', w'.ownsRow base 5 1 v' (n + 1) (xs ++ [.int .u8 y]) → w.grownBy w' v.ownBlock → (v'.ownBlock = v.ownBlock ∨ (v'.ownBlock = some w.heap.size ∧ w.grownBy w' none)) → wpList Tryd.prog ops Q rest (a.put o.dst v') w') : wpList Tryd.prog ops Q (o :: rest) a w := by
  refine wpList_plain hgd fun K hK => ?_
  obtain ⟨v', w', hr, h2, h3, h4⟩ := run_append_byte w base o.type v n xs hown ad c y hy hn hbase
  unfold Oper.wp execOp
  simp only [ho, resolve, invoke, builtin, Sem.run_bind, Sem.run_pure, Result.andThen_ok, List.map_toArray, List.map_cons, List.map_nil, hs, hx, hr]
  exact hK _ _ (h v' w' h2 h3 h4)
theorem take_eq_step (la lb : List Int) (k : Nat) (ha : k < la.length) (hb : k < lb.length) (h : la.take k = lb.take k) (e : la.getD k 0 = lb.getD k 0) : la.take (k + 1) = lb.take (k + 1) := by
  rw [List.take_succ_eq_append_getElem ha, List.take_succ_eq_append_getElem hb, h]
  have e1 : la.getD k 0 = la[k] := by simp [List.getD, List.getElem?_eq_getElem ha]
  have e2 : lb.getD k 0 = lb[k] := by simp [List.getD, List.getElem?_eq_getElem hb]
  rw [e1, e2] at e
  rw [e]
theorem take_ne (la lb : List Int) (k : Nat) (e : la.getD k 0 ≠ lb.getD k 0) : la ≠ lb := fun h => e (by rw [h])
set_option maxHeartbeats 400000 in
theorem sameBytes_any (w : World) (va vb : Value) (la lb : List Int) (ha : HB w va la) (hb : HB w vb lb) :
    Calls Tryd.prog 9 #[va, vb] w fun e w' => e = .returned (.bool (decide (la = lb))) ∧ Dr w w' := by
  by_cases hlen : la.length = lb.length
  · by_cases h0 : 0 < la.length
    · obtain ⟨b1, o1, c1, rfl, hc1, hm1, hk1⟩ := ha.ne h0
      obtain ⟨b2, o2, c2, rfl, hc2, hm2, hk2⟩ := hb.ne (by omega)
      unfold maxLen at hm1 hm2
      have hm : la.length ≤ 9223372036854775807 := by omega
      have HL : Hid (la.length = lb.length) := hlen
      rw [← hlen]
      have hcd : ∀ j, j < la.length → w.cell? ⟨b2, o2 + j, none⟩ = some (.int .u8 (lb.getD j 0)) := fun j hj => hk2 j (by omega)
      clear hlen hk2
      go_enter Tryd.func9, Tryd.ntmps9
      go_wp2
      go_loopw [5] (fun i wr => ∃ k : Nat, k ≤ la.length ∧ i = .int .i64 k ∧ la.take k = lb.take k ∧ Dr w wr) (fun i _ => la.length - (intOf i).toNat)
      case atStart => exact ⟨0, Nat.zero_le _, rfl, rfl, Dr.refl _⟩
      case round =>
        obtain ⟨k, hk, rfl, ht, q, rfl⟩ := hrel
        by_cases hlt : k < la.length
        · have g1 := hk1 k hlt
          have g2 := hcd k hlt
          obtain ⟨x, hx⟩ : ∃ x, la.getD k 0 = x := ⟨_, rfl⟩
          obtain ⟨y, hy⟩ : ∃ y, lb.getD k 0 = y := ⟨_, rfl⟩
          rw [hx] at g1
          rw [hy] at g2
          have HX := hid hx
          have HY := hid hy
          clear hx hy hk1 hcd
          by_cases he : x = y
          · have hne : (x != y) = false := by simpa using he
            have HE := hid he
            clear he
            go_wp2
            go_quiet (fail)
            go_wp2
            exact ⟨⟨k + 1, by omega, by go_num, take_eq_step la lb k hlt (by have := HL.out; omega) ht (by rw [HX.out, HY.out, HE.out]), Dr.one _ _⟩, by simp [intOf]; omega⟩
          · have hne : (x != y) = true := by simpa using he
            go_wp2
            go_quiet (fail)
            go_wp2
            go_ret
            exact ⟨by simp [take_ne la lb k (by rw [HX.out, HY.out]; exact he)], (Dr.one _ _).drewN _⟩
        · go_wp2
          go_ret
          have e : la = lb := by
            have h1 := List.take_of_length_le (show la.length ≤ k by omega)
            have h2 := List.take_of_length_le (show lb.length ≤ k by have := HL.out; omega)
            rw [← h1, ← h2, ht]
          exact ⟨by simp [e], Dr.one _ _⟩
    · obtain ⟨p1, c1, rfl, _, _⟩ := ha.open
      obtain ⟨p2, c2, rfl, _, _⟩ := hb.open
      have e1 : la = [] := List.length_eq_zero_iff.1 (by omega)
      have e2 : lb = [] := List.length_eq_zero_iff.1 (by omega)
      subst e1 e2
      go_enter Tryd.func9, Tryd.ntmps9
      go_wp2
      go_loop [5] (fun i => i = .int .i64 0) (fun _ => 0)
      case atStart => rfl
      case round =>
        subst hrel
        go_wp2
        go_ret
        exact ⟨rfl, Dr.refl _⟩
  · obtain ⟨p1, c1, rfl, _, _⟩ := ha.open
    obtain ⟨p2, c2, rfl, _, _⟩ := hb.open
    have hne : ((la.length : Int) != (lb.length : Int)) = true := by rw [bne_iff_ne]; omega
    go_enter Tryd.func9, Tryd.ntmps9
    go_wp2
    go_ret
    exact ⟨by simp [show la ≠ lb from fun e => hlen (by rw [e])], Dr.refl _⟩
def mkB (k i : Nat) : Int := ((151 * k + 7 * i + 1) % 256 : Nat)
theorem mkB_byt (k i : Nat) : 0 ≤ mkB k i ∧ mkB k i < 256 := by unfold mkB; omega
set_option maxHeartbeats 400000 in
theorem mark_any (w : World) (k i : Nat) (hk : k ≤ 1125899906842624) (hi : i ≤ 1125899906842624) : Calls Tryd.prog 19 #[.int .i64 k, .int .i64 i] w fun e w' => e = .returned (.int .u8 (mkB k i)) ∧ w' = w := by
  go_enter Tryd.func19, Tryd.ntmps19
  go_wp2
  go_ret
  exact ⟨by unfold mkB; first | rfl | (congr 2; done) | (congr 2; omega), rfl⟩
theorem mark_eq (w : World) (k i : Nat) (a b : Int) (ha : a = (k : Int)) (hb : b = (i : Int)) (hk : k ≤ 1125899906842624) (hi : i ≤ 1125899906842624) : Calls Tryd.prog 19 #[.int .i64 a, .int .i64 b] w fun e w' => e = .returned (.int .u8 (mkB k i)) ∧ w' = w := by
  subst ha hb
  exact mark_any w k i hk hi
theorem wrap_succ (k : Nat) (h : k ≤ 1125899906842624) : IntKind.i64.wrap ((k : Int) + 1) = ((k + 1 : Nat) : Int) := by rw [IntKind.wrap_i64]; omega
def lent (l : List Int) : List Int := l ++ (List.range 70).map fun i => mkB 0 (l.length + i)
def lentTo (l : List Int) (m : Nat) : List Int := l ++ (List.range m).map fun i => mkB 0 (l.length + i)
theorem lent_length (l : List Int) : (lent l).length = l.length + 70 := by simp [lent]
theorem lentTo_length (l : List Int) (m : Nat) : (lentTo l m).length = l.length + m := by simp [lentTo]
theorem lentTo_succ (l : List Int) (m : Nat) : lentTo l (m + 1) = lentTo l m ++ [mkB 0 (l.length + m)] := by simp [lentTo, List.range_succ]
theorem lent_byt {l : List Int} (h : ∀ x ∈ l, 0 ≤ x ∧ x < 256) : ∀ x ∈ lent l, 0 ≤ x ∧ x < 256 := by
  intro x hx
  unfold lent at hx
  rcases List.mem_append.1 hx with hx | hx
  · exact h x hx
  · obtain ⟨i, _, rfl⟩ := List.mem_map.1 hx
    exact mkB_byt _ _
theorem lent_take (l : List Int) : (lent l).take l.length = l := by simp [lent]
set_option maxHeartbeats 1000000 in
theorem lent_any (w : World) (v : Value) (l : List Int) (h : HB w v l) (hbig : l.length ≤ 140737488351232) :
    Calls Tryd.prog 11 #[v] w fun e w' => ∃ v', e = .returned v' ∧ w'.ownsRow w.heap.size 5 1 v' (lent l).length ((lent l).map (Value.int .u8)) ∧ Below w.heap.size w w' := by
  obtain ⟨p, c, e, hlc, hm⟩ := h.open
  unfold maxLen at hm
  have A : Hid (0 < l.length → ∃ b off, p = some ⟨b, off, none⟩ ∧ ∀ j, j < l.length → w.cell? ⟨b, off + j, none⟩ = some (.int .u8 (l.getD j 0))) := by
    intro h0
    obtain ⟨b, off, c', e', _, _, hh⟩ := h.ne h0
    rw [e] at e'
    simp only [Value.slice.injEq, true_and] at e'
    exact ⟨b, off, e'.1, hh⟩
  clear h
  subst e
  go_enter Tryd.func11, Tryd.ntmps11
  go_wp2
  go_loopw [3, 4] (fun o i wr => ∃ k : Nat, k ≤ l.length ∧ i = .int .i64 k ∧ Hid (wr.ownsRow w.heap.size 5 1 o k ((l.take k).map (Value.int .u8))) ∧ Hid (Below w.heap.size w wr)) (fun _ i _ => l.length - (intOf i).toNat)
  case atStart => exact ⟨0, Nat.zero_le _, rfl, World.ownsRow_nil _ _ _ _, Below.refl _ _⟩
  case round =>
    obtain ⟨k, hk, rfl, HO, HBw⟩ := hrel
    by_cases hlt : k < l.length
    · obtain ⟨b, off, rfl, hh⟩ := A.out (by omega)
      have hu0 := hh k hlt
      have hu := (HBw.out.cell (World.block_lt_of_cell? w _ hu0)).trans hu0
      have HS : Hid (l.take (k + 1) = l.take k ++ [l.getD k 0]) := by
        show _ = _
        rw [List.take_succ_eq_append_getElem hlt, getD_of_lt hlt]
      obtain ⟨x, HX⟩ : ∃ x, Hid (l.getD k 0 = x) := ⟨_, rfl⟩
      rw [HX.out] at hu HS
      clear hh hu0
      go_wp2_with (at_builtin; refine wpList_append_byte rfl _ _ rfl w.heap.size _ k _ rfl (HO.out.alloc _) ⟨wr.heap.size, 0, none⟩ 1 x rfl (by simp) ?q1 ?q2 ?_)
      case q1 => omega
      case q2 => have := HBw.out.size; simp; omega
      intro v' w2 hown2 hgr2 _
      have HO2 : Hid (w2.ownsRow w.heap.size 5 1 v' (k + 1) ((l.take (k + 1)).map (Value.int .u8))) := by
        rw [HS.out, List.map_append, List.map_take]
        exact hown2
      have HB2 := hid ((HBw.out.alloc HBw.out.size _).grown hgr2 (by have := HBw.out.size; simp; omega) (fun k e => (HO.out.lt k e).1))
      clear hown2 hgr2
      go_wp2
      exact ⟨⟨k + 1, by omega, by go_num, HO2, HB2⟩, by simp [intOf]; omega⟩
    · have hkl : k = l.length := by omega
      have HO' : Hid (wr.ownsRow w.heap.size 5 1 u3 (l.length + 0) ((lentTo l 0).map (Value.int .u8))) := by
        show World.ownsRow _ _ _ _ _ _ _
        have := HO.out
        rw [hkl, List.take_of_length_le (Nat.le_refl _)] at this
        simpa [lentTo] using this
      clear hkl
      go_wp2
      go_loopw [3, 5] (fun o i wz => ∃ m : Nat, m ≤ 70 ∧ i = .int .i64 m ∧ Hid (wz.ownsRow w.heap.size 5 1 o (l.length + m) ((lentTo l m).map (Value.int .u8))) ∧ Hid (Below w.heap.size w wz)) (fun _ i _ => 70 - (intOf i).toNat)
      case atStart => exact ⟨0, Nat.zero_le _, rfl, HO', HBw⟩
      case round =>
        clear HO' HBw HO
        obtain ⟨m, hm70, rfl, HO, HBw⟩ := hrel
        by_cases hlt2 : m < 70
        · have hlt3 : (m : Int) < 70 := by omega
          have HS := hid (lentTo_succ l m)
          go_wp2_with fail
          have e1 : ((l.length : Int) + (m : Int)) = ((l.length + m : Nat) : Int) := by omega
          rw [e1]
          refine (mark_any wr 0 (l.length + m) (by omega) (by omega)).mono ?_
          rintro e wz ⟨rfl, hw⟩
          have hw' := hw.symm
          subst hw'
          clear hw e1
          go_wp2_with (at_builtin; refine wpList_append_byte rfl _ _ rfl w.heap.size _ (l.length + m) _ rfl (HO.out.alloc _) ⟨wr.heap.size, 0, none⟩ 1 (mkB 0 (l.length + m)) rfl (by simp) ?q1 ?q2 ?_)
          case q1 => omega
          case q2 => have := HBw.out.size; simp; omega
          intro v' w2 hown2 hgr2 _
          have HO2 : Hid (w2.ownsRow w.heap.size 5 1 v' (l.length + (m + 1)) ((lentTo l (m + 1)).map (Value.int .u8))) := by
            rw [HS.out, List.map_append]
            exact hown2
          have HB2 := hid ((HBw.out.alloc HBw.out.size _).grown hgr2 (by have := HBw.out.size; simp; omega) (fun k e => (HO.out.lt k e).1))
          clear hown2 hgr2
          go_wp2
          exact ⟨⟨m + 1, by omega, by go_num, HO2, HB2⟩, by simp [intOf]; omega⟩
        · have e70 : m = 70 := by omega
          subst e70
          go_wp2
          go_ret
          refine ⟨_, rfl, ?_, HBw.out⟩
          rw [lent_length]
          exact HO.out
set_option maxHeartbeats 400000 in
theorem kept_any (w : World) (vf vl : Value) (fl l : List Int) (hf : HB w vf fl) (hl : HB w vl l) (hbig : l.length ≤ 140737488351232) :
    Calls Tryd.prog 15 #[vf, vl] w fun e w' => e = .returned (.bool (decide (fl = lent l))) ∧ Below w.heap.size w w' := by
  have HF := hid hf
  have HLl := hid hl
  obtain ⟨p1, c1, rfl, _, _⟩ := hf.open
  obtain ⟨p2, c2, rfl, _, _⟩ := hl.open
  clear hf hl
  go_enter Tryd.func15, Tryd.ntmps15
  go_wp2_with fail
  refine (lent_any w _ l HLl.out hbig).mono ?_
  rintro e w1 ⟨v1, rfl, hown, hB⟩
  have H1 := hid (HB.of_own hown (lent_byt HLl.out.2))
  have HF1 := hid (HF.out.below hB)
  have B1 := hid hB
  obtain ⟨p3, c3, e3, _, _⟩ := H1.out.open
  clear hown hB
  subst e3
  obtain ⟨ll, HLL⟩ : ∃ ll, Hid (lent l = ll) := ⟨_, rfl⟩
  rw [HLL.out] at H1 ⊢
  go_wp2_with fail
  refine (sameBytes_any w1 _ _ fl ll HF1.out H1.out).mono ?_
  rintro e w2 ⟨rfl, hD⟩
  have B2 := hid (B1.out.trans (hD.below _))
  obtain ⟨z, HZ⟩ : ∃ z, Hid (decide (fl = ll) = z) := ⟨_, rfl⟩
  rw [HZ.out]
  clear hD
  go_wp2
  go_ret
  exact ⟨by rw [HLL.out, HZ.out]; rfl, B2.out⟩
set_option maxHeartbeats 1000000 in
theorem over_any (w : World) (B : Nat) (v : Value) (n : Nat) (xs : List Value) (h : w.ownsRow B 5 1 v n xs) (hn : n ≤ 140737488355328) :
    Calls Tryd.prog 16 #[v] w fun e w' => e = .returned (.tuple #[]) ∧ (∃ ys, w'.ownsRow B 5 1 v n ys) ∧ w.grownBy w' v.ownBlock := by
  rcases h.2 with ⟨rfl, rfl⟩ | ⟨g, cap, cur, rfl, hbg, hg, hnc, hcm, hcs, htake⟩
  · go_enter Tryd.func16, Tryd.ntmps16
    go_wp2
    go_loop [2] (fun i => i = .int .i64 0) (fun _ => 0)
    case atStart => rfl
    case round =>
      subst hrel
      go_wp2
      go_end0
      exact ⟨rfl, ⟨xs, h⟩, ⟨rfl, rfl, rfl, Nat.le_refl _, fun _ _ _ => rfl⟩⟩
  · have HO := hid h
    clear h hg htake hcs hbg
    unfold maxLen at hcm
    go_enter Tryd.func16, Tryd.ntmps16
    go_wp2
    go_loopw [2] (fun i wr => ∃ k : Nat, k ≤ n ∧ i = .int .i64 k ∧ Hid (∃ ys, wr.ownsRow B 5 1 (.slice (some ⟨g, 0, none⟩) n cap) n ys) ∧ Hid (w.grownBy wr (some g))) (fun i _ => n - (intOf i).toNat)
    case atStart => exact ⟨0, Nat.zero_le _, rfl, ⟨_, HO.out⟩, ⟨rfl, rfl, rfl, Nat.le_refl _, fun _ _ _ => rfl⟩⟩
    case round =>
      obtain ⟨k, hk, rfl, HY, HG⟩ := hrel
      by_cases hlt : k < n
      · obtain ⟨ys, hy⟩ := HY.out
        have hc := hy.cellAt k (by omega)
        have hfz := hy.frozenAt k
        obtain ⟨z, hz⟩ : ∃ z, ys[k]? = some z := ⟨_, List.getElem?_eq_getElem (by have := hy.1; omega)⟩
        rw [hz] at hc
        have HYY := hid hy
        clear hz hy
        go_wp2_with fail
        have e1 : ((k : Int) + 3) = ((k + 3 : Nat) : Int) := by omega
        rw [e1]
        refine (mark_any wr 7 (k + 3) (by omega) (by omega)).mono ?_
        rintro e wz ⟨rfl, hw⟩
        have hw' := hw.symm
        subst hw'
        clear hw e1
        go_wp2
        exact ⟨⟨k + 1, by omega, by go_num, ⟨_, (HYY.out.stored k _).1⟩, ⟨HG.out.os, HG.out.tape, HG.out.output, by simpa using HG.out.size, fun i hi hne => by
          rw [heap_setCell_other _ _ _ _ (fun e => hne (by simp [e]))]
          exact HG.out.block i hi hne⟩⟩, by simp [intOf]; omega⟩
      · go_wp2
        go_end0
        exact ⟨rfl, HY.out, HG.out⟩
theorem info_bytes : (Tryd.prog.info? 27).map (fun i => (i.zero, i.size, i.bytes)) = some (some (.slice none 0 0), 1, 24) := by kernel_rfl
def BytI (l : List Int) : Prop := ∀ x ∈ l, 0 ≤ x ∧ x < 256
def EL (w0 w : World) (u : Value) (l : List Int) : Prop :=
  (w.ownsRow w0.heap.size 5 1 u l.length (l.map (Value.int .u8)) ∧ BytI l) ∨ HB w0 u l
def OWL (w0 w : World) (v : Value) (ls : List (List Int)) : Prop :=
  ∃ xs, w.ownsRow w0.heap.size 27 1 v ls.length xs ∧ ∀ j, j < ls.length → EL w0 w (xs.getD j undef) (ls.getD j [])
theorem EL.hb {w0 w : World} {u : Value} {l : List Int} (h : EL w0 w u l) (hb : Below w0.heap.size w0 w) : HB w u l := by
  rcases h with ⟨h, hx⟩ | h
  · exact HB.of_own h hx
  · exact h.below hb
theorem own_block_ne {w : World} {B e n : Nat} {v : Value} {xs : List Value} (h : w.ownsRow B e 1 v n xs) {g : Nat} {cur : Array Value} {e' : TypeId} {fz : Nat × Nat} (hg : w.heap[g]? = some (.cells cur e' fz)) (hne : e ≠ e') : v.ownBlock ≠ some g := by
  intro hv
  rcases h.2 with ⟨rfl, _⟩ | ⟨g', cap, cur', rfl, _, hh, _⟩
  · simp [Value.ownBlock] at hv
  · simp only [Value.ownBlock, Option.some.injEq] at hv
    subst hv
    rw [hh] at hg
    simp only [Option.some.injEq, Obj.cells.injEq] at hg
    exact hne hg.2.1
theorem EL.grown {w0 w w' : World} {u : Value} {l : List Int} {row : Option Nat} (h : EL w0 w u l) (hg : w.grownBy w' row) (hr : ∀ g, row = some g → ∃ cur e fz, w.heap[g]? = some (.cells cur e fz) ∧ 5 ≠ e) : EL w0 w' u l := by
  rcases h with ⟨h, hx⟩ | h
  · refine .inl ⟨h.kept hg ?_, hx⟩
    cases hrow : row with
    | none =>
      cases hv : u.ownBlock with
      | none => exact .inl rfl
      | some k => exact .inr (by simp)
    | some g =>
      obtain ⟨cur, e, fz, hh, hne⟩ := hr g hrow
      exact .inr (own_block_ne h hh hne)
  · exact .inr h
theorem OWL.grown {w0 w w' : World} {v : Value} {ls : List (List Int)} {row : Option Nat} (h : OWL w0 w v ls) (hg : w.grownBy w' row) (hr : ∀ g, row = some g → ∃ cur e fz, w.heap[g]? = some (.cells cur e fz) ∧ 5 ≠ e ∧ 27 ≠ e) : OWL w0 w' v ls := by
  obtain ⟨xs, h1, h2⟩ := h
  refine ⟨xs, h1.kept hg ?_, fun j hj => (h2 j hj).grown hg fun g e => ?_⟩
  · cases hrow : row with
    | none =>
      cases hv : v.ownBlock with
      | none => exact .inl rfl
      | some k => exact .inr (by simp)
    | some g =>
      obtain ⟨cur, e, fz, hh, _, hne⟩ := hr g hrow
      exact .inr (own_block_ne h1 hh hne)
  · obtain ⟨cur, e', fz, hh, hne, _⟩ := hr g e
    exact ⟨cur, e', fz, hh, hne⟩
theorem OWL.below {w0 w w' : World} {v : Value} {ls : List (List Int)} (h : OWL w0 w v ls) (hb : Below w.heap.size w w') : OWL w0 w' v ls :=
  h.grown (row := none) ⟨hb.os, hb.tape, hb.output, hb.size, fun k hk _ => hb.block k hk⟩ (fun g e => by cases e)
theorem OWL.hl {w0 w : World} {v : Value} {ls : List (List Int)} (h : OWL w0 w v ls) (hb : Below w0.heap.size w0 w) : HL w v ls := by
  obtain ⟨xs, h1, h2⟩ := h
  by_cases h0 : 0 < ls.length
  · obtain ⟨g, cap, rfl, _, hn, hm, hc⟩ := ownsRow_cells h1 h0
    refine ⟨_, cap, rfl, hn, hm, (fun e => by cases e), fun _ => ⟨g, 0, rfl, fun j hj => ⟨xs.getD j undef, ?_, (h2 j hj).hb hb⟩⟩⟩
    have hx : xs.length = ls.length := by have := h1.1; omega
    exact hc j _ (by simp [List.getD, List.getElem?_eq_getElem (show j < xs.length by omega)])
  · have e : ls = [] := List.length_eq_zero_iff.1 (by omega)
    subst e
    rcases h1.2 with ⟨rfl, _⟩ | ⟨g, cap, cur, rfl, _, _, hn, hm, _⟩
    · exact HL.nil _
    · exact ⟨_, cap, rfl, hn, hm, (fun e => by cases e), fun h => absurd rfl h⟩
theorem OWL.nil (w0 w : World) : OWL w0 w (.slice none 0 0) [] := ⟨[], World.ownsRow_nil _ _ _ _, fun j hj => by simp at hj⟩
theorem getD_app {α : Type} (l m : List α) (d : α) (j : Nat) : (l ++ m).getD j d = if j < l.length then l.getD j d else m.getD (j - l.length) d := by
  simp only [List.getD, List.getElem?_append]
  split <;> rfl
theorem wpList_append_OWL {w0 w : World} {ops : Array Oper} {rest : List Oper} {o : Oper} {a : Act} {Q : Exit → Act → World → Prop} (hgd : o.guard = none) (s x : Operand)
    (ho : o.op = .call { callee := .builtin .append, args := #[s, x], argTypes := #[23, 23] })
    (v : Value) (ls : List (List Int)) (hs : a.eval s = v) (hown : OWL w0 w v ls)
    (ad : Addr) (m c : Nat) (us : List Value) (ns : List (List Int)) (hx : a.eval x = .slice (some ad) m c) (hl : us.length = m) (hn : ns.length = m) (hcell : ∀ j u, us[j]? = some u → w.cell? (ad.add j) = some u)
    (hu : ∀ j, j < m → EL w0 w (us.getD j undef) (ns.getD j [])) (h1 : ∀ u ∈ us, u.oneCell' = true)
    (hbytes : (ls.length + m) * 24 ≤ 140737488355328) (hbase : w0.heap.size ≤ w.heap.size)
    (h : ∀ v' w', OWL w0 w' v' (ls ++ ns) → w.grownBy w' v.ownBlock → (∀ g, v.ownBlock = some g → w0.heap.size ≤ g ∧ BT w g 27) → wpList Tryd.prog ops Q rest (a.put o.dst v') w') : wpList Tryd.prog ops Q (o :: rest) a w := by
  obtain ⟨i0, hi, hz0, hz1, hz2⟩ := info_parts info_bytes
  obtain ⟨xs, hrow, hel⟩ := hown
  have hblk : ∀ g, v.ownBlock = some g → w0.heap.size ≤ g ∧ BT w g 27 := by
    intro g hg
    refine ⟨(hrow.lt g hg).1, ?_⟩
    rcases hrow.2 with ⟨rfl, _⟩ | ⟨g', cap, cur, rfl, _, hh, _⟩
    · simp [Value.ownBlock] at hg
    · simp only [Value.ownBlock, Option.some.injEq] at hg
      subst hg
      exact ⟨cur, _, hh⟩
  refine wpList_append_own w hgd s x 23 ho w0.heap.size 27 i0 (.slice none 0 0) 1 24 Tryd.underlying23 hi hz0 hz1 hz2 rfl (by decide) v ls.length xs hs hrow ad m c us hx (by omega) hcell h1 (by unfold maxLen; omega) hbytes hbase (fun v' w' h2 h3 _ => h v' w' ?_ h3 hblk)
  refine ⟨xs ++ us, by rw [List.length_append, hn]; exact h2, fun j hj => ?_⟩
  have key : ∀ u l, EL w0 w u l → EL w0 w' u l := fun u l he => he.grown h3 fun g hg => by
    obtain ⟨_, cur, fz, hh⟩ := hblk g hg
    exact ⟨cur, _, fz, hh, by decide⟩
  have hxl : xs.length = ls.length := by have := hrow.1; omega
  rw [getD_app, getD_app, hxl]
  rw [List.length_append] at hj
  split
  · exact key _ _ (hel j ‹_›)
  · exact key _ _ (hu _ (by omega))
theorem takel_eq_step (la lb : List (List Int)) (k : Nat) (ha : k < la.length) (hb : k < lb.length) (h : la.take k = lb.take k) (e : la.getD k [] = lb.getD k []) : la.take (k + 1) = lb.take (k + 1) := by
  rw [List.take_succ_eq_append_getElem ha, List.take_succ_eq_append_getElem hb, h]
  have e1 : la.getD k [] = la[k] := by simp [List.getD, List.getElem?_eq_getElem ha]
  have e2 : lb.getD k [] = lb[k] := by simp [List.getD, List.getElem?_eq_getElem hb]
  rw [e1, e2] at e
  rw [e]
end Go.Proofs.YtcbnlfghhcpkmaaDoor
