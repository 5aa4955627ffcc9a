/- Of the road to tagApartCard_holds: Base, Opens, OpensLW, U8, Arrays, TgKit, TgFit. -/
import Derived.WalkKit
import Derived.WalkSpells
import Derived.WalkLawsBesides
import Derived.Deep.QuietTactic
import Derived.BigQuiet
import Derived.Test.YtokamemkfgpfpaaDoorRows
import Derived.ProofKit
import Derived.OpenShut
import Derived.ShutString
import Derived.ChangeOld
import Derived.Deep.Slices
import Derived.JoinedCond
import Derived.SizedLaws
import Derived.Test.YtokamemkfgpfpaaDoorChecked
import Derived.Deep.MidRow
import Derived.Laws.Rows
import Derived.RegionTactic
import Derived.Deep.RegionHeld
set_option linter.unusedVariables false
set_option linter.unusedSimpArgs false
namespace Go.Proofs.YtokamemkfgpfpaaDoor
open Go.RowKit
theorem hid {p : Prop} (h : p) : Hid p := h
def HB (w : World) (v : Value) (l : List Int) : Prop :=
  (∃ (p : Option Addr) (c : Nat), v = .slice p l.length c ∧ l.length ≤ c ∧ c ≤ maxLen ∧ (p = none → c = 0) ∧
    (l ≠ [] → ∃ b off, p = some ⟨b, off, none⟩ ∧ ∀ j, j < l.length → w.cell? ⟨b, off + j, none⟩ = some (.int .u8 (l.getD j 0)))) ∧ ∀ x ∈ l, 0 ≤ x ∧ x < 256
theorem HB.open {w : World} {v : Value} {l : List Int} (h : HB w v l) : ∃ (p : Option Addr) (c : Nat), v = .slice p l.length c ∧ l.length ≤ c ∧ c ≤ maxLen := by
  obtain ⟨⟨p, c, h1, h2, h3, _⟩, _⟩ := h
  exact ⟨p, c, h1, h2, h3⟩
theorem HB.ne {w : World} {v : Value} {l : List Int} (h : HB w v l) (hl : 0 < l.length) :
    ∃ b off c, v = .slice (some ⟨b, off, none⟩) l.length c ∧ l.length ≤ c ∧ c ≤ maxLen ∧ ∀ j, j < l.length → w.cell? ⟨b, off + j, none⟩ = some (.int .u8 (l.getD j 0)) := by
  obtain ⟨⟨p, c, h1, h2, h3, _, h4⟩, _⟩ := h
  obtain ⟨b, off, rfl, hc⟩ := h4 (by intro e; subst e; simp at hl)
  exact ⟨b, off, c, h1, h2, h3, hc⟩
theorem HB.byte {w : World} {v : Value} {l : List Int} (h : HB w v l) (j : Nat) : 0 ≤ l.getD j 0 ∧ l.getD j 0 < 256 := by
  by_cases hj : j < l.length
  · have e : l.getD j 0 = l[j] := by simp [List.getD, List.getElem?_eq_getElem hj]
    rw [e]
    exact h.2 _ (List.getElem_mem hj)
  · have e : l.getD j 0 = 0 := by simp [List.getD, List.getElem?_eq_none (by omega : l.length ≤ j)]
    rw [e]; omega
theorem HB.later {w w' : World} {v : Value} {l : List Int} (h : HB w v l) (hc : ∀ a (n : Int), w.cell? a = some (.int .u8 n) → w'.cell? a = some (.int .u8 n)) : HB w' v l := by
  obtain ⟨⟨p, c, h1, h2, h3, h6, h4⟩, h5⟩ := h
  refine ⟨⟨p, c, h1, h2, h3, h6, fun hl => ?_⟩, h5⟩
  obtain ⟨b, off, e, hh⟩ := h4 hl
  exact ⟨b, off, e, fun j hj => hc _ _ (hh j hj)⟩
theorem HB.below {w w' : World} {v : Value} {l : List Int} (h : HB w v l) (hb : Below w.heap.size w w') : HB w' v l :=
  h.later fun a _ hx => (hb.cell (World.block_lt_of_cell? w a hx)).trans hx
theorem HB.drewN {w : World} {v : Value} {l : List Int} (h : HB w v l) (q : Nat) : HB (w.drewN q) v l := h.later fun _ _ hx => hx
theorem getD_of_lt {l : List Int} {k : Nat} (h : k < l.length) : l.getD k 0 = l[k] := by simp [List.getD, List.getElem?_eq_getElem h]
theorem ownsRow_cells {w : World} {B : Nat} {e : TypeId} {v : Value} {n : Nat} {xs : List Value} (h : w.ownsRow B e 1 v n xs) (h0 : 0 < n) :
    ∃ g cap, v = .slice (some ⟨g, 0, none⟩) n cap ∧ B ≤ g ∧ n ≤ cap ∧ cap ≤ maxLen ∧ ∀ j u, xs[j]? = some u → w.cell? ⟨g, 0 + j, none⟩ = some u := by
  have hc := @World.ownsRow.cells w B e 1 v n xs h
  rcases h.2 with ⟨_, e0⟩ | ⟨g, cap, cur, rfl, hb, _, hn, hm, _, _⟩
  · omega
  · refine ⟨g, cap, rfl, hb, hn, hm, fun j u hj => ?_⟩
    have := @hc g rfl j u hj
    rwa [Go.WideShapes.add_plain] at this
theorem HB.of_own {w : World} {B : Nat} {e : TypeId} {v : Value} {l : List Int} (h : w.ownsRow B e 1 v l.length (l.map (Value.int .u8))) (hx : ∀ x ∈ l, 0 ≤ x ∧ x < 256) : HB w v l := by
  refine ⟨?_, hx⟩
  by_cases h0 : 0 < l.length
  · obtain ⟨g, cap, rfl, _, hn, hm, hc⟩ := ownsRow_cells h h0
    refine ⟨_, cap, rfl, hn, hm, (fun e => by cases e), fun _ => ⟨g, 0, rfl, fun j hj => ?_⟩⟩
    exact hc j _ (by simp [List.getD, List.getElem?_eq_getElem hj])
  · have e : l = [] := List.length_eq_zero_iff.1 (by omega)
    subst e
    rcases h.2 with ⟨rfl, _⟩ | ⟨g, cap, cur, rfl, _, _, hn, hm, _⟩
    · exact ⟨none, 0, rfl, Nat.le_refl _, Nat.zero_le _, fun _ => rfl, fun h => absurd rfl h⟩
    · exact ⟨_, cap, rfl, hn, hm, (fun e => by cases e), fun h => absurd rfl h⟩
theorem HB.grown {w w' : World} {v : Value} {l : List Int} {g : Nat} (h : HB w v l) (hg : w.grownBy w' (some g)) (hn : ∀ o sp (n : Int), w.cell? ⟨g, o, sp⟩ ≠ some (.int .u8 n)) : HB w' v l :=
  h.later fun a n hx => hg.cell hx (by
    intro e
    obtain ⟨b, o, sp⟩ := a
    simp only [Option.some.injEq] at e
    subst e
    exact hn o sp n hx)
theorem HB.nil (w : World) : HB w (.slice none 0 0) [] := ⟨⟨none, 0, rfl, Nat.zero_le _, Nat.zero_le _, fun _ => rfl, fun h => absurd rfl h⟩, by simp⟩
def BT (w : World) (g : Nat) (T : TypeId) : Prop := ∃ cur fz, w.heap[g]? = some (.cells cur T fz)
def HL (w : World) (v : Value) (ls : List (List Int)) : Prop :=
  ∃ (p : Option Addr) (c : Nat), v = .slice p ls.length c ∧ ls.length ≤ c ∧ c ≤ maxLen ∧ (p = none → c = 0) ∧
    (ls ≠ [] → ∃ b off, p = some ⟨b, off, none⟩ ∧ ∀ j, j < ls.length → ∃ u, w.cell? ⟨b, off + j, none⟩ = some u ∧ HB w u (ls.getD j []))
theorem HL.ne {w : World} {v : Value} {ls : List (List Int)} (h : HL w v ls) (hl : 0 < ls.length) :
    ∃ b off c, v = .slice (some ⟨b, off, none⟩) ls.length c ∧ ls.length ≤ c ∧ c ≤ maxLen ∧ ∀ j, j < ls.length → ∃ u, w.cell? ⟨b, off + j, none⟩ = some u ∧ HB w u (ls.getD j []) := by
  obtain ⟨p, c, h1, h2, h3, _, h4⟩ := h
  obtain ⟨b, off, rfl, hc⟩ := h4 (by intro e; subst e; simp at hl)
  exact ⟨b, off, c, h1, h2, h3, hc⟩
theorem HL.open {w : World} {v : Value} {ls : List (List Int)} (h : HL w v ls) : ∃ (p : Option Addr) (c : Nat), v = .slice p ls.length c ∧ ls.length ≤ c ∧ c ≤ maxLen := by
  obtain ⟨p, c, h1, h2, h3, _⟩ := h
  exact ⟨p, c, h1, h2, h3⟩
theorem HL.later {w w' : World} {v : Value} {ls : List (List Int)} (h : HL w v ls) (hc : ∀ a x, w.cell? a = some x → w'.cell? a = some x) : HL w' v ls := by
  obtain ⟨p, c, h1, h2, h3, h5, h4⟩ := h
  refine ⟨p, c, h1, h2, h3, h5, fun hl => ?_⟩
  obtain ⟨b, off, e, hh⟩ := h4 hl
  refine ⟨b, off, e, fun j hj => ?_⟩
  obtain ⟨u, hu, hb⟩ := hh j hj
  exact ⟨u, hc _ _ hu, hb.later fun a n => hc a _⟩
theorem HL.below {w w' : World} {v : Value} {ls : List (List Int)} (h : HL w v ls) (hb : Below w.heap.size w w') : HL w' v ls :=
  h.later fun a _ hx => (hb.cell (World.block_lt_of_cell? w a hx)).trans hx
theorem HL.byt {w : World} {v : Value} {ls : List (List Int)} (h : HL w v ls) : ∀ x ∈ ls.flatten, 0 ≤ x ∧ x < 256 := by
  intro x hx
  obtain ⟨l, hl, hxl⟩ := List.mem_flatten.1 hx
  obtain ⟨j, hj, rfl⟩ := List.getElem_of_mem hl
  obtain ⟨b, off, c, _, _, _, hh⟩ := h.ne (by omega)
  obtain ⟨u, _, hb⟩ := hh j hj
  have e : ls.getD j [] = ls[j] := by simp [List.getD, List.getElem?_eq_getElem hj]
  rw [e] at hb
  exact hb.2 x hxl
theorem HL.nil (w : World) : HL w (.slice none 0 0) [] := ⟨none, 0, rfl, Nat.zero_le _, Nat.zero_le _, fun _ => rfl, fun h => absurd rfl h⟩
def Dr (w w' : World) : Prop := ∃ q, w' = w.drewN q
theorem Dr.refl (w : World) : Dr w w := ⟨0, rfl⟩
theorem Dr.drewN {w u : World} (h : Dr w u) (n : Nat) : Dr w (u.drewN n) := by
  obtain ⟨q, rfl⟩ := h
  exact ⟨q + n, World.drewN_drewN w q n⟩
theorem Dr.one (w : World) (n : Nat) : Dr w (w.drewN n) := ⟨n, rfl⟩
theorem Dr.trans {a b c : World} (h : Dr a b) (k : Dr b c) : Dr a c := by
  obtain ⟨q, rfl⟩ := k
  exact h.drewN q
theorem Dr.cell {w w' : World} (h : Dr w w') (a : Addr) : w'.cell? a = w.cell? a := by obtain ⟨q, rfl⟩ := h; rfl
theorem Dr.heap {w w' : World} (h : Dr w w') : w'.heap = w.heap := by obtain ⟨q, rfl⟩ := h; rfl
theorem Dr.below {w w' : World} (h : Dr w w') (B : Nat) : Below B w w' := by obtain ⟨q, rfl⟩ := h; exact ⟨rfl, rfl, rfl, Nat.le_refl _, fun _ _ => rfl⟩
theorem HB.dr {w w' : World} {v : Value} {l : List Int} (h : HB w v l) (d : Dr w w') : HB w' v l := h.later fun a _ hx => (d.cell a).trans hx
theorem HL.dr {w w' : World} {v : Value} {ls : List (List Int)} (h : HL w v ls) (d : Dr w w') : HL w' v ls := h.below (d.below _)
end Go.Proofs.YtokamemkfgpfpaaDoor
namespace Go.Proofs.YtokamemkfgpfpaaDoor
open Go.ChangeShapes Go.WideShapes Go.ChangeAt Go.RowKit
theorem Opn.own : ownKnob Tryd.prog.godebug = none := by kernel_rfl
theorem Opn.laidOut : laidOutB Tryd.prog = true := by kernel_rfl
theorem Opn.cells_u8 : Tryd.prog.cellsOf 5 = 1 := by kernel_rfl
theorem Opn.cells_int : Tryd.prog.cellsOf 3 = 1 := by kernel_rfl
theorem bulk_pos {H : Type} (d : DataW H) : 1 ≤ Rows.uptoBulk d := by
  cases d with
  | lit l => cases l <;> simp [Rows.uptoBulk]
  | _ => simp [Rows.uptoBulk]
theorem bulk_len {H : Type} (l : List (DataW H)) : l.length ≤ Rows.uptoBulkAll l := by
  induction l with
  | nil => simp
  | cons x r ih => have := bulk_pos x; simp only [Rows.uptoBulkAll, List.length_cons]; omega
theorem bulk_slice {H : Type} (a b : List (DataW H)) : a.length + b.length + 1 ≤ Rows.uptoBulk (.slice a b) := by
  have h1 := bulk_len a
  have h2 := bulk_len b
  simp only [Rows.uptoBulk]
  omega
theorem bulk_all {H : Type} {l : List (DataW H)} (hk : Rows.uptoSmall H l = true) : Rows.uptoBulkAll l ≤ 1048576 := of_decide_eq_true hk
variable {H : Type} {enc : TypeId × Value → H} {W : World}
theorem open_row {k : IntKind} {t e : TypeId} {fuel base : Nat} {cs : List Value} {d : DataW H} {p : List MemPlace} (ht : Tryd.prog.underlying t = some (.slice e)) (he : Tryd.prog.underlying e = some (.int k)) (hc : Tryd.prog.cellsOf e = 1)
    (hf : DataW.trod enc Tryd.prog W base (fun _ => true) true fuel t cs = some (d, p)) :
    ∃ (q : Option Addr) (c : Nat) (l : List Int), cs = [.slice q l.length c] ∧ l.length ≤ c ∧ c ≤ maxLen ∧ (q = none → c = 0) ∧ (l ≠ [] → ∃ b off, q = some ⟨b, off, none⟩ ∧ ∀ j, j < l.length → W.cell? ⟨b, off + j, none⟩ = some (.int k (l.getD j 0))) ∧ (∀ n ∈ l, (Lit.int k n).wf = true) ∧ l.length + 1 ≤ Rows.uptoBulk d := by
  rcases open_ints ht he hc hf with ⟨rfl, hx⟩ | ⟨x, len, cap, zs, rfl, _, hl, hm, hz, hx, hcell, hwz⟩
  · cases hx
    exact ⟨none, 0, [], rfl, Nat.le_refl _, Nat.zero_le _, fun _ => rfl, fun h => absurd rfl h, by simp, by simp [Rows.uptoBulk]⟩
  · simp only [Prod.mk.injEq] at hx
    obtain ⟨rfl, _⟩ := hx
    simp only [if_true] at hz
    have hlen : (zs.take len).length = len := by simp; omega
    refine ⟨some x, cap, zs.take len, by rw [hlen], by omega, hm, (fun e => by cases e), fun hne => ?_, fun n hn => hwz n (List.mem_of_mem_take hn), ?_⟩
    · have h0 : 0 < len := by
        apply Classical.byContradiction
        intro h
        exact hne (List.length_eq_zero_iff.1 (by omega))
      obtain ⟨b, off, rfl, hh⟩ := ints_at hcell (by omega)
      refine ⟨b, off, rfl, fun j hj => ?_⟩
      rw [hlen] at hj
      rw [hh j (by omega)]
      simp only [List.getD, List.getElem?_take]
      rw [if_pos hj]
    · have := bulk_slice (lits (H := H) k (zs.take len)) (lits k (zs.drop len))
      simp only [lits, List.length_map] at this ⊢
      omega
theorem byte_wf {l : List Int} (h : ∀ n ∈ l, (Lit.int .u8 n).wf = true) : ∀ x ∈ l, 0 ≤ x ∧ x < 256 := by
  intro x hx
  have := bounds_u8 (h x hx)
  omega
theorem open_HB {base : Nat} {v : Value} {d : DataW H} {p : List MemPlace} (h : DataW.Trod enc Tryd.prog W base (fun _ => true) true 30 v d p) (hv : ∃ a n c, v = .slice a n c) : ∃ l, HB W v l ∧ l.length + 1 ≤ Rows.uptoBulk d := by
  obtain ⟨a, n, c, rfl⟩ := hv
  obtain ⟨fuel, hf⟩ := h
  obtain ⟨q, c', l, hcs, h1, h2, h3, h4, h5, h6⟩ := open_row Tryd.underlying30 Tryd.underlying5 Opn.cells_u8 hf
  simp only [Value.cells, List.cons.injEq, and_true] at hcs
  exact ⟨l, ⟨⟨q, c', hcs, h1, h2, h3, h4⟩, byte_wf h5⟩, h6⟩
theorem Opn.bytes_u8 : Tryd.prog.bytesOf 5 = 1 := by kernel_rfl
theorem len_reach {ts : List TypeId} {ds : List (DataW H)} {j base : Nat} {v : Value} {d : DataW H} {p : List MemPlace} {l : List Int} (h : (DataW.weightsEach Tryd.prog ts ds).all (· ≤ reachBytes) = true) (ht : ts[j]? = some 30) (hd : ds[j]? = some d)
    (hT : DataW.Trod enc Tryd.prog W base (fun _ => true) true 30 v d p) (hb : HB W v l) : l.length ≤ 140737488351232 := by
  obtain ⟨q, c, rfl, _, _⟩ := hb.open
  obtain ⟨fuel, hf⟩ := hT
  rcases open_ints Tryd.underlying30 Tryd.underlying5 Opn.cells_u8 hf with ⟨hcs, _⟩ | ⟨x, len, cap, zs, hcs, _, hl, hm, hz, hx, _, _⟩
  · simp only [Value.cells, List.cons.injEq, and_true, Value.slice.injEq] at hcs
    omega
  · simp only [Value.cells, List.cons.injEq, and_true, Value.slice.injEq] at hcs
    simp only [Prod.mk.injEq] at hx
    obtain ⟨rfl, _⟩ := hx
    have := sized_slice h ht hd Tryd.underlying30
    rw [Opn.bytes_u8] at this
    simp only [lits, List.length_map, List.length_take, List.length_drop, reachBytes, if_true] at this hz
    omega
theorem bulk_mem {H : Type} {d : DataW H} {l : List (DataW H)} (h : d ∈ l) : Rows.uptoBulk d ≤ Rows.uptoBulkAll l := by
  induction l with
  | nil => cases h
  | cons x r ih =>
    simp only [Rows.uptoBulkAll]
    rcases List.mem_cons.1 h with e | e
    · subst e; omega
    · have := ih e; omega
theorem bulk_sum {H : Type} : ∀ (n : Nat) (D : Nat → DataW H) (L : Nat → List Int), (∀ i, i < n → (L i).length + 1 ≤ Rows.uptoBulk (D i)) → ((List.range n).map L).flatten.length + n ≤ Rows.uptoBulkAll ((List.range n).map D)
  | 0, _, _, _ => by simp [Rows.uptoBulkAll]
  | n + 1, D, L, h => by
    have ih := bulk_sum n (fun i => D (i + 1)) (fun i => L (i + 1)) (fun i hi => h (i + 1) (by omega))
    have h0 := h 0 (by omega)
    rw [List.range_succ_eq_map]
    simp only [List.map_cons, List.map_map, List.flatten_cons, List.length_append, Rows.uptoBulkAll]
    have e1' : (List.range n).map (L ∘ Nat.succ) = (List.range n).map (fun i => L (i + 1)) := rfl
    have e2' : (List.range n).map (D ∘ Nat.succ) = (List.range n).map (fun i => D (i + 1)) := rfl
    rw [e1', e2']
    omega
theorem choose_lists {P : Nat → List Int → Prop} (n : Nat) (h : ∀ i, i < n → ∃ l, P i l) : ∃ L : Nat → List Int, ∀ i, i < n → P i (L i) :=
  ⟨fun i => if hi : i < n then Classical.choose (h i hi) else [], fun i hi => by simp only [hi, dif_pos]; exact Classical.choose_spec (h i hi)⟩
theorem Opn.cells_bytes : Tryd.prog.cellsOf 30 = 1 := by kernel_rfl
theorem open_HL {base : Nat} {v : Value} {d : DataW H} {p : List MemPlace} (h : DataW.Trod enc Tryd.prog W base (fun _ => true) true 24 v d p) (hv : ∃ a n c, v = .slice a n c) : ∃ ls, HL W v ls ∧ ls.flatten.length + ls.length + 1 ≤ Rows.uptoBulk d := by
  obtain ⟨a, n, c, rfl⟩ := hv
  obtain ⟨fuel, hf⟩ := h
  rcases Go.Deep.open_slice Tryd.underlying24 hf with ⟨hcs, hx⟩ | ⟨a, len, cap, m, n, D, Pl, hcs, hb, hl, hm, hmm, hx, hel⟩
  · simp only [Value.cells, List.cons.injEq, and_true] at hcs
    cases hx
    rw [hcs]
    exact ⟨[], HL.nil _, by simp [Rows.uptoBulk]⟩
  · simp only [Value.cells, List.cons.injEq, and_true] at hcs
    rw [hcs]
    simp only [if_true] at hmm
    subst hmm
    simp only [Prod.mk.injEq] at hx
    obtain ⟨rfl, _⟩ := hx
    have each : ∀ i, i < len → ∃ l, (∃ u, W.cell? (a.add i) = some u ∧ HB W u l) ∧ l.length + 1 ≤ Rows.uptoBulk (D i) := by
      intro i hi
      obtain ⟨cs', h1, h2⟩ := hel i (by omega)
      rw [Opn.cells_bytes, Nat.mul_one] at h1
      obtain ⟨q, c', l, rfl, k1, k2, k3, k4, k5, k6⟩ := open_row Tryd.underlying30 Tryd.underlying5 Opn.cells_u8 h2
      exact ⟨l, ⟨_, cell_of_cells?_one h1, ⟨⟨q, c', rfl, k1, k2, k3, k4⟩, byte_wf k5⟩⟩, k6⟩
    obtain ⟨L, hL⟩ := choose_lists len each
    have hlen : ((List.range len).map L).length = len := by simp
    refine ⟨(List.range len).map L, ⟨some a, m, by rw [hlen], by omega, hm, (fun e => by cases e), fun hne => ?_⟩, ?_⟩
    · have h0 : 0 < len := by
        apply Classical.byContradiction
        intro h
        exact hne (List.length_eq_zero_iff.1 (by omega))
      obtain ⟨b, off, sp⟩ := a
      obtain ⟨⟨u, hu, _⟩, _⟩ := hL 0 h0
      have hsp : sp = none := by simpa [Addr.add] using World.cell?_spot hu
      subst hsp
      refine ⟨b, off, rfl, fun j hj => ?_⟩
      rw [hlen] at hj
      obtain ⟨⟨u, hu, hb⟩, _⟩ := hL j hj
      rw [Go.WideShapes.add_plain] at hu
      refine ⟨u, hu, ?_⟩
      have e : ((List.range len).map L).getD j [] = L j := by simp [List.getD, hj]
      rw [e]
      exact hb
    · have h1 := bulk_sum len D L (fun i hi => (hL i hi).2)
      rw [hlen]
      simp only [Rows.uptoBulk]
      omega
end Go.Proofs.YtokamemkfgpfpaaDoor
namespace Go.Proofs.YtokamemkfgpfpaaDoor
open Go.ChangeShapes Go.WideShapes Go.ChangeAt Go.RowKit
variable {H : Type} {enc : TypeId × Value → H} {W : World}
theorem open_len8 {fuel : Nat} {u : Value} {x : DataW H × List MemPlace} (h : DataW.trod enc Tryd.prog W 0 (fun _ => true) true fuel 30 [u] = some x) (hw : ∀ n ∈ x.1.weights Tryd.prog 30, n ≤ reachBytes) : ∃ a n c, u = .slice a n c ∧ n ≤ 140737488351232 := by
  rcases Go.Deep.open_slice Tryd.underlying30 h with ⟨hcs, hx⟩ | ⟨a, len, cap, m, n, D, Pl, hcs, hb, hl, hm, hmm, hx, hel⟩
  · simp only [List.cons.injEq, and_true] at hcs
    exact ⟨none, 0, 0, hcs, by omega⟩
  · simp only [List.cons.injEq, and_true] at hcs
    refine ⟨some a, len, cap, hcs, ?_⟩
    rw [hx] at hw
    have := hw _ (by simp only [DataW.weights, Tryd.underlying30]; exact List.mem_cons_self)
    rw [Opn.bytes_u8] at this
    simp only [List.length_map, List.length_range, reachBytes] at this
    omega
theorem mem_weightsAll {P : Program} {e : TypeId} {d : DataW H} : ∀ {l : List (DataW H)}, d ∈ l → ∀ n ∈ d.weights P e, n ∈ DataW.weightsAll P e l
  | [], h, _, _ => by cases h
  | x :: r, h, n, hn => by
    simp only [DataW.weightsAll, List.mem_append]
    rcases List.mem_cons.1 h with rfl | h
    · exact .inl hn
    · exact .inr (mem_weightsAll h n hn)
theorem open_HLW {v : Value} {d : DataW H} {p : List MemPlace} (h : DataW.Trod enc Tryd.prog W 0 (fun _ => true) true 24 v d p) (hv : ∃ a n c, v = .slice a n c) (hw : ∀ n ∈ d.weights Tryd.prog 24, n ≤ reachBytes) : ∃ ls, HL W v ls ∧ ∀ l ∈ ls, l.length ≤ 140737488351232 := by
  obtain ⟨ls, hl, _⟩ := open_HL h hv
  refine ⟨ls, hl, fun l hm => ?_⟩
  obtain ⟨j, hj, rfl⟩ := List.getElem_of_mem hm
  obtain ⟨b, off, c', e', _, _, hh⟩ := hl.ne (by omega)
  obtain ⟨u, hu, hb⟩ := hh j hj
  obtain ⟨fuel, hf⟩ := h
  subst e'
  rcases Go.Deep.open_slice Tryd.underlying24 hf with ⟨hcs, hx⟩ | ⟨a, len, cap, m, n, D, Pl, hcs, hb0, hl0, hm0, hmm, hx, hel⟩
  · simp [Value.cells] at hcs
  · simp only [Value.cells, List.cons.injEq, and_true, Value.slice.injEq, Option.some.injEq] at hcs
    obtain ⟨ea, el, _⟩ := hcs
    subst ea
    simp only [if_true] at hmm
    obtain ⟨cs', h1, h2⟩ := hel j (by omega)
    rw [Opn.cells_bytes, Nat.mul_one] at h1
    obtain ⟨_, hl1, hc⟩ := World.cells?_some h1
    have h0 := hc 0 (by omega)
    match cs', hl1 with
    | [u'], _ =>
      have e0 : ((⟨b, off, none⟩ : Addr).add j).add 0 = ⟨b, off + j, none⟩ := by simp [Addr.add]
      rw [e0, hu] at h0
      simp only [List.getElem?_cons_zero, Option.some.injEq] at h0
      subst h0
      have hd : d = .slice ((List.range len).map D) ((List.range (m - len)).map fun j => D (len + j)) := congrArg Prod.fst hx
      rw [hd] at hw
      obtain ⟨a2, n2, c2, e2, hn2⟩ := open_len8 h2 (fun k hk => by
        refine hw k ?_
        simp only [DataW.weights, Tryd.underlying24]
        refine List.mem_cons_of_mem _ (List.mem_append_left _ (mem_weightsAll (d := D j) ?_ k hk))
        exact List.mem_map.2 ⟨j, List.mem_range.2 (by omega), rfl⟩)
      obtain ⟨p3, c3, e3, _, _⟩ := hb.open
      rw [e2] at e3
      simp only [Value.slice.injEq] at e3
      have e4 : ls.getD j [] = ls[j] := by simp [List.getD, List.getElem?_eq_getElem hj]
      rw [e4] at e3
      omega
end Go.Proofs.YtokamemkfgpfpaaDoor
namespace Go.Proofs.YtokamemkfgpfpaaDoor
open Go.RowKit
theorem info_u8 : (Tryd.prog.info? 5).map (fun i => (i.zero, i.size, i.bytes)) = some (some (.int .u8 0), 1, 1) := by kernel_rfl
theorem size_u8 : ∀ w, Sem.run Tryd.prog (Go.sizeOf 5) w = .ok 1 w := fun w => by
  obtain ⟨i0, hi, hz0, hz1, hz2⟩ := info_parts info_u8
  simp [Go.sizeOf, typeInfo, hi, hz1]
theorem eql_nil_bytes : ∀ (w : World) (a : Option Addr) (n c n' c' : Nat), (binOp .eql 30 (.slice a n c) (.slice none n' c')).run Tryd.prog w = .ok (.bool a.isNone) w :=
  fun w a n c n' c' => Lib.run_eql_slice_nil w _ _ a n c n' c' Tryd.underlying30
def cellsB (l : List Int) : Array Value := (l.map (Value.int .u8)).toArray
theorem cellsB_size (l : List Int) : (cellsB l).size = l.length := by simp [cellsB]
theorem cellsB_one (l : List Int) : (cellsB l).all (·.oneCell') = true := all_oneCell_toArray (fun v hv => by obtain ⟨x, _, rfl⟩ := List.mem_map.1 hv; rfl)
def zeros32 : List Int := List.replicate 32 0
theorem isAgg_u8 (w : World) : (isAgg 5).run Tryd.prog w = .ok false w := by
  unfold isAgg
  rw [Sem.run_bind, run_underlying Tryd.underlying5 w]
  rfl
theorem part_u8 (w : World) (l : List Int) (i : Nat) (hi : i < l.length) : (part 5 (cellsB l) i).run Tryd.prog w = .ok (.int .u8 (l.getD i 0)) w := by
  have e : (cellsB l)[i]? = some (.int .u8 (l.getD i 0)) := by simp [cellsB, List.getD, List.getElem?_eq_getElem hi]
  simp [part, e]
def eqRound (d : Nat) (xs ys : List Int) (i : Nat) (_ : Option Bool × Unit) : Sem (ForInStep (Option Bool × Unit)) := do
  let a ← part 5 (cellsB xs) (i * 1)
  let b ← part 5 (cellsB ys) (i * 1)
  let c ← Op.equalIn (d + 1) 5 a b
  if (!c) = true then pure (ForInStep.done (some false, ())) else pure (ForInStep.yield (none, ()))
theorem run_eqRound (w : World) (d : Nat) (xs ys : List Int) (i : Nat) (s : Option Bool × Unit) (hx : i < xs.length) (hy : i < ys.length) :
    (eqRound d xs ys i s).run Tryd.prog w = .ok (if xs.getD i 0 = ys.getD i 0 then .yield (none, ()) else .done (some false, ())) w := by
  unfold eqRound
  simp only [Sem.run_bind, Nat.mul_one, part_u8 w xs i hx, part_u8 w ys i hy, Result.andThen_ok, run_equalIn_int w d 5 .u8 .u8 _ _ Tryd.underlying5]
  by_cases h : xs.getD i 0 = ys.getD i 0
  · have e : (xs.getD i 0 == ys.getD i 0) = true := by simpa using h
    rw [e, if_pos h]; rfl
  · have e : (xs.getD i 0 == ys.getD i 0) = false := by simpa using h
    rw [e, if_neg h]; rfl
theorem run_eqRounds (w : World) (d n : Nat) (xs ys : List Int) (hx : xs.length = n) (hy : ys.length = n) : ∀ (m k : Nat), k + m = n → xs.take k = ys.take k →
    (forIn (List.range' k m 1) ((none : Option Bool), ()) (eqRound d xs ys)).run Tryd.prog w = .ok (if xs = ys then (none, ()) else (some false, ())) w
  | 0, k, hk, ht => by
    have e : xs = ys := by rw [← List.take_of_length_le (show xs.length ≤ k by omega), ← List.take_of_length_le (show ys.length ≤ k by omega), ht]
    simp [e]
  | m + 1, k, hk, ht => by
    rw [List.range'_succ, List.forIn_cons, Sem.run_bind, run_eqRound w d xs ys k _ (by omega) (by omega), Result.andThen_ok]
    by_cases h : xs.getD k 0 = ys.getD k 0
    · rw [if_pos h]
      have h2 : xs.take (k + 1) = ys.take (k + 1) := by
        rw [List.take_succ_eq_append_getElem (by omega), List.take_succ_eq_append_getElem (by omega), ht]
        rw [getD_of_lt (by omega), getD_of_lt (by omega)] at h
        rw [h]
      exact run_eqRounds w d n xs ys hx hy m (k + 1) (by omega) h2
    · rw [if_neg h, if_neg (fun e => h (by rw [e]))]
      rfl
theorem run_equalIn_bytes (w : World) (d n : Nat) (t : TypeId) (ht : Tryd.prog.underlying t = some (.array n 5)) (xs ys : List Int) (hx : xs.length = n) (hy : ys.length = n) :
    (Op.equalIn (d + 2) t (.agg (cellsB xs)) (.agg (cellsB ys))).run Tryd.prog w = .ok (decide (xs = ys)) w := by
  rw [Op.equalIn]
  simp only [Sem.run_bind, run_underlying ht, Result.andThen_ok, size_u8]
  have hr := run_eqRounds w d n xs ys hx hy n 0 (by omega) rfl
  have e : (forIn (m := Sem) [:n] ((none : Option Bool), ()) (eqRound d xs ys)) = forIn (List.range' 0 n 1) ((none : Option Bool), ()) (eqRound d xs ys) := by
    rw [Std.Legacy.Range.forIn_eq_forIn_range']
    simp [Std.Legacy.Range.size]
  rw [← e] at hr
  refine (congrArg (fun r => Result.andThen r _) hr).trans ?_
  by_cases h : xs = ys
  · simp [h]
  · simp [h]
theorem run_neq_bytes (w : World) (n : Nat) (t : TypeId) (ht : Tryd.prog.underlying t = some (.array n 5)) (xs ys : List Int) (hx : xs.length = n) (hy : ys.length = n) :
    (binOp .neq t (.agg (cellsB xs)) (.agg (cellsB ys))).run Tryd.prog w = .ok (.bool (!decide (xs = ys))) w := by
  rw [run_neq_struct, run_equalIn_bytes w 9998 n t ht xs ys hx hy]
  rfl
theorem run_eql_bytes (w : World) (n : Nat) (t : TypeId) (ht : Tryd.prog.underlying t = some (.array n 5)) (xs ys : List Int) (hx : xs.length = n) (hy : ys.length = n) :
    (binOp .eql t (.agg (cellsB xs)) (.agg (cellsB ys))).run Tryd.prog w = .ok (.bool (decide (xs = ys))) w := by
  rw [run_eql_struct, run_equalIn_bytes w 9998 n t ht xs ys hx hy]
  rfl
theorem info_digest : (Tryd.prog.info? 34).map (fun i => (i.zero, i.size, i.bytes)) = some (some (.agg (cellsB zeros32)), 32, 32) := by kernel_rfl
theorem size_digest : (Tryd.prog.info? 34).map (·.size) = some 32 := by kernel_rfl
theorem zeros32_length : zeros32.length = 32 := by simp [zeros32]
theorem run_alloc_digest (w : World) : (Instr.alloc 34 true (.tuple #[])).run Tryd.prog w = .ok (.pointer (some ⟨w.heap.size, 0, none⟩)) (w.alloc (.cells (cellsB zeros32) 34)) := by
  obtain ⟨i0, hi, hz0, hz1, hz2⟩ := info_parts info_digest
  simp [Instr.alloc, zeroValue, typeInfo, hi, hz0, newVar, newRow, Value.cells]
theorem wpList_alloc_digest {ops : Array Oper} {rest : List Oper} {o : Oper} {a : Act} {w : World} {Q : Exit → Act → World → Prop} (hgd : o.guard = none) (ho : o.op = .alloc 34)
    (h : wpList Tryd.prog ops Q rest (a.put o.dst (.pointer (some ⟨w.heap.size, 0, none⟩))) (w.alloc (.cells (cellsB zeros32) 34))) : wpList Tryd.prog ops Q (o :: rest) a w :=
  wpList_plain hgd fun _ hK => by
    have hr := run_alloc_digest w
    unfold Oper.wp
    simp only [execOp, ho, Sem.run_bind, hr, Result.andThen_ok]
    exact hK _ _ h
theorem built_digest : Tryd.prog.built 34 [] = some (cellsB zeros32) := by kernel_rfl
theorem wpList_build_digest {ops : Array Oper} {rest : List Oper} {o : Oper} {a : Act} {w : World} {Q : Exit → Act → World → Prop} (hgd : o.guard = none) (ho : o.op = .build 34 #[])
    (h : wpList Tryd.prog ops Q rest (a.put o.dst (.agg (cellsB zeros32))) w) : wpList Tryd.prog ops Q (o :: rest) a w := by
  have e : ((#[] : Array (Nat × Operand)).map fun (i, x) => (i, a.eval x)).toList = [] := by simp
  refine wpList_build hgd 34 #[] ho (by rw [e, built_digest]; rfl) ?_
  rw [e, built_digest]
  exact h
theorem wpList_build_digest_on {ops : Array Oper} {rest : List Oper} {o : Oper} {a : Act} {w : World} {Q : Exit → Act → World → Prop} (ho : o.op = .build 34 #[]) (hw : Region.wanted o (yielded ops a.tmps) = true)
    (h : wpList Tryd.prog ops Q rest (a.put o.dst (.agg (cellsB zeros32))) w) : wpList Tryd.prog ops Q (o :: rest) a w := by
  have e : ((#[] : Array (Nat × Operand)).map fun (i, x) => (i, a.eval x)).toList = [] := by simp
  refine wpList_step fun K hK => ?_
  simp only [hw, if_true]
  refine wp_build 34 #[] ho (by rw [e, built_digest]; rfl) ?_
  rw [e, built_digest]
  exact hK _ _ h
theorem below_setRow {B : Nat} {a w : World} (h : Below B a w) {g : Nat} (hg : B ≤ g) (cs : Array Value) : Below B a (w.setRow g cs) :=
  h.trans ⟨rfl, rfl, rfl, by simp [World.setRow], fun k hk => setRow_other w g k _ (by omega)⟩
end Go.Proofs.YtokamemkfgpfpaaDoor
namespace Go.Proofs.YtokamemkfgpfpaaDoor
open Go Go.RowKit
theorem HL.at5 {w : World} {p : Option Addr} {c : Nat} {ls : List (List Int)} (h : HL w (.slice p ls.length c) ls) : 0 < ls.length → ∃ b off, p = some ⟨b, off, none⟩ ∧ ∀ j, j < ls.length → ∃ u, w.cell? ⟨b, off + j, none⟩ = some u ∧ HB w u (ls.getD j []) := by
  intro h0
  obtain ⟨b, off, c', e', _, _, hh⟩ := h.ne h0
  simp only [Value.slice.injEq, true_and] at e'
  exact ⟨b, off, e'.1, hh⟩
theorem range_of5 {w : World} {g o : Nat} {m : Array Value} {T : TypeId} {fr : Nat × Nat} {l : List Value} (h : w.heap[g]? = some (.cells m T fr)) (hl : ∀ j, j < l.length → m[o + j]? = l[j]?) : w.rangeAt g o l := by
  intro j v hv
  have hj := (List.getElem?_eq_some_iff.1 hv).1
  rw [cell_of_row _ _ _ _ _ _ h, hl j hj]
  exact hv
theorem results_cellT5 {P : Program} {fn : Func} {p u : Tmp} {ty : TypeId} (h : fn.results = #[.cell p ty, .tmp u]) (tmps : Array Value) (w : World) (g : Nat) (t : TypeId) (cs : Array Value) (fr : Nat × Nat) (d : TypeDesc)
    (hp : tmps.getD p undef = .pointer (some ⟨g, 0, none⟩)) (hg : w.heap[g]? = some (.cells cs t fr))
    (hu : P.underlying ty = some d) (hd : (match d with | .struct _ | .array _ _ => true | _ => false) = true) (hi : (P.info? ty).map (·.size) = some cs.size) (x : Value) (hx : tmps.getD u undef = x) :
    (results fn tmps).run P w = .ok (.tuple #[.agg cs, x]) w := by
  have hp' : tmps[p]?.getD undef = .pointer (some ⟨g, 0, none⟩) := by simpa using hp
  have hx' : tmps[u]?.getD undef = x := by simpa using hx
  simp [results, h, hp', hx', asAddr, run_loadVar_row w g t ty cs fr d hg hu hd hi]
theorem bel_set5 {B : Nat} {w W : World} {g : Nat} (h : Below B w W) (hg : B ≤ g) (cs : Array Value) : Below B w (W.setRow g cs) := ⟨h.os, h.tape, h.output, by simp [World.setRow]; exact h.size, fun k hk => by rw [← h.block k hk]; simp [World.setRow, Array.getElem?_modify, show g ≠ k by omega]⟩
theorem bel_al5 (w : World) (o : Obj) : Below w.heap.size w (w.alloc o) := (Below.refl _ w).alloc (Nat.le_refl _) o
inductive Bd where
  | just (n : Nat)
  | most (n : Nat)
  | any
def Bd.ok : Bd → Nat → Bool
  | .just n, x => decide (x = n)
  | .most n, x => decide (x ≤ n)
  | .any, _ => true
def bdsOf (t : Nat) : List Bd :=
  match t with
  | 1 => [.most 64, .just 6, .most 16777216]
  | 2 => [.just 16]
  | 3 => [.any]
  | 4 => [.any]
  | 5 => [.just 32]
  | 6 => [.just 32, .just 32]
  | 7 => [.just 4]
  | 8 => [.any]
  | 9 => [.just 16, .just 4]
  | _ => []
def wS (t : Nat) : ByteArray :=
  match t with
  | 1 => ⟨#[115, 116, 114, 111, 110, 103, 114, 111, 111, 109, 32, 107, 101, 121]⟩
  | 2 => ⟨#[115, 116, 114, 111, 110, 103, 114, 111, 111, 109, 32, 105, 110, 100, 101, 120]⟩
  | 3 => ⟨#[115, 116, 114, 111, 110, 103, 114, 111, 111, 109, 32, 98, 108, 111, 99, 107]⟩
  | 4 => ⟨#[115, 116, 114, 111, 110, 103, 114, 111, 111, 109, 32, 115, 101, 103, 109, 101, 110, 116]⟩
  | 5 => ⟨#[115, 116, 114, 111, 110, 103, 114, 111, 111, 109, 32, 114, 111, 111, 116]⟩
  | 6 => ⟨#[115, 116, 114, 111, 110, 103, 114, 111, 111, 109, 32, 110, 111, 100, 101]⟩
  | 7 => ⟨#[115, 116, 114, 111, 110, 103, 114, 111, 111, 109, 32, 112, 97, 100]⟩
  | 8 => ⟨#[115, 116, 114, 111, 110, 103, 114, 111, 111, 109, 32, 117, 101, 98]⟩
  | 9 => ⟨#[115, 116, 114, 111, 110, 103, 114, 111, 111, 109, 32, 114, 105, 110, 103]⟩
  | _ => ⟨#[]⟩
def cJ (x : Nat) : Value := .func (.func 83) #[] #[.pointer (some ⟨x, 0, none⟩)]
def cM (x : Nat) : Value := .func (.func 82) #[] #[.pointer (some ⟨x, 0, none⟩)]
def cA : Value := .func (.func 84) #[] #[]
def HBd (w : World) (v : Value) : Bd → Prop
  | .just n => ∃ x, v = cJ x ∧ w.cell? ⟨x, 0, none⟩ = some (.int .i64 (n : Int))
  | .most n => ∃ x, v = cM x ∧ w.cell? ⟨x, 0, none⟩ = some (.int .i64 (n : Int))
  | .any => v = cA
theorem HBd.below {w w' : World} {v : Value} : ∀ {b : Bd}, HBd w v b → Below w.heap.size w w' → HBd w' v b
  | .just _, ⟨x, e, h⟩, hb => ⟨x, e, (hb.cell (World.block_lt_of_cell? w _ h)).trans h⟩
  | .most _, ⟨x, e, h⟩, hb => ⟨x, e, (hb.cell (World.block_lt_of_cell? w _ h)).trans h⟩
  | .any, h, _ => h
def HBs (w : World) (v : Value) (bs : List Bd) : Prop :=
  (bs = [] ∧ v = .slice none 0 0) ∨ (bs ≠ [] ∧ ∃ (g : Nat) (vs : List Value), v = .slice (some ⟨g, 0, none⟩) bs.length bs.length ∧ vs.length = bs.length ∧ w.heap[g]? = some (.cells vs.toArray 94 (0, 0)) ∧ ∀ j, j < bs.length → HBd w (vs.getD j undef) (bs.getD j .any))
set_option maxRecDepth 20000 in
theorem just_mk (w : World) (n : Int) : Calls Tryd.prog 75 #[.int .i64 n] w fun e w' => e = .returned (cJ w.heap.size) ∧ w' = w.alloc (.cells #[.int .i64 n] 3) := by
  go_enter Tryd.func75, Tryd.ntmps75
  go_wp2
  go_ret
  exact ⟨rfl, rfl⟩
set_option maxRecDepth 20000 in
theorem just_cl (w : World) (x : Nat) (n m : Nat) (h : w.cell? ⟨x, 0, none⟩ = some (.int .i64 (n : Int))) : Calls Tryd.prog 83 #[.int .i64 (m : Int), .pointer (some ⟨x, 0, none⟩)] w fun e w' => e = .returned (.bool ((Bd.just n).ok m)) ∧ w' = w := by
  go_enter Tryd.func83, Tryd.ntmps83
  go_wp2
  go_ret
  refine ⟨?_, rfl⟩
  simp only [Bd.ok]
  by_cases e : m = n
  · subst e; simp
  · first | (simp [e]; done) | (simp [e]; omega) | simp
set_option maxRecDepth 20000 in
theorem most_mk (w : World) (n : Int) : Calls Tryd.prog 74 #[.int .i64 n] w fun e w' => e = .returned (cM w.heap.size) ∧ w' = w.alloc (.cells #[.int .i64 n] 3) := by
  go_enter Tryd.func74, Tryd.ntmps74
  go_wp2
  go_ret
  exact ⟨rfl, rfl⟩
set_option maxRecDepth 20000 in
theorem most_cl (w : World) (x : Nat) (n m : Nat) (h : w.cell? ⟨x, 0, none⟩ = some (.int .i64 (n : Int))) : Calls Tryd.prog 82 #[.int .i64 (m : Int), .pointer (some ⟨x, 0, none⟩)] w fun e w' => e = .returned (.bool ((Bd.most n).ok m)) ∧ w' = w := by
  go_enter Tryd.func82, Tryd.ntmps82
  go_wp2
  go_ret
  refine ⟨?_, rfl⟩
  simp only [Bd.ok]
  by_cases e : m = n
  · subst e; simp
  · first | (simp [e]; done) | (simp [e]; omega) | simp
set_option maxRecDepth 20000 in
theorem what_mk (w : World) : Calls Tryd.prog 76 #[] w fun e w' => e = .returned cA ∧ w' = w := by
  go_enter Tryd.func76, Tryd.ntmps76
  go_wp2
  go_ret
  exact ⟨rfl, rfl⟩
set_option maxRecDepth 20000 in
theorem what_cl (w : World) (m : Nat) : Calls Tryd.prog 84 #[.int .i64 (m : Int)] w fun e w' => e = .returned (.bool true) ∧ w' = w := by
  go_enter Tryd.func84, Tryd.ntmps84
  go_wp2
  go_ret
  exact ⟨rfl, rfl⟩
set_option maxRecDepth 20000 in
theorem word_t1 (w : World) : Calls Tryd.prog 17 #[.int .u8 1] w fun e w' => e = .returned (.string (wS 1)) ∧ w' = w := by
  go_enter Tryd.func17, Tryd.ntmps17
  go_wp2
  go_ret
  exact ⟨rfl, rfl⟩
set_option maxRecDepth 20000 in
theorem word_t2 (w : World) : Calls Tryd.prog 17 #[.int .u8 2] w fun e w' => e = .returned (.string (wS 2)) ∧ w' = w := by
  go_enter Tryd.func17, Tryd.ntmps17
  go_wp2
  go_ret
  exact ⟨rfl, rfl⟩
set_option maxRecDepth 20000 in
theorem word_t3 (w : World) : Calls Tryd.prog 17 #[.int .u8 3] w fun e w' => e = .returned (.string (wS 3)) ∧ w' = w := by
  go_enter Tryd.func17, Tryd.ntmps17
  go_wp2
  go_ret
  exact ⟨rfl, rfl⟩
set_option maxRecDepth 20000 in
theorem word_t4 (w : World) : Calls Tryd.prog 17 #[.int .u8 4] w fun e w' => e = .returned (.string (wS 4)) ∧ w' = w := by
  go_enter Tryd.func17, Tryd.ntmps17
  go_wp2
  go_ret
  exact ⟨rfl, rfl⟩
set_option maxRecDepth 20000 in
theorem word_t5 (w : World) : Calls Tryd.prog 17 #[.int .u8 5] w fun e w' => e = .returned (.string (wS 5)) ∧ w' = w := by
  go_enter Tryd.func17, Tryd.ntmps17
  go_wp2
  go_ret
  exact ⟨rfl, rfl⟩
set_option maxRecDepth 20000 in
theorem word_t6 (w : World) : Calls Tryd.prog 17 #[.int .u8 6] w fun e w' => e = .returned (.string (wS 6)) ∧ w' = w := by
  go_enter Tryd.func17, Tryd.ntmps17
  go_wp2
  go_ret
  exact ⟨rfl, rfl⟩
set_option maxRecDepth 20000 in
theorem word_t7 (w : World) : Calls Tryd.prog 17 #[.int .u8 7] w fun e w' => e = .returned (.string (wS 7)) ∧ w' = w := by
  go_enter Tryd.func17, Tryd.ntmps17
  go_wp2
  go_ret
  exact ⟨rfl, rfl⟩
set_option maxRecDepth 20000 in
theorem word_t8 (w : World) : Calls Tryd.prog 17 #[.int .u8 8] w fun e w' => e = .returned (.string (wS 8)) ∧ w' = w := by
  go_enter Tryd.func17, Tryd.ntmps17
  go_wp2
  go_ret
  exact ⟨rfl, rfl⟩
set_option maxRecDepth 20000 in
theorem word_t9 (w : World) : Calls Tryd.prog 17 #[.int .u8 9] w fun e w' => e = .returned (.string (wS 9)) ∧ w' = w := by
  go_enter Tryd.func17, Tryd.ntmps17
  go_wp2
  go_ret
  exact ⟨rfl, rfl⟩
theorem tag_cases (t : Nat) : t = 1 ∨ t = 2 ∨ t = 3 ∨ t = 4 ∨ t = 5 ∨ t = 6 ∨ t = 7 ∨ t = 8 ∨ t = 9 ∨ (t = 0 ∨ 10 ≤ t) := by omega
theorem none_of {t : Nat} (h : t = 0 ∨ 10 ≤ t) : bdsOf t = [] ∧ wS t = ⟨#[]⟩ := by
  rcases h with rfl | h
  · exact ⟨rfl, rfl⟩
  · obtain ⟨k, rfl⟩ := Nat.exists_eq_add_of_le h
    rw [Nat.add_comm]
    exact ⟨rfl, rfl⟩
set_option maxRecDepth 20000 in
theorem word_none (w : World) (t : Nat) (ht : t = 0 ∨ 10 ≤ t) : Calls Tryd.prog 17 #[.int .u8 (t : Int)] w fun e w' => e = .returned (.string (wS t)) ∧ w' = w := by
  rw [(none_of ht).2]
  have h1 : ((t : Int) == 1) = false := by simp; omega
  have h2 : ((t : Int) == 2) = false := by simp; omega
  have h3 : ((t : Int) == 3) = false := by simp; omega
  have h4 : ((t : Int) == 4) = false := by simp; omega
  have h5 : ((t : Int) == 5) = false := by simp; omega
  have h6 : ((t : Int) == 6) = false := by simp; omega
  have h7 : ((t : Int) == 7) = false := by simp; omega
  have h8 : ((t : Int) == 8) = false := by simp; omega
  have h9 : ((t : Int) == 9) = false := by simp; omega
  go_enter Tryd.func17, Tryd.ntmps17
  go_wp2
  go_ret
  exact ⟨rfl, rfl⟩
theorem word_tag (w : World) (t : Nat) : Calls Tryd.prog 17 #[.int .u8 (t : Int)] w fun e w' => e = .returned (.string (wS t)) ∧ w' = w := by
  rcases tag_cases t with rfl | rfl | rfl | rfl | rfl | rfl | rfl | rfl | rfl | h
  · exact word_t1 w
  · exact word_t2 w
  · exact word_t3 w
  · exact word_t4 w
  · exact word_t5 w
  · exact word_t6 w
  · exact word_t7 w
  · exact word_t8 w
  · exact word_t9 w
  · exact word_none w t h
set_option maxRecDepth 20000 in
theorem bounds_t1 (w : World) : Calls Tryd.prog 61 #[.int .u8 1] w fun e w' => ∃ v, e = .returned v ∧ HBs w' v (bdsOf 1) ∧ Below w.heap.size w w' := by
  have CJ := hid just_mk
  have CM := hid most_mk
  have CA := hid what_mk
  go_enter Tryd.func61, Tryd.ntmps61
  go_wp2_with fail
  refine (CM.out w 64).mono ?_
  rintro e w1 ⟨rfl, e1⟩
  have E1 := hid e1
  clear e1
  try simp only [cJ, cM, cA]
  go_wp2_with fail
  refine (CJ.out w1 6).mono ?_
  rintro e w2 ⟨rfl, e2⟩
  have E2 := hid e2
  clear e2
  try simp only [cJ, cM, cA]
  go_wp2_with fail
  refine (CM.out w2 16777216).mono ?_
  rintro e w3 ⟨rfl, e3⟩
  have E3 := hid e3
  clear e3
  try simp only [cJ, cM, cA]
  go_wp2
  go_ret
  have b1 : Below w.heap.size w w1 := by rw [E1.out]; exact bel_al5 _ _
  have b2 : Below w1.heap.size w1 w2 := by rw [E2.out]; exact bel_al5 _ _
  have b3 : Below w2.heap.size w2 w3 := by rw [E3.out]; exact bel_al5 _ _
  refine ⟨_, rfl, .inr ⟨by simp [bdsOf], w3.heap.size, [cM w.heap.size, cJ w1.heap.size, cM w2.heap.size], rfl, rfl, heap_alloc_new _ _, fun j hj => ?_⟩, ?_⟩
  · match j, hj with
    | 0, _ => exact HBd.below (b := .most 64) (w := w1) ⟨w.heap.size, rfl, by rw [E1.out]; exact (cell_of_row _ _ 0 _ _ _ (heap_alloc_new _ _)).trans rfl⟩ ((b2.trans (b3.mono b2.size)).trans ((bel_al5 w3 _).mono (b2.trans (b3.mono b2.size)).size))
    | 1, _ => exact HBd.below (b := .just 6) (w := w2) ⟨w1.heap.size, rfl, by rw [E2.out]; exact (cell_of_row _ _ 0 _ _ _ (heap_alloc_new _ _)).trans rfl⟩ (b3.trans ((bel_al5 w3 _).mono b3.size))
    | 2, _ => exact HBd.below (b := .most 16777216) (w := w3) ⟨w2.heap.size, rfl, by rw [E3.out]; exact (cell_of_row _ _ 0 _ _ _ (heap_alloc_new _ _)).trans rfl⟩ (bel_al5 w3 _)
    | j + 3, h => exfalso; simp [bdsOf] at h; try omega
  · exact (((b1.trans (b2.mono b1.size)).trans (b3.mono (b1.trans (b2.mono b1.size)).size)).trans ((bel_al5 w3 _).mono ((b1.trans (b2.mono b1.size)).trans (b3.mono (b1.trans (b2.mono b1.size)).size)).size))
set_option maxRecDepth 20000 in
theorem bounds_t2 (w : World) : Calls Tryd.prog 61 #[.int .u8 2] w fun e w' => ∃ v, e = .returned v ∧ HBs w' v (bdsOf 2) ∧ Below w.heap.size w w' := by
  have CJ := hid just_mk
  have CM := hid most_mk
  have CA := hid what_mk
  go_enter Tryd.func61, Tryd.ntmps61
  go_wp2_with fail
  refine (CJ.out w 16).mono ?_
  rintro e w1 ⟨rfl, e1⟩
  have E1 := hid e1
  clear e1
  try simp only [cJ, cM, cA]
  go_wp2
  go_ret
  have b1 : Below w.heap.size w w1 := by rw [E1.out]; exact bel_al5 _ _
  refine ⟨_, rfl, .inr ⟨by simp [bdsOf], w1.heap.size, [cJ w.heap.size], rfl, rfl, heap_alloc_new _ _, fun j hj => ?_⟩, ?_⟩
  · match j, hj with
    | 0, _ => exact HBd.below (b := .just 16) (w := w1) ⟨w.heap.size, rfl, by rw [E1.out]; exact (cell_of_row _ _ 0 _ _ _ (heap_alloc_new _ _)).trans rfl⟩ (bel_al5 w1 _)
    | j + 1, h => exfalso; simp [bdsOf] at h; try omega
  · exact (b1.trans ((bel_al5 w1 _).mono b1.size))
set_option maxRecDepth 20000 in
theorem bounds_t3 (w : World) : Calls Tryd.prog 61 #[.int .u8 3] w fun e w' => ∃ v, e = .returned v ∧ HBs w' v (bdsOf 3) ∧ Below w.heap.size w w' := by
  have CJ := hid just_mk
  have CM := hid most_mk
  have CA := hid what_mk
  go_enter Tryd.func61, Tryd.ntmps61
  go_wp2_with fail
  refine (CA.out w).mono ?_
  rintro e w1 ⟨rfl, e1⟩
  have E1 := hid e1
  clear e1
  try simp only [cJ, cM, cA]
  go_wp2
  go_ret
  have b1 : Below w.heap.size w w1 := by rw [E1.out]; exact Below.refl _ _
  refine ⟨_, rfl, .inr ⟨by simp [bdsOf], w1.heap.size, [cA], rfl, rfl, heap_alloc_new _ _, fun j hj => ?_⟩, ?_⟩
  · match j, hj with
    | 0, _ => exact rfl
    | j + 1, h => exfalso; simp [bdsOf] at h; try omega
  · exact (b1.trans ((bel_al5 w1 _).mono b1.size))
set_option maxRecDepth 20000 in
theorem bounds_t4 (w : World) : Calls Tryd.prog 61 #[.int .u8 4] w fun e w' => ∃ v, e = .returned v ∧ HBs w' v (bdsOf 4) ∧ Below w.heap.size w w' := by
  have CJ := hid just_mk
  have CM := hid most_mk
  have CA := hid what_mk
  go_enter Tryd.func61, Tryd.ntmps61
  go_wp2_with fail
  refine (CA.out w).mono ?_
  rintro e w1 ⟨rfl, e1⟩
  have E1 := hid e1
  clear e1
  try simp only [cJ, cM, cA]
  go_wp2
  go_ret
  have b1 : Below w.heap.size w w1 := by rw [E1.out]; exact Below.refl _ _
  refine ⟨_, rfl, .inr ⟨by simp [bdsOf], w1.heap.size, [cA], rfl, rfl, heap_alloc_new _ _, fun j hj => ?_⟩, ?_⟩
  · match j, hj with
    | 0, _ => exact rfl
    | j + 1, h => exfalso; simp [bdsOf] at h; try omega
  · exact (b1.trans ((bel_al5 w1 _).mono b1.size))
set_option maxRecDepth 20000 in
theorem bounds_t5 (w : World) : Calls Tryd.prog 61 #[.int .u8 5] w fun e w' => ∃ v, e = .returned v ∧ HBs w' v (bdsOf 5) ∧ Below w.heap.size w w' := by
  have CJ := hid just_mk
  have CM := hid most_mk
  have CA := hid what_mk
  go_enter Tryd.func61, Tryd.ntmps61
  go_wp2_with fail
  refine (CJ.out w 32).mono ?_
  rintro e w1 ⟨rfl, e1⟩
  have E1 := hid e1
  clear e1
  try simp only [cJ, cM, cA]
  go_wp2
  go_ret
  have b1 : Below w.heap.size w w1 := by rw [E1.out]; exact bel_al5 _ _
  refine ⟨_, rfl, .inr ⟨by simp [bdsOf], w1.heap.size, [cJ w.heap.size], rfl, rfl, heap_alloc_new _ _, fun j hj => ?_⟩, ?_⟩
  · match j, hj with
    | 0, _ => exact HBd.below (b := .just 32) (w := w1) ⟨w.heap.size, rfl, by rw [E1.out]; exact (cell_of_row _ _ 0 _ _ _ (heap_alloc_new _ _)).trans rfl⟩ (bel_al5 w1 _)
    | j + 1, h => exfalso; simp [bdsOf] at h; try omega
  · exact (b1.trans ((bel_al5 w1 _).mono b1.size))
set_option maxRecDepth 20000 in
theorem bounds_t6 (w : World) : Calls Tryd.prog 61 #[.int .u8 6] w fun e w' => ∃ v, e = .returned v ∧ HBs w' v (bdsOf 6) ∧ Below w.heap.size w w' := by
  have CJ := hid just_mk
  have CM := hid most_mk
  have CA := hid what_mk
  go_enter Tryd.func61, Tryd.ntmps61
  go_wp2_with fail
  refine (CJ.out w 32).mono ?_
  rintro e w1 ⟨rfl, e1⟩
  have E1 := hid e1
  clear e1
  try simp only [cJ, cM, cA]
  go_wp2_with fail
  refine (CJ.out w1 32).mono ?_
  rintro e w2 ⟨rfl, e2⟩
  have E2 := hid e2
  clear e2
  try simp only [cJ, cM, cA]
  go_wp2
  go_ret
  have b1 : Below w.heap.size w w1 := by rw [E1.out]; exact bel_al5 _ _
  have b2 : Below w1.heap.size w1 w2 := by rw [E2.out]; exact bel_al5 _ _
  refine ⟨_, rfl, .inr ⟨by simp [bdsOf], w2.heap.size, [cJ w.heap.size, cJ w1.heap.size], rfl, rfl, heap_alloc_new _ _, fun j hj => ?_⟩, ?_⟩
  · match j, hj with
    | 0, _ => exact HBd.below (b := .just 32) (w := w1) ⟨w.heap.size, rfl, by rw [E1.out]; exact (cell_of_row _ _ 0 _ _ _ (heap_alloc_new _ _)).trans rfl⟩ (b2.trans ((bel_al5 w2 _).mono b2.size))
    | 1, _ => exact HBd.below (b := .just 32) (w := w2) ⟨w1.heap.size, rfl, by rw [E2.out]; exact (cell_of_row _ _ 0 _ _ _ (heap_alloc_new _ _)).trans rfl⟩ (bel_al5 w2 _)
    | j + 2, h => exfalso; simp [bdsOf] at h; try omega
  · exact ((b1.trans (b2.mono b1.size)).trans ((bel_al5 w2 _).mono (b1.trans (b2.mono b1.size)).size))
set_option maxRecDepth 20000 in
theorem bounds_t7 (w : World) : Calls Tryd.prog 61 #[.int .u8 7] w fun e w' => ∃ v, e = .returned v ∧ HBs w' v (bdsOf 7) ∧ Below w.heap.size w w' := by
  have CJ := hid just_mk
  have CM := hid most_mk
  have CA := hid what_mk
  go_enter Tryd.func61, Tryd.ntmps61
  go_wp2_with fail
  refine (CJ.out w 4).mono ?_
  rintro e w1 ⟨rfl, e1⟩
  have E1 := hid e1
  clear e1
  try simp only [cJ, cM, cA]
  go_wp2
  go_ret
  have b1 : Below w.heap.size w w1 := by rw [E1.out]; exact bel_al5 _ _
  refine ⟨_, rfl, .inr ⟨by simp [bdsOf], w1.heap.size, [cJ w.heap.size], rfl, rfl, heap_alloc_new _ _, fun j hj => ?_⟩, ?_⟩
  · match j, hj with
    | 0, _ => exact HBd.below (b := .just 4) (w := w1) ⟨w.heap.size, rfl, by rw [E1.out]; exact (cell_of_row _ _ 0 _ _ _ (heap_alloc_new _ _)).trans rfl⟩ (bel_al5 w1 _)
    | j + 1, h => exfalso; simp [bdsOf] at h; try omega
  · exact (b1.trans ((bel_al5 w1 _).mono b1.size))
set_option maxRecDepth 20000 in
theorem bounds_t8 (w : World) : Calls Tryd.prog 61 #[.int .u8 8] w fun e w' => ∃ v, e = .returned v ∧ HBs w' v (bdsOf 8) ∧ Below w.heap.size w w' := by
  have CJ := hid just_mk
  have CM := hid most_mk
  have CA := hid what_mk
  go_enter Tryd.func61, Tryd.ntmps61
  go_wp2_with fail
  refine (CA.out w).mono ?_
  rintro e w1 ⟨rfl, e1⟩
  have E1 := hid e1
  clear e1
  try simp only [cJ, cM, cA]
  go_wp2
  go_ret
  have b1 : Below w.heap.size w w1 := by rw [E1.out]; exact Below.refl _ _
  refine ⟨_, rfl, .inr ⟨by simp [bdsOf], w1.heap.size, [cA], rfl, rfl, heap_alloc_new _ _, fun j hj => ?_⟩, ?_⟩
  · match j, hj with
    | 0, _ => exact rfl
    | j + 1, h => exfalso; simp [bdsOf] at h; try omega
  · exact (b1.trans ((bel_al5 w1 _).mono b1.size))
set_option maxRecDepth 20000 in
theorem bounds_t9 (w : World) : Calls Tryd.prog 61 #[.int .u8 9] w fun e w' => ∃ v, e = .returned v ∧ HBs w' v (bdsOf 9) ∧ Below w.heap.size w w' := by
  have CJ := hid just_mk
  have CM := hid most_mk
  have CA := hid what_mk
  go_enter Tryd.func61, Tryd.ntmps61
  go_wp2_with fail
  refine (CJ.out w 16).mono ?_
  rintro e w1 ⟨rfl, e1⟩
  have E1 := hid e1
  clear e1
  try simp only [cJ, cM, cA]
  go_wp2_with fail
  refine (CJ.out w1 4).mono ?_
  rintro e w2 ⟨rfl, e2⟩
  have E2 := hid e2
  clear e2
  try simp only [cJ, cM, cA]
  go_wp2
  go_ret
  have b1 : Below w.heap.size w w1 := by rw [E1.out]; exact bel_al5 _ _
  have b2 : Below w1.heap.size w1 w2 := by rw [E2.out]; exact bel_al5 _ _
  refine ⟨_, rfl, .inr ⟨by simp [bdsOf], w2.heap.size, [cJ w.heap.size, cJ w1.heap.size], rfl, rfl, heap_alloc_new _ _, fun j hj => ?_⟩, ?_⟩
  · match j, hj with
    | 0, _ => exact HBd.below (b := .just 16) (w := w1) ⟨w.heap.size, rfl, by rw [E1.out]; exact (cell_of_row _ _ 0 _ _ _ (heap_alloc_new _ _)).trans rfl⟩ (b2.trans ((bel_al5 w2 _).mono b2.size))
    | 1, _ => exact HBd.below (b := .just 4) (w := w2) ⟨w1.heap.size, rfl, by rw [E2.out]; exact (cell_of_row _ _ 0 _ _ _ (heap_alloc_new _ _)).trans rfl⟩ (bel_al5 w2 _)
    | j + 2, h => exfalso; simp [bdsOf] at h; try omega
  · exact ((b1.trans (b2.mono b1.size)).trans ((bel_al5 w2 _).mono (b1.trans (b2.mono b1.size)).size))
set_option maxRecDepth 20000 in
theorem bounds_none (w : World) (t : Nat) (ht : t = 0 ∨ 10 ≤ t) : Calls Tryd.prog 61 #[.int .u8 (t : Int)] w fun e w' => ∃ v, e = .returned v ∧ HBs w' v (bdsOf t) ∧ Below w.heap.size w w' := by
  rw [(none_of ht).1]
  have h1 : ((t : Int) == 1) = false := by simp; omega
  have h2 : ((t : Int) == 2) = false := by simp; omega
  have h3 : ((t : Int) == 3) = false := by simp; omega
  have h4 : ((t : Int) == 4) = false := by simp; omega
  have h5 : ((t : Int) == 5) = false := by simp; omega
  have h6 : ((t : Int) == 6) = false := by simp; omega
  have h7 : ((t : Int) == 7) = false := by simp; omega
  have h8 : ((t : Int) == 8) = false := by simp; omega
  have h9 : ((t : Int) == 9) = false := by simp; omega
  go_enter Tryd.func61, Tryd.ntmps61
  go_wp2
  go_ret
  exact ⟨_, rfl, .inl ⟨rfl, rfl⟩, Below.refl _ _⟩
theorem bounds_any (w : World) (t : Nat) : Calls Tryd.prog 61 #[.int .u8 (t : Int)] w fun e w' => ∃ v, e = .returned v ∧ HBs w' v (bdsOf t) ∧ Below w.heap.size w w' := by
  rcases tag_cases t with rfl | rfl | rfl | rfl | rfl | rfl | rfl | rfl | rfl | h
  · exact bounds_t1 w
  · exact bounds_t2 w
  · exact bounds_t3 w
  · exact bounds_t4 w
  · exact bounds_t5 w
  · exact bounds_t6 w
  · exact bounds_t7 w
  · exact bounds_t8 w
  · exact bounds_t9 w
  · exact bounds_none w t h
def FitQ (t : Nat) (ls : List (List Int)) : Prop := ls.length = (bdsOf t).length ∧ ∀ j, j < ls.length → ((bdsOf t).getD j .any).ok (ls.getD j []).length = true
instance (t : Nat) (ls : List (List Int)) : Decidable (FitQ t ls) := by unfold FitQ; infer_instance
theorem bds_len (t : Nat) : (bdsOf t).length ≤ 3 := by
  rcases tag_cases t with rfl | rfl | rfl | rfl | rfl | rfl | rfl | rfl | rfl | h
  all_goals first | (rw [(none_of h).1]; simp) | simp [bdsOf]
set_option maxRecDepth 100000 in
set_option maxHeartbeats 4000000 in
theorem fit_any (w : World) (t : Nat) (v : Value) (ls : List (List Int)) (h : HL w v ls) : Calls Tryd.prog 30 #[.int .u8 (t : Int), v] w fun e w' => e = .returned (.bool (decide (FitQ t ls))) ∧ Below w.heap.size w w' := by
  have CB := hid (bounds_any w t)
  have CJ := hid just_cl
  have CM := hid most_cl
  have CA := hid what_cl
  have HH := hid h
  have BL := hid (bds_len t)
  have FQ : Hid (FitQ t ls ↔ (ls.length = (bdsOf t).length ∧ ∀ j, j < ls.length → ((bdsOf t).getD j .any).ok (ls.getD j []).length = true)) := hid Iff.rfl
  obtain ⟨d, HD⟩ : ∃ d, Hid (decide (FitQ t ls) = d) := ⟨_, rfl⟩
  rw [HD.out]
  obtain ⟨bs, HBS⟩ : ∃ bs, Hid (bdsOf t = bs) := ⟨_, rfl⟩
  rw [HBS.out] at CB FQ BL
  obtain ⟨p, c, rfl, hlc, hcm⟩ := h.open
  clear h hlc hcm
  have hbl := BL.out
  go_enter Tryd.func30, Tryd.ntmps30
  go_wp2_with fail
  refine CB.out.mono ?_
  rintro e w1 ⟨vb, rfl, hvb, hb1⟩
  have B1 := hid hb1
  have VB := hid hvb
  clear hvb hb1 CB
  have hvl : ∃ q, vb = .slice q bs.length bs.length := by
    rcases VB.out with ⟨rfl, rfl⟩ | ⟨_, g, vs, rfl, _⟩
    · exact ⟨none, rfl⟩
    · exact ⟨_, rfl⟩
  obtain ⟨q, rfl⟩ := hvl
  by_cases hlen : ls.length = bs.length
  case neg =>
    have hd : d = false := by rw [← HD.out]; exact decide_eq_false fun hf => hlen (FQ.out.1 hf).1
    subst hd
    have hl1 : ((ls.length : Int) == (bs.length : Int)) = false := by simp; omega
    go_wp2
    go_ret
    exact ⟨rfl, B1.out⟩
  case pos =>
    go_wp2
    go_loopw [17] (fun ii wr => ∃ I : Nat, I ≤ ls.length ∧ ii = .int .i64 (I : Int) ∧ Hid (∀ j, j < I → (bs.getD j .any).ok (ls.getD j []).length = true) ∧ wr = w1) (fun ii _ => ls.length - (intOf ii).toNat)
    case atStart => exact ⟨0, by omega, rfl, hid (fun j hj => by omega), rfl⟩
    case round =>
      obtain ⟨I, hI, rfl, HN, rfl⟩ := hrel
      by_cases hlt : I < ls.length
      case neg =>
        have hd : d = true := by rw [← HD.out]; exact decide_eq_true (FQ.out.2 ⟨hlen, fun j hj => HN.out j (by omega)⟩)
        subst hd
        go_wp2
        go_ret
        exact ⟨rfl, B1.out⟩
      case pos =>
        obtain ⟨b, off, ep, hp⟩ := HH.out.at5 (by omega)
        subst ep
        obtain ⟨u, hu, hbu⟩ := hp I hlt
        obtain ⟨p2, c2, eu, _, _⟩ := hbu.open
        subst eu
        have hc := ((B1.out.cell (World.block_lt_of_cell? w _ hu)).trans hu)
        obtain ⟨hne, g, vs, eg, hvl, hg, hj⟩ : bs ≠ [] ∧ ∃ (g : Nat) (vs : List Value), (Value.slice q bs.length bs.length) = .slice (some ⟨g, 0, none⟩) bs.length bs.length ∧ vs.length = bs.length ∧ wr.heap[g]? = some (.cells vs.toArray 94 (0, 0)) ∧ ∀ j, j < bs.length → HBd wr (vs.getD j undef) (bs.getD j .any) := by
          rcases VB.out with ⟨e, _⟩ | h
          · rw [e, List.length_nil] at hlen; omega
          · exact h
        simp only [Value.slice.injEq, and_true] at eg
        subst eg
        have hq := hj I (by omega)
        have hcv : wr.cell? ⟨g, 0 + I, none⟩ = some (vs.getD I undef) := by
          rw [cell_of_row _ g (0 + I) _ _ _ hg]
          simp [List.getD, show I < vs.length by omega]
        rw [Nat.zero_add] at hcv
        obtain ⟨m, Hm⟩ : ∃ x, Hid ((ls.getD I []).length = x) := ⟨_, rfl⟩
        rw [Hm.out] at hc
        have HNX : Hid ((bs.getD I .any).ok m = true → ∀ j, j < I + 1 → (bs.getD j .any).ok (ls.getD j []).length = true) := hid fun h j hj => by
          by_cases e : j = I
          · rw [e, Hm.out]; exact h
          · exact HN.out j (by omega)
        have HNO : Hid ((bs.getD I .any).ok m = false → d = false) := hid fun h => by
          rw [← HD.out]
          refine decide_eq_false fun hf => ?_
          have := (FQ.out.1 hf).2 I hlt
          rw [Hm.out, h] at this
          cases this
        obtain ⟨bd, Hbd⟩ : ∃ x, Hid (bs.getD I .any = x) := ⟨_, rfl⟩
        rw [Hbd.out] at hq HNX HNO
        obtain ⟨vv, Hvv⟩ : ∃ x, Hid (vs.getD I undef = x) := ⟨_, rfl⟩
        rw [Hvv.out] at hq hcv
        have hib : (I : Int) < (bs.length : Int) := by omega
        have hI9 : I < 4 := by omega
        clear hu hbu hp hj hg hvl hne Hvv Hbd Hm
        cases bd with
        | just n =>
          obtain ⟨x, ev, hx⟩ := hq
          subst ev
          simp only [cJ, cM] at hcv
          have C := hid (CJ.out wr x n m hx)
          go_wp2_with fail
          refine C.out.mono ?_
          rintro e w2 ⟨rfl, rfl⟩
          clear C
          cases hok : (Bd.just n).ok m with
          | true =>
            have HT := hid (HNX.out hok)
            clear hok
            go_wp2
            exact ⟨⟨I + 1, by omega, by go_num, HT, by first | rfl | trivial⟩, by simp [intOf]; omega⟩
          | false =>
            have hd := HNO.out hok
            subst hd
            clear hok
            go_wp2
            go_ret
            exact ⟨rfl, B1.out⟩
        | most n =>
          obtain ⟨x, ev, hx⟩ := hq
          subst ev
          simp only [cJ, cM] at hcv
          have C := hid (CM.out wr x n m hx)
          go_wp2_with fail
          refine C.out.mono ?_
          rintro e w2 ⟨rfl, rfl⟩
          clear C
          cases hok : (Bd.most n).ok m with
          | true =>
            have HT := hid (HNX.out hok)
            clear hok
            go_wp2
            exact ⟨⟨I + 1, by omega, by go_num, HT, by first | rfl | trivial⟩, by simp [intOf]; omega⟩
          | false =>
            have hd := HNO.out hok
            subst hd
            clear hok
            go_wp2
            go_ret
            exact ⟨rfl, B1.out⟩
        | any =>
          have ev : vv = cA := hq
          subst ev
          simp only [cA] at hcv
          have C := hid (CA.out wr m)
          go_wp2_with fail
          refine C.out.mono ?_
          rintro e w2 ⟨rfl, rfl⟩
          clear C
          have HT := hid (HNX.out rfl)
          go_wp2
          exact ⟨⟨I + 1, by omega, by go_num, HT, by first | rfl | trivial⟩, by simp [intOf]; omega⟩
end Go.Proofs.YtokamemkfgpfpaaDoor
