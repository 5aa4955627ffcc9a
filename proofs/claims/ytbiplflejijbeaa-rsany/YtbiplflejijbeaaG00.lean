/- Of the road to rsAny_holds: Base, Opens, GfByte, U8, GfArr, GfAlg, GfMuls, Slices, GfDot, GfScale, Owns, MtB, RsM. -/
import Derived.WalkKit
import Derived.WalkSpells
import Derived.WalkLawsBesides
import Derived.Deep.QuietTactic
import Derived.BigQuiet
import Derived.Test.YtbiplflejijbeaaRows
import Derived.ProofKit
import Derived.OpenShut
import Derived.ShutString
import Derived.ChangeOld
import Derived.Deep.Slices
import Derived.JoinedCond
import Derived.SizedLaws
import Derived.Test.YtbiplflejijbeaaChecked
import Derived.Laws.BitsAllLaws
import Derived.BigRegion
import Derived.Deep.MidRow
import Derived.Laws.MakeOwn
import Derived.Laws.AppendOwnNone
import Derived.Handy
set_option linter.unusedVariables false
set_option linter.unusedSimpArgs false
namespace Go.Proofs.Ytbiplflejijbeaa
open Go.RowKit
theorem hid {p : Prop} (h : p) : Hid p := h
def HB (w : World) (v : Value) (l : List Int) : Prop :=
  (∃ (p : Option Addr) (c : Nat), v = .slice p l.length c ∧ l.length ≤ c ∧ c ≤ maxLen ∧ (p = none → c = 0) ∧
    (l ≠ [] → ∃ b off, p = some ⟨b, off, none⟩ ∧ ∀ j, j < l.length → w.cell? ⟨b, off + j, none⟩ = some (.int .u8 (l.getD j 0)))) ∧ ∀ x ∈ l, 0 ≤ x ∧ x < 256
theorem HB.open {w : World} {v : Value} {l : List Int} (h : HB w v l) : ∃ (p : Option Addr) (c : Nat), v = .slice p l.length c ∧ l.length ≤ c ∧ c ≤ maxLen := by
  obtain ⟨⟨p, c, h1, h2, h3, _⟩, _⟩ := h
  exact ⟨p, c, h1, h2, h3⟩
theorem HB.ne {w : World} {v : Value} {l : List Int} (h : HB w v l) (hl : 0 < l.length) :
    ∃ b off c, v = .slice (some ⟨b, off, none⟩) l.length c ∧ l.length ≤ c ∧ c ≤ maxLen ∧ ∀ j, j < l.length → w.cell? ⟨b, off + j, none⟩ = some (.int .u8 (l.getD j 0)) := by
  obtain ⟨⟨p, c, h1, h2, h3, _, h4⟩, _⟩ := h
  obtain ⟨b, off, rfl, hc⟩ := h4 (by intro e; subst e; simp at hl)
  exact ⟨b, off, c, h1, h2, h3, hc⟩
theorem HB.byte {w : World} {v : Value} {l : List Int} (h : HB w v l) (j : Nat) : 0 ≤ l.getD j 0 ∧ l.getD j 0 < 256 := by
  by_cases hj : j < l.length
  · have e : l.getD j 0 = l[j] := by simp [List.getD, List.getElem?_eq_getElem hj]
    rw [e]
    exact h.2 _ (List.getElem_mem hj)
  · have e : l.getD j 0 = 0 := by simp [List.getD, List.getElem?_eq_none (by omega : l.length ≤ j)]
    rw [e]; omega
theorem HB.later {w w' : World} {v : Value} {l : List Int} (h : HB w v l) (hc : ∀ a (n : Int), w.cell? a = some (.int .u8 n) → w'.cell? a = some (.int .u8 n)) : HB w' v l := by
  obtain ⟨⟨p, c, h1, h2, h3, h6, h4⟩, h5⟩ := h
  refine ⟨⟨p, c, h1, h2, h3, h6, fun hl => ?_⟩, h5⟩
  obtain ⟨b, off, e, hh⟩ := h4 hl
  exact ⟨b, off, e, fun j hj => hc _ _ (hh j hj)⟩
theorem HB.below {w w' : World} {v : Value} {l : List Int} (h : HB w v l) (hb : Below w.heap.size w w') : HB w' v l :=
  h.later fun a _ hx => (hb.cell (World.block_lt_of_cell? w a hx)).trans hx
theorem HB.drewN {w : World} {v : Value} {l : List Int} (h : HB w v l) (q : Nat) : HB (w.drewN q) v l := h.later fun _ _ hx => hx
theorem getD_of_lt {l : List Int} {k : Nat} (h : k < l.length) : l.getD k 0 = l[k] := by simp [List.getD, List.getElem?_eq_getElem h]
theorem ownsRow_cells {w : World} {B : Nat} {e : TypeId} {v : Value} {n : Nat} {xs : List Value} (h : w.ownsRow B e 1 v n xs) (h0 : 0 < n) :
    ∃ g cap, v = .slice (some ⟨g, 0, none⟩) n cap ∧ B ≤ g ∧ n ≤ cap ∧ cap ≤ maxLen ∧ ∀ j u, xs[j]? = some u → w.cell? ⟨g, 0 + j, none⟩ = some u := by
  have hc := @World.ownsRow.cells w B e 1 v n xs h
  rcases h.2 with ⟨_, e0⟩ | ⟨g, cap, cur, rfl, hb, _, hn, hm, _, _⟩
  · omega
  · refine ⟨g, cap, rfl, hb, hn, hm, fun j u hj => ?_⟩
    have := @hc g rfl j u hj
    rwa [Go.WideShapes.add_plain] at this
theorem HB.of_own {w : World} {B : Nat} {e : TypeId} {v : Value} {l : List Int} (h : w.ownsRow B e 1 v l.length (l.map (Value.int .u8))) (hx : ∀ x ∈ l, 0 ≤ x ∧ x < 256) : HB w v l := by
  refine ⟨?_, hx⟩
  by_cases h0 : 0 < l.length
  · obtain ⟨g, cap, rfl, _, hn, hm, hc⟩ := ownsRow_cells h h0
    refine ⟨_, cap, rfl, hn, hm, (fun e => by cases e), fun _ => ⟨g, 0, rfl, fun j hj => ?_⟩⟩
    exact hc j _ (by simp [List.getD, List.getElem?_eq_getElem hj])
  · have e : l = [] := List.length_eq_zero_iff.1 (by omega)
    subst e
    rcases h.2 with ⟨rfl, _⟩ | ⟨g, cap, cur, rfl, _, _, hn, hm, _⟩
    · exact ⟨none, 0, rfl, Nat.le_refl _, Nat.zero_le _, fun _ => rfl, fun h => absurd rfl h⟩
    · exact ⟨_, cap, rfl, hn, hm, (fun e => by cases e), fun h => absurd rfl h⟩
theorem HB.grown {w w' : World} {v : Value} {l : List Int} {g : Nat} (h : HB w v l) (hg : w.grownBy w' (some g)) (hn : ∀ o sp (n : Int), w.cell? ⟨g, o, sp⟩ ≠ some (.int .u8 n)) : HB w' v l :=
  h.later fun a n hx => hg.cell hx (by
    intro e
    obtain ⟨b, o, sp⟩ := a
    simp only [Option.some.injEq] at e
    subst e
    exact hn o sp n hx)
theorem HB.nil (w : World) : HB w (.slice none 0 0) [] := ⟨⟨none, 0, rfl, Nat.zero_le _, Nat.zero_le _, fun _ => rfl, fun h => absurd rfl h⟩, by simp⟩
def BT (w : World) (g : Nat) (T : TypeId) : Prop := ∃ cur fz, w.heap[g]? = some (.cells cur T fz)
def HL (w : World) (v : Value) (ls : List (List Int)) : Prop :=
  ∃ (p : Option Addr) (c : Nat), v = .slice p ls.length c ∧ ls.length ≤ c ∧ c ≤ maxLen ∧ (p = none → c = 0) ∧
    (ls ≠ [] → ∃ b off, p = some ⟨b, off, none⟩ ∧ ∀ j, j < ls.length → ∃ u, w.cell? ⟨b, off + j, none⟩ = some u ∧ HB w u (ls.getD j []))
theorem HL.ne {w : World} {v : Value} {ls : List (List Int)} (h : HL w v ls) (hl : 0 < ls.length) :
    ∃ b off c, v = .slice (some ⟨b, off, none⟩) ls.length c ∧ ls.length ≤ c ∧ c ≤ maxLen ∧ ∀ j, j < ls.length → ∃ u, w.cell? ⟨b, off + j, none⟩ = some u ∧ HB w u (ls.getD j []) := by
  obtain ⟨p, c, h1, h2, h3, _, h4⟩ := h
  obtain ⟨b, off, rfl, hc⟩ := h4 (by intro e; subst e; simp at hl)
  exact ⟨b, off, c, h1, h2, h3, hc⟩
theorem HL.open {w : World} {v : Value} {ls : List (List Int)} (h : HL w v ls) : ∃ (p : Option Addr) (c : Nat), v = .slice p ls.length c ∧ ls.length ≤ c ∧ c ≤ maxLen := by
  obtain ⟨p, c, h1, h2, h3, _⟩ := h
  exact ⟨p, c, h1, h2, h3⟩
theorem HL.later {w w' : World} {v : Value} {ls : List (List Int)} (h : HL w v ls) (hc : ∀ a x, w.cell? a = some x → w'.cell? a = some x) : HL w' v ls := by
  obtain ⟨p, c, h1, h2, h3, h5, h4⟩ := h
  refine ⟨p, c, h1, h2, h3, h5, fun hl => ?_⟩
  obtain ⟨b, off, e, hh⟩ := h4 hl
  refine ⟨b, off, e, fun j hj => ?_⟩
  obtain ⟨u, hu, hb⟩ := hh j hj
  exact ⟨u, hc _ _ hu, hb.later fun a n => hc a _⟩
theorem HL.below {w w' : World} {v : Value} {ls : List (List Int)} (h : HL w v ls) (hb : Below w.heap.size w w') : HL w' v ls :=
  h.later fun a _ hx => (hb.cell (World.block_lt_of_cell? w a hx)).trans hx
theorem HL.byt {w : World} {v : Value} {ls : List (List Int)} (h : HL w v ls) : ∀ x ∈ ls.flatten, 0 ≤ x ∧ x < 256 := by
  intro x hx
  obtain ⟨l, hl, hxl⟩ := List.mem_flatten.1 hx
  obtain ⟨j, hj, rfl⟩ := List.getElem_of_mem hl
  obtain ⟨b, off, c, _, _, _, hh⟩ := h.ne (by omega)
  obtain ⟨u, _, hb⟩ := hh j hj
  have e : ls.getD j [] = ls[j] := by simp [List.getD, List.getElem?_eq_getElem hj]
  rw [e] at hb
  exact hb.2 x hxl
theorem HL.nil (w : World) : HL w (.slice none 0 0) [] := ⟨none, 0, rfl, Nat.zero_le _, Nat.zero_le _, fun _ => rfl, fun h => absurd rfl h⟩
def Dr (w w' : World) : Prop := ∃ q, w' = w.drewN q
theorem Dr.refl (w : World) : Dr w w := ⟨0, rfl⟩
theorem Dr.drewN {w u : World} (h : Dr w u) (n : Nat) : Dr w (u.drewN n) := by
  obtain ⟨q, rfl⟩ := h
  exact ⟨q + n, World.drewN_drewN w q n⟩
theorem Dr.one (w : World) (n : Nat) : Dr w (w.drewN n) := ⟨n, rfl⟩
theorem Dr.trans {a b c : World} (h : Dr a b) (k : Dr b c) : Dr a c := by
  obtain ⟨q, rfl⟩ := k
  exact h.drewN q
theorem Dr.cell {w w' : World} (h : Dr w w') (a : Addr) : w'.cell? a = w.cell? a := by obtain ⟨q, rfl⟩ := h; rfl
theorem Dr.heap {w w' : World} (h : Dr w w') : w'.heap = w.heap := by obtain ⟨q, rfl⟩ := h; rfl
theorem Dr.below {w w' : World} (h : Dr w w') (B : Nat) : Below B w w' := by obtain ⟨q, rfl⟩ := h; exact ⟨rfl, rfl, rfl, Nat.le_refl _, fun _ _ => rfl⟩
theorem HB.dr {w w' : World} {v : Value} {l : List Int} (h : HB w v l) (d : Dr w w') : HB w' v l := h.later fun a _ hx => (d.cell a).trans hx
theorem HL.dr {w w' : World} {v : Value} {ls : List (List Int)} (h : HL w v ls) (d : Dr w w') : HL w' v ls := h.below (d.below _)
end Go.Proofs.Ytbiplflejijbeaa
namespace Go.Proofs.Ytbiplflejijbeaa
open Go.ChangeShapes Go.WideShapes Go.ChangeAt Go.RowKit
theorem Opn.own : ownKnob Try.prog.godebug = none := by kernel_rfl
theorem Opn.laidOut : laidOutB Try.prog = true := by kernel_rfl
theorem Opn.cells_u8 : Try.prog.cellsOf 5 = 1 := by kernel_rfl
theorem Opn.cells_int : Try.prog.cellsOf 3 = 1 := by kernel_rfl
theorem bulk_pos {H : Type} (d : DataW H) : 1 ≤ Rows.uptoBulk d := by
  cases d with
  | lit l => cases l <;> simp [Rows.uptoBulk]
  | _ => simp [Rows.uptoBulk]
theorem bulk_len {H : Type} (l : List (DataW H)) : l.length ≤ Rows.uptoBulkAll l := by
  induction l with
  | nil => simp
  | cons x r ih => have := bulk_pos x; simp only [Rows.uptoBulkAll, List.length_cons]; omega
theorem bulk_slice {H : Type} (a b : List (DataW H)) : a.length + b.length + 1 ≤ Rows.uptoBulk (.slice a b) := by
  have h1 := bulk_len a
  have h2 := bulk_len b
  simp only [Rows.uptoBulk]
  omega
theorem bulk_all {H : Type} {l : List (DataW H)} (hk : Rows.uptoSmall H l = true) : Rows.uptoBulkAll l ≤ 1048576 := of_decide_eq_true hk
variable {H : Type} {enc : TypeId × Value → H} {W : World}
theorem open_row {k : IntKind} {t e : TypeId} {fuel base : Nat} {cs : List Value} {d : DataW H} {p : List MemPlace} (ht : Try.prog.underlying t = some (.slice e)) (he : Try.prog.underlying e = some (.int k)) (hc : Try.prog.cellsOf e = 1)
    (hf : DataW.trod enc Try.prog W base (fun _ => true) true fuel t cs = some (d, p)) :
    ∃ (q : Option Addr) (c : Nat) (l : List Int), cs = [.slice q l.length c] ∧ l.length ≤ c ∧ c ≤ maxLen ∧ (q = none → c = 0) ∧ (l ≠ [] → ∃ b off, q = some ⟨b, off, none⟩ ∧ ∀ j, j < l.length → W.cell? ⟨b, off + j, none⟩ = some (.int k (l.getD j 0))) ∧ (∀ n ∈ l, (Lit.int k n).wf = true) ∧ l.length + 1 ≤ Rows.uptoBulk d := by
  rcases open_ints ht he hc hf with ⟨rfl, hx⟩ | ⟨x, len, cap, zs, rfl, _, hl, hm, hz, hx, hcell, hwz⟩
  · cases hx
    exact ⟨none, 0, [], rfl, Nat.le_refl _, Nat.zero_le _, fun _ => rfl, fun h => absurd rfl h, by simp, by simp [Rows.uptoBulk]⟩
  · simp only [Prod.mk.injEq] at hx
    obtain ⟨rfl, _⟩ := hx
    simp only [if_true] at hz
    have hlen : (zs.take len).length = len := by simp; omega
    refine ⟨some x, cap, zs.take len, by rw [hlen], by omega, hm, (fun e => by cases e), fun hne => ?_, fun n hn => hwz n (List.mem_of_mem_take hn), ?_⟩
    · have h0 : 0 < len := by
        apply Classical.byContradiction
        intro h
        exact hne (List.length_eq_zero_iff.1 (by omega))
      obtain ⟨b, off, rfl, hh⟩ := ints_at hcell (by omega)
      refine ⟨b, off, rfl, fun j hj => ?_⟩
      rw [hlen] at hj
      rw [hh j (by omega)]
      simp only [List.getD, List.getElem?_take]
      rw [if_pos hj]
    · have := bulk_slice (lits (H := H) k (zs.take len)) (lits k (zs.drop len))
      simp only [lits, List.length_map] at this ⊢
      omega
theorem byte_wf {l : List Int} (h : ∀ n ∈ l, (Lit.int .u8 n).wf = true) : ∀ x ∈ l, 0 ≤ x ∧ x < 256 := by
  intro x hx
  have := bounds_u8 (h x hx)
  omega
theorem open_HB {base : Nat} {v : Value} {d : DataW H} {p : List MemPlace} (h : DataW.Trod enc Try.prog W base (fun _ => true) true 22 v d p) (hv : ∃ a n c, v = .slice a n c) : ∃ l, HB W v l ∧ l.length + 1 ≤ Rows.uptoBulk d := by
  obtain ⟨a, n, c, rfl⟩ := hv
  obtain ⟨fuel, hf⟩ := h
  obtain ⟨q, c', l, hcs, h1, h2, h3, h4, h5, h6⟩ := open_row Try.underlying22 Try.underlying5 Opn.cells_u8 hf
  simp only [Value.cells, List.cons.injEq, and_true] at hcs
  exact ⟨l, ⟨⟨q, c', hcs, h1, h2, h3, h4⟩, byte_wf h5⟩, h6⟩
theorem Opn.bytes_u8 : Try.prog.bytesOf 5 = 1 := by kernel_rfl
theorem len_reach {ts : List TypeId} {ds : List (DataW H)} {j base : Nat} {v : Value} {d : DataW H} {p : List MemPlace} {l : List Int} (h : (DataW.weightsEach Try.prog ts ds).all (· ≤ reachBytes) = true) (ht : ts[j]? = some 22) (hd : ds[j]? = some d)
    (hT : DataW.Trod enc Try.prog W base (fun _ => true) true 22 v d p) (hb : HB W v l) : l.length ≤ 140737488351232 := by
  obtain ⟨q, c, rfl, _, _⟩ := hb.open
  obtain ⟨fuel, hf⟩ := hT
  rcases open_ints Try.underlying22 Try.underlying5 Opn.cells_u8 hf with ⟨hcs, _⟩ | ⟨x, len, cap, zs, hcs, _, hl, hm, hz, hx, _, _⟩
  · simp only [Value.cells, List.cons.injEq, and_true, Value.slice.injEq] at hcs
    omega
  · simp only [Value.cells, List.cons.injEq, and_true, Value.slice.injEq] at hcs
    simp only [Prod.mk.injEq] at hx
    obtain ⟨rfl, _⟩ := hx
    have := sized_slice h ht hd Try.underlying22
    rw [Opn.bytes_u8] at this
    simp only [lits, List.length_map, List.length_take, List.length_drop, reachBytes, if_true] at this hz
    omega
theorem bulk_mem {H : Type} {d : DataW H} {l : List (DataW H)} (h : d ∈ l) : Rows.uptoBulk d ≤ Rows.uptoBulkAll l := by
  induction l with
  | nil => cases h
  | cons x r ih =>
    simp only [Rows.uptoBulkAll]
    rcases List.mem_cons.1 h with e | e
    · subst e; omega
    · have := ih e; omega
theorem bulk_sum {H : Type} : ∀ (n : Nat) (D : Nat → DataW H) (L : Nat → List Int), (∀ i, i < n → (L i).length + 1 ≤ Rows.uptoBulk (D i)) → ((List.range n).map L).flatten.length + n ≤ Rows.uptoBulkAll ((List.range n).map D)
  | 0, _, _, _ => by simp [Rows.uptoBulkAll]
  | n + 1, D, L, h => by
    have ih := bulk_sum n (fun i => D (i + 1)) (fun i => L (i + 1)) (fun i hi => h (i + 1) (by omega))
    have h0 := h 0 (by omega)
    rw [List.range_succ_eq_map]
    simp only [List.map_cons, List.map_map, List.flatten_cons, List.length_append, Rows.uptoBulkAll]
    have e1' : (List.range n).map (L ∘ Nat.succ) = (List.range n).map (fun i => L (i + 1)) := rfl
    have e2' : (List.range n).map (D ∘ Nat.succ) = (List.range n).map (fun i => D (i + 1)) := rfl
    rw [e1', e2']
    omega
theorem choose_lists {P : Nat → List Int → Prop} (n : Nat) (h : ∀ i, i < n → ∃ l, P i l) : ∃ L : Nat → List Int, ∀ i, i < n → P i (L i) :=
  ⟨fun i => if hi : i < n then Classical.choose (h i hi) else [], fun i hi => by simp only [hi, dif_pos]; exact Classical.choose_spec (h i hi)⟩
theorem Opn.cells_bytes : Try.prog.cellsOf 22 = 1 := by kernel_rfl
theorem open_HL {base : Nat} {v : Value} {d : DataW H} {p : List MemPlace} (h : DataW.Trod enc Try.prog W base (fun _ => true) true 29 v d p) (hv : ∃ a n c, v = .slice a n c) : ∃ ls, HL W v ls ∧ ls.flatten.length + ls.length + 1 ≤ Rows.uptoBulk d := by
  obtain ⟨a, n, c, rfl⟩ := hv
  obtain ⟨fuel, hf⟩ := h
  rcases Go.Deep.open_slice Try.underlying29 hf with ⟨hcs, hx⟩ | ⟨a, len, cap, m, n, D, Pl, hcs, hb, hl, hm, hmm, hx, hel⟩
  · simp only [Value.cells, List.cons.injEq, and_true] at hcs
    cases hx
    rw [hcs]
    exact ⟨[], HL.nil _, by simp [Rows.uptoBulk]⟩
  · simp only [Value.cells, List.cons.injEq, and_true] at hcs
    rw [hcs]
    simp only [if_true] at hmm
    subst hmm
    simp only [Prod.mk.injEq] at hx
    obtain ⟨rfl, _⟩ := hx
    have each : ∀ i, i < len → ∃ l, (∃ u, W.cell? (a.add i) = some u ∧ HB W u l) ∧ l.length + 1 ≤ Rows.uptoBulk (D i) := by
      intro i hi
      obtain ⟨cs', h1, h2⟩ := hel i (by omega)
      rw [Opn.cells_bytes, Nat.mul_one] at h1
      obtain ⟨q, c', l, rfl, k1, k2, k3, k4, k5, k6⟩ := open_row Try.underlying22 Try.underlying5 Opn.cells_u8 h2
      exact ⟨l, ⟨_, cell_of_cells?_one h1, ⟨⟨q, c', rfl, k1, k2, k3, k4⟩, byte_wf k5⟩⟩, k6⟩
    obtain ⟨L, hL⟩ := choose_lists len each
    have hlen : ((List.range len).map L).length = len := by simp
    refine ⟨(List.range len).map L, ⟨some a, m, by rw [hlen], by omega, hm, (fun e => by cases e), fun hne => ?_⟩, ?_⟩
    · have h0 : 0 < len := by
        apply Classical.byContradiction
        intro h
        exact hne (List.length_eq_zero_iff.1 (by omega))
      obtain ⟨b, off, sp⟩ := a
      obtain ⟨⟨u, hu, _⟩, _⟩ := hL 0 h0
      have hsp : sp = none := by simpa [Addr.add] using World.cell?_spot hu
      subst hsp
      refine ⟨b, off, rfl, fun j hj => ?_⟩
      rw [hlen] at hj
      obtain ⟨⟨u, hu, hb⟩, _⟩ := hL j hj
      rw [Go.WideShapes.add_plain] at hu
      refine ⟨u, hu, ?_⟩
      have e : ((List.range len).map L).getD j [] = L j := by simp [List.getD, hj]
      rw [e]
      exact hb
    · have h1 := bulk_sum len D L (fun i hi => (hL i hi).2)
      rw [hlen]
      simp only [Rows.uptoBulk]
      omega
end Go.Proofs.Ytbiplflejijbeaa
namespace Go.Proofs.Ytbiplflejijbeaa
open Go.RowKit
def dbl (a : Nat) : Nat := (a * 2 % 256) ^^^ (a / 128 * 29)
def prodF : Nat → Nat → Nat → Nat → Nat
  | 0, _, _, s => s
  | k + 1, a, b, s => prodF k (dbl a) (b / 2) (if b % 2 = 1 then s ^^^ a else s)
def prod (a b : Nat) : Nat := prodF 8 a b 0
theorem xor8 {x y : Nat} (hx : x < 256) (hy : y < 256) : x ^^^ y < 256 := Nat.xor_lt_two_pow (n := 8) hx hy
theorem dbl_lt {a : Nat} (h : a < 256) : dbl a < 256 := xor8 (Nat.mod_lt _ (by decide)) (by omega)
theorem prodF_lt : ∀ (k a b s : Nat), a < 256 → s < 256 → prodF k a b s < 256
  | 0, _, _, s, _, hs => hs
  | k + 1, a, b, s, ha, hs => prodF_lt k _ _ _ (dbl_lt ha) (by split; exact xor8 hs ha; exact hs)
theorem prod_lt {a : Nat} (b : Nat) (h : a < 256) : prod a b < 256 := prodF_lt 8 a b 0 h (by decide)
theorem prodF_zero : ∀ (k a s : Nat), prodF k a 0 s = s
  | 0, _, _ => rfl
  | k + 1, a, s => by
    rw [prodF, if_neg (by decide)]
    exact prodF_zero k _ _
theorem dbl_bits (a : Nat) (h : a < 256) : bits .xor .u8 (((a : Int) * 2) % 256) ((a : Int) / 128 * 29) = ((dbl a : Nat) : Int) := by
  rw [show ((a : Int) * 2) % 256 = ((a * 2 % 256 : Nat) : Int) by omega, show (a : Int) / 128 * 29 = ((a / 128 * 29 : Nat) : Int) by omega, u8_xor_nat _ _ (Nat.mod_lt _ (by decide)) (by omega)]
  rfl
theorem and_one (y : Nat) (h : y < 256) : bits .and .u8 (y : Int) 1 = ((y % 2 : Nat) : Int) := by
  rw [show (1 : Int) = ((1 : Nat) : Int) from rfl, u8_and_nat y 1 h (by decide), Nat.and_one_is_mod]
set_option maxHeartbeats 1000000 in
theorem double_any (w : World) (a : Nat) (h : a < 256) : Calls Try.prog 63 #[.int .u8 (a : Int)] w fun e w' => e = .returned (.int .u8 ((dbl a : Nat) : Int)) ∧ w' = w := by
  have HD := hid (dbl_bits a h)
  go_enter Try.func63, Try.ntmps63
  go_wp2
  go_ret
  rw [HD.out]
  exact ⟨rfl, rfl⟩
theorem and_ones (x : Nat) (h : x < 256) : bits .and .u8 (x : Int) 255 = (x : Int) := by
  rw [show (255 : Int) = ((255 : Nat) : Int) from rfl, u8_and_nat x 255 h (by decide), show (255 : Nat) = 2 ^ 8 - 1 from rfl, Nat.and_two_pow_sub_one_eq_mod, Nat.mod_eq_of_lt h]
theorem and_none (x : Nat) (h : x < 256) : bits .and .u8 (x : Int) 0 = 0 := by
  rw [show (0 : Int) = ((0 : Nat) : Int) from rfl, u8_and_nat x 0 h (by decide), Nat.and_zero]
theorem xor_none (x : Nat) (h : x < 256) : bits .xor .u8 (x : Int) 0 = (x : Int) := by
  rw [show (0 : Int) = ((0 : Nat) : Int) from rfl, u8_xor_nat x 0 h (by decide), Nat.xor_zero]
set_option maxHeartbeats 1000000 in
theorem mul_any (w : World) (a b : Nat) (ha : a < 256) (hb : b < 256) : Calls Try.prog 93 #[.int .u8 (a : Int), .int .u8 (b : Int)] w fun e w' => e = .returned (.int .u8 ((prod a b : Nat) : Int)) ∧ w' = w := by
  go_enter Try.func93, Try.ntmps93
  go_wp2
  go_loopw [0, 1, 5] (fun x y s wr => ∃ k X Y S : Nat, X < 256 ∧ Hid (Y < 2 ^ k) ∧ Y < 256 ∧ S < 256 ∧ x = .int .u8 (X : Int) ∧ y = .int .u8 (Y : Int) ∧ s = .int .u8 (S : Int) ∧ Hid (prodF k X Y S = prod a b) ∧ wr = w) (fun _ y _ _ => (intOf y).toNat)
  case atStart => exact ⟨8, a, b, 0, ha, hb, hb, by decide, rfl, rfl, rfl, rfl, rfl⟩
  case round =>
    obtain ⟨k, X, Y, S, hX, HYk, hY, hS, rfl, rfl, rfl, HP, hw⟩ := hrel
    subst hw
    by_cases h0 : 0 < Y
    · have HK : Hid (∃ j, k = j + 1) := by
        cases k with
        | zero => exact absurd HYk.out (by simp; omega)
        | succ j => exact ⟨j, rfl⟩
      obtain ⟨j, hj⟩ := HK.out
      subst hj
      have HY2 : Hid (Y / 2 < 2 ^ j) := by
        have := HYk.out
        rw [Nat.pow_succ] at this
        show _ < _
        omega
      have hx := u8_xor_nat S X hS hX
      have hx0 := xor_none S hS
      have hD := double_any wr X hX
      have HXS := hid (xor8 hS hX)
      have HDL := hid (dbl_lt hX)
      have HQ : Hid (prodF j (dbl X) (Y / 2) (if Y % 2 = 1 then S ^^^ X else S) = prod a b) := HP
      have HA := hid (and_one Y hY)
      have hA1 := and_ones X hX
      have hA0 := and_none X hX
      clear HYk HP
      by_cases h1 : Y % 2 = 1
      · have ha1 : bits .and .u8 (Y : Int) 1 = 1 := by rw [HA.out, h1]; rfl
        have HN : Hid (Y % 2 = 1) := h1
        clear h1
        go_wp2_with fail
        refine hD.mono ?_
        rintro e w' ⟨rfl, hw⟩
        subst hw
        go_wp2_with fail
        refine ⟨⟨j, dbl X, Y / 2, S ^^^ X, HDL.out, HY2, by omega, HXS.out, rfl, by go_num, rfl, ?_, by trivial⟩, by simp [intOf]; omega⟩
        have := HQ.out
        rw [if_pos HN.out] at this
        exact this
      · have ha1 : bits .and .u8 (Y : Int) 1 = 0 := by rw [HA.out, show Y % 2 = 0 by omega]; rfl
        have HN : Hid (¬ Y % 2 = 1) := h1
        clear h1
        go_wp2_with fail
        refine hD.mono ?_
        rintro e w' ⟨rfl, hw⟩
        subst hw
        go_wp2_with fail
        refine ⟨⟨j, dbl X, Y / 2, S, HDL.out, HY2, by omega, hS, rfl, by go_num, rfl, ?_, by trivial⟩, by simp [intOf]; omega⟩
        have := HQ.out
        rw [if_neg HN.out] at this
        exact this
    · have hY0 : Y = 0 := by omega
      subst hY0
      have HE : Hid (S = prod a b) := by rw [← HP.out, prodF_zero]; exact rfl
      clear HP HYk
      go_wp2
      go_ret
      rw [← HE.out]
      exact ⟨rfl, rfl⟩
theorem dbl_small {a : Nat} (h : a < 128) : dbl a = a * 2 := by
  unfold dbl
  rw [show a / 128 = 0 by omega, Nat.zero_mul, Nat.xor_zero]
  omega
theorem dbl_large {a : Nat} (h : ¬ a < 128) (h2 : a < 256) : dbl a = (a * 2 % 256) ^^^ 29 := by
  unfold dbl
  rw [show a / 128 = 1 by omega]
theorem info_u8 : (Try.prog.info? 5).map (fun i => (i.zero, i.size, i.bytes)) = some (some (.int .u8 0), 1, 1) := by kernel_rfl
theorem size_u8 : ∀ w, Sem.run Try.prog (Go.sizeOf 5) w = .ok 1 w := fun w => by
  obtain ⟨i0, hi, hz0, hz1, hz2⟩ := info_parts info_u8
  simp [Go.sizeOf, typeInfo, hi, hz1]
theorem eql_nil_bytes : ∀ (w : World) (a : Option Addr) (n c n' c' : Nat), (binOp .eql 22 (.slice a n c) (.slice none n' c')).run Try.prog w = .ok (.bool a.isNone) w :=
  fun w a n c n' c' => Lib.run_eql_slice_nil w _ _ a n c n' c' Try.underlying22
def cells8 (l : List Nat) : Array Value := (l.map (fun x : Nat => Value.int .u8 (x : Int))).toArray
theorem cells8_size (l : List Nat) : (cells8 l).size = l.length := by simp [cells8]
theorem cells8_one (l : List Nat) : (cells8 l).all (·.oneCell') = true := all_oneCell_toArray (fun v hv => by obtain ⟨x, _, rfl⟩ := List.mem_map.1 hv; rfl)
theorem cells8_get {l : List Nat} {i : Nat} (h : i < l.length) : (cells8 l)[i]? = some (.int .u8 ((l.getD i 0 : Nat) : Int)) := by
  simp [cells8, List.getD, List.getElem?_eq_getElem h]
theorem cells8_set (l : List Nat) (i x : Nat) : (cells8 l).setIfInBounds i (.int .u8 (x : Int)) = cells8 (l.set i x) := by
  unfold cells8
  rw [List.map_set]
  simp
def zeros8 (n : Nat) : List Nat := List.replicate n 0
theorem zeros8_length (n : Nat) : (zeros8 n).length = n := by simp [zeros8]
theorem wpList_alloc_agg {T : TypeId} {cs : Array Value} (hz : (Try.prog.info? T).map (·.zero) = some (some (.agg cs))) {ops : Array Oper} {rest : List Oper} {o : Oper} {a : Act} {w : World} {Q : Exit → Act → World → Prop} (hgd : o.guard = none) (ho : o.op = .alloc T)
    (h : wpList Try.prog ops Q rest (a.put o.dst (.pointer (some ⟨w.heap.size, 0, none⟩))) (w.alloc (.cells cs T))) : wpList Try.prog ops Q (o :: rest) a w :=
  wpList_plain hgd fun _ hK => by
    have hr : (Instr.alloc T true (.tuple #[])).run Try.prog w = .ok (.pointer (some ⟨w.heap.size, 0, none⟩)) (w.alloc (.cells cs T)) := by
      cases hi : Try.prog.info? T with
      | none => simp [hi] at hz
      | some i0 =>
        simp [hi] at hz
        simp [Instr.alloc, zeroValue, typeInfo, hi, hz, newVar, newRow, Value.cells]
    unfold Oper.wp
    simp only [execOp, ho, Sem.run_bind, hr, Result.andThen_ok]
    exact hK _ _ h
theorem below_setRow {B : Nat} {a w : World} (h : Below B a w) {g : Nat} (hg : B ≤ g) (cs : Array Value) : Below B a (w.setRow g cs) :=
  h.trans ⟨rfl, rfl, rfl, by simp [World.setRow], fun k hk => setRow_other w g k _ (by omega)⟩
theorem grown_setd (w : World) (g o : Nat) (u : Value) : w.grownBy (w.setCell ⟨g, o, none⟩ u).drew (some g) :=
  ⟨rfl, rfl, rfl, by show w.heap.size ≤ (w.setCell ⟨g, o, none⟩ u).heap.size; simp, fun k _ hk => heap_setCell_other w ⟨g, o, none⟩ k u (fun e => hk (by simp [e]))⟩
theorem grown_sets (w : World) (g o : Nat) (u : Value) : w.grownBy (w.setCell ⟨g, o, none⟩ u) (some g) :=
  ⟨rfl, rfl, rfl, by simp, fun k _ hk => heap_setCell_other w ⟨g, o, none⟩ k u (fun e => hk (by simp [e]))⟩
theorem grown_tr {a b c : World} {r : Option Nat} (h : a.grownBy b r) (k : b.grownBy c r) : a.grownBy c r :=
  ⟨k.os.trans h.os, k.tape.trans h.tape, k.output.trans h.output, Nat.le_trans h.size k.size, fun i hi hr => (k.block i (Nat.lt_of_lt_of_le hi h.size) hr).trans (h.block i hi hr)⟩
theorem grown_rfl (a : World) (r : Option Nat) : a.grownBy a r := ⟨rfl, rfl, rfl, Nat.le_refl _, fun _ _ _ => rfl⟩
theorem part_u8 (w : World) (l : List Nat) (i : Nat) (hi : i < l.length) : (part 5 (cells8 l) i).run Try.prog w = .ok (.int .u8 ((l.getD i 0 : Nat) : Int)) w := by
  simp [part, cells8_get hi]
theorem run_index8 (w : World) {t : TypeId} {n : Nat} (ht : Try.prog.underlying t = some (.array n 5)) (l : List Nat) (hl : l.length = n) (i : Nat) (hi : i < n) (k : IntKind) : (Instr.index t (.agg (cells8 l)) (.int k (i : Int))).run Try.prog w = .ok (.int .u8 ((l.getD i 0 : Nat) : Int)) w := by
  have h1 := part_u8 w l i (by omega)
  simp [Instr.index, run_underlying ht, asIntOf, h1, hi]
theorem zero_b256 : (Try.prog.info? 72).map (·.zero) = some (some (.agg (cells8 (zeros8 256)))) := by kernel_rfl
theorem size_b256 : (Try.prog.info? 72).map (·.size) = some 256 := by kernel_rfl
theorem zero_b255 : (Try.prog.info? 96).map (·.zero) = some (some (.agg (cells8 (zeros8 255)))) := by kernel_rfl
theorem size_b255 : (Try.prog.info? 96).map (·.size) = some 255 := by kernel_rfl
end Go.Proofs.Ytbiplflejijbeaa
namespace Go.Proofs.Ytbiplflejijbeaa
open Go Go.RowKit
theorem byte_all {p : Nat → Bool} (h : (List.range 256).all p = true) (a : Nat) (ha : a < 256) : p a = true := List.all_eq_true.1 h a (List.mem_range.2 ha)
theorem two_bytes {p : Nat → Nat → Bool} (h : ((List.range 256).all fun a => (List.range 256).all (p a)) = true) (a b : Nat) (ha : a < 256) (hb : b < 256) : p a b = true :=
  List.all_eq_true.1 (List.all_eq_true.1 h a (List.mem_range.2 ha)) b (List.mem_range.2 hb)
theorem dbl_xor (a b : Nat) (ha : a < 256) (hb : b < 256) : dbl (a ^^^ b) = dbl a ^^^ dbl b := by
  have h : ((List.range 256).all fun a => (List.range 256).all fun b => dbl (a ^^^ b) == dbl a ^^^ dbl b) = true := by decide +kernel
  simpa using two_bytes h a b ha hb
theorem xor_left_self (x y : Nat) : x ^^^ (x ^^^ y) = y := by rw [← Nat.xor_assoc, Nat.xor_self, Nat.zero_xor]
theorem xlc (x y z : Nat) : x ^^^ (y ^^^ z) = y ^^^ (x ^^^ z) := by rw [← Nat.xor_assoc, Nat.xor_comm x y, Nat.xor_assoc]
theorem xor_mod2 (b c : Nat) : (b ^^^ c) % 2 = (b % 2 + c % 2) % 2 := by
  have h := Nat.xor_mod_two_pow (a := b) (b := c) (n := 1)
  have hb : b % 2 = 0 ∨ b % 2 = 1 := by omega
  have hc : c % 2 = 0 ∨ c % 2 = 1 := by omega
  simp only [Nat.pow_one] at h
  rw [h]
  rcases hb with hb | hb <;> rcases hc with hc | hc <;> rw [hb, hc] <;> rfl
theorem xor_div2 (b c : Nat) : (b ^^^ c) / 2 = b / 2 ^^^ c / 2 := by
  have h := Nat.xor_div_two_pow (a := b) (b := c) (n := 1)
  simpa using h
theorem prodF_right : ∀ (k a b c s t : Nat), prodF k a (b ^^^ c) (s ^^^ t) = prodF k a b s ^^^ prodF k a c t
  | 0, _, _, _, _, _ => rfl
  | k + 1, a, b, c, s, t => by
    simp only [prodF]
    rw [xor_div2, ← prodF_right k (dbl a) (b / 2) (c / 2)]
    congr 1
    rw [xor_mod2]
    have hb : b % 2 = 0 ∨ b % 2 = 1 := by omega
    have hc : c % 2 = 0 ∨ c % 2 = 1 := by omega
    rcases hb with hb | hb <;> rcases hc with hc | hc <;> simp only [hb, hc, Nat.zero_add, Nat.add_zero, Nat.reduceAdd, Nat.reduceMod, if_true, if_false, Nat.zero_ne_one, reduceIte]
    all_goals simp only [Nat.xor_assoc, Nat.xor_comm, xlc, xor_left_self, Nat.xor_self, Nat.xor_zero, Nat.zero_xor]
theorem prod_right (a b c : Nat) : prod a (b ^^^ c) = prod a b ^^^ prod a c := by
  have := prodF_right 8 a b c 0 0
  rwa [Nat.xor_self] at this
theorem prodF_left : ∀ (k a a' b s t : Nat), a < 256 → a' < 256 → prodF k (a ^^^ a') b (s ^^^ t) = prodF k a b s ^^^ prodF k a' b t
  | 0, _, _, _, _, _, _, _ => rfl
  | k + 1, a, a', b, s, t, ha, ha' => by
    simp only [prodF]
    rw [dbl_xor a a' ha ha', ← prodF_left k (dbl a) (dbl a') (b / 2) _ _ (dbl_lt ha) (dbl_lt ha')]
    congr 1
    split
    · simp only [Nat.xor_assoc, Nat.xor_comm, xlc]
    · rfl
theorem prod_left (a a' b : Nat) (ha : a < 256) (ha' : a' < 256) : prod (a ^^^ a') b = prod a b ^^^ prod a' b := by
  have := prodF_left 8 a a' b 0 0 ha ha'
  rwa [Nat.xor_self] at this
theorem by_bits {f g : Nat → Nat} (hf : ∀ x y, x < 256 → y < 256 → f (x ^^^ y) = f x ^^^ f y) (hg : ∀ x y, x < 256 → y < 256 → g (x ^^^ y) = g x ^^^ g y) (h : ∀ i, i < 8 → f (2 ^ i) = g (2 ^ i)) (x : Nat) (hx : x < 256) : f x = g x := by
  have f0 : f 0 = 0 := by have := hf 0 0 (by decide) (by decide); rw [Nat.xor_self] at this; rw [this, Nat.xor_self]
  have g0 : g 0 = 0 := by have := hg 0 0 (by decide) (by decide); rw [Nat.xor_self] at this; rw [this, Nat.xor_self]
  have key : ∀ n, n ≤ 8 → f (x % 2 ^ n) = g (x % 2 ^ n) := by
    intro n
    induction n with
    | zero => intro _; rw [Nat.pow_zero, Nat.mod_one, f0, g0]
    | succ n ih =>
      intro hn
      have hs : (List.range 256).all (fun x => (List.range 8).all fun n => x % 2 ^ (n + 1) == (x % 2 ^ n) ^^^ (if x / 2 ^ n % 2 = 1 then 2 ^ n else 0)) = true := by decide +kernel
      have h1 := List.all_eq_true.1 (List.all_eq_true.1 hs x (List.mem_range.2 hx)) n (List.mem_range.2 (by omega))
      simp only [beq_iff_eq] at h1
      have l1 : x % 2 ^ n < 256 := Nat.lt_of_le_of_lt (Nat.mod_le _ _) hx
      have l2 : (2 : Nat) ^ n < 256 := Nat.lt_of_lt_of_le (Nat.pow_lt_pow_right (by decide) (by omega : n < 8)) (by decide)
      rw [h1]
      split
      · rw [hf _ _ l1 l2, hg _ _ l1 l2, ih (by omega), h n (by omega)]
      · rw [Nat.xor_zero]; exact ih (by omega)
  have := key 8 (Nat.le_refl _)
  rwa [Nat.mod_eq_of_lt hx] at this
theorem pow_lt (i : Nat) (hi : i < 8) : 2 ^ i < 256 := Nat.lt_of_lt_of_le (Nat.pow_lt_pow_right (by decide) hi) (by decide)
theorem prod_comm (a b : Nat) (ha : a < 256) (hb : b < 256) : prod a b = prod b a := by
  refine by_bits (f := fun b => prod a b) (g := fun b => prod b a) (fun x y _ _ => prod_right a x y) (fun x y hx hy => prod_left x y a hx hy) (fun j hj => ?_) b hb
  refine by_bits (f := fun a => prod a (2 ^ j)) (g := fun a => prod (2 ^ j) a) (fun x y hx hy => prod_left x y _ hx hy) (fun x y _ _ => prod_right _ x y) (fun i hi => ?_) a ha
  have h : (List.range 8).all (fun i => (List.range 8).all fun j => prod (2 ^ i) (2 ^ j) == prod (2 ^ j) (2 ^ i)) = true := by decide +kernel
  simpa using List.all_eq_true.1 (List.all_eq_true.1 h i (List.mem_range.2 hi)) j (List.mem_range.2 hj)
theorem prod_assoc (a b c : Nat) (ha : a < 256) (hb : b < 256) (hc : c < 256) : prod a (prod b c) = prod (prod a b) c := by
  refine by_bits (f := fun c => prod a (prod b c)) (g := fun c => prod (prod a b) c) (fun x y _ _ => by simp only [prod_right]) (fun x y _ _ => prod_right _ x y) (fun k hk => ?_) c hc
  refine by_bits (f := fun b => prod a (prod b (2 ^ k))) (g := fun b => prod (prod a b) (2 ^ k)) (fun x y hx hy => by simp only [prod_left x y _ hx hy, prod_right]) (fun x y hx hy => by simp only [prod_right]; exact prod_left _ _ _ (prod_lt _ ha) (prod_lt _ ha)) (fun j hj => ?_) b hb
  refine by_bits (f := fun a => prod a (prod (2 ^ j) (2 ^ k))) (g := fun a => prod (prod a (2 ^ j)) (2 ^ k)) (fun x y hx hy => prod_left x y _ hx hy) (fun x y hx hy => by simp only [prod_left x y _ hx hy]; exact prod_left _ _ _ (prod_lt _ hx) (prod_lt _ hy)) (fun i hi => ?_) a ha
  have h : (List.range 8).all (fun i => (List.range 8).all fun j => (List.range 8).all fun k => prod (2 ^ i) (prod (2 ^ j) (2 ^ k)) == prod (prod (2 ^ i) (2 ^ j)) (2 ^ k)) = true := by decide +kernel
  simpa using List.all_eq_true.1 (List.all_eq_true.1 (List.all_eq_true.1 h i (List.mem_range.2 hi)) j (List.mem_range.2 hj)) k (List.mem_range.2 hk)
theorem prod_one (a : Nat) (ha : a < 256) : prod a 1 = a := by
  have h : (List.range 256).all (fun a => prod a 1 == a) = true := by decide +kernel
  simpa using byte_all h a ha
theorem prod_zero (a : Nat) : prod a 0 = 0 := prodF_zero 8 a 0
theorem zero_prod (a : Nat) (ha : a < 256) : prod 0 a = 0 := by rw [prod_comm 0 a (by decide) ha, prod_zero]
theorem one_prod (a : Nat) (ha : a < 256) : prod 1 a = a := by rw [prod_comm 1 a (by decide) ha, prod_one a ha]
theorem prod_two (a : Nat) (ha : a < 256) : prod a 2 = dbl a := by
  have h : (List.range 256).all (fun a => prod a 2 == dbl a) = true := by decide +kernel
  simpa using byte_all h a ha
def pw : Nat → Nat
  | 0 => 1
  | n + 1 => dbl (pw n)
theorem pw_lt : ∀ n, pw n < 256
  | 0 => by decide
  | n + 1 => dbl_lt (pw_lt n)
def powL : List Nat := (List.range 255).map pw
def powLit : List Nat := [1, 2, 4, 8, 16, 32, 64, 128, 29, 58, 116, 232, 205, 135, 19, 38, 76, 152, 45, 90, 180, 117, 234, 201, 143, 3, 6, 12, 24, 48, 96, 192, 157, 39, 78, 156, 37, 74, 148, 53, 106, 212, 181, 119, 238, 193, 159, 35, 70, 140, 5, 10, 20, 40, 80, 160, 93, 186, 105, 210, 185, 111, 222, 161, 95, 190, 97, 194, 153, 47, 94, 188, 101, 202, 137, 15, 30, 60, 120, 240, 253, 231, 211, 187, 107, 214, 177, 127, 254, 225, 223, 163, 91, 182, 113, 226, 217, 175, 67, 134, 17, 34, 68, 136, 13, 26, 52, 104, 208, 189, 103, 206, 129, 31, 62, 124, 248, 237, 199, 147, 59, 118, 236, 197, 151, 51, 102, 204, 133, 23, 46, 92, 184, 109, 218, 169, 79, 158, 33, 66, 132, 21, 42, 84, 168, 77, 154, 41, 82, 164, 85, 170, 73, 146, 57, 114, 228, 213, 183, 115, 230, 209, 191, 99, 198, 145, 63, 126, 252, 229, 215, 179, 123, 246, 241, 255, 227, 219, 171, 75, 150, 49, 98, 196, 149, 55, 110, 220, 165, 87, 174, 65, 130, 25, 50, 100, 200, 141, 7, 14, 28, 56, 112, 224, 221, 167, 83, 166, 81, 162, 89, 178, 121, 242, 249, 239, 195, 155, 43, 86, 172, 69, 138, 9, 18, 36, 72, 144, 61, 122, 244, 245, 247, 243, 251, 235, 203, 139, 11, 22, 44, 88, 176, 125, 250, 233, 207, 131, 27, 54, 108, 216, 173, 71, 142]
def lgLit : List Nat := [0, 0, 1, 25, 2, 50, 26, 198, 3, 223, 51, 238, 27, 104, 199, 75, 4, 100, 224, 14, 52, 141, 239, 129, 28, 193, 105, 248, 200, 8, 76, 113, 5, 138, 101, 47, 225, 36, 15, 33, 53, 147, 142, 218, 240, 18, 130, 69, 29, 181, 194, 125, 106, 39, 249, 185, 201, 154, 9, 120, 77, 228, 114, 166, 6, 191, 139, 98, 102, 221, 48, 253, 226, 152, 37, 179, 16, 145, 34, 136, 54, 208, 148, 206, 143, 150, 219, 189, 241, 210, 19, 92, 131, 56, 70, 64, 30, 66, 182, 163, 195, 72, 126, 110, 107, 58, 40, 84, 250, 133, 186, 61, 202, 94, 155, 159, 10, 21, 121, 43, 78, 212, 229, 172, 115, 243, 167, 87, 7, 112, 192, 247, 140, 128, 99, 13, 103, 74, 222, 237, 49, 197, 254, 24, 227, 165, 153, 119, 38, 184, 180, 124, 17, 68, 146, 217, 35, 32, 137, 46, 55, 63, 209, 91, 149, 188, 207, 205, 144, 135, 151, 178, 220, 252, 190, 97, 242, 86, 211, 171, 20, 42, 93, 158, 132, 60, 57, 83, 71, 109, 65, 162, 31, 45, 67, 216, 183, 123, 164, 118, 196, 23, 73, 236, 127, 12, 111, 246, 108, 161, 59, 82, 41, 157, 85, 170, 251, 96, 134, 177, 187, 204, 62, 90, 203, 89, 95, 176, 156, 169, 160, 81, 11, 245, 22, 235, 122, 117, 44, 215, 79, 174, 213, 233, 230, 231, 173, 232, 116, 214, 244, 234, 168, 80, 88, 175]
theorem powL_lit : powL = powLit := by decide +kernel
def lg (a : Nat) : Nat := lgLit.getD a 0
theorem lg_lt (a : Nat) (ha : a < 256) : lg a < 255 := by
  have h : (List.range 256).all (fun a => decide (lg a < 255)) = true := by decide +kernel
  simpa using byte_all h a ha
theorem pw_lg (a : Nat) (ha : a < 256) (h0 : a ≠ 0) : pw (lg a) = a := by
  have h : (List.range 256).all (fun a => a == 0 || pw (lg a) == a) = true := by decide +kernel
  have := byte_all h a ha
  simp only [Bool.or_eq_true, beq_iff_eq] at this
  rcases this with h | h
  · exact absurd h h0
  · exact h
theorem lg_pw (n : Nat) (hn : n < 255) : lg (pw n) = n := by
  have h : (List.range 255).all (fun n => lg (pw n) == n) = true := by decide +kernel
  simpa using List.all_eq_true.1 h n (List.mem_range.2 hn)
theorem pw_255 : pw 255 = 1 := by decide +kernel
theorem pw_add (i : Nat) : ∀ j, prod (pw i) (pw j) = pw (i + j)
  | 0 => prod_one _ (pw_lt i)
  | j + 1 => by
    rw [pw, ← prod_two _ (pw_lt j), prod_assoc _ _ _ (pw_lt i) (pw_lt j) (by decide), pw_add i j, prod_two _ (pw_lt _)]
    rfl
theorem pw_period (n : Nat) : pw (n + 255) = pw n := by rw [← pw_add, pw_255, prod_one _ (pw_lt n)]
theorem pw_periods (n : Nat) : ∀ k, pw (n + 255 * k) = pw n
  | 0 => rfl
  | k + 1 => by rw [Nat.mul_succ, ← Nat.add_assoc, pw_period, pw_periods n k]
theorem pw_mod (n : Nat) : pw (n % 255) = pw n := by
  have := pw_periods (n % 255) (n / 255)
  rw [Nat.mod_add_div] at this
  exact this.symm
theorem pw_pos (n : Nat) : pw n ≠ 0 := by
  rw [← pw_mod]
  have h : (List.range 255).all (fun n => decide (pw n ≠ 0)) = true := by decide +kernel
  simpa using List.all_eq_true.1 h (n % 255) (List.mem_range.2 (Nat.mod_lt _ (by decide)))
theorem prod_lg (a b : Nat) (ha : a < 256) (hb : b < 256) (h0 : a ≠ 0) (h1 : b ≠ 0) : prod a b = pw (lg a + lg b) := by
  rw [← pw_add, pw_lg a ha h0, pw_lg b hb h1]
theorem prod_nought (a b : Nat) (ha : a < 256) (hb : b < 256) : prod a b = 0 ↔ a = 0 ∨ b = 0 := by
  constructor
  · intro h
    by_cases h0 : a = 0
    · exact .inl h0
    · by_cases h1 : b = 0
      · exact .inr h1
      · rw [prod_lg a b ha hb h0 h1] at h
        exact absurd h (pw_pos _)
  · rintro (rfl | rfl)
    · exact zero_prod b hb
    · exact prod_zero a
def ex (n : Int) : Nat := pw (n % 255).toNat
theorem ex_lt (n : Int) : ex n < 256 := pw_lt _
theorem ex_nat (n : Nat) : ex (n : Int) = pw n := by
  unfold ex
  rw [show ((n : Int) % 255).toNat = n % 255 by omega, pw_mod]
theorem ex_mod (n : Int) : ex (n % 255) = ex n := by unfold ex; rw [Int.emod_emod_of_dvd n (Int.dvd_refl 255)]
theorem ex_add (m n : Int) : prod (ex m) (ex n) = ex (m + n) := by
  unfold ex
  rw [pw_add, ← pw_mod]
  congr 1
  omega
theorem ex_more (n : Int) : ex (n + 255) = ex n := by
  unfold ex
  congr 1
  omega
theorem ex_zero : ex 0 = 1 := rfl
theorem ex_lg (a : Nat) (ha : a < 256) (h0 : a ≠ 0) : ex (lg a : Int) = a := by rw [ex_nat, pw_lg a ha h0]
def inv (a : Nat) : Nat := if a = 0 then 0 else ex (-(lg a : Int))
theorem inv_lt (a : Nat) : inv a < 256 := by unfold inv; split; decide; exact ex_lt _
theorem prod_inv (a : Nat) (ha : a < 256) (h0 : a ≠ 0) : prod a (inv a) = 1 := by
  rw [inv, if_neg h0]
  have := ex_add (lg a : Int) (-(lg a : Int))
  rw [ex_lg a ha h0, Int.add_right_neg, ex_zero] at this
  exact this
theorem inv_unique (a b : Nat) (ha : a < 256) (hb : b < 256) (h0 : a ≠ 0) (h : prod a b = 1) : b = inv a := by
  have h1 := prod_assoc (inv a) a b (inv_lt a) ha hb
  rw [h, prod_comm (inv a) a (inv_lt a) ha, prod_inv a ha h0, one_prod b hb, prod_one _ (inv_lt a)] at h1
  exact h1.symm
theorem prod_div (a b : Nat) (ha : a < 256) (hb : b < 256) (h0 : a ≠ 0) : prod (prod b (inv a)) a = b := by
  rw [← prod_assoc b (inv a) a hb (inv_lt a) ha, prod_comm (inv a) a (inv_lt a) ha, prod_inv a ha h0, prod_one b hb]
def powA (a : Nat) : Nat → Nat
  | 0 => 1
  | n + 1 => prod (powA a n) a
theorem powA_lt (a : Nat) : ∀ n, powA a n < 256
  | 0 => by show 1 < 256; decide
  | n + 1 => prod_lt _ (powA_lt a n)
theorem powA_lg (a : Nat) (ha : a < 256) (h0 : a ≠ 0) : ∀ n, powA a n = pw (lg a * n)
  | 0 => rfl
  | n + 1 => by
    rw [powA, powA_lg a ha h0 n]
    have h := pw_add (lg a * n) (lg a)
    rw [pw_lg a ha h0] at h
    rw [h, Nat.mul_succ]
def rinvF : Nat → Nat → Nat → Nat
  | 0, _, p => p
  | k + 1, a, p => rinvF k (prod a a) (prod p (prod a a))
theorem rinv_inv (a : Nat) (ha : a < 256) : rinvF 7 a 1 = inv a := by
  by_cases h0 : a = 0
  · subst h0; decide +kernel
  · refine inv_unique a _ ha ?_ h0 ?_
    · have h : (List.range 256).all (fun a => decide (rinvF 7 a 1 < 256)) = true := by decide +kernel
      simpa using byte_all h a ha
    · have h : (List.range 256).all (fun a => a == 0 || prod a (rinvF 7 a 1) == 1) = true := by decide +kernel
      have := byte_all h a ha
      simp only [Bool.or_eq_true, beq_iff_eq] at this
      rcases this with h | h
      · exact absurd h h0
      · exact h
def tabM (a n : Nat) : List Nat := (List.range n).map (fun j => prod j a) ++ List.replicate (256 - n) 0
theorem tabM_length (a n : Nat) (h : n ≤ 256) : (tabM a n).length = 256 := by simp [tabM]; omega
theorem tabM_step (a n : Nat) (h : n < 256) : (tabM a n).set n (prod n a) = tabM a (n + 1) := by
  unfold tabM
  rw [List.set_append_right _ _ (by simp), List.length_map, List.length_range, Nat.sub_self, show 256 - n = (256 - (n + 1)) + 1 by omega, List.replicate_succ, List.set_cons_zero, List.range_succ, List.map_append]
  simp
theorem tabM_get (a n i : Nat) (h : i < n) : (tabM a n).getD i 0 = prod i a := by
  simp [tabM, List.getD, List.getElem?_append, h]
def mulsL (a : Nat) : List Nat := (List.range 256).map fun j => prod j a
theorem mulsL_length (a : Nat) : (mulsL a).length = 256 := by simp [mulsL]
theorem mulsL_get (a i : Nat) (h : i < 256) : (mulsL a).getD i 0 = prod i a := by simp [mulsL, List.getD, h]
theorem tabM_all (a : Nat) : tabM a 256 = mulsL a := by simp [tabM, mulsL]
theorem tabM_one (a : Nat) (ha : a < 256) : tabM a 1 = zeros8 256 := by
  unfold tabM
  rw [show List.range 1 = [0] from rfl, List.map_cons, List.map_nil, zero_prod a ha]
  exact (List.replicate_succ (n := 255) (a := 0)).symm
theorem prod_bit (k i a : Nat) (hk : k < 8) (hi : i < 2 ^ k) (ha : a < 256) : prod (2 ^ k + i) a = prod i a ^^^ prod (2 ^ k) a := by
  have h : (List.range 8).all (fun k => (List.range (2 ^ k)).all fun i => 2 ^ k + i == i ^^^ 2 ^ k) = true := by decide +kernel
  have h1 := List.all_eq_true.1 (List.all_eq_true.1 h k (List.mem_range.2 hk)) i (List.mem_range.2 hi)
  simp only [beq_iff_eq] at h1
  have hp := pow_lt k hk
  rw [h1, prod_left i (2 ^ k) a (by omega) hp]
theorem prod_up (k a : Nat) (hk : k + 1 < 8) (ha : a < 256) : dbl (prod (2 ^ k) a) = prod (2 ^ (k + 1)) a := by
  have hp := pow_lt k (by omega)
  have hd : dbl (2 ^ k) = 2 ^ (k + 1) := by
    have h : (List.range 7).all (fun k => dbl (2 ^ k) == 2 ^ (k + 1)) = true := by decide +kernel
    simpa using List.all_eq_true.1 h k (List.mem_range.2 (by omega))
  rw [← hd, ← prod_two _ (prod_lt a hp), ← prod_two _ hp, prod_comm _ 2 (prod_lt a hp) (by decide), prod_assoc 2 _ a (by decide) hp ha, prod_comm 2 _ (by decide) hp]
set_option maxRecDepth 100000 in
set_option maxHeartbeats 4000000 in
theorem multiples_core (w : World) (a : Nat) (ha : a < 256) (L : List Nat) (HL : Hid (L = mulsL a)) : Calls Try.prog 57 #[.int .u8 (a : Int)] w fun e w' => e = .returned (.agg (cells8 L)) ∧ Below w.heap.size w w' := by
  obtain ⟨z, HZ⟩ : ∃ z, Hid (cells8 (zeros8 256) = z) := ⟨_, rfl⟩
  have hz := zero_b256
  rw [HZ.out] at hz
  have HZ0 := hid hz
  clear hz
  go_enter Try.func57, Try.ntmps57
  go_wp2_with (refine wpList_alloc_agg HZ0.out rfl rfl ?_)
  obtain ⟨W0, hW0⟩ : ∃ W0, Hid ((w.alloc (.cells z 72)).alloc (.cells z 72) = W0) := ⟨_, rfl⟩
  rw [hW0.out]
  have HB0 : Hid (Below w.heap.size w W0) := by rw [← hW0.out]; exact ((Below.refl _ w).alloc (Nat.le_refl _) _).alloc (by simp) _
  have HS0 : Hid (W0.heap.size = w.heap.size + 2) := by rw [← hW0.out]; show _ = _; simp
  have H0 : Hid (W0.heap[w.heap.size]? = some (.cells z 72 (0, 0))) := by
    rw [← hW0.out]
    exact (Below.heap_alloc _ _ _ (by simp)).trans (heap_alloc_new w _)
  have H1 : Hid (W0.heap[w.heap.size + 1]? = some (.cells (cells8 (tabM a 1)) 72 (0, 0))) := by
    have := heap_alloc_new (w.alloc (.cells z 72)) (.cells z 72)
    rw [World.size_alloc, hW0.out, ← HZ.out, ← tabM_one a ha] at this
    exact this
  clear hW0
  go_loopw [0, 4] (fun o b wr => ∃ k O B : Nat, O < 256 ∧ B ≤ 256 ∧ 0 < B ∧ Hid (B = 2 ^ k) ∧ Hid (k < 8 → O = prod (2 ^ k) a) ∧ o = .int .u8 (O : Int) ∧ b = .int .i64 (B : Int) ∧ Hid (wr.heap[w.heap.size + 1]? = some (.cells (cells8 (tabM a B)) 72 (0, 0))) ∧ Hid (W0.grownBy wr (some (w.heap.size + 1)))) (fun _ b _ => 256 - (intOf b).toNat)
  case atStart => exact ⟨0, a, 1, ha, by decide, by decide, rfl, (fun _ => (one_prod a ha).symm), rfl, rfl, H1, grown_rfl _ _⟩
  case round =>
    obtain ⟨k, O, B, hO, hB, hB0, HB, HO, rfl, rfl, HF, HG⟩ := hrel
    by_cases hlt : B < 256
    · have HK : Hid (k < 8) := by
        show k < 8
        refine Decidable.byContradiction fun hk => ?_
        have h8 : 2 ^ 8 ≤ 2 ^ k := Nat.pow_le_pow_right (by decide) (by omega)
        rw [← HB.out] at h8
        omega
      have HE : Hid (O = prod (2 ^ k) a) := HO.out HK.out
      have HB2 : Hid (B + B = 2 ^ (k + 1)) := by rw [HB.out, Nat.pow_succ]; show _ = _; omega
      have hBB : B + B ≤ 256 := by
        rw [HB2.out]
        exact Nat.le_trans (Nat.pow_le_pow_right (by decide) (by have := HK.out; omega : k + 1 ≤ 8)) (by decide)
      have HDN : Hid (k + 1 < 8 → dbl O = prod (2 ^ (k + 1)) a) := fun h => by rw [HE.out]; exact prod_up k a h ha
      have HDL := hid (dbl_lt hO)
      have HST : Hid (∀ I, I < B → prod (B + I) a = prod I a ^^^ O) := fun I hI => by
        rw [HE.out, HB.out]
        exact prod_bit k I a HK.out (by rw [← HB.out]; exact hI) ha
      have hszw : w.heap.size + 1 < wr.heap.size := by have := HG.out.size; rw [HS0.out] at this; omega
      clear HO HE H1
      go_wp2
      go_loopw [11] (fun l wq => ∃ I : Nat, I ≤ B ∧ l = .int .i64 (I : Int) ∧ Hid (wq.heap[w.heap.size + 1]? = some (.cells (cells8 (tabM a (B + I))) 72 (0, 0))) ∧ Hid (wr.grownBy wq (some (w.heap.size + 1)))) (fun l _ => B - (intOf l).toNat)
      case atStart => exact ⟨0, Nat.zero_le _, rfl, HF, grown_rfl _ _⟩
      case round =>
        clear HF
        obtain ⟨I, hI, rfl, HT, HGq⟩ := hrel
        by_cases hil : I < B
        · obtain ⟨P, HP⟩ : ∃ P, Hid (prod I a = P) := ⟨_, rfl⟩
          have hP : P < 256 := by rw [← HP.out]; exact prod_lt a (by omega)
          have hx := u8_xor_nat P O hP hO
          have hn : (B : Int) + (I : Int) = ((B + I : Nat) : Int) := by omega
          have hcl : wr.cell? ⟨w.heap.size + 1, I, none⟩ = some (.int .u8 (P : Int)) := by
            rw [cell_of_row wr (w.heap.size + 1) I _ _ _ HT.out, ← HP.out, ← tabM_get a (B + I) I (by omega)]
            exact cells8_get (by rw [tabM_length a _ (by omega)]; omega)
          obtain ⟨J, HJ⟩ : ∃ J, Hid (B + I = J) := ⟨_, rfl⟩
          have hJ : J < 256 := by rw [← HJ.out]; omega
          rw [HJ.out] at hn HT
          have hci : wr.cell? ⟨w.heap.size + 1, J, none⟩ = some (.int .u8 (((tabM a J).getD J 0 : Nat) : Int)) := by
            rw [cell_of_row wr (w.heap.size + 1) J _ _ _ HT.out]
            exact cells8_get (by rw [tabM_length a _ (by omega)]; exact hJ)
          obtain ⟨old, HOLD⟩ : ∃ old, Hid ((tabM a J).getD J 0 = old) := ⟨_, rfl⟩
          rw [HOLD.out] at hci
          have hfz : wr.frozen? ⟨w.heap.size + 1, J, none⟩ = false := by simp [World.frozen?, HT.out]
          have HT1 : Hid ((wr.setCell ⟨w.heap.size + 1, J, none⟩ (.int .u8 ((P ^^^ O : Nat) : Int))).heap[w.heap.size + 1]? = some (.cells (cells8 (tabM a (B + (I + 1)))) 72 (0, 0))) := by
            rw [show B + (I + 1) = J + 1 by rw [← HJ.out]; omega, ← tabM_step a J hJ, ← HJ.out, HST.out I hil, HP.out, HJ.out, ← cells8_set]
            exact heap_setCell_same wr (w.heap.size + 1) J _ _ _ HT.out
          have HG1 := hid (grown_tr HGq.out (grown_sets wr (w.heap.size + 1) J (.int .u8 ((P ^^^ O : Nat) : Int))))
          clear HGq HT
          go_wp2
          exact ⟨⟨I + 1, by omega, by go_num, HT1, HG1⟩, by simp [intOf]; omega⟩
        · have hI' : I = B := by omega
          rw [hI'] at HT
          have HGG := hid (grown_tr HG.out HGq.out)
          have CD := hid (double_any wr O hO)
          clear HG HGq hI'
          go_wp2_with fail
          refine CD.out.mono ?_
          rintro e w' ⟨rfl, hw⟩
          subst hw
          clear CD
          go_wp2_with fail
          exact ⟨⟨k + 1, dbl O, B + B, HDL.out, hBB, by omega, HB2, HDN, rfl, by go_num, HT, HGG⟩, by simp [intOf]; omega⟩
    · have hB' : B = 256 := by omega
      rw [hB', tabM_all, ← HL.out] at HF
      obtain ⟨m, HM⟩ : ∃ m, Hid (cells8 L = m) := ⟨_, rfl⟩
      rw [HM.out] at HF
      have hms : m.size = 256 := by rw [← HM.out, cells8_size, HL.out, mulsL_length]
      have HIm : Hid ((Try.prog.info? 72).map (·.size) = some m.size) := by rw [hms]; exact size_b256
      have H1m : Hid (m.all (·.oneCell') = true) := by rw [← HM.out]; exact cells8_one _
      have HZM : Hid (z.size = m.size) := by rw [hms, ← HZ.out, cells8_size, zeros8_length]; exact rfl
      have H0q : Hid (wr.heap[w.heap.size]? = some (.cells z 72 (0, 0))) := (HG.out.block w.heap.size (by rw [HS0.out]; omega) (by simp)).trans H0.out
      have HBF := hid (below_setRow (HB0.out.grown HG.out (by rw [HS0.out]; omega) (fun k e => by cases e; omega)) (g := w.heap.size) (Nat.le_refl _) m)
      clear hms hB' HG H1 H0 HB0 HS0 HO HB
      go_wp2_with (first | (refine wpList_load_row rfl 72 _ rfl (w.heap.size + 1) rfl 72 m (0, 0) _ HF.out Try.underlying72 rfl HIm.out ?_) | (refine wpList_store_row rfl 72 _ _ rfl w.heap.size m rfl rfl 72 _ H0q.out HIm.out HZM.out H1m.out ?_))
      refine bodyPost_ret (v := .agg m) (results_cell_row (p := 2) (ty := 72) rfl _ _ w.heap.size 72 m (0, 0) _ rfl (setRow_heap _ _ _ _ _ _ H0q.out) Try.underlying72 rfl HIm.out) rfl ?_
      rw [HM.out]
      exact ⟨rfl, HBF.out⟩
theorem multiples_any (w : World) (a : Nat) (ha : a < 256) : Calls Try.prog 57 #[.int .u8 (a : Int)] w fun e w' => e = .returned (.agg (cells8 (mulsL a))) ∧ Below w.heap.size w w' := multiples_core w a ha (mulsL a) rfl
end Go.Proofs.Ytbiplflejijbeaa
namespace Go.Proofs.Ytbiplflejijbeaa
open Go.RowKit
theorem grown_set (w : World) (g o : Nat) (u : Value) : w.grownBy (w.setCell ⟨g, o, none⟩ u) (some g) :=
  ⟨rfl, rfl, rfl, by simp, fun k _ hk => heap_setCell_other w ⟨g, o, none⟩ k u (fun e => hk (by simp [e]))⟩
theorem grown_trans {a b c : World} {r : Option Nat} (h : a.grownBy b r) (k : b.grownBy c r) : a.grownBy c r :=
  ⟨k.os.trans h.os, k.tape.trans h.tape, k.output.trans h.output, Nat.le_trans h.size k.size, fun i hi hr => (k.block i (Nat.lt_of_lt_of_le hi h.size) hr).trans (h.block i hi hr)⟩
theorem grown_below {a b : World} {r : Option Nat} (h : Below a.heap.size a b) : a.grownBy b r :=
  ⟨h.os, h.tape, h.output, h.size, fun i hi _ => h.block i hi⟩
theorem HB.sliced {w : World} {p : Option Addr} {c : Nat} {l : List Int} (h : HB w (.slice p l.length c) l) (lo hi m : Nat) (h1 : lo ≤ hi) (h2 : hi ≤ l.length) (h3 : hi ≤ m) (h4 : m ≤ c) : HB w (.slice (if m = lo then p else p.map (·.add lo)) (hi - lo) (m - lo)) ((l.take hi).drop lo) := by
  obtain ⟨⟨p', c', e, hc, hm, hpc, hcell⟩, hby⟩ := h
  simp only [Value.slice.injEq, true_and] at e
  obtain ⟨rfl, rfl⟩ := e
  have hlen : ((l.take hi).drop lo).length = hi - lo := by simp; omega
  refine ⟨⟨_, m - lo, by rw [hlen], by omega, by omega, fun e => ?_, fun hne => ?_⟩, fun x hx => hby x (List.mem_of_mem_take (List.mem_of_mem_drop hx))⟩
  · have : p = none := by
      split at e
      · exact e
      · cases p <;> simp_all
    have := hpc this
    omega
  have hlt : lo < hi := by
    apply Classical.byContradiction
    intro hn
    exact hne (List.length_eq_zero_iff.1 (by omega))
  obtain ⟨b, off, rfl, hk⟩ := hcell (by intro e; subst e; simp at h2; omega)
  rw [if_neg (by omega)]
  refine ⟨b, off + lo, by simp [Go.WideShapes.add_plain], fun j hj => ?_⟩
  rw [hlen] at hj
  have := hk (lo + j) (by omega)
  rw [show off + lo + j = off + (lo + j) by omega, this]
  have e1 : ((l.take hi).drop lo).getD j 0 = l.getD (lo + j) 0 := by
    simp only [List.getD, List.getElem?_drop, List.getElem?_take]
    rw [if_pos (by omega)]
  rw [e1]
theorem HB.pre {w : World} {p : Option Addr} {c : Nat} {l : List Int} (h : HB w (.slice p l.length c) l) (n : Nat) (hn : n ≤ l.length) : HB w (.slice p n n) (l.take n) := by
  obtain ⟨p', c', e, hc, _⟩ := h.open
  simp only [Value.slice.injEq, true_and] at e
  obtain ⟨rfl, rfl⟩ := e
  have := h.sliced 0 n n (Nat.zero_le _) hn (Nat.le_refl _) (by omega)
  have e : (if n = 0 then p else p.map (·.add 0)) = p := by
    split
    · rfl
    · cases p <;> simp [Addr.add]
  simpa [e] using this
theorem HB.suf {w : World} {p : Option Addr} {c : Nat} {l : List Int} (h : HB w (.slice p l.length c) l) (n : Nat) (hn : n ≤ l.length) : HB w (.slice (if c = n then p else p.map (·.add n)) (l.length - n) (c - n)) (l.drop n) := by
  obtain ⟨p', c', e, hc, _⟩ := h.open
  simp only [Value.slice.injEq, true_and] at e
  obtain ⟨rfl, rfl⟩ := e
  have := h.sliced n l.length c hn (Nat.le_refl _) hc (Nat.le_refl _)
  rwa [List.take_of_length_le (Nat.le_refl _)] at this
theorem HB.slice_form {w : World} {v : Value} {l : List Int} (h : HB w v l) : ∃ p c, v = .slice p l.length c := by
  obtain ⟨p, c, e, _⟩ := h.open
  exact ⟨p, c, e⟩
end Go.Proofs.Ytbiplflejijbeaa
namespace Go.Proofs.Ytbiplflejijbeaa
open Go Go.RowKit
def gN (l : List Int) (k : Nat) : Nat := (l.getD k 0).toNat
theorem HB.gN {w : World} {v : Value} {l : List Int} (h : HB w v l) (k : Nat) : l.getD k 0 = ((gN l k : Nat) : Int) ∧ gN l k < 256 := by
  have := h.byte k
  unfold Go.Proofs.Ytbiplflejijbeaa.gN
  omega
def dotTo (la lb : List Int) : Nat → Nat
  | 0 => 0
  | k + 1 => dotTo la lb k ^^^ prod (gN la k) (gN lb k)
def dotV (la lb : List Int) : Nat × Int := if la.length ≠ lb.length ∨ 256 < la.length then (0, 61) else (dotTo la lb la.length, 0)
theorem dotV_some {la lb : List Int} (h1 : la.length = lb.length) (h2 : la.length ≤ 256) : dotV la lb = (dotTo la lb la.length, 0) := by
  unfold dotV
  rw [if_neg (by omega)]
theorem dotV_unlike {la lb : List Int} (h1 : la.length ≠ lb.length) : dotV la lb = (0, 61) := by
  unfold dotV
  rw [if_pos (.inl h1)]
theorem dotV_long {la lb : List Int} (h2 : ¬ la.length ≤ 256) : dotV la lb = (0, 61) := by
  unfold dotV
  rw [if_pos (.inr (by omega))]
def scL (l : List Int) (b : Nat) : List Int := l.map fun x => ((prod x.toNat b : Nat) : Int)
theorem scL_length (l : List Int) (b : Nat) : (scL l b).length = l.length := by simp [scL]
theorem scL_get (l : List Int) (b k : Nat) (h : k < l.length) : (scL l b).getD k 0 = ((prod (gN l k) b : Nat) : Int) := by
  simp [scL, gN, List.getD, List.getElem?_eq_getElem h]
theorem scL_byt {l : List Int} (hl : ∀ x ∈ l, 0 ≤ x ∧ x < 256) (b : Nat) : ∀ x ∈ scL l b, 0 ≤ x ∧ x < 256 := by
  intro x hx
  obtain ⟨y, hy, rfl⟩ := List.mem_map.1 hx
  have := prod_lt (a := y.toNat) b (by have := hl y hy; omega)
  omega
def partTo (L : List Int) (k : Nat) : List Int := L.take k ++ List.replicate (L.length - k) 0
theorem partTo_length (L : List Int) (k : Nat) (h : k ≤ L.length) : (partTo L k).length = L.length := by simp [partTo]; omega
theorem partTo_step (L : List Int) (k : Nat) (h : k < L.length) : (partTo L k).set k (L.getD k 0) = partTo L (k + 1) := by
  unfold partTo
  rw [List.set_append_right _ _ (by rw [List.length_take]; omega), List.length_take, Nat.min_eq_left (Nat.le_of_lt h), Nat.sub_self, show L.length - k = (L.length - (k + 1)) + 1 by omega, List.replicate_succ, List.set_cons_zero, List.take_succ_eq_append_getElem h, getD_of_lt h, List.append_assoc]
  rfl
theorem partTo_all (L : List Int) : partTo L L.length = L := by simp [partTo]
theorem partTo_none (L : List Int) : partTo L 0 = List.replicate L.length 0 := by simp [partTo]
set_option maxRecDepth 100000 in
set_option maxHeartbeats 4000000 in
theorem scale_any (w : World) (v : Value) (l : List Int) (b : Nat) (h : HB w v l) (hb : b < 256) (hbig : l.length ≤ 140737488355328) :
    Calls Try.prog 46 #[v, .int .u8 (b : Int)] w fun e w' => ∃ v', e = .returned v' ∧ w'.ownsRow w.heap.size 5 1 v' (scL l b).length ((scL l b).map (Value.int .u8)) ∧ Below w.heap.size w w' := by
  obtain ⟨i0, hi, hz0, hz1, hz2⟩ := info_parts info_u8
  have HA := hid h
  obtain ⟨p, c, rfl, _, hc⟩ := h.open
  clear h
  unfold maxLen at hc
  obtain ⟨z, HZ⟩ : ∃ z, Hid (cells8 (zeros8 256) = z) := ⟨_, rfl⟩
  have hz := zero_b256
  rw [HZ.out] at hz
  have HZ0 := hid hz
  clear hz
  have C := hid (multiples_any w b hb)
  obtain ⟨M, HM⟩ : ∃ M, Hid (mulsL b = M) := ⟨_, rfl⟩
  have HML : Hid (M.length = 256) := by rw [← HM.out]; exact mulsL_length b
  have HMG : Hid (∀ i, i < 256 → M.getD i 0 = prod i b) := fun i hi => by rw [← HM.out]; exact mulsL_get b i hi
  rw [HM.out] at C
  obtain ⟨m, Hm⟩ : ∃ m, Hid (cells8 M = m) := ⟨_, rfl⟩
  rw [Hm.out] at C
  have hms : m.size = 256 := by rw [← Hm.out, cells8_size, HML.out]
  have HIm : Hid ((Try.prog.info? 72).map (·.size) = some m.size) := by rw [hms]; exact size_b256
  have H1m : Hid (m.all (·.oneCell') = true) := by rw [← Hm.out]; exact cells8_one _
  have HZM : Hid (z.size = m.size) := by rw [hms, ← HZ.out, cells8_size, zeros8_length]; exact rfl
  have HSZ : Hid (∀ w, Sem.run Try.prog (Go.sizeOf 5) w = .ok 1 w) := size_u8
  have hLL := scL_length l b
  obtain ⟨L, HL⟩ : ∃ L, Hid (scL l b = L) := ⟨_, rfl⟩
  have HLG : Hid (∀ k, k < l.length → L.getD k 0 = ((prod (gN l k) b : Nat) : Int)) := fun k hk => by rw [← HL.out]; exact scL_get l b k hk
  rw [HL.out] at hLL
  rw [HL.out]
  go_enter Try.func46, Try.ntmps46
  go_wp2_with fail
  refine C.out.mono ?_
  rintro e w1 ⟨rfl, hB1⟩
  have B1 := hid hB1
  clear hB1 C
  obtain ⟨tb, Htb⟩ : ∃ tb, tb = w1.heap.size := ⟨_, rfl⟩
  have H0q : Hid ((w1.alloc (.cells z 72)).heap[tb]? = some (.cells z 72 (0, 0))) := by rw [Htb]; exact heap_alloc_new w1 _
  obtain ⟨w2, hw2⟩ : ∃ w2, Hid ((w1.alloc (.cells z 72)).setRow tb m = w2) := ⟨_, rfl⟩
  have HT2 : Hid (w2.heap[tb]? = some (.cells m 72 (0, 0))) := by rw [← hw2.out]; exact setRow_heap _ _ _ _ _ _ H0q.out
  have htb : w.heap.size ≤ tb := by rw [Htb]; exact B1.out.size
  have B2 : Hid (Below w.heap.size w w2) := by rw [← hw2.out]; exact below_setRow (B1.out.alloc B1.out.size _) htb m
  have hs2 : w2.heap.size = tb + 1 := by rw [← hw2.out, Htb]; simp [World.setRow]
  obtain ⟨w3, hmk, hown, hgr⟩ := run_make_full (P := Try.prog) w2 w.heap.size 22 5 i0 (.int .u8 0) 1 Try.underlying22 hi hz0 hz1 .i64 .i64 l.length (by rw [hz2]; omega) (by unfold maxLen; omega) (by omega)
  have hmk2 : (Instr.makeSlice 22 (.int .i64 (l.length : Int)) (.int .i64 (l.length : Int))).run Try.prog w2 = .ok (.slice (some ⟨w2.heap.size, 0, none⟩) l.length l.length) w3 := hmk
  clear hmk
  rw [hs2] at hmk2 hown
  have B3 : Hid (Below w.heap.size w w3) := B2.out.grown hgr (by omega) (fun k e => by cases e)
  have HT3 : Hid (w3.heap[tb]? = some (.cells m 72 (0, 0))) := (hgr.block tb (by omega) (by simp)).trans HT2.out
  have HO3 : Hid (w3.ownsRow w.heap.size 5 1 (.slice (some ⟨tb + 1, 0, none⟩) l.length l.length) l.length ((partTo L 0).map (Value.int .u8))) := by
    have e : (madeCells (Value.int IntKind.u8 0).cells (l.length * 1)).toList = (partTo L 0).map (Value.int .u8) := by
      rw [show (Value.int IntKind.u8 0).cells = #[Value.int .u8 0] from rfl, toList_madeCells_one, partTo_none, hLL, List.map_replicate, Nat.mul_one]
    rw [← e]
    exact hown
  clear hown hgr B1
  subst Htb
  go_wp2_with (first | (refine wpList_alloc_agg HZ0.out rfl rfl ?_) | (refine wpList_store_row rfl 72 _ _ rfl _ m rfl rfl 72 _ H0q.out HIm.out HZM.out H1m.out ?_))
  rw [hw2.out]
  go_wp2
  rw [hmk2]
  go_wp2
  obtain ⟨tb, Htb⟩ : ∃ tb, w1.heap.size = tb := ⟨_, rfl⟩
  rw [Htb] at htb HT3 HO3 hs2
  rw [Htb]
  clear hmk2 HT2 B2 H0q hw2 HZM H1m HIm HZ0
  go_loopw [16] (fun i wr => ∃ I : Nat, I ≤ l.length ∧ i = .int .i64 (I : Int) ∧ Hid (wr.ownsRow w.heap.size 5 1 (.slice (some ⟨tb + 1, 0, none⟩) l.length l.length) l.length ((partTo L I).map (Value.int .u8))) ∧ Hid (wr.heap[tb]? = some (.cells m 72 (0, 0))) ∧ Hid (Below w.heap.size w wr)) (fun i _ => l.length - (intOf i).toNat)
  case atStart => exact ⟨0, Nat.zero_le _, rfl, HO3, HT3, B3⟩
  case round =>
    clear HO3 HT3 B3
    obtain ⟨I, hI, rfl, HO, HT, B⟩ := hrel
    by_cases hlt : I < l.length
    · obtain ⟨b1, o1, c1, e1, _, _, hc1⟩ := HA.out.ne (by omega)
      simp only [Value.slice.injEq] at e1
      obtain ⟨rfl, _, rfl⟩ := e1
      have q1 := (B.out.cell (World.block_lt_of_cell? w _ (hc1 I hlt))).trans (hc1 I hlt)
      obtain ⟨g1, l1⟩ := HA.out.gN I
      rw [g1] at q1
      have q2 : wr.cell? ⟨tb, gN l I, none⟩ = some (.int .u8 ((prod (gN l I) b : Nat) : Int)) := by
        rw [cell_of_row wr tb (gN l I) _ _ _ HT.out, ← Hm.out, ← HMG.out _ l1]
        exact cells8_get (by rw [HML.out]; exact l1)
      have HV : Hid (L.getD I 0 = ((prod (gN l I) b : Nat) : Int)) := HLG.out I hlt
      obtain ⟨x, HX⟩ : ∃ x, Hid (gN l I = x) := ⟨_, rfl⟩
      rw [HX.out] at q1 q2 HV l1
      obtain ⟨y, HY⟩ : ∃ y, Hid (prod x b = y) := ⟨_, rfl⟩
      rw [HY.out] at q2 HV
      have hcx := HO.out.cellAt I (by omega)
      have hfz := HO.out.frozenAt I
      obtain ⟨zz, hzz⟩ : ∃ zz, ((partTo L I).map (Value.int .u8))[I]? = some zz := ⟨_, List.getElem?_eq_getElem (by rw [List.length_map, partTo_length L I (by omega)]; omega)⟩
      rw [hzz] at hcx
      have HO2 : Hid ((wr.setCell ⟨tb + 1, I, none⟩ (.int .u8 (y : Int))).ownsRow w.heap.size 5 1 (.slice (some ⟨tb + 1, 0, none⟩) l.length l.length) l.length ((partTo L (I + 1)).map (Value.int .u8))) := by
        have h := (HO.out.stored I (.int .u8 (y : Int))).1
        rw [← List.map_set, ← HV.out, partTo_step L I (by omega)] at h
        rw [← HV.out]
        exact h
      have HT2 : Hid ((wr.setCell ⟨tb + 1, I, none⟩ (.int .u8 (y : Int))).heap[tb]? = some (.cells m 72 (0, 0))) := (heap_setCell_other wr ⟨tb + 1, I, none⟩ tb _ (by simp)).trans HT.out
      have B2 : Hid (Below w.heap.size w (wr.setCell ⟨tb + 1, I, none⟩ (.int .u8 (y : Int)))) := B.out.setCell (p := ⟨tb + 1, I, none⟩) (by simp; omega) _
      clear hzz hc1 g1 HO HT B HV
      go_wp2
      exact ⟨⟨I + 1, by omega, by go_num, HO2, HT2, B2⟩, by simp [intOf]; omega⟩
    · have hI' : I = l.length := by omega
      have HF : Hid (wr.ownsRow w.heap.size 5 1 (.slice (some ⟨tb + 1, 0, none⟩) l.length l.length) L.length (L.map (Value.int .u8))) := by
        have := HO.out
        rw [hI', ← hLL, partTo_all] at this
        rw [← hLL]
        exact this
      clear hI' HO
      go_wp2
      go_ret
      exact ⟨_, rfl, HF.out, B.out⟩
end Go.Proofs.Ytbiplflejijbeaa
namespace Go.Proofs.Ytbiplflejijbeaa
open Go.RowKit
theorem own_mono {w : World} {B B' e n : Nat} {v : Value} {xs : List Value} (h : w.ownsRow B e 1 v n xs) (hb : B' ≤ B) : w.ownsRow B' e 1 v n xs := by
  refine ⟨h.1, ?_⟩
  rcases h.2 with h2 | ⟨g, cap, cur, h1, h2, h3⟩
  · exact .inl h2
  · exact .inr ⟨g, cap, cur, h1, Nat.le_trans hb h2, h3⟩
theorem own_slc {w : World} {B n : Nat} {e : TypeId} {v : Value} {xs : List Value} (h : w.ownsRow B e 1 v n xs) : ∃ p c, v = .slice p n c := by
  rcases h.2 with ⟨rfl, rfl⟩ | ⟨g, cap, cur, rfl, _⟩
  · exact ⟨none, 0, rfl⟩
  · exact ⟨_, _, rfl⟩
theorem none_or (z : Option Nat) : z = none ∨ z ≠ none := by cases z <;> simp
theorem own_below {w w' : World} {B n : Nat} {e : TypeId} {v : Value} {xs : List Value} (h : w.ownsRow B e 1 v n xs) (hb : Below w.heap.size w w') : w'.ownsRow B e 1 v n xs :=
  h.kept ⟨hb.os, hb.tape, hb.output, hb.size, fun k hk _ => hb.block k hk⟩ (none_or _)
theorem own_ne {w w' : World} {B B' n n' : Nat} {e e' : TypeId} {v v' : Value} {xs xs' : List Value} (h : w.ownsRow B e 1 v n xs) (h' : w'.ownsRow B' e' 1 v' n' xs') (hb : w.heap.size ≤ B') :
    (v.ownBlock = none ∨ v.ownBlock ≠ v'.ownBlock) ∧ (v'.ownBlock = none ∨ v'.ownBlock ≠ v.ownBlock) := by
  constructor
  · rcases none_or v.ownBlock with q | q
    · exact .inl q
    · refine .inr fun e => ?_
      obtain ⟨k, hk⟩ := Option.ne_none_iff_exists'.1 q
      have h1 := h.lt k hk
      have h2 := h'.lt k (e ▸ hk)
      omega
  · rcases none_or v'.ownBlock with q | q
    · exact .inl q
    · refine .inr fun e => ?_
      obtain ⟨k, hk⟩ := Option.ne_none_iff_exists'.1 q
      have h1 := h'.lt k hk
      have h2 := h.lt k (e ▸ hk)
      omega
end Go.Proofs.Ytbiplflejijbeaa
namespace Go.Proofs.Ytbiplflejijbeaa
open Go Go.RowKit
def gfF : Value := .iface 47 (.agg #[])
theorem gfAdd0 (w : World) (x : Nat) (hx : x < 256) : Calls Try.prog 86 #[.agg #[], .int .u8 (x : Int), .int .u8 0] w fun e w' => e = .returned (.int .u8 (x : Int)) ∧ Below w.heap.size w w' := by
  have q := xor_none x hx
  go_enter Try.func86, Try.ntmps86
  go_wp2
  go_ret
  exact ⟨rfl, (Below.refl _ w).alloc (Nat.le_refl _) _⟩
theorem gfZero (w : World) : Calls Try.prog 91 #[.agg #[]] w fun e w' => e = .returned (.int .u8 0) ∧ Below w.heap.size w w' := by
  go_enter Try.func91, Try.ntmps91
  go_wp2
  go_ret
  exact ⟨rfl, (Below.refl _ w).alloc (Nat.le_refl _) _⟩
set_option maxRecDepth 100000 in
set_option maxHeartbeats 4000000 in
theorem btaken_any (w : World) (v : Value) (l : List Int) (h : HB w v l) (hbig : l.length ≤ 35184372088832) :
    Calls Try.prog 32 #[gfF, v] w fun e w' => ∃ v', e = .returned v' ∧ w'.ownsRow w.heap.size 5 1 v' l.length (l.map (Value.int .u8)) ∧ Below w.heap.size w w' := by
  obtain ⟨i0, hi, hz0, hz1, hz2⟩ := info_parts info_u8
  have HA := hid h
  obtain ⟨pa, c, rfl, _, hc⟩ := h.open
  clear h
  unfold maxLen at hc
  have CZ := hid (gfZero w)
  unfold gfF
  go_enter Try.func32, Try.ntmps32
  go_wp2_with fail
  refine CZ.out.mono ?_
  rintro e w1 ⟨rfl, hb1⟩
  have hs1 := hb1.size
  obtain ⟨w3, hmk, hown, hgr⟩ := run_make_full (P := Try.prog) w1 w1.heap.size 22 5 i0 (.int .u8 0) 1 Try.underlying22 hi hz0 hz1 .i64 .i64 l.length (by rw [hz2]; omega) (by unfold maxLen; omega) (by omega)
  have hmk2 : (Instr.makeSlice 22 (.int .i64 (l.length : Int)) (.int .i64 (l.length : Int))).run Try.prog w1 = .ok (.slice (some ⟨w1.heap.size, 0, none⟩) l.length l.length) w3 := hmk
  clear hmk
  have B3 : Hid (Below w.heap.size w w3) := hb1.trans (((Below.refl _ w1).grown hgr (by omega) (fun k e => by cases e)).mono hs1)
  have HO3 : Hid (w3.ownsRow w.heap.size 5 1 (.slice (some ⟨w1.heap.size, 0, none⟩) l.length l.length) l.length ((partTo l 0).map (Value.int .u8))) := by
    have e : (madeCells (Value.int IntKind.u8 0).cells (l.length * 1)).toList = (partTo l 0).map (Value.int .u8) := by
      rw [show (Value.int IntKind.u8 0).cells = #[Value.int .u8 0] from rfl, toList_madeCells_one, partTo_none, List.map_replicate, Nat.mul_one]
    rw [← e]
    exact own_mono hown hs1
  clear hown hgr hb1 CZ
  go_wp2
  clear hmk2
  obtain ⟨tb, Htb⟩ : ∃ tb, Hid (w1.heap.size = tb) := ⟨_, rfl⟩
  rw [Htb.out] at HO3 hs1
  rw [Htb.out]
  go_loopw [16] (fun i wr => ∃ I : Nat, I ≤ l.length ∧ i = .int .i64 (I : Int) ∧ Hid (wr.ownsRow w.heap.size 5 1 (.slice (some ⟨tb, 0, none⟩) l.length l.length) l.length ((partTo l I).map (Value.int .u8))) ∧ Hid (Below w.heap.size w wr)) (fun i _ => l.length - (intOf i).toNat)
  case atStart => exact ⟨0, Nat.zero_le _, rfl, HO3, B3⟩
  case round =>
    clear HO3 B3
    obtain ⟨I, hI, rfl, HO, B⟩ := hrel
    by_cases hlt : I < l.length
    · obtain ⟨b1, o1, c1, e1, _, _, hc1⟩ := HA.out.ne (by omega)
      simp only [Value.slice.injEq] at e1
      obtain ⟨rfl, _, rfl⟩ := e1
      have q1 := (B.out.cell (World.block_lt_of_cell? w _ (hc1 I hlt))).trans (hc1 I hlt)
      have g1 := HA.out.byte I
      obtain ⟨x, HX⟩ : ∃ x : Nat, Hid (l.getD I 0 = (x : Int)) := ⟨(l.getD I 0).toNat, hid (by omega)⟩
      rw [HX.out] at q1 g1
      have AD := hid (gfAdd0 wr x (by omega))
      clear hc1 g1
      go_wp2_with fail
      refine AD.out.mono ?_
      rintro e w5 ⟨rfl, hb5⟩
      have HO5 := hid (own_below HO.out hb5)
      have B5 := hid (B.out.trans (hb5.mono B.out.size))
      have hcx := HO5.out.cellAt I (by omega)
      have hfz := HO5.out.frozenAt I
      obtain ⟨zz, hzz⟩ : ∃ zz, ((partTo l I).map (Value.int .u8))[I]? = some zz := ⟨_, List.getElem?_eq_getElem (by rw [List.length_map, partTo_length l I (by omega)]; omega)⟩
      rw [hzz] at hcx
      have HO2 : Hid ((w5.setCell ⟨tb, I, none⟩ (.int .u8 (x : Int))).ownsRow w.heap.size 5 1 (.slice (some ⟨tb, 0, none⟩) l.length l.length) l.length ((partTo l (I + 1)).map (Value.int .u8))) := by
        have h := (HO5.out.stored I (.int .u8 (x : Int))).1
        rw [← List.map_set, ← HX.out, partTo_step l I (by omega)] at h
        rw [← HX.out]
        exact h
      have B2 : Hid (Below w.heap.size w (w5.setCell ⟨tb, I, none⟩ (.int .u8 (x : Int)))) := B5.out.setCell (p := ⟨tb, I, none⟩) hs1 _
      clear hzz HO B AD hb5 q1
      go_wp2
      exact ⟨⟨I + 1, by omega, by go_num, HO2, B2⟩, by simp [intOf]; omega⟩
    · have hI' : I = l.length := by omega
      have HF : Hid (wr.ownsRow w.heap.size 5 1 (.slice (some ⟨tb, 0, none⟩) l.length l.length) l.length (l.map (Value.int .u8))) := by
        have := HO.out
        rw [hI', partTo_all] at this
        exact this
      clear hI' HO
      go_wp2
      go_ret
      exact ⟨_, rfl, HF.out, B.out⟩
def HMt (w : World) (g r c : Nat) (l : List Int) : Prop := l.length = r * c ∧ ∃ v, w.heap[g]? = some (.cells #[gfF, .int .i64 (r : Int), .int .i64 (c : Int), v] 71 (0, 0)) ∧ HB w v l
theorem HMt.below {w w' : World} {g r c : Nat} {l : List Int} (h : HMt w g r c l) (hb : Below w.heap.size w w') : HMt w' g r c l := by
  obtain ⟨h0, v, h1, h2⟩ := h
  exact ⟨h0, v, (hb.block g (Array.getElem?_eq_some_iff.1 h1).1).trans h1, h2.below hb⟩
theorem mayBe_ok (w : World) (r : Nat) (h1 : 1 ≤ r) (h2 : r ≤ 256) : Calls Try.prog 31 #[.int .i64 (r : Int)] w fun e w' => e = .returned (.bool true) ∧ w' = w := by
  have q1 : (1 : Int) ≤ (r : Int) := by omega
  have q2 : (r : Int) ≤ 256 := by omega
  go_enter Try.func31, Try.ntmps31
  go_wp2
  go_ret
  exact ⟨by simp [q1, q2], rfl⟩
set_option maxRecDepth 100000 in
set_option maxHeartbeats 4000000 in
theorem bnew_ok (w : World) (v : Value) (l : List Int) (r c : Nat) (h : HB w v l) (hr : 1 ≤ r ∧ r ≤ 256) (hc : 1 ≤ c ∧ c ≤ 256) (hl : l.length = r * c) :
    Calls Try.prog 15 #[gfF, .int .i64 (r : Int), .int .i64 (c : Int), v] w fun e w' => ∃ g, e = .returned (.tuple #[.pointer (some ⟨g, 0, none⟩), .int .i64 0]) ∧ w.heap.size ≤ g ∧ HMt w' g r c l ∧ Below w.heap.size w w' := by
  have hrc : r * c ≤ 65536 := Nat.mul_le_mul hr.2 hc.2
  have HA := hid h
  have CT := btaken_any w v l h (by rw [hl]; omega)
  obtain ⟨pa, ca, rfl, _, hm⟩ := h.open
  have HL := hid hl
  have HLr := hid (HA.out.2)
  rw [hl] at CT ⊢
  have CT := hid CT
  have C1 := hid (mayBe_ok w r hr.1 hr.2)
  have C2 := hid (mayBe_ok w c hc.1 hc.2)
  have hmul : (r : Int) * (c : Int) = ((r * c : Nat) : Int) := by simp
  obtain ⟨n, HN⟩ : ∃ n, Hid (r * c = n) := ⟨_, rfl⟩
  rw [HN.out] at CT hrc hmul ⊢
  have hne : ((n : Int) != (n : Int)) = false := by simp
  clear h hl hm
  have hrb := hid hr
  have hcb := hid hc
  have GF : Hid (gfF = .iface 47 (.agg #[])) := rfl
  unfold gfF at CT ⊢
  clear hr hc
  go_enter Try.func15, Try.ntmps15
  go_wp2_with fail
  refine C1.out.mono ?_
  rintro e _ ⟨rfl, rfl⟩
  go_wp2_with fail
  refine C2.out.mono ?_
  rintro e _ ⟨rfl, rfl⟩
  go_wp2_with fail
  refine CT.out.mono ?_
  rintro e w1 ⟨v1, rfl, ho1, hb1⟩
  have H1 : Hid (HB w1 v1 l) := hid (HB.of_own (by rw [HL.out, HN.out]; exact ho1) HLr.out)
  have B1 := hid hb1
  obtain ⟨p1, c1, rfl⟩ := own_slc ho1
  clear hb1 ho1 CT
  go_wp2
  go_ret2
  have bal : Below w1.heap.size w1 (w1.alloc (.cells #[.iface 47 (.agg #[]), .int .i64 (r : Int), .int .i64 (c : Int), .slice p1 n c1] 71)) := (Below.refl _ _).alloc (Nat.le_refl _) _
  exact ⟨w1.heap.size, rfl, B1.out.size, ⟨HL.out, _, heap_alloc_new w1 _, H1.out.below bal⟩, B1.out.trans (bal.mono B1.out.size)⟩
def elF (k i j : Nat) : Nat := if i < k then (if i = j then 1 else 0) else inv (i ^^^ j)
def elP (k p : Nat) : Int := ((elF k (p / k) (p % k) : Nat) : Int)
def elL (k n : Nat) : List Int := (List.range (n * k)).map (elP k)
theorem elL_length (k n : Nat) : (elL k n).length = n * k := by simp [elL]
theorem elL_get (k n p : Nat) (h : p < n * k) : (elL k n).getD p 0 = elP k p := by simp [elL, List.getD, h]
theorem xor_lt' {i j : Nat} (hi : i < 256) (hj : j < 256) : i ^^^ j < 256 := Nat.xor_lt_two_pow (n := 8) hi hj
theorem xor_ne {i j : Nat} (h : j < i) : i ^^^ j ≠ 0 := by
  intro e
  have h2 : (i ^^^ j) ^^^ j = j := by rw [e]; simp
  rw [Nat.xor_assoc, Nat.xor_self, Nat.xor_zero] at h2
  omega
def el1 (k n I : Nat) : List Int := (List.range (n * k)).map fun p => if p / k < I then elP k p else 0
theorem el1_length (k n I : Nat) : (el1 k n I).length = n * k := by simp [el1]
theorem el1_zero (k n : Nat) : el1 k n 0 = List.replicate (n * k) 0 := by
  apply List.ext_getElem
  · simp [el1]
  · intro i h1 h2; simp [el1]
theorem el1_step {k n I : Nat} (hI : I < k) (hk : k ≤ n) : (el1 k n I).set (I * k + I) 1 = el1 k n (I + 1) := by
  apply List.ext_getElem
  · simp [el1]
  · intro p h1 h2
    have hp : p < n * k := by simpa [el1] using h2
    rw [List.getElem_set]
    by_cases e : I * k + I = p
    · subst e
      have e1 : (I * k + I) / k = I := by rw [Nat.mul_comm, Nat.mul_add_div (by omega), Nat.div_eq_of_lt hI, Nat.add_zero]
      have e2 : (I * k + I) % k = I := by rw [Nat.mul_comm, Nat.mul_add_mod, Nat.mod_eq_of_lt hI]
      simp [el1, elP, elF, e1, e2, hI]
    · rw [if_neg e]
      simp only [el1, List.getElem_map, List.getElem_range]
      by_cases h3 : p / k < I
      · rw [if_pos h3, if_pos (by omega)]
      · rw [if_neg h3]
        by_cases h4 : p / k = I
        · rw [if_pos (by omega)]
          have h5 : ¬ I = p % k := by
            intro q
            have := Nat.div_add_mod p k
            rw [h4, ← q, Nat.mul_comm] at this
            exact e this
          simp [elP, elF, h4, hI, h5]
        · rw [if_neg (by omega)]
theorem el1_all {k n : Nat} (h1 : 1 ≤ k) (hk : k ≤ n) : el1 k n k = partTo (elL k n) (k * k) := by
  have hkk : k * k ≤ n * k := Nat.mul_le_mul_right k hk
  apply List.ext_getElem
  · rw [el1_length, partTo_length _ _ (by rw [elL_length]; exact hkk), elL_length]
  · intro p q1 q2
    have hp : p < n * k := by simpa [el1] using q1
    simp only [el1, List.getElem_map, List.getElem_range]
    by_cases h : p < k * k
    · rw [if_pos (Nat.div_lt_of_lt_mul h)]
      simp [partTo, elL, List.getElem_append, h, hp]
      intro q
      rw [Nat.min_eq_left hk] at q
      omega
    · rw [if_neg (by intro q; exact h ((Nat.div_lt_iff_lt_mul (by omega)).1 q))]
      simp [partTo, elL, List.getElem_append, h, hp]
      intro q
      rw [Nat.min_eq_left hk] at q
      omega
theorem el_at {k i j : Nat} (hj : j < k) : (i * k + j) / k = i ∧ (i * k + j) % k = j := by
  constructor
  · rw [Nat.mul_comm, Nat.mul_add_div (by omega), Nat.div_eq_of_lt hj, Nat.add_zero]
  · rw [Nat.mul_comm, Nat.mul_add_mod, Nat.mod_eq_of_lt hj]
theorem elP_far {k i j : Nat} (hi : k ≤ i) (hj : j < k) : elP k (i * k + j) = ((inv (i ^^^ j) : Nat) : Int) := by
  unfold elP elF
  rw [(el_at hj).1, (el_at hj).2, if_neg (by omega)]
def mixV (row : List Int) (ds : List (List Int)) : Nat → Nat → Nat
  | 0, _ => 0
  | m + 1, b => mixV row ds m b ^^^ prod (gN (ds.getD m []) b) (gN row m)
def tbL (n : Nat) (f : Nat → Nat) : List Int := (List.range n).map fun i => ((f i : Nat) : Int)
theorem tbL_length (n : Nat) (f : Nat → Nat) : (tbL n f).length = n := by simp [tbL]
theorem tbL_get (n : Nat) (f : Nat → Nat) (i : Nat) (h : i < n) : (tbL n f).getD i 0 = ((f i : Nat) : Int) := by simp [tbL, List.getD, h]
theorem tbL_congr {n : Nat} {f g : Nat → Nat} (h : ∀ i, i < n → f i = g i) : tbL n f = tbL n g := by
  unfold tbL
  apply List.map_congr_left
  intro i hi
  rw [h i (List.mem_range.1 hi)]
theorem tbL_set (n : Nat) (f : Nat → Nat) (i v : Nat) (h : i < n) : (tbL n f).set i (v : Int) = tbL n fun j => if j = i then v else f j := by
  apply List.ext_getElem
  · simp [tbL]
  · intro j h1 h2
    rw [List.getElem_set]
    by_cases e : i = j
    · subst e; simp [tbL]
    · have : ¬ j = i := fun q => e q.symm
      simp [tbL, e, this]
theorem tbL_byt (n : Nat) {f : Nat → Nat} (h : ∀ i, f i < 256) : ∀ x ∈ tbL n f, 0 ≤ x ∧ x < 256 := by
  intro x hx
  obtain ⟨i, _, rfl⟩ := List.mem_map.1 hx
  have := h i
  omega
def mixL (row : List Int) (ds : List (List Int)) (m L : Nat) : List Int := tbL L (mixV row ds m)
theorem mixV_lt {row : List Int} {ds : List (List Int)} (hd : ∀ j b, gN (ds.getD j []) b < 256) (m b : Nat) : mixV row ds m b < 256 := by
  induction m with
  | zero => exact (by decide : 0 < 256)
  | succ m ih => exact Nat.xor_lt_two_pow (n := 8) ih (prod_lt _ (hd m b))
theorem mixL_none (row : List Int) (ds : List (List Int)) (L : Nat) : mixL row ds 0 L = List.replicate L 0 := by
  apply List.ext_getElem
  · simp [mixL, tbL]
  · intro i h1 h2; simp [mixL, tbL, mixV]
theorem mixV_skip {row : List Int} {ds : List (List Int)} {m : Nat} (h : gN row m = 0) (b : Nat) : mixV row ds (m + 1) b = mixV row ds m b := by
  unfold mixV
  rw [h, prod_zero, Nat.xor_zero]
  cases m <;> rfl
end Go.Proofs.Ytbiplflejijbeaa
