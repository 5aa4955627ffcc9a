/- Of the road to octetFramesUpto_holds: Base, Opens, U8, Join, SameBytes, Owns, Lists, Numbers, Clone, Slices, Reader, Reads, FrameMath, Frames, ReaderMore, Unframed, AppB. -/
import Derived.WalkKit
import Derived.WalkSpells
import Derived.WalkLawsBesides
import Derived.Deep.QuietTactic
import Derived.BigQuiet
import Derived.Test.YtjmihehihjbgpaaRows
import Derived.ProofKit
import Derived.OpenShut
import Derived.ShutString
import Derived.ChangeOld
import Derived.Deep.Slices
import Derived.JoinedCond
import Derived.SizedLaws
import Derived.Test.YtjmihehihjbgpaaChecked
import Derived.Laws.AppendOwnNone
import Derived.Laws.AppendOwn
set_option linter.unusedVariables false
set_option linter.unusedSimpArgs false
namespace Go.Proofs.Ytjmihehihjbgpaa
open Go.RowKit
theorem hid {p : Prop} (h : p) : Hid p := h
def HB (w : World) (v : Value) (l : List Int) : Prop :=
  (∃ (p : Option Addr) (c : Nat), v = .slice p l.length c ∧ l.length ≤ c ∧ c ≤ maxLen ∧ (p = none → c = 0) ∧
    (l ≠ [] → ∃ b off, p = some ⟨b, off, none⟩ ∧ ∀ j, j < l.length → w.cell? ⟨b, off + j, none⟩ = some (.int .u8 (l.getD j 0)))) ∧ ∀ x ∈ l, 0 ≤ x ∧ x < 256
theorem HB.open {w : World} {v : Value} {l : List Int} (h : HB w v l) : ∃ (p : Option Addr) (c : Nat), v = .slice p l.length c ∧ l.length ≤ c ∧ c ≤ maxLen := by
  obtain ⟨⟨p, c, h1, h2, h3, _⟩, _⟩ := h
  exact ⟨p, c, h1, h2, h3⟩
theorem HB.ne {w : World} {v : Value} {l : List Int} (h : HB w v l) (hl : 0 < l.length) :
    ∃ b off c, v = .slice (some ⟨b, off, none⟩) l.length c ∧ l.length ≤ c ∧ c ≤ maxLen ∧ ∀ j, j < l.length → w.cell? ⟨b, off + j, none⟩ = some (.int .u8 (l.getD j 0)) := by
  obtain ⟨⟨p, c, h1, h2, h3, _, h4⟩, _⟩ := h
  obtain ⟨b, off, rfl, hc⟩ := h4 (by intro e; subst e; simp at hl)
  exact ⟨b, off, c, h1, h2, h3, hc⟩
theorem HB.byte {w : World} {v : Value} {l : List Int} (h : HB w v l) (j : Nat) : 0 ≤ l.getD j 0 ∧ l.getD j 0 < 256 := by
  by_cases hj : j < l.length
  · have e : l.getD j 0 = l[j] := by simp [List.getD, List.getElem?_eq_getElem hj]
    rw [e]
    exact h.2 _ (List.getElem_mem hj)
  · have e : l.getD j 0 = 0 := by simp [List.getD, List.getElem?_eq_none (by omega : l.length ≤ j)]
    rw [e]; omega
theorem HB.later {w w' : World} {v : Value} {l : List Int} (h : HB w v l) (hc : ∀ a (n : Int), w.cell? a = some (.int .u8 n) → w'.cell? a = some (.int .u8 n)) : HB w' v l := by
  obtain ⟨⟨p, c, h1, h2, h3, h6, h4⟩, h5⟩ := h
  refine ⟨⟨p, c, h1, h2, h3, h6, fun hl => ?_⟩, h5⟩
  obtain ⟨b, off, e, hh⟩ := h4 hl
  exact ⟨b, off, e, fun j hj => hc _ _ (hh j hj)⟩
theorem HB.below {w w' : World} {v : Value} {l : List Int} (h : HB w v l) (hb : Below w.heap.size w w') : HB w' v l :=
  h.later fun a _ hx => (hb.cell (World.block_lt_of_cell? w a hx)).trans hx
theorem HB.drewN {w : World} {v : Value} {l : List Int} (h : HB w v l) (q : Nat) : HB (w.drewN q) v l := h.later fun _ _ hx => hx
theorem getD_of_lt {l : List Int} {k : Nat} (h : k < l.length) : l.getD k 0 = l[k] := by simp [List.getD, List.getElem?_eq_getElem h]
theorem ownsRow_cells {w : World} {B : Nat} {e : TypeId} {v : Value} {n : Nat} {xs : List Value} (h : w.ownsRow B e 1 v n xs) (h0 : 0 < n) :
    ∃ g cap, v = .slice (some ⟨g, 0, none⟩) n cap ∧ B ≤ g ∧ n ≤ cap ∧ cap ≤ maxLen ∧ ∀ j u, xs[j]? = some u → w.cell? ⟨g, 0 + j, none⟩ = some u := by
  have hc := @World.ownsRow.cells w B e 1 v n xs h
  rcases h.2 with ⟨_, e0⟩ | ⟨g, cap, cur, rfl, hb, _, hn, hm, _, _⟩
  · omega
  · refine ⟨g, cap, rfl, hb, hn, hm, fun j u hj => ?_⟩
    have := @hc g rfl j u hj
    rwa [Go.WideShapes.add_plain] at this
theorem HB.of_own {w : World} {B : Nat} {e : TypeId} {v : Value} {l : List Int} (h : w.ownsRow B e 1 v l.length (l.map (Value.int .u8))) (hx : ∀ x ∈ l, 0 ≤ x ∧ x < 256) : HB w v l := by
  refine ⟨?_, hx⟩
  by_cases h0 : 0 < l.length
  · obtain ⟨g, cap, rfl, _, hn, hm, hc⟩ := ownsRow_cells h h0
    refine ⟨_, cap, rfl, hn, hm, (fun e => by cases e), fun _ => ⟨g, 0, rfl, fun j hj => ?_⟩⟩
    exact hc j _ (by simp [List.getD, List.getElem?_eq_getElem hj])
  · have e : l = [] := List.length_eq_zero_iff.1 (by omega)
    subst e
    rcases h.2 with ⟨rfl, _⟩ | ⟨g, cap, cur, rfl, _, _, hn, hm, _⟩
    · exact ⟨none, 0, rfl, Nat.le_refl _, Nat.zero_le _, fun _ => rfl, fun h => absurd rfl h⟩
    · exact ⟨_, cap, rfl, hn, hm, (fun e => by cases e), fun h => absurd rfl h⟩
theorem HB.grown {w w' : World} {v : Value} {l : List Int} {g : Nat} (h : HB w v l) (hg : w.grownBy w' (some g)) (hn : ∀ o sp (n : Int), w.cell? ⟨g, o, sp⟩ ≠ some (.int .u8 n)) : HB w' v l :=
  h.later fun a n hx => hg.cell hx (by
    intro e
    obtain ⟨b, o, sp⟩ := a
    simp only [Option.some.injEq] at e
    subst e
    exact hn o sp n hx)
theorem HB.nil (w : World) : HB w (.slice none 0 0) [] := ⟨⟨none, 0, rfl, Nat.zero_le _, Nat.zero_le _, fun _ => rfl, fun h => absurd rfl h⟩, by simp⟩
def BT (w : World) (g : Nat) (T : TypeId) : Prop := ∃ cur fz, w.heap[g]? = some (.cells cur T fz)
def HL (w : World) (v : Value) (ls : List (List Int)) : Prop :=
  ∃ (p : Option Addr) (c : Nat), v = .slice p ls.length c ∧ ls.length ≤ c ∧ c ≤ maxLen ∧ (p = none → c = 0) ∧
    (ls ≠ [] → ∃ b off, p = some ⟨b, off, none⟩ ∧ ∀ j, j < ls.length → ∃ u, w.cell? ⟨b, off + j, none⟩ = some u ∧ HB w u (ls.getD j []))
theorem HL.ne {w : World} {v : Value} {ls : List (List Int)} (h : HL w v ls) (hl : 0 < ls.length) :
    ∃ b off c, v = .slice (some ⟨b, off, none⟩) ls.length c ∧ ls.length ≤ c ∧ c ≤ maxLen ∧ ∀ j, j < ls.length → ∃ u, w.cell? ⟨b, off + j, none⟩ = some u ∧ HB w u (ls.getD j []) := by
  obtain ⟨p, c, h1, h2, h3, _, h4⟩ := h
  obtain ⟨b, off, rfl, hc⟩ := h4 (by intro e; subst e; simp at hl)
  exact ⟨b, off, c, h1, h2, h3, hc⟩
theorem HL.open {w : World} {v : Value} {ls : List (List Int)} (h : HL w v ls) : ∃ (p : Option Addr) (c : Nat), v = .slice p ls.length c ∧ ls.length ≤ c ∧ c ≤ maxLen := by
  obtain ⟨p, c, h1, h2, h3, _⟩ := h
  exact ⟨p, c, h1, h2, h3⟩
theorem HL.later {w w' : World} {v : Value} {ls : List (List Int)} (h : HL w v ls) (hc : ∀ a x, w.cell? a = some x → w'.cell? a = some x) : HL w' v ls := by
  obtain ⟨p, c, h1, h2, h3, h5, h4⟩ := h
  refine ⟨p, c, h1, h2, h3, h5, fun hl => ?_⟩
  obtain ⟨b, off, e, hh⟩ := h4 hl
  refine ⟨b, off, e, fun j hj => ?_⟩
  obtain ⟨u, hu, hb⟩ := hh j hj
  exact ⟨u, hc _ _ hu, hb.later fun a n => hc a _⟩
theorem HL.below {w w' : World} {v : Value} {ls : List (List Int)} (h : HL w v ls) (hb : Below w.heap.size w w') : HL w' v ls :=
  h.later fun a _ hx => (hb.cell (World.block_lt_of_cell? w a hx)).trans hx
theorem HL.byt {w : World} {v : Value} {ls : List (List Int)} (h : HL w v ls) : ∀ x ∈ ls.flatten, 0 ≤ x ∧ x < 256 := by
  intro x hx
  obtain ⟨l, hl, hxl⟩ := List.mem_flatten.1 hx
  obtain ⟨j, hj, rfl⟩ := List.getElem_of_mem hl
  obtain ⟨b, off, c, _, _, _, hh⟩ := h.ne (by omega)
  obtain ⟨u, _, hb⟩ := hh j hj
  have e : ls.getD j [] = ls[j] := by simp [List.getD, List.getElem?_eq_getElem hj]
  rw [e] at hb
  exact hb.2 x hxl
theorem HL.nil (w : World) : HL w (.slice none 0 0) [] := ⟨none, 0, rfl, Nat.zero_le _, Nat.zero_le _, fun _ => rfl, fun h => absurd rfl h⟩
def Dr (w w' : World) : Prop := ∃ q, w' = w.drewN q
theorem Dr.refl (w : World) : Dr w w := ⟨0, rfl⟩
theorem Dr.drewN {w u : World} (h : Dr w u) (n : Nat) : Dr w (u.drewN n) := by
  obtain ⟨q, rfl⟩ := h
  exact ⟨q + n, World.drewN_drewN w q n⟩
theorem Dr.one (w : World) (n : Nat) : Dr w (w.drewN n) := ⟨n, rfl⟩
theorem Dr.trans {a b c : World} (h : Dr a b) (k : Dr b c) : Dr a c := by
  obtain ⟨q, rfl⟩ := k
  exact h.drewN q
theorem Dr.cell {w w' : World} (h : Dr w w') (a : Addr) : w'.cell? a = w.cell? a := by obtain ⟨q, rfl⟩ := h; rfl
theorem Dr.heap {w w' : World} (h : Dr w w') : w'.heap = w.heap := by obtain ⟨q, rfl⟩ := h; rfl
theorem Dr.below {w w' : World} (h : Dr w w') (B : Nat) : Below B w w' := by obtain ⟨q, rfl⟩ := h; exact ⟨rfl, rfl, rfl, Nat.le_refl _, fun _ _ => rfl⟩
theorem HB.dr {w w' : World} {v : Value} {l : List Int} (h : HB w v l) (d : Dr w w') : HB w' v l := h.later fun a _ hx => (d.cell a).trans hx
theorem HL.dr {w w' : World} {v : Value} {ls : List (List Int)} (h : HL w v ls) (d : Dr w w') : HL w' v ls := h.below (d.below _)
end Go.Proofs.Ytjmihehihjbgpaa
namespace Go.Proofs.Ytjmihehihjbgpaa
open Go.ChangeShapes Go.WideShapes Go.ChangeAt Go.RowKit
theorem Opn.own : ownKnob Try.prog.godebug = none := by kernel_rfl
theorem Opn.laidOut : laidOutB Try.prog = true := by kernel_rfl
theorem Opn.cells_u8 : Try.prog.cellsOf 5 = 1 := by kernel_rfl
theorem Opn.cells_int : Try.prog.cellsOf 3 = 1 := by kernel_rfl
theorem bulk_pos {H : Type} (d : DataW H) : 1 ≤ Rows.uptoBulk d := by
  cases d with
  | lit l => cases l <;> simp [Rows.uptoBulk]
  | _ => simp [Rows.uptoBulk]
theorem bulk_len {H : Type} (l : List (DataW H)) : l.length ≤ Rows.uptoBulkAll l := by
  induction l with
  | nil => simp
  | cons x r ih => have := bulk_pos x; simp only [Rows.uptoBulkAll, List.length_cons]; omega
theorem bulk_slice {H : Type} (a b : List (DataW H)) : a.length + b.length + 1 ≤ Rows.uptoBulk (.slice a b) := by
  have h1 := bulk_len a
  have h2 := bulk_len b
  simp only [Rows.uptoBulk]
  omega
theorem bulk_all {H : Type} {l : List (DataW H)} (hk : Rows.uptoSmall H l = true) : Rows.uptoBulkAll l ≤ 1048576 := of_decide_eq_true hk
variable {H : Type} {enc : TypeId × Value → H} {W : World}
theorem open_row {k : IntKind} {t e : TypeId} {fuel base : Nat} {cs : List Value} {d : DataW H} {p : List MemPlace} (ht : Try.prog.underlying t = some (.slice e)) (he : Try.prog.underlying e = some (.int k)) (hc : Try.prog.cellsOf e = 1)
    (hf : DataW.trod enc Try.prog W base (fun _ => true) true fuel t cs = some (d, p)) :
    ∃ (q : Option Addr) (c : Nat) (l : List Int), cs = [.slice q l.length c] ∧ l.length ≤ c ∧ c ≤ maxLen ∧ (q = none → c = 0) ∧ (l ≠ [] → ∃ b off, q = some ⟨b, off, none⟩ ∧ ∀ j, j < l.length → W.cell? ⟨b, off + j, none⟩ = some (.int k (l.getD j 0))) ∧ (∀ n ∈ l, (Lit.int k n).wf = true) ∧ l.length + 1 ≤ Rows.uptoBulk d := by
  rcases open_ints ht he hc hf with ⟨rfl, hx⟩ | ⟨x, len, cap, zs, rfl, _, hl, hm, hz, hx, hcell, hwz⟩
  · cases hx
    exact ⟨none, 0, [], rfl, Nat.le_refl _, Nat.zero_le _, fun _ => rfl, fun h => absurd rfl h, by simp, by simp [Rows.uptoBulk]⟩
  · simp only [Prod.mk.injEq] at hx
    obtain ⟨rfl, _⟩ := hx
    simp only [if_true] at hz
    have hlen : (zs.take len).length = len := by simp; omega
    refine ⟨some x, cap, zs.take len, by rw [hlen], by omega, hm, (fun e => by cases e), fun hne => ?_, fun n hn => hwz n (List.mem_of_mem_take hn), ?_⟩
    · have h0 : 0 < len := by
        apply Classical.byContradiction
        intro h
        exact hne (List.length_eq_zero_iff.1 (by omega))
      obtain ⟨b, off, rfl, hh⟩ := ints_at hcell (by omega)
      refine ⟨b, off, rfl, fun j hj => ?_⟩
      rw [hlen] at hj
      rw [hh j (by omega)]
      simp only [List.getD, List.getElem?_take]
      rw [if_pos hj]
    · have := bulk_slice (lits (H := H) k (zs.take len)) (lits k (zs.drop len))
      simp only [lits, List.length_map] at this ⊢
      omega
theorem byte_wf {l : List Int} (h : ∀ n ∈ l, (Lit.int .u8 n).wf = true) : ∀ x ∈ l, 0 ≤ x ∧ x < 256 := by
  intro x hx
  have := bounds_u8 (h x hx)
  omega
theorem open_HB {base : Nat} {v : Value} {d : DataW H} {p : List MemPlace} (h : DataW.Trod enc Try.prog W base (fun _ => true) true 23 v d p) (hv : ∃ a n c, v = .slice a n c) : ∃ l, HB W v l ∧ l.length + 1 ≤ Rows.uptoBulk d := by
  obtain ⟨a, n, c, rfl⟩ := hv
  obtain ⟨fuel, hf⟩ := h
  obtain ⟨q, c', l, hcs, h1, h2, h3, h4, h5, h6⟩ := open_row Try.underlying23 Try.underlying5 Opn.cells_u8 hf
  simp only [Value.cells, List.cons.injEq, and_true] at hcs
  exact ⟨l, ⟨⟨q, c', hcs, h1, h2, h3, h4⟩, byte_wf h5⟩, h6⟩
theorem Opn.bytes_u8 : Try.prog.bytesOf 5 = 1 := by kernel_rfl
theorem len_reach {ts : List TypeId} {ds : List (DataW H)} {j base : Nat} {v : Value} {d : DataW H} {p : List MemPlace} {l : List Int} (h : (DataW.weightsEach Try.prog ts ds).all (· ≤ reachBytes) = true) (ht : ts[j]? = some 23) (hd : ds[j]? = some d)
    (hT : DataW.Trod enc Try.prog W base (fun _ => true) true 23 v d p) (hb : HB W v l) : l.length ≤ 140737488351232 := by
  obtain ⟨q, c, rfl, _, _⟩ := hb.open
  obtain ⟨fuel, hf⟩ := hT
  rcases open_ints Try.underlying23 Try.underlying5 Opn.cells_u8 hf with ⟨hcs, _⟩ | ⟨x, len, cap, zs, hcs, _, hl, hm, hz, hx, _, _⟩
  · simp only [Value.cells, List.cons.injEq, and_true, Value.slice.injEq] at hcs
    omega
  · simp only [Value.cells, List.cons.injEq, and_true, Value.slice.injEq] at hcs
    simp only [Prod.mk.injEq] at hx
    obtain ⟨rfl, _⟩ := hx
    have := sized_slice h ht hd Try.underlying23
    rw [Opn.bytes_u8] at this
    simp only [lits, List.length_map, List.length_take, List.length_drop, reachBytes, if_true] at this hz
    omega
theorem bulk_mem {H : Type} {d : DataW H} {l : List (DataW H)} (h : d ∈ l) : Rows.uptoBulk d ≤ Rows.uptoBulkAll l := by
  induction l with
  | nil => cases h
  | cons x r ih =>
    simp only [Rows.uptoBulkAll]
    rcases List.mem_cons.1 h with e | e
    · subst e; omega
    · have := ih e; omega
theorem bulk_sum {H : Type} : ∀ (n : Nat) (D : Nat → DataW H) (L : Nat → List Int), (∀ i, i < n → (L i).length + 1 ≤ Rows.uptoBulk (D i)) → ((List.range n).map L).flatten.length + n ≤ Rows.uptoBulkAll ((List.range n).map D)
  | 0, _, _, _ => by simp [Rows.uptoBulkAll]
  | n + 1, D, L, h => by
    have ih := bulk_sum n (fun i => D (i + 1)) (fun i => L (i + 1)) (fun i hi => h (i + 1) (by omega))
    have h0 := h 0 (by omega)
    rw [List.range_succ_eq_map]
    simp only [List.map_cons, List.map_map, List.flatten_cons, List.length_append, Rows.uptoBulkAll]
    have e1' : (List.range n).map (L ∘ Nat.succ) = (List.range n).map (fun i => L (i + 1)) := rfl
    have e2' : (List.range n).map (D ∘ Nat.succ) = (List.range n).map (fun i => D (i + 1)) := rfl
    rw [e1', e2']
    omega
theorem choose_lists {P : Nat → List Int → Prop} (n : Nat) (h : ∀ i, i < n → ∃ l, P i l) : ∃ L : Nat → List Int, ∀ i, i < n → P i (L i) :=
  ⟨fun i => if hi : i < n then Classical.choose (h i hi) else [], fun i hi => by simp only [hi, dif_pos]; exact Classical.choose_spec (h i hi)⟩
theorem Opn.cells_bytes : Try.prog.cellsOf 23 = 1 := by kernel_rfl
theorem open_HL {base : Nat} {v : Value} {d : DataW H} {p : List MemPlace} (h : DataW.Trod enc Try.prog W base (fun _ => true) true 22 v d p) (hv : ∃ a n c, v = .slice a n c) : ∃ ls, HL W v ls ∧ ls.flatten.length + ls.length + 1 ≤ Rows.uptoBulk d := by
  obtain ⟨a, n, c, rfl⟩ := hv
  obtain ⟨fuel, hf⟩ := h
  rcases Go.Deep.open_slice Try.underlying22 hf with ⟨hcs, hx⟩ | ⟨a, len, cap, m, n, D, Pl, hcs, hb, hl, hm, hmm, hx, hel⟩
  · simp only [Value.cells, List.cons.injEq, and_true] at hcs
    cases hx
    rw [hcs]
    exact ⟨[], HL.nil _, by simp [Rows.uptoBulk]⟩
  · simp only [Value.cells, List.cons.injEq, and_true] at hcs
    rw [hcs]
    simp only [if_true] at hmm
    subst hmm
    simp only [Prod.mk.injEq] at hx
    obtain ⟨rfl, _⟩ := hx
    have each : ∀ i, i < len → ∃ l, (∃ u, W.cell? (a.add i) = some u ∧ HB W u l) ∧ l.length + 1 ≤ Rows.uptoBulk (D i) := by
      intro i hi
      obtain ⟨cs', h1, h2⟩ := hel i (by omega)
      rw [Opn.cells_bytes, Nat.mul_one] at h1
      obtain ⟨q, c', l, rfl, k1, k2, k3, k4, k5, k6⟩ := open_row Try.underlying23 Try.underlying5 Opn.cells_u8 h2
      exact ⟨l, ⟨_, cell_of_cells?_one h1, ⟨⟨q, c', rfl, k1, k2, k3, k4⟩, byte_wf k5⟩⟩, k6⟩
    obtain ⟨L, hL⟩ := choose_lists len each
    have hlen : ((List.range len).map L).length = len := by simp
    refine ⟨(List.range len).map L, ⟨some a, m, by rw [hlen], by omega, hm, (fun e => by cases e), fun hne => ?_⟩, ?_⟩
    · have h0 : 0 < len := by
        apply Classical.byContradiction
        intro h
        exact hne (List.length_eq_zero_iff.1 (by omega))
      obtain ⟨b, off, sp⟩ := a
      obtain ⟨⟨u, hu, _⟩, _⟩ := hL 0 h0
      have hsp : sp = none := by simpa [Addr.add] using World.cell?_spot hu
      subst hsp
      refine ⟨b, off, rfl, fun j hj => ?_⟩
      rw [hlen] at hj
      obtain ⟨⟨u, hu, hb⟩, _⟩ := hL j hj
      rw [Go.WideShapes.add_plain] at hu
      refine ⟨u, hu, ?_⟩
      have e : ((List.range len).map L).getD j [] = L j := by simp [List.getD, hj]
      rw [e]
      exact hb
    · have h1 := bulk_sum len D L (fun i hi => (hL i hi).2)
      rw [hlen]
      simp only [Rows.uptoBulk]
      omega
end Go.Proofs.Ytjmihehihjbgpaa
namespace Go.Proofs.Ytjmihehihjbgpaa
open Go.RowKit
theorem info_u8 : (Try.prog.info? 5).map (fun i => (i.zero, i.size, i.bytes)) = some (some (.int .u8 0), 1, 1) := by kernel_rfl
theorem size_u8 : ∀ w, Sem.run Try.prog (Go.sizeOf 5) w = .ok 1 w := fun w => by
  obtain ⟨i0, hi, hz0, hz1, hz2⟩ := info_parts info_u8
  simp [Go.sizeOf, typeInfo, hi, hz1]
theorem eql_nil_bytes : ∀ (w : World) (a : Option Addr) (n c n' c' : Nat), (binOp .eql 23 (.slice a n c) (.slice none n' c')).run Try.prog w = .ok (.bool a.isNone) w :=
  fun w a n c n' c' => Lib.run_eql_slice_nil w _ _ a n c n' c' Try.underlying23
theorem wpList_append_HB {w : World} {ops : Array Oper} {rest : List Oper} {o : Oper} {a : Act} {Q : Exit → Act → World → Prop} (hgd : o.guard = none) (s x : Operand)
    (ho : o.op = .call { callee := .builtin .append, args := #[s, x], argTypes := #[23, 23] })
    (base : Nat) (v : Value) (n : Nat) (xs : List Value) (hs : a.eval s = v) (hown : w.ownsRow base 5 1 v n xs)
    (u : Value) (l : List Int) (hx : a.eval x = u) (hu : HB w u l) (hbytes : n + l.length ≤ 140737488355328) (hbase : base ≤ w.heap.size)
    (h : ∀ v' w', w'.ownsRow base 5 1 v' (n + l.length) (xs ++ l.map (Value.int .u8)) → w.grownBy w' v.ownBlock → wpList Try.prog ops Q rest (a.put o.dst v') w') : wpList Try.prog ops Q (o :: rest) a w := by
  obtain ⟨i0, hi, hz0, hz1, hz2⟩ := info_parts info_u8
  obtain ⟨⟨p, c, rfl, hlc, hm, hpc, hcell⟩, hby⟩ := hu
  cases p with
  | none =>
    have e : l = [] := by
      apply Classical.byContradiction
      intro hne
      obtain ⟨b, off, e, _⟩ := hcell hne
      cases e
    subst e
    have := hpc rfl
    subst this
    refine wpList_append_own_none hgd s x 23 ho base 5 i0 1 Try.underlying23 hi v n xs hs hown hx ?_
    exact h v w (by simpa using hown) ⟨rfl, rfl, rfl, Nat.le_refl _, fun _ _ _ => rfl⟩
  | some ad =>
    refine wpList_append_own w hgd s x 23 ho base 5 i0 (.int .u8 0) 1 1 Try.underlying23 hi hz0 hz1 hz2 rfl (by decide) v n xs hs hown ad l.length c (l.map (Value.int .u8)) hx (by simp) ?_ ?_ (by unfold maxLen; omega) (by omega) hbase (fun v' w' h1 h2 _ => h v' w' h1 h2)
    · intro j y hj
      have hjn : j < l.length := by
        have := (List.getElem?_eq_some_iff.1 hj).1
        simpa using this
      obtain ⟨b, off, e, hh⟩ := hcell (by intro e; subst e; simp at hjn)
      cases e
      rw [Go.WideShapes.add_plain, hh j hjn]
      have e : (l.map (Value.int .u8))[j]? = some (Value.int .u8 (l.getD j 0)) := by simp [List.getD, List.getElem?_eq_getElem hjn]
      rw [e] at hj
      exact hj
    · intro u hu; obtain ⟨x, _, rfl⟩ := List.mem_map.1 hu; rfl
theorem flat_snoc (ls : List (List Int)) (k : Nat) (hk : k < ls.length) : (ls.take (k + 1)).flatten = (ls.take k).flatten ++ ls.getD k [] := by
  rw [List.take_succ_eq_append_getElem hk, List.flatten_append]
  simp [List.getD, List.getElem?_eq_getElem hk]
theorem flat_take_le (ls : List (List Int)) (k : Nat) : (ls.take k).flatten.length ≤ ls.flatten.length := by
  conv => rhs; rw [← List.take_append_drop k ls, List.flatten_append, List.length_append]
  omega
def lensTo (ls : List (List Int)) (k : Nat) : Nat := (ls.take k).flatten.length
def flatTo (ls : List (List Int)) (k : Nat) : List Int := (ls.take k).flatten
set_option maxHeartbeats 1000000 in
theorem join_any (w : World) (v : Value) (ls : List (List Int)) (h : HL w v ls) (hbig : ls.flatten.length ≤ 140737488355328) :
    Calls Try.prog 7 #[v] w fun e w' => ∃ v', e = .returned v' ∧ w'.ownsRow w.heap.size 5 1 v' ls.flatten.length (ls.flatten.map (Value.int .u8)) ∧ Below w.heap.size w w' := by
  obtain ⟨i0, hi, hz0, hz1, hz2⟩ := info_parts info_u8
  obtain ⟨p, c, e, hlc, hm⟩ := h.open
  unfold maxLen at hm
  have A : Hid (0 < ls.length → ∃ b off, p = some ⟨b, off, none⟩ ∧ ∀ j, j < ls.length → ∃ u, w.cell? ⟨b, off + j, none⟩ = some u ∧ HB w u (ls.getD j [])) := by
    intro h0
    obtain ⟨b, off, c', e', _, _, hh⟩ := h.ne h0
    rw [e] at e'
    simp only [Value.slice.injEq, true_and] at e'
    exact ⟨b, off, e'.1, hh⟩
  clear h
  subst e
  obtain ⟨fl, HF⟩ : ∃ fl : List Int, Hid (fl = ls.flatten) := ⟨_, rfl⟩
  rw [← HF.out] at hbig ⊢
  obtain ⟨N, HN⟩ : ∃ N, Hid (N = fl.length) := ⟨_, rfl⟩
  rw [← HN.out] at hbig ⊢
  have hle : ∀ k, lensTo ls k ≤ N := fun k => by rw [HN.out, HF.out]; exact flat_take_le ls k
  go_enter Try.func7, Try.ntmps7
  go_wp2
  go_loop [3, 11] (fun s i => ∃ k : Nat, k ≤ ls.length ∧ i = .int .i64 k ∧ s = .int .i64 (lensTo ls k)) (fun _ i => ls.length - (intOf i).toNat)
  case atStart => exact ⟨0, Nat.zero_le _, rfl, rfl⟩
  case round =>
    obtain ⟨k, hk, rfl, rfl⟩ := hrel
    have hf := hle k
    by_cases hlt : k < ls.length
    · obtain ⟨b, off, rfl, hh⟩ := A.out (by omega)
      obtain ⟨u, hu, hb⟩ := hh k hlt
      obtain ⟨p2, c2, rfl, _, _⟩ := hb.open
      have hf2 := hle (k + 1)
      obtain ⟨m, HM⟩ : ∃ m, Hid (m = (ls.getD k []).length) := ⟨_, rfl⟩
      have HS : Hid (lensTo ls (k + 1) = lensTo ls k + m) := by
        show _ = _
        unfold lensTo
        rw [flat_snoc ls k hlt, List.length_append, HM.out]
      rw [HS.out] at hf2
      rw [← HM.out] at hu
      clear hh hb hle
      go_wp2
      exact ⟨⟨k + 1, by omega, by go_num, by rw [HS.out]; go_num⟩, by simp [intOf]; omega⟩
    · have HK : Hid (lensTo ls k = N) := by
        show _ = _
        unfold lensTo
        rw [List.take_of_length_le (by omega), HN.out, HF.out]
      rw [HK.out] at hf ⊢
      obtain ⟨w1, hmk, hown, hgr⟩ := run_make_own (P := Try.prog) w w.heap.size 23 5 i0 (.int .u8 0) 1 Try.underlying23 hi hz0 hz1 .i64 .i64 N (by rw [hz2]; omega) (by unfold maxLen; omega) (Nat.le_refl _)
      have hB1 : Below w.heap.size w w1 := (Below.refl _ w).grown hgr (Nat.le_refl _) (fun k e => by cases e)
      have hsz : w.heap.size ≤ w1.heap.size := hB1.size
      clear hk hf hgr hle
      go_wp2
      go_loopw [6, 24] (fun o i wr => ∃ k : Nat, k ≤ ls.length ∧ i = .int .i64 k ∧ wr.ownsRow w.heap.size 5 1 o (flatTo ls k).length ((flatTo ls k).map (Value.int .u8)) ∧ Below w.heap.size w wr) (fun _ i _ => ls.length - (intOf i).toNat)
      case atStart => exact ⟨0, Nat.zero_le _, rfl, hown, hB1⟩
      case round =>
        clear hmk hown hB1 hsz HK hlt
        obtain ⟨k, hk, rfl, hown, hB⟩ := hrel
        by_cases hlt : k < ls.length
        · obtain ⟨b, off, rfl, hh⟩ := A.out (by omega)
          obtain ⟨u, hu0, hb⟩ := hh k hlt
          have hu : wr.cell? ⟨b, off + k, none⟩ = some u := (hB.cell (World.block_lt_of_cell? w _ hu0)).trans hu0
          have HBu := hid (hb.below hB)
          have HS : Hid (flatTo ls (k + 1) = flatTo ls k ++ ls.getD k []) := flat_snoc ls k hlt
          have HL2 : Hid ((flatTo ls k).length + (ls.getD k []).length ≤ 140737488355328) := by
            have := flat_take_le ls (k + 1)
            rw [flat_snoc ls k hlt, List.length_append, ← HF.out, ← HN.out] at this
            exact Nat.le_trans this hbig
          have HO := hid hown
          have HBel := hid hB
          obtain ⟨lk, HK⟩ : ∃ lk, Hid (lk = ls.getD k []) := ⟨_, rfl⟩
          rw [← HK.out] at HBu HS HL2 hb
          obtain ⟨p2, c2, hu2, _, _⟩ := hb.open
          clear hh hb hu0 hown hB
          subst hu2
          go_wp2_with (at_builtin; refine wpList_append_HB rfl _ _ rfl w.heap.size _ _ _ rfl HO.out _ _ rfl HBu.out ?q1 ?q2 ?_)
          case q1 => exact HL2.out
          case q2 => exact HBel.out.size
          intro v' w2 hown2 hgr2
          have HO2 : Hid (w2.ownsRow w.heap.size 5 1 v' (flatTo ls (k + 1)).length ((flatTo ls (k + 1)).map (Value.int .u8))) := by
            show World.ownsRow _ _ _ _ _ _ _
            rw [HS.out, List.length_append, List.map_append]
            exact hown2
          have HB2 : Hid (Below w.heap.size w w2) := HBel.out.grown hgr2 HBel.out.size (fun k e => (HO.out.lt k e).1)
          clear hown2 hgr2
          go_wp2
          exact ⟨⟨k + 1, by omega, by go_num, HO2.out, HB2.out⟩, by simp [intOf]; omega⟩
        · have HK : Hid (flatTo ls k = fl) := by
            show _ = _
            unfold flatTo
            rw [List.take_of_length_le (by omega), HF.out]
          go_wp2
          go_ret
          refine ⟨_, rfl, ?_, hB⟩
          rw [HK.out, ← HN.out] at hown
          exact hown
theorem take_eq_step (la lb : List Int) (k : Nat) (ha : k < la.length) (hb : k < lb.length) (h : la.take k = lb.take k) (e : la.getD k 0 = lb.getD k 0) : la.take (k + 1) = lb.take (k + 1) := by
  rw [List.take_succ_eq_append_getElem ha, List.take_succ_eq_append_getElem hb, h]
  have e1 : la.getD k 0 = la[k] := by simp [List.getD, List.getElem?_eq_getElem ha]
  have e2 : lb.getD k 0 = lb[k] := by simp [List.getD, List.getElem?_eq_getElem hb]
  rw [e1, e2] at e
  rw [e]
theorem take_ne (la lb : List Int) (k : Nat) (e : la.getD k 0 ≠ lb.getD k 0) : la ≠ lb := fun h => e (by rw [h])
set_option maxHeartbeats 400000 in
theorem sameBytes_any (w : World) (va vb : Value) (la lb : List Int) (ha : HB w va la) (hb : HB w vb lb) :
    Calls Try.prog 18 #[va, vb] w fun e w' => e = .returned (.bool (decide (la = lb))) ∧ Dr w w' := by
  by_cases hlen : la.length = lb.length
  · by_cases h0 : 0 < la.length
    · obtain ⟨b1, o1, c1, rfl, hc1, hm1, hk1⟩ := ha.ne h0
      obtain ⟨b2, o2, c2, rfl, hc2, hm2, hk2⟩ := hb.ne (by omega)
      unfold maxLen at hm1 hm2
      have hm : la.length ≤ 9223372036854775807 := by omega
      have HL : Hid (la.length = lb.length) := hlen
      rw [← hlen]
      have hcd : ∀ j, j < la.length → w.cell? ⟨b2, o2 + j, none⟩ = some (.int .u8 (lb.getD j 0)) := fun j hj => hk2 j (by omega)
      clear hlen hk2
      go_enter Try.func18, Try.ntmps18
      go_wp2
      go_loopw [5] (fun i wr => ∃ k : Nat, k ≤ la.length ∧ i = .int .i64 k ∧ la.take k = lb.take k ∧ Dr w wr) (fun i _ => la.length - (intOf i).toNat)
      case atStart => exact ⟨0, Nat.zero_le _, rfl, rfl, Dr.refl _⟩
      case round =>
        obtain ⟨k, hk, rfl, ht, q, rfl⟩ := hrel
        by_cases hlt : k < la.length
        · have g1 := hk1 k hlt
          have g2 := hcd k hlt
          obtain ⟨x, hx⟩ : ∃ x, la.getD k 0 = x := ⟨_, rfl⟩
          obtain ⟨y, hy⟩ : ∃ y, lb.getD k 0 = y := ⟨_, rfl⟩
          rw [hx] at g1
          rw [hy] at g2
          have HX := hid hx
          have HY := hid hy
          clear hx hy hk1 hcd
          by_cases he : x = y
          · have hne : (x != y) = false := by simpa using he
            have HE := hid he
            clear he
            go_wp2
            go_quiet (fail)
            go_wp2
            exact ⟨⟨k + 1, by omega, by go_num, take_eq_step la lb k hlt (by have := HL.out; omega) ht (by rw [HX.out, HY.out, HE.out]), Dr.one _ _⟩, by simp [intOf]; omega⟩
          · have hne : (x != y) = true := by simpa using he
            go_wp2
            go_quiet (fail)
            go_wp2
            go_ret
            exact ⟨by simp [take_ne la lb k (by rw [HX.out, HY.out]; exact he)], (Dr.one _ _).drewN _⟩
        · go_wp2
          go_ret
          have e : la = lb := by
            have h1 := List.take_of_length_le (show la.length ≤ k by omega)
            have h2 := List.take_of_length_le (show lb.length ≤ k by have := HL.out; omega)
            rw [← h1, ← h2, ht]
          exact ⟨by simp [e], Dr.one _ _⟩
    · obtain ⟨p1, c1, rfl, _, _⟩ := ha.open
      obtain ⟨p2, c2, rfl, _, _⟩ := hb.open
      have e1 : la = [] := List.length_eq_zero_iff.1 (by omega)
      have e2 : lb = [] := List.length_eq_zero_iff.1 (by omega)
      subst e1 e2
      go_enter Try.func18, Try.ntmps18
      go_wp2
      go_loop [5] (fun i => i = .int .i64 0) (fun _ => 0)
      case atStart => rfl
      case round =>
        subst hrel
        go_wp2
        go_ret
        exact ⟨rfl, Dr.refl _⟩
  · obtain ⟨p1, c1, rfl, _, _⟩ := ha.open
    obtain ⟨p2, c2, rfl, _, _⟩ := hb.open
    have hne : ((la.length : Int) != (lb.length : Int)) = true := by rw [bne_iff_ne]; omega
    go_enter Try.func18, Try.ntmps18
    go_wp2
    go_ret
    exact ⟨by simp [show la ≠ lb from fun e => hlen (by rw [e])], Dr.refl _⟩
theorem own_mono {w : World} {B B' e n : Nat} {v : Value} {xs : List Value} (h : w.ownsRow B e 1 v n xs) (hb : B' ≤ B) : w.ownsRow B' e 1 v n xs := by
  refine ⟨h.1, ?_⟩
  rcases h.2 with h2 | ⟨g, cap, cur, h1, h2, h3⟩
  · exact .inl h2
  · exact .inr ⟨g, cap, cur, h1, Nat.le_trans hb h2, h3⟩
theorem own_slc {w : World} {B n : Nat} {e : TypeId} {v : Value} {xs : List Value} (h : w.ownsRow B e 1 v n xs) : ∃ p c, v = .slice p n c := by
  rcases h.2 with ⟨rfl, rfl⟩ | ⟨g, cap, cur, rfl, _⟩
  · exact ⟨none, 0, rfl⟩
  · exact ⟨_, _, rfl⟩
theorem none_or (z : Option Nat) : z = none ∨ z ≠ none := by cases z <;> simp
theorem own_below {w w' : World} {B n : Nat} {e : TypeId} {v : Value} {xs : List Value} (h : w.ownsRow B e 1 v n xs) (hb : Below w.heap.size w w') : w'.ownsRow B e 1 v n xs :=
  h.kept ⟨hb.os, hb.tape, hb.output, hb.size, fun k hk _ => hb.block k hk⟩ (none_or _)
theorem own_ne {w w' : World} {B B' n n' : Nat} {e e' : TypeId} {v v' : Value} {xs xs' : List Value} (h : w.ownsRow B e 1 v n xs) (h' : w'.ownsRow B' e' 1 v' n' xs') (hb : w.heap.size ≤ B') :
    (v.ownBlock = none ∨ v.ownBlock ≠ v'.ownBlock) ∧ (v'.ownBlock = none ∨ v'.ownBlock ≠ v.ownBlock) := by
  constructor
  · rcases none_or v.ownBlock with q | q
    · exact .inl q
    · refine .inr fun e => ?_
      obtain ⟨k, hk⟩ := Option.ne_none_iff_exists'.1 q
      have h1 := h.lt k hk
      have h2 := h'.lt k (e ▸ hk)
      omega
  · rcases none_or v'.ownBlock with q | q
    · exact .inl q
    · refine .inr fun e => ?_
      obtain ⟨k, hk⟩ := Option.ne_none_iff_exists'.1 q
      have h1 := h'.lt k hk
      have h2 := h.lt k (e ▸ hk)
      omega
theorem info_bytes : (Try.prog.info? 23).map (fun i => (i.zero, i.size, i.bytes)) = some (some (.slice none 0 0), 1, 24) := by kernel_rfl
def BytI (l : List Int) : Prop := ∀ x ∈ l, 0 ≤ x ∧ x < 256
def EL (w0 w : World) (u : Value) (l : List Int) : Prop :=
  (w.ownsRow w0.heap.size 5 1 u l.length (l.map (Value.int .u8)) ∧ BytI l) ∨ HB w0 u l
def OWL (w0 w : World) (v : Value) (ls : List (List Int)) : Prop :=
  ∃ xs, w.ownsRow w0.heap.size 23 1 v ls.length xs ∧ ∀ j, j < ls.length → EL w0 w (xs.getD j undef) (ls.getD j [])
theorem EL.hb {w0 w : World} {u : Value} {l : List Int} (h : EL w0 w u l) (hb : Below w0.heap.size w0 w) : HB w u l := by
  rcases h with ⟨h, hx⟩ | h
  · exact HB.of_own h hx
  · exact h.below hb
theorem own_block_ne {w : World} {B e n : Nat} {v : Value} {xs : List Value} (h : w.ownsRow B e 1 v n xs) {g : Nat} {cur : Array Value} {e' : TypeId} {fz : Nat × Nat} (hg : w.heap[g]? = some (.cells cur e' fz)) (hne : e ≠ e') : v.ownBlock ≠ some g := by
  intro hv
  rcases h.2 with ⟨rfl, _⟩ | ⟨g', cap, cur', rfl, _, hh, _⟩
  · simp [Value.ownBlock] at hv
  · simp only [Value.ownBlock, Option.some.injEq] at hv
    subst hv
    rw [hh] at hg
    simp only [Option.some.injEq, Obj.cells.injEq] at hg
    exact hne hg.2.1
theorem EL.grown {w0 w w' : World} {u : Value} {l : List Int} {row : Option Nat} (h : EL w0 w u l) (hg : w.grownBy w' row) (hr : ∀ g, row = some g → ∃ cur e fz, w.heap[g]? = some (.cells cur e fz) ∧ 5 ≠ e) : EL w0 w' u l := by
  rcases h with ⟨h, hx⟩ | h
  · refine .inl ⟨h.kept hg ?_, hx⟩
    cases hrow : row with
    | none =>
      cases hv : u.ownBlock with
      | none => exact .inl rfl
      | some k => exact .inr (by simp)
    | some g =>
      obtain ⟨cur, e, fz, hh, hne⟩ := hr g hrow
      exact .inr (own_block_ne h hh hne)
  · exact .inr h
theorem OWL.grown {w0 w w' : World} {v : Value} {ls : List (List Int)} {row : Option Nat} (h : OWL w0 w v ls) (hg : w.grownBy w' row) (hr : ∀ g, row = some g → ∃ cur e fz, w.heap[g]? = some (.cells cur e fz) ∧ 5 ≠ e ∧ 23 ≠ e) : OWL w0 w' v ls := by
  obtain ⟨xs, h1, h2⟩ := h
  refine ⟨xs, h1.kept hg ?_, fun j hj => (h2 j hj).grown hg fun g e => ?_⟩
  · cases hrow : row with
    | none =>
      cases hv : v.ownBlock with
      | none => exact .inl rfl
      | some k => exact .inr (by simp)
    | some g =>
      obtain ⟨cur, e, fz, hh, _, hne⟩ := hr g hrow
      exact .inr (own_block_ne h1 hh hne)
  · obtain ⟨cur, e', fz, hh, hne, _⟩ := hr g e
    exact ⟨cur, e', fz, hh, hne⟩
theorem OWL.below {w0 w w' : World} {v : Value} {ls : List (List Int)} (h : OWL w0 w v ls) (hb : Below w.heap.size w w') : OWL w0 w' v ls :=
  h.grown (row := none) ⟨hb.os, hb.tape, hb.output, hb.size, fun k hk _ => hb.block k hk⟩ (fun g e => by cases e)
theorem OWL.hl {w0 w : World} {v : Value} {ls : List (List Int)} (h : OWL w0 w v ls) (hb : Below w0.heap.size w0 w) : HL w v ls := by
  obtain ⟨xs, h1, h2⟩ := h
  by_cases h0 : 0 < ls.length
  · obtain ⟨g, cap, rfl, _, hn, hm, hc⟩ := ownsRow_cells h1 h0
    refine ⟨_, cap, rfl, hn, hm, (fun e => by cases e), fun _ => ⟨g, 0, rfl, fun j hj => ⟨xs.getD j undef, ?_, (h2 j hj).hb hb⟩⟩⟩
    have hx : xs.length = ls.length := by have := h1.1; omega
    exact hc j _ (by simp [List.getD, List.getElem?_eq_getElem (show j < xs.length by omega)])
  · have e : ls = [] := List.length_eq_zero_iff.1 (by omega)
    subst e
    rcases h1.2 with ⟨rfl, _⟩ | ⟨g, cap, cur, rfl, _, _, hn, hm, _⟩
    · exact HL.nil _
    · exact ⟨_, cap, rfl, hn, hm, (fun e => by cases e), fun h => absurd rfl h⟩
theorem OWL.nil (w0 w : World) : OWL w0 w (.slice none 0 0) [] := ⟨[], World.ownsRow_nil _ _ _ _, fun j hj => by simp at hj⟩
theorem getD_app {α : Type} (l m : List α) (d : α) (j : Nat) : (l ++ m).getD j d = if j < l.length then l.getD j d else m.getD (j - l.length) d := by
  simp only [List.getD, List.getElem?_append]
  split <;> rfl
theorem wpList_append_OWL {w0 w : World} {ops : Array Oper} {rest : List Oper} {o : Oper} {a : Act} {Q : Exit → Act → World → Prop} (hgd : o.guard = none) (s x : Operand)
    (ho : o.op = .call { callee := .builtin .append, args := #[s, x], argTypes := #[22, 22] })
    (v : Value) (ls : List (List Int)) (hs : a.eval s = v) (hown : OWL w0 w v ls)
    (ad : Addr) (m c : Nat) (us : List Value) (ns : List (List Int)) (hx : a.eval x = .slice (some ad) m c) (hl : us.length = m) (hn : ns.length = m) (hcell : ∀ j u, us[j]? = some u → w.cell? (ad.add j) = some u)
    (hu : ∀ j, j < m → EL w0 w (us.getD j undef) (ns.getD j [])) (h1 : ∀ u ∈ us, u.oneCell' = true)
    (hbytes : (ls.length + m) * 24 ≤ 140737488355328) (hbase : w0.heap.size ≤ w.heap.size)
    (h : ∀ v' w', OWL w0 w' v' (ls ++ ns) → w.grownBy w' v.ownBlock → (∀ g, v.ownBlock = some g → w0.heap.size ≤ g ∧ BT w g 23) → wpList Try.prog ops Q rest (a.put o.dst v') w') : wpList Try.prog ops Q (o :: rest) a w := by
  obtain ⟨i0, hi, hz0, hz1, hz2⟩ := info_parts info_bytes
  obtain ⟨xs, hrow, hel⟩ := hown
  have hblk : ∀ g, v.ownBlock = some g → w0.heap.size ≤ g ∧ BT w g 23 := by
    intro g hg
    refine ⟨(hrow.lt g hg).1, ?_⟩
    rcases hrow.2 with ⟨rfl, _⟩ | ⟨g', cap, cur, rfl, _, hh, _⟩
    · simp [Value.ownBlock] at hg
    · simp only [Value.ownBlock, Option.some.injEq] at hg
      subst hg
      exact ⟨cur, _, hh⟩
  refine wpList_append_own w hgd s x 22 ho w0.heap.size 23 i0 (.slice none 0 0) 1 24 Try.underlying22 hi hz0 hz1 hz2 rfl (by decide) v ls.length xs hs hrow ad m c us hx (by omega) hcell h1 (by unfold maxLen; omega) hbytes hbase (fun v' w' h2 h3 _ => h v' w' ?_ h3 hblk)
  refine ⟨xs ++ us, by rw [List.length_append, hn]; exact h2, fun j hj => ?_⟩
  have key : ∀ u l, EL w0 w u l → EL w0 w' u l := fun u l he => he.grown h3 fun g hg => by
    obtain ⟨_, cur, fz, hh⟩ := hblk g hg
    exact ⟨cur, _, fz, hh, by decide⟩
  have hxl : xs.length = ls.length := by have := hrow.1; omega
  rw [getD_app, getD_app, hxl]
  rw [List.length_append] at hj
  split
  · exact key _ _ (hel j ‹_›)
  · exact key _ _ (hu _ (by omega))
theorem takel_eq_step (la lb : List (List Int)) (k : Nat) (ha : k < la.length) (hb : k < lb.length) (h : la.take k = lb.take k) (e : la.getD k [] = lb.getD k []) : la.take (k + 1) = lb.take (k + 1) := by
  rw [List.take_succ_eq_append_getElem ha, List.take_succ_eq_append_getElem hb, h]
  have e1 : la.getD k [] = la[k] := by simp [List.getD, List.getElem?_eq_getElem ha]
  have e2 : lb.getD k [] = lb[k] := by simp [List.getD, List.getElem?_eq_getElem hb]
  rw [e1, e2] at e
  rw [e]
set_option maxHeartbeats 400000 in
theorem sameLists_any (w : World) (va vb : Value) (la lb : List (List Int)) (ha : HL w va la) (hb : HL w vb lb) :
    Calls Try.prog 17 #[va, vb] w fun e w' => e = .returned (.bool (decide (la = lb))) ∧ Dr w w' := by
  by_cases hlen : la.length = lb.length
  · by_cases h0 : 0 < la.length
    · obtain ⟨b1, o1, c1, rfl, hc1, hm1, hk1⟩ := ha.ne h0
      obtain ⟨b2, o2, c2, rfl, hc2, hm2, hk2⟩ := hb.ne (by omega)
      unfold maxLen at hm1 hm2
      have hm : la.length ≤ 9223372036854775807 := by omega
      have HL : Hid (la.length = lb.length) := hlen
      rw [← hlen]
      have hcd : ∀ j, j < la.length → ∃ u, w.cell? ⟨b2, o2 + j, none⟩ = some u ∧ HB w u (lb.getD j []) := fun j hj => hk2 j (by omega)
      clear hlen hk2
      go_enter Try.func17, Try.ntmps17
      go_wp2
      go_loopw [5] (fun i wr => ∃ k : Nat, k ≤ la.length ∧ i = .int .i64 k ∧ la.take k = lb.take k ∧ Dr w wr) (fun i _ => la.length - (intOf i).toNat)
      case atStart => exact ⟨0, Nat.zero_le _, rfl, rfl, Dr.refl _⟩
      case round =>
        obtain ⟨k, hk, rfl, ht, hD⟩ := hrel
        have HD := hid hD
        clear hD
        by_cases hlt : k < la.length
        · obtain ⟨u1, g1, e1⟩ := hk1 k hlt
          obtain ⟨u2, g2, e2⟩ := hcd k hlt
          replace g1 := (HD.out.cell _).trans g1
          replace g2 := (HD.out.cell _).trans g2
          replace e1 := e1.dr HD.out
          replace e2 := e2.dr HD.out
          obtain ⟨x, HX⟩ : ∃ x, Hid (la.getD k [] = x) := ⟨_, rfl⟩
          obtain ⟨y, HY⟩ : ∃ y, Hid (lb.getD k [] = y) := ⟨_, rfl⟩
          rw [HX.out] at e1
          rw [HY.out] at e2
          obtain ⟨p1, c1', r1, _, _⟩ := e1.open
          obtain ⟨p2, c2', r2, _, _⟩ := e2.open
          subst r1 r2
          have E1 := hid e1
          have E2 := hid e2
          clear hk1 hcd e1 e2
          by_cases he : x = y
          · have hne : decide (x = y) = true := by simpa using he
            have HE := hid he
            clear he
            go_wp2
            go_quiet ((go_at_call 18; exact Calls.quiet_of (sameBytes_any _ _ _ x y (E1.out.later fun _ _ hx => hx) (E2.out.later fun _ _ hx => hx))))
            go_wp2
            exact ⟨⟨k + 1, by omega, by go_num, takel_eq_step la lb k hlt (by have := HL.out; omega) ht (by rw [HX.out, HY.out, HE.out]), HD.out.drewN _⟩, by simp [intOf]; omega⟩
          · have hne : decide (x = y) = false := by simpa using he
            go_wp2
            go_quiet ((go_at_call 18; exact Calls.quiet_of (sameBytes_any _ _ _ x y (E1.out.later fun _ _ hx => hx) (E2.out.later fun _ _ hx => hx))))
            go_wp2
            go_ret
            exact ⟨by rw [decide_eq_false (fun h => he ((HX.out.symm.trans (congrArg (fun z => List.getD z k []) h)).trans HY.out))]; rfl, HD.out.drewN _⟩
        · go_wp2
          go_ret
          have e : la = lb := by
            have h1 := List.take_of_length_le (show la.length ≤ k by omega)
            have h2 := List.take_of_length_le (show lb.length ≤ k by have := HL.out; omega)
            rw [← h1, ← h2, ht]
          exact ⟨by simp [e], HD.out⟩
    · obtain ⟨p1, c1, rfl, _, _⟩ := ha.open
      obtain ⟨p2, c2, rfl, _, _⟩ := hb.open
      have e1 : la = [] := List.length_eq_zero_iff.1 (by omega)
      have e2 : lb = [] := List.length_eq_zero_iff.1 (by omega)
      subst e1 e2
      go_enter Try.func17, Try.ntmps17
      go_wp2
      go_loop [5] (fun i => i = .int .i64 0) (fun _ => 0)
      case atStart => rfl
      case round =>
        subst hrel
        go_wp2
        go_ret
        exact ⟨rfl, Dr.refl _⟩
  · obtain ⟨p1, c1, rfl, _, _⟩ := ha.open
    obtain ⟨p2, c2, rfl, _, _⟩ := hb.open
    have hne : ((la.length : Int) != (lb.length : Int)) = true := by rw [bne_iff_ne]; omega
    go_enter Try.func17, Try.ntmps17
    go_wp2
    go_ret
    exact ⟨by simp [show la ≠ lb from fun e => hlen (by rw [e])], Dr.refl _⟩
set_option maxHeartbeats 1000000 in
theorem width_uint64 (w : World) : Calls Try.prog 40 #[] w fun e w' => e = .returned (.int .i64 8) ∧ w' = w := by
  go_enter Try.func40, Try.ntmps40
  go_wp2
  go_loop [1, 2] (fun s m => (s = .int .i64 0 ∧ m = .int .u64 18446744073709551615) ∨ (s = .int .i64 1 ∧ m = .int .u64 72057594037927935) ∨ (s = .int .i64 2 ∧ m = .int .u64 281474976710655) ∨ (s = .int .i64 3 ∧ m = .int .u64 1099511627775) ∨ (s = .int .i64 4 ∧ m = .int .u64 4294967295) ∨ (s = .int .i64 5 ∧ m = .int .u64 16777215) ∨ (s = .int .i64 6 ∧ m = .int .u64 65535) ∨ (s = .int .i64 7 ∧ m = .int .u64 255) ∨ (s = .int .i64 8 ∧ m = .int .u64 0)) (fun s _ => 8 - (intOf s).toNat)
  case atStart =>
    simp
    decide +kernel
  case round =>
    rcases hrel with ⟨rfl, rfl⟩ | ⟨rfl, rfl⟩ | ⟨rfl, rfl⟩ | ⟨rfl, rfl⟩ | ⟨rfl, rfl⟩ | ⟨rfl, rfl⟩ | ⟨rfl, rfl⟩ | ⟨rfl, rfl⟩ | ⟨rfl, rfl⟩
    · go_wp2
      simp [intOf]
    · go_wp2
      simp [intOf]
    · go_wp2
      simp [intOf]
    · go_wp2
      simp [intOf]
    · go_wp2
      simp [intOf]
    · go_wp2
      simp [intOf]
    · go_wp2
      simp [intOf]
    · go_wp2
      simp [intOf]
    · go_wp2
      go_ret
      exact ⟨rfl, rfl⟩
def bigL : Nat → Nat → List Int
  | 0, _ => []
  | r + 1, x => ((x / 256 ^ r % 256 : Nat) : Int) :: bigL r x
theorem bigL_length (r x : Nat) : (bigL r x).length = r := by
  induction r with
  | zero => rfl
  | succ r ih => simp [bigL, ih]
theorem bigL_byt (r x : Nat) : ∀ y ∈ bigL r x, 0 ≤ y ∧ y < 256 := by
  induction r with
  | zero => simp [bigL]
  | succ r ih =>
    intro y hy
    simp only [bigL, List.mem_cons] at hy
    rcases hy with rfl | hy
    · omega
    · exact ih y hy
def stage (n r x : Nat) : List Int := List.replicate (n - r) 0 ++ bigL r x
theorem stage_length (n r x : Nat) (h : r ≤ n) : (stage n r x).length = n := by simp [stage, bigL_length]; omega
theorem stage_step (n r x : Nat) (h : r < n) : (stage n r x).set (n - 1 - r) ((x / 256 ^ r % 256 : Nat) : Int) = stage n (r + 1) x := by
  unfold stage
  rw [List.set_append_left _ _ (by simp; omega)]
  have e : n - r = (n - 1 - r) + 1 := by omega
  have e2 : n - (r + 1) = n - 1 - r := by omega
  rw [e, e2, List.replicate_succ']
  rw [List.set_append_right _ _ (by simp)]
  simp [bigL]
theorem big_round {w wr : World} {n r x y m : Nat} {b t i : Int} (hm : m + 1 + r = n) (hy : y = x / 256 ^ r) (hb : b = ((y % 256 : Nat) : Int)) (ht : t = ((y / 256 : Nat) : Int)) (hi : i = (m : Int) - 1)
    (HO : wr.ownsRow w.heap.size 5 1 (.slice (some ⟨w.heap.size, 0, none⟩) n n) n ((stage n r x).map (Value.int .u8))) (hB : Below w.heap.size w wr) :
    ∃ r', Value.int IntKind.u64 t = Value.int .u64 ((x / 256 ^ r' : Nat) : Int) ∧ ((∃ m' : Nat, m' + 1 + r' = n ∧ Value.int IntKind.i64 i = .int .i64 (m' : Int)) ∨ (r' = n ∧ Value.int IntKind.i64 i = .int .i64 (-1))) ∧ Hid ((wr.setCell ⟨w.heap.size, m, none⟩ (.int .u8 b)).ownsRow w.heap.size 5 1 (.slice (some ⟨w.heap.size, 0, none⟩) n n) n ((stage n r' x).map (Value.int .u8))) ∧ Hid (Below w.heap.size w (wr.setCell ⟨w.heap.size, m, none⟩ (.int .u8 b))) := by
  refine ⟨r + 1, ?_, ?_, ?_, ?_⟩
  · rw [ht, hy, Nat.div_div_eq_div_mul, Nat.pow_succ]
  · cases m with
    | zero => exact .inr ⟨by omega, by rw [hi]; rfl⟩
    | succ m => exact .inl ⟨m, by omega, by rw [hi]; congr 1; omega⟩
  · have h := (HO.stored m (.int .u8 b)).1
    rw [← List.map_set, hb, hy, show m = n - 1 - r by omega, stage_step n r x (by omega)] at h
    rw [hb, hy, show m = n - 1 - r by omega]
    exact h
  · exact hB.setCell (p := ⟨w.heap.size, m, none⟩) (Nat.le_refl _) _
set_option maxHeartbeats 1000000 in
theorem big_uint64 (x : Nat) (_hx : x < 18446744073709551616) (w : World) : Calls Try.prog 25 #[.int .u64 (x : Int)] w fun e w' => ∃ v', e = .returned v' ∧ w'.ownsRow w.heap.size 5 1 v' 8 ((bigL 8 x).map (Value.int .u8)) ∧ Below w.heap.size w w' := by
  obtain ⟨i0, hi, hz0, hz1, hz2⟩ := info_parts info_u8
  obtain ⟨w1, hmk, hown, hgr⟩ := run_make_full (P := Try.prog) w w.heap.size 23 5 i0 (.int .u8 0) 1 Try.underlying23 hi hz0 hz1 .i64 .i64 8 (by rw [hz2]; omega) (by unfold maxLen; omega) (Nat.le_refl _)
  have hmk2 : (Instr.makeSlice 23 (.int .i64 8) (.int .i64 8)).run Try.prog w = .ok (.slice (some ⟨w.heap.size, 0, none⟩) 8 8) w1 := hmk
  clear hmk
  have hB1 : Below w.heap.size w w1 := (Below.refl _ w).grown hgr (Nat.le_refl _) (fun k e => by cases e)
  have hO1 : w1.ownsRow w.heap.size 5 1 (.slice (some ⟨w.heap.size, 0, none⟩) 8 8) 8 ((stage 8 0 x).map (Value.int .u8)) := by
    have e : (madeCells (Value.int IntKind.u8 0).cells (8 * 1)).toList = (stage 8 0 x).map (Value.int .u8) := by
      rw [show (Value.int IntKind.u8 0).cells = #[Value.int .u8 0] from rfl, toList_madeCells_one]
      simp [stage, bigL]
    rw [← e]
    exact hown
  have HO1 := hid hO1
  have HB1 := hid hB1
  clear hO1 hB1 hown hgr
  go_enter Try.func25, Try.ntmps25
  go_wp2_with (go_at_call 40; refine (width_uint64 _).mono ?_; rintro e w' ⟨rfl, hw⟩; have hw' := hw.symm; subst hw'; clear hw)
  go_loopw [4, 5] (fun t i wr => ∃ r : Nat, t = .int .u64 ((x / 256 ^ r : Nat) : Int) ∧ ((∃ m : Nat, m + 1 + r = 8 ∧ i = .int .i64 (m : Int)) ∨ (r = 8 ∧ i = .int .i64 (-1))) ∧ Hid (wr.ownsRow w.heap.size 5 1 (.slice (some ⟨w.heap.size, 0, none⟩) 8 8) 8 ((stage 8 r x).map (Value.int .u8))) ∧ Hid (Below w.heap.size w wr)) (fun _ i _ => (intOf i + 1).toNat)
  case atStart => exact ⟨0, by simp, .inl ⟨7, rfl, rfl⟩, HO1, HB1⟩
  case round =>
    clear HO1 HB1 hmk2
    obtain ⟨r, rfl, hri, HO, HB⟩ := hrel
    obtain ⟨y, HY⟩ : ∃ y, Hid (y = x / 256 ^ r) := ⟨_, rfl⟩
    have hy : y ≤ x := by rw [HY.out]; exact Nat.div_le_self _ _
    rw [← HY.out]
    rcases hri with ⟨m, hm, rfl⟩ | ⟨rfl, rfl⟩
    · have hc := (HO.out.cellAt m (by omega))
      have hfz := HO.out.frozenAt m
      obtain ⟨z, hz⟩ : ∃ z, ((stage 8 r x).map (Value.int .u8))[m]? = some z := ⟨_, List.getElem?_eq_getElem (by rw [List.length_map, stage_length _ _ _ (by omega)]; omega)⟩
      rw [hz] at hc
      clear hz
      have hm1 : m < 8 := by omega
      have hm2 : (m : Int) < 8 := by omega
      go_wp2
      exact ⟨big_round hm HY.out (by omega) (by omega) rfl HO.out HB.out, by simp [intOf]⟩
    · go_wp2
      go_ret
      exact ⟨_, rfl, by simpa [stage] using HO.out, HB.out⟩
def valL (l : List Int) : Nat := l.foldl (fun a c => a * 256 + c.toNat) 0
theorem valL_snoc (l : List Int) (c : Int) : valL (l ++ [c]) = valL l * 256 + c.toNat := by simp [valL, List.foldl_append]
theorem valL_lt (l : List Int) (h : ∀ x ∈ l, 0 ≤ x ∧ x < 256) : valL l < 256 ^ l.length := by
  obtain ⟨r, hr⟩ : ∃ r, r = l.reverse := ⟨_, rfl⟩
  have e : l = r.reverse := by rw [hr, List.reverse_reverse]
  subst e
  clear hr
  induction r with
  | nil => simp [valL]
  | cons c r ih =>
    rw [List.reverse_cons, valL_snoc, List.length_append]
    have h1 := ih (fun x hx => h x (by rw [List.reverse_cons]; exact List.mem_append_left _ hx))
    have h2 := h c (by simp)
    simp only [List.length_cons, List.length_nil, Nat.zero_add, Nat.pow_succ]
    omega
theorem valL_take_lt (l : List Int) (h : ∀ x ∈ l, 0 ≤ x ∧ x < 256) (j : Nat) : valL (l.take j) < 256 ^ j := by
  have h1 := valL_lt (l.take j) (fun x hx => h x (List.mem_of_mem_take hx))
  refine Nat.lt_of_lt_of_le h1 (Nat.pow_le_pow_right (by omega) ?_)
  simp; omega
theorem or_byte (x : Nat) (y : Int) (hx : x < 72057594037927936) (h0 : 0 ≤ y) (h1 : y < 256) : bits BinOp.or IntKind.u64 ((x : Int) * 256) y = ((x * 256 + y.toNat : Nat) : Int) := by
  rw [u64_or _ _ (by omega) (by omega) h0 (by omega)]
  have e : ((x : Int) * 256).toNat = 2 ^ 8 * x := by omega
  rw [e, ← Nat.two_pow_add_eq_or_of_lt (show y.toNat < 2 ^ 8 by omega)]
  congr 1
  omega
theorem small_round {x n j : Nat} {y : Int} {l : List Int} (hx : x < 72057594037927936) (h0 : 0 ≤ y) (h1 : y < 256) (hX : valL (l.take j) = x) (hY : l.getD j 0 = y) (hl : l.length = n) (hj : j < n) :
    ∃ j' : Nat, j' ≤ n ∧ Value.int IntKind.i64 ((j : Int) + 1) = .int .i64 j' ∧ Value.int IntKind.u64 (bits BinOp.or IntKind.u64 ((x : Int) * 256) y) = .int .u64 (valL (l.take j')) := by
  have hjl : j < l.length := by omega
  refine ⟨j + 1, by omega, by go_num, ?_⟩
  rw [or_byte x y hx h0 h1, List.take_succ_eq_append_getElem hjl, valL_snoc, hX, ← getD_of_lt hjl, hY]
def smallNo (n : Nat) (l : List Int) : Nat := if l.length = n then valL l else 0
def smallErr (n : Nat) (l : List Int) : Int := if l.length < n then 10 else if n < l.length then 11 else 0
set_option maxHeartbeats 1000000 in
theorem small_uint64 (w : World) (v : Value) (l : List Int) (h : HB w v l) : Calls Try.prog 49 #[v] w fun e w' => e = .returned (.tuple #[.int .u64 (smallNo 8 l), .int .i64 (smallErr 8 l)]) ∧ w' = w := by
  obtain ⟨p, c, rfl, hlc, hm⟩ := h.open
  unfold maxLen at hm
  by_cases h1 : l.length < 8
  · have HN : Hid (smallNo 8 l = 0) := if_neg (by omega)
    have HE : Hid (smallErr 8 l = 10) := if_pos h1
    have hd : decide ((l.length : Int) < 8) = true := by simp; omega
    rw [HN.out, HE.out]
    clear h
    go_enter Try.func49, Try.ntmps49
    go_wp2_with (go_at_call 40; refine (width_uint64 _).mono ?_; rintro e w' ⟨rfl, hw⟩; have hw' := hw.symm; subst hw'; clear hw)
    go_ret2
    exact ⟨rfl, rfl⟩
  · have hd : decide ((l.length : Int) < 8) = false := by simp; omega
    by_cases h2 : 8 < l.length
    · have HN : Hid (smallNo 8 l = 0) := if_neg (by omega)
      have HE : Hid (smallErr 8 l = 11) := (if_neg h1).trans (if_pos h2)
      have hd2 : decide ((8 : Int) < l.length) = true := by simp; omega
      rw [HN.out, HE.out]
      clear h
      go_enter Try.func49, Try.ntmps49
      go_wp2_with (go_at_call 40; refine (width_uint64 _).mono ?_; rintro e w' ⟨rfl, hw⟩; have hw' := hw.symm; subst hw'; clear hw)
      go_ret2
      exact ⟨rfl, rfl⟩
    · have hl : l.length = 8 := by omega
      have HN : Hid (smallNo 8 l = valL l) := if_pos hl
      have HE : Hid (smallErr 8 l = 0) := (if_neg h1).trans (if_neg h2)
      rw [HN.out, HE.out]
      have hby := h.2
      obtain ⟨b, off, c', e, _, _, hh⟩ := h.ne (by omega)
      simp only [Value.slice.injEq, true_and] at e
      obtain ⟨rfl, rfl⟩ := e
      rw [hl] at hlc ⊢
      have HL := hid hl
      have HBy := hid hby
      clear hd h1 h2 hl h hby
      go_enter Try.func49, Try.ntmps49
      go_wp2_with (go_at_call 40; refine (width_uint64 _).mono ?_; rintro e w' ⟨rfl, hw⟩; have hw' := hw.symm; subst hw'; clear hw)
      go_loop [5, 19] (fun x i => ∃ j : Nat, j ≤ 8 ∧ i = .int .i64 j ∧ x = .int .u64 (valL (l.take j))) (fun _ i => 8 - (intOf i).toNat)
      case atStart => exact ⟨0, Nat.zero_le _, rfl, rfl⟩
      case round =>
        obtain ⟨j, hj, rfl, rfl⟩ := hrel
        have hv := valL_take_lt l HBy.out j
        obtain ⟨x, HX⟩ : ∃ x, Hid (valL (l.take j) = x) := ⟨_, rfl⟩
        rw [HX.out] at hv ⊢
        by_cases hlt : j < 8
        · have hcell := hh j (by rw [HL.out]; exact hlt)
          obtain ⟨y, HY⟩ : ∃ y, Hid (l.getD j 0 = y) := ⟨_, rfl⟩
          rw [HY.out] at hcell
          have hx : x < 72057594037927936 := Nat.lt_of_lt_of_le hv (Nat.pow_le_pow_right (by omega) (by omega : j ≤ 7))
          clear hv hh
          have hy : 0 ≤ y ∧ y < 256 := by
            rw [← HY.out]
            have : j < l.length := by rw [HL.out]; exact hlt
            rw [getD_of_lt this]
            exact HBy.out _ (List.getElem_mem this)
          obtain ⟨hy0, hy1⟩ := hy
          go_wp2
          exact ⟨small_round hx hy0 hy1 HX.out HY.out HL.out hlt, by simp [intOf]; omega⟩
        · have HV : Hid (valL l = x) := by
            show _ = _
            rw [← HX.out, List.take_of_length_le (by rw [HL.out]; omega)]
          have hx : x < 18446744073709551616 := by
            have : j = 8 := by omega
            subst this
            exact hv
          clear hv hh
          go_wp2
          go_ret2
          exact ⟨by rw [HV.out]; first | rfl | (congr 4; omega), rfl⟩
set_option maxHeartbeats 1000000 in
theorem clone_any (w : World) (v : Value) (l : List Int) (h : HB w v l) (hbig : l.length ≤ 140737488355328) :
    Calls Try.prog 41 #[v] w fun e w' => ∃ v', e = .returned v' ∧ w'.ownsRow w.heap.size 5 1 v' l.length (l.map (Value.int .u8)) ∧ Below w.heap.size w w' := by
  obtain ⟨i0, hi, hz0, hz1, hz2⟩ := info_parts info_u8
  have q22 := eql_nil_bytes
  obtain ⟨⟨p, c, rfl, hlc, hm, _, hcell⟩, hby⟩ := h
  cases p with
  | none =>
    have e : l = [] := by
      apply Classical.byContradiction
      intro hne
      obtain ⟨b, off, e, _⟩ := hcell hne
      cases e
    subst e
    go_enter Try.func41, Try.ntmps41
    go_wp2
    go_ret
    exact ⟨_, rfl, World.ownsRow_nil _ _ _ _, Below.refl _ _⟩
  | some a =>
    have A : Hid (l ≠ [] → ∃ b off, some a = some ⟨b, off, none⟩ ∧ ∀ j, j < l.length → w.cell? ⟨b, off + j, none⟩ = some (.int .u8 (l.getD j 0))) := hcell
    clear hcell
    go_enter Try.func41, Try.ntmps41
    go_wp2_with (at_builtin; refine wpList_append_own _ rfl _ _ 23 rfl w.heap.size 5 i0 (.int .u8 0) 1 1 Try.underlying23 hi hz0 hz1 hz2 rfl (by decide) _ _ _ rfl (World.ownsRow_made w #[] 0 (Nat.le_refl _) (Nat.zero_le _) rfl) a l.length c (l.map (Value.int .u8)) rfl ?qc1 ?qc2 ?qc3 ?qc4 ?qc5 ?qc6 ?_)
    case qc1 => simp
    case qc2 =>
      intro j u hj
      have hjn : j < l.length := by
        have := (List.getElem?_eq_some_iff.1 hj).1
        simpa using this
      refine Lib.cell?_alloc_some _ ?_
      obtain ⟨b, off, e, hh⟩ := A.out (by intro e; subst e; simp at hjn)
      cases e
      rw [Go.WideShapes.add_plain, hh j hjn]
      have e : (l.map (Value.int .u8))[j]? = some (Value.int .u8 (l.getD j 0)) := by simp [List.getD, List.getElem?_eq_getElem hjn]
      rw [e] at hj
      exact hj
    case qc3 => intro u hu; obtain ⟨x, _, rfl⟩ := List.mem_map.1 hu; rfl
    case qc4 => unfold maxLen; omega
    case qc5 => omega
    case qc6 => simp
    intro v' w1 hown hgrow hnil
    go_wp2
    go_ret
    exact ⟨v', rfl, by simpa using hown, ((Below.refl _ w).alloc (Nat.le_refl _) _).grown hgrow (by simp) (by intro k hk; simp [Value.ownBlock] at hk; omega)⟩
theorem grown_set (w : World) (g o : Nat) (u : Value) : w.grownBy (w.setCell ⟨g, o, none⟩ u) (some g) :=
  ⟨rfl, rfl, rfl, by simp, fun k _ hk => heap_setCell_other w ⟨g, o, none⟩ k u (fun e => hk (by simp [e]))⟩
theorem grown_trans {a b c : World} {r : Option Nat} (h : a.grownBy b r) (k : b.grownBy c r) : a.grownBy c r :=
  ⟨k.os.trans h.os, k.tape.trans h.tape, k.output.trans h.output, Nat.le_trans h.size k.size, fun i hi hr => (k.block i (Nat.lt_of_lt_of_le hi h.size) hr).trans (h.block i hi hr)⟩
theorem grown_below {a b : World} {r : Option Nat} (h : Below a.heap.size a b) : a.grownBy b r :=
  ⟨h.os, h.tape, h.output, h.size, fun i hi _ => h.block i hi⟩
theorem HB.sliced {w : World} {p : Option Addr} {c : Nat} {l : List Int} (h : HB w (.slice p l.length c) l) (lo hi m : Nat) (h1 : lo ≤ hi) (h2 : hi ≤ l.length) (h3 : hi ≤ m) (h4 : m ≤ c) : HB w (.slice (if m = lo then p else p.map (·.add lo)) (hi - lo) (m - lo)) ((l.take hi).drop lo) := by
  obtain ⟨⟨p', c', e, hc, hm, hpc, hcell⟩, hby⟩ := h
  simp only [Value.slice.injEq, true_and] at e
  obtain ⟨rfl, rfl⟩ := e
  have hlen : ((l.take hi).drop lo).length = hi - lo := by simp; omega
  refine ⟨⟨_, m - lo, by rw [hlen], by omega, by omega, fun e => ?_, fun hne => ?_⟩, fun x hx => hby x (List.mem_of_mem_take (List.mem_of_mem_drop hx))⟩
  · have : p = none := by
      split at e
      · exact e
      · cases p <;> simp_all
    have := hpc this
    omega
  have hlt : lo < hi := by
    apply Classical.byContradiction
    intro hn
    exact hne (List.length_eq_zero_iff.1 (by omega))
  obtain ⟨b, off, rfl, hk⟩ := hcell (by intro e; subst e; simp at h2; omega)
  rw [if_neg (by omega)]
  refine ⟨b, off + lo, by simp [Go.WideShapes.add_plain], fun j hj => ?_⟩
  rw [hlen] at hj
  have := hk (lo + j) (by omega)
  rw [show off + lo + j = off + (lo + j) by omega, this]
  have e1 : ((l.take hi).drop lo).getD j 0 = l.getD (lo + j) 0 := by
    simp only [List.getD, List.getElem?_drop, List.getElem?_take]
    rw [if_pos (by omega)]
  rw [e1]
theorem HB.pre {w : World} {p : Option Addr} {c : Nat} {l : List Int} (h : HB w (.slice p l.length c) l) (n : Nat) (hn : n ≤ l.length) : HB w (.slice p n n) (l.take n) := by
  obtain ⟨p', c', e, hc, _⟩ := h.open
  simp only [Value.slice.injEq, true_and] at e
  obtain ⟨rfl, rfl⟩ := e
  have := h.sliced 0 n n (Nat.zero_le _) hn (Nat.le_refl _) (by omega)
  have e : (if n = 0 then p else p.map (·.add 0)) = p := by
    split
    · rfl
    · cases p <;> simp [Addr.add]
  simpa [e] using this
theorem HB.suf {w : World} {p : Option Addr} {c : Nat} {l : List Int} (h : HB w (.slice p l.length c) l) (n : Nat) (hn : n ≤ l.length) : HB w (.slice (if c = n then p else p.map (·.add n)) (l.length - n) (c - n)) (l.drop n) := by
  obtain ⟨p', c', e, hc, _⟩ := h.open
  simp only [Value.slice.injEq, true_and] at e
  obtain ⟨rfl, rfl⟩ := e
  have := h.sliced n l.length c hn (Nat.le_refl _) hc (Nat.le_refl _)
  rwa [List.take_of_length_le (Nat.le_refl _)] at this
theorem HB.slice_form {w : World} {v : Value} {l : List Int} (h : HB w v l) : ∃ p c, v = .slice p l.length c := by
  obtain ⟨p, c, e, _⟩ := h.open
  exact ⟨p, c, e⟩
def HB5 (q : Nat) (w : World) (v : Value) (l : List Int) : Prop :=
  HB w v l ∧ (l ≠ [] → ∀ a n c, v = .slice (some a) n c → a.block < q ∧ ∃ cur fz, w.heap[a.block]? = some (.cells cur 5 fz))
theorem HB5.of_own {q : Nat} {w : World} {B : Nat} {v : Value} {l : List Int} (h : w.ownsRow B 5 1 v l.length (l.map (Value.int .u8))) (hx : ∀ x ∈ l, 0 ≤ x ∧ x < 256) (hq : ∀ k, v.ownBlock = some k → k < q) : HB5 q w v l := by
  refine ⟨HB.of_own h hx, fun _ a n c e => ?_⟩
  subst e
  rcases h.2 with ⟨e, _⟩ | ⟨g, cap, cur, e, _, hh, _⟩
  · cases e
  · cases e
    exact ⟨hq g rfl, cur, _, hh⟩
theorem HB5.nil {q : Nat} (w : World) : HB5 q w (.slice none 0 0) [] := ⟨HB.nil w, fun h => absurd rfl h⟩
theorem HB5.grown {q : Nat} {w w' : World} {v : Value} {l : List Int} {row : Option Nat} (h : HB5 q w v l) (hg : w.grownBy w' row) (hr : ∀ g, row = some g → ∃ cur e fz, w.heap[g]? = some (.cells cur e fz) ∧ 5 ≠ e) : HB5 q w' v l := by
  by_cases hl : l = []
  · subst hl
    obtain ⟨⟨⟨p, c, rfl, h2, h3, h6, h4⟩, h5⟩, h7⟩ := h
    exact ⟨⟨⟨p, c, rfl, h2, h3, h6, fun h => absurd rfl h⟩, h5⟩, fun h => absurd rfl h⟩
  · obtain ⟨⟨⟨p, c, rfl, h2, h3, h6, h4⟩, h5⟩, h7⟩ := h
    obtain ⟨b, off, rfl, hh⟩ := h4 hl
    obtain ⟨hq, cur, fz, hcur⟩ := h7 hl _ _ _ rfl
    have hlt : b < w.heap.size := (Array.getElem?_eq_some_iff.1 hcur).1
    have hne : some b ≠ row := by
      intro e
      obtain ⟨cur', e', fz', hcur', hne⟩ := hr b e.symm
      have := hcur.symm.trans hcur'
      simp only [Option.some.injEq, Obj.cells.injEq] at this
      exact hne this.2.1
    refine ⟨⟨⟨_, c, rfl, h2, h3, h6, fun _ => ⟨b, off, rfl, fun j hj => hg.cell (hh j hj) hne⟩⟩, h5⟩, fun _ a n c e => ?_⟩
    cases e
    exact ⟨hq, cur, fz, by rw [hg.block b hlt hne]; exact hcur⟩
def RD (w : World) (g : Nat) (m f : Bool) (l : List Int) : Prop :=
  ∃ v, w.heap[g]? = some (.cells #[.bool m, .bool f, v] 73 (0, 0)) ∧ HB5 g w v l
theorem three {w : World} {g : Nat} {a b c : Value} {T : TypeId} (h : w.heap[g]? = some (.cells #[a, b, c] T (0, 0))) :
    w.cell? ⟨g, 0, none⟩ = some a ∧ w.cell? ⟨g, 1, none⟩ = some b ∧ w.cell? ⟨g, 2, none⟩ = some c ∧ w.frozen? ⟨g, 1, none⟩ = false ∧ w.frozen? ⟨g, 2, none⟩ = false := by
  simp [World.cell?, World.frozen?, h]
theorem three_no_int {w : World} {g : Nat} {m f : Bool} {p : Option Addr} {n c : Nat} {T : TypeId} (h : w.heap[g]? = some (.cells #[.bool m, .bool f, .slice p n c] T (0, 0))) :
    ∀ o sp (k : Int), w.cell? ⟨g, o, sp⟩ ≠ some (.int .u8 k) := by
  intro o sp k e
  simp only [World.cell?, h] at e
  split at e
  · cases e
  · match o, e with
    | 0, e => simp at e
    | 1, e => simp at e
    | 2, e => simp at e
    | o + 3, e => simp at e
set_option maxHeartbeats 400000 in
theorem newReader_any (w : World) (v : Value) (l : List Int) (h : HB w v l) (hbig : l.length ≤ 140737488355328) :
    Calls Try.prog 26 #[v] w fun e w' => ∃ g, e = .returned (.pointer (some ⟨g, 0, none⟩)) ∧ RD w' g true false l ∧ w.heap.size ≤ g ∧ Below w.heap.size w w' := by
  have hby := h.2
  go_enter Try.func26, Try.ntmps26
  go_wp2_with fail
  refine (clone_any w v l h hbig).mono ?_
  rintro e w1 ⟨v', rfl, hown, hb⟩
  have hh : HB5 w1.heap.size w1 v' l := HB5.of_own hown hby (fun k e => (hown.lt k e).2)
  obtain ⟨p', c', rfl, _, _⟩ := hh.1.open
  go_wp2
  go_ret
  refine ⟨w1.heap.size, rfl, ⟨_, heap_alloc_new w1 _, hh.grown (World.grownBy_alloc w1 _ none) (fun g e => by cases e)⟩, hb.size, hb.alloc hb.size _⟩
def okTake (l : List Int) (n : Int) : Bool := decide (0 ≤ n) && decide (n ≤ l.length)
def taken (l : List Int) (n : Int) : List Int := if okTake l n then l.take n.toNat else []
def leftAt (l : List Int) (n : Int) : List Int := if okTake l n then l.drop n.toNat else []
theorem okTake_iff {l : List Int} {n : Int} : okTake l n = true ↔ 0 ≤ n ∧ n ≤ l.length := by simp [okTake]
theorem RD.stored {w : World} {g : Nat} {m f : Bool} {v u : Value} {l r : List Int} (hblk : w.heap[g]? = some (.cells #[.bool m, .bool f, v] 73 (0, 0))) (hv : HB w v l) (hu : HB5 g w u r) :
    RD (w.setCell ⟨g, 2, none⟩ u) g m f r ∧ (∀ x y, HB w x y → HB (w.setCell ⟨g, 2, none⟩ u) x y) := by
  obtain ⟨p, c, rfl⟩ := hv.slice_form
  have key : ∀ x y, HB w x y → HB (w.setCell ⟨g, 2, none⟩ u) x y := fun x y hx => hx.grown (grown_set w g 2 u) (three_no_int hblk)
  exact ⟨⟨u, by rw [heap_setCell_same w g 2 _ _ u hblk]; rfl, hu.grown (grown_set w g 2 u) (fun k e => by cases e; exact ⟨_, _, _, hblk, by decide⟩)⟩, key⟩
set_option maxHeartbeats 400000 in
theorem take_ok (w : World) (g : Nat) (f : Bool) (l : List Int) (n : Nat) (h : RD w g true f l) (hn : n ≤ l.length) :
    Calls Try.prog 43 #[.pointer (some ⟨g, 0, none⟩), .int .i64 n] w fun e w' => ∃ v', e = .returned v' ∧ HB w' v' (l.take n) ∧ RD w' g true f (l.drop n) ∧ w.grownBy w' (some g) := by
  obtain ⟨v, hblk, hv0⟩ := h
  obtain ⟨hv, ht5⟩ := hv0
  obtain ⟨p, c, rfl, hlc, hm⟩ := hv.open
  obtain ⟨c0, c1, c2, f1, f2⟩ := three hblk
  unfold maxLen at hm
  have g1 : ¬ ((n : Int) < 0) := by omega
  have g1' : decide ((n : Int) < 0) = false := by simp
  have g2 : decide ((l.length : Int) < (n : Int)) = false := by simp; omega
  have g3 : (n : Int) ≤ l.length := by omega
  have g4 : (n : Int) ≤ c := by omega
  have sz := size_u8
  have fin : ∀ u, HB5 g w u (l.drop n) → ∃ v', Ending.returned (Value.slice p n n) = .returned v' ∧ HB (w.setCell ⟨g, 2, none⟩ u) v' (l.take n) ∧ RD (w.setCell ⟨g, 2, none⟩ u) g true f (l.drop n) ∧ w.grownBy (w.setCell ⟨g, 2, none⟩ u) (some g) := fun u hu =>
    ⟨_, rfl, (RD.stored hblk hv hu).2 _ _ (hv.pre n hn), (RD.stored hblk hv hu).1, grown_set _ _ _ _⟩
  have suf : HB5 g w _ (l.drop n) := ⟨hv.suf n hn, fun hne a m c' e => by
    have hl0 : l ≠ [] := by intro e; subst e; simp at hne
    simp only [Value.slice.injEq] at e
    obtain ⟨e, _, _⟩ := e
    split at e
    · subst e
      exact ht5 hl0 _ _ _ rfl
    · obtain ⟨a0, rfl, rfl⟩ := Option.map_eq_some_iff.1 e
      have : (a0.add n).block = a0.block := by unfold Addr.add; split <;> rfl
      rw [this]
      exact ht5 hl0 _ _ _ rfl⟩
  have FIN := hid fin
  have SUF := hid suf
  clear hv hblk fin suf ht5
  by_cases hcn : c = n
  · rw [if_pos hcn] at SUF
    have hcn' : c - n = 0 := by omega
    have hcl : l.length - n = 0 := by omega
    rw [hcn', hcl] at SUF
    subst hcn
    go_enter Try.func43, Try.ntmps43
    go_wp2
    go_ret
    exact FIN.out _ SUF.out
  · rw [if_neg hcn] at SUF
    go_enter Try.func43, Try.ntmps43
    go_wp2
    go_ret
    exact FIN.out _ SUF.out
theorem two_stores {w : World} {g : Nat} {m f : Bool} {v : Value} (hblk : w.heap[g]? = some (.cells #[.bool m, .bool f, v] 73 (0, 0))) :
    RD ((w.setCell ⟨g, 1, none⟩ (.bool true)).setCell ⟨g, 2, none⟩ (.slice none 0 0)) g m true [] ∧ w.grownBy ((w.setCell ⟨g, 1, none⟩ (.bool true)).setCell ⟨g, 2, none⟩ (.slice none 0 0)) (some g) := by
  have h1 : (w.setCell ⟨g, 1, none⟩ (.bool true)).heap[g]? = some (.cells #[.bool m, .bool true, v] 73 (0, 0)) := by rw [heap_setCell_same w g 1 _ _ _ hblk]; rfl
  have h2 : ((w.setCell ⟨g, 1, none⟩ (.bool true)).setCell ⟨g, 2, none⟩ (.slice none 0 0)).heap[g]? = some (.cells #[.bool m, .bool true, .slice none 0 0] 73 (0, 0)) := by rw [heap_setCell_same _ g 2 _ _ _ h1]; rfl
  exact ⟨⟨_, h2, HB5.nil _⟩, grown_trans (grown_set _ _ _ _) (grown_set _ _ _ _)⟩
set_option maxHeartbeats 400000 in
theorem take_bad (w : World) (g : Nat) (f : Bool) (l : List Int) (n : Int) (h : RD w g true f l) (hn : n < 0 ∨ (l.length : Int) < n) :
    Calls Try.prog 43 #[.pointer (some ⟨g, 0, none⟩), .int .i64 n] w fun e w' => e = .returned (.slice none 0 0) ∧ RD w' g true true [] ∧ w.grownBy w' (some g) := by
  obtain ⟨v, hblk, hv⟩ := h
  have fin := two_stores hblk
  obtain ⟨p, c, rfl, hlc, hm⟩ := hv.1.open
  obtain ⟨c0, c1, c2, f1, f2⟩ := three hblk
  unfold maxLen at hm
  have FIN := hid fin
  clear hv hblk fin
  by_cases h0 : n < 0
  · have g1' : decide (n < 0) = true := by simpa using h0
    clear hn
    go_enter Try.func43, Try.ntmps43
    go_wp2
    go_ret
    exact ⟨rfl, FIN.out.1, FIN.out.2⟩
  · have g1' : decide (n < 0) = false := by simpa using h0
    have g2 : (l.length : Int) < n := by omega
    have g2' : decide ((l.length : Int) < n) = true := by simpa using g2
    clear hn
    go_enter Try.func43, Try.ntmps43
    go_wp2
    go_ret
    exact ⟨rfl, FIN.out.1, FIN.out.2⟩
theorem take_any (w : World) (g : Nat) (f : Bool) (l : List Int) (n : Int) (h : RD w g true f l) :
    Calls Try.prog 43 #[.pointer (some ⟨g, 0, none⟩), .int .i64 n] w fun e w' => ∃ v', e = .returned v' ∧ HB w' v' (taken l n) ∧ RD w' g true (f || !okTake l n) (leftAt l n) ∧ w.grownBy w' (some g) := by
  by_cases hk : okTake l n = true
  · obtain ⟨h0, h1⟩ := okTake_iff.1 hk
    obtain ⟨k, rfl⟩ := Int.eq_ofNat_of_zero_le h0
    refine (take_ok w g f l k h (by omega)).mono ?_
    rintro e w' ⟨v', rfl, a, b, c⟩
    simp only [taken, leftAt, hk, if_true, Int.toNat_natCast, Bool.not_true, Bool.or_false]
    exact ⟨v', rfl, a, b, c⟩
  · have hk' : okTake l n = false := by simpa using hk
    refine (take_bad w g f l n h ?_).mono ?_
    · have : ¬ (0 ≤ n ∧ n ≤ l.length) := fun e => hk (okTake_iff.2 e)
      omega
    rintro e w' ⟨rfl, b, c⟩
    simp only [taken, leftAt, hk']
    exact ⟨_, rfl, HB.nil _, by simpa using b, c⟩
theorem RD.grow {w w' : World} {g : Nat} {m f : Bool} {l : List Int} (h : RD w g m f l) (hb : Below w.heap.size w w') : RD w' g m f l := by
  obtain ⟨v, hblk, hv⟩ := h
  refine ⟨v, ?_, hv.grown (row := none) ⟨hb.os, hb.tape, hb.output, hb.size, fun k hk _ => hb.block k hk⟩ (fun g e => by cases e)⟩
  rw [hb.block g (by exact (Array.getElem?_eq_some_iff.1 hblk).1)]
  exact hblk
theorem taken_le (l : List Int) (n : Int) : (taken l n).length ≤ l.length := by unfold taken; split <;> simp <;> omega
set_option maxHeartbeats 400000 in
theorem bytes_any (w : World) (g : Nat) (f : Bool) (l : List Int) (n : Int) (h : RD w g true f l) (hbig : l.length ≤ 140737488355328) :
    Calls Try.prog 29 #[.pointer (some ⟨g, 0, none⟩), .int .i64 n] w fun e w' => ∃ v' B, e = .returned v' ∧ w'.ownsRow B 5 1 v' (taken l n).length ((taken l n).map (Value.int .u8)) ∧ w.heap.size ≤ B ∧ HB w' v' (taken l n) ∧ RD w' g true (f || !okTake l n) (leftAt l n) ∧ w.grownBy w' (some g) := by
  go_enter Try.func29, Try.ntmps29
  go_wp2_with fail
  refine (take_any w g f l n h).mono ?_
  rintro e w1 ⟨v1, rfl, hb1, hr1, hg1⟩
  go_wp2_with fail
  refine (clone_any w1 v1 _ hb1 (Nat.le_trans (taken_le l n) hbig)).mono ?_
  rintro e w2 ⟨v2, rfl, hown, hB⟩
  go_wp2
  go_ret
  exact ⟨v2, _, rfl, hown, hg1.size, HB.of_own hown hb1.2, hr1.grow hB, grown_trans hg1 (grown_below hB)⟩
set_option maxHeartbeats 400000 in
theorem left_any (w : World) (g : Nat) (m f : Bool) (l : List Int) (h : RD w g m f l) :
    Calls Try.prog 27 #[.pointer (some ⟨g, 0, none⟩)] w fun e w' => e = .returned (.int .i64 l.length) ∧ w' = w := by
  obtain ⟨v, hblk, hv⟩ := h
  obtain ⟨p, c, rfl, hlc, hm⟩ := hv.1.open
  obtain ⟨c0, c1, c2, f1, f2⟩ := three hblk
  clear hblk hv
  go_enter Try.func27, Try.ntmps27
  go_wp2
  go_ret
  exact ⟨rfl, rfl⟩
def endNo (m f : Bool) (l : List Int) : Int := if !m then 1 else if f then 10 else if l.length = 0 then 0 else 11
set_option maxHeartbeats 1000000 in
theorem end_any (w : World) (g : Nat) (m f : Bool) (l : List Int) (h : RD w g m f l) :
    Calls Try.prog 30 #[.pointer (some ⟨g, 0, none⟩)] w fun e w' => e = .returned (.int .i64 (endNo m f l)) ∧ w' = w := by
  obtain ⟨v, hblk, hv⟩ := h
  obtain ⟨p, c, rfl, hlc, hm⟩ := hv.1.open
  obtain ⟨c0, c1, c2, f1, f2⟩ := three hblk
  clear hblk hv
  cases m with
  | false =>
    go_enter Try.func30, Try.ntmps30
    go_wp2
    go_ret
    exact ⟨rfl, rfl⟩
  | true =>
    cases f with
    | true =>
      go_enter Try.func30, Try.ntmps30
      go_wp2
      go_ret
      exact ⟨rfl, rfl⟩
    | false =>
      by_cases hl : l.length = 0
      · have hd : decide (0 < (l.length : Int)) = false := decide_eq_false (by omega)
        have HL : Hid (endNo true false l = 0) := by show _ = _; simp [endNo, hl]
        have hd2 : ¬ (0 < l.length) := by omega
        clear hl
        go_enter Try.func30, Try.ntmps30
        go_wp2
        all_goals go_ret
        all_goals exact ⟨by rw [HL.out]; rfl, rfl⟩
      · have hd : decide (0 < (l.length : Int)) = true := by simp; omega
        have hd2 : 0 < l.length := by omega
        have HL : Hid (endNo true false l = 11) := by show _ = _; unfold endNo; rw [if_neg (by simp), if_neg (by simp), if_neg hl]
        clear hl
        go_enter Try.func30, Try.ntmps30
        go_wp2
        all_goals go_ret
        all_goals exact ⟨by rw [HL.out]; rfl, rfl⟩
set_option maxHeartbeats 1000000 in
theorem number_uint64 (w : World) (g : Nat) (f : Bool) (l : List Int) (h : RD w g true f l) : Calls Try.prog 42 #[.pointer (some ⟨g, 0, none⟩)] w fun e w' => e = .returned (.int .u64 (smallNo 8 (taken l 8))) ∧ RD w' g true (f || !okTake l 8) (leftAt l 8) ∧ w.grownBy w' (some g) := by
  go_enter Try.func42, Try.ntmps42
  go_wp2_with fail
  refine (width_uint64 _).mono ?_
  rintro e w' ⟨rfl, hw⟩
  have hw' := hw.symm
  subst hw'
  clear hw
  go_wp2_with fail
  refine (take_any w g f l 8 h).mono ?_
  rintro e w1 ⟨v1, rfl, hb1, hr1, hg1⟩
  have HB1 := hid hb1
  have HR1 := hid hr1
  have HG1 := hid hg1
  obtain ⟨p, c, e, _, _⟩ := hb1.open
  clear hb1 hr1 hg1
  subst e
  go_wp2_with fail
  refine (small_uint64 w1 _ _ HB1.out).mono ?_
  rintro e w2 ⟨rfl, hw⟩
  have hw' := hw.symm
  subst hw'
  clear hw
  go_wp2
  go_ret
  exact ⟨rfl, HR1.out, HG1.out⟩
set_option maxHeartbeats 1000000 in
theorem long_any (w : World) (g : Nat) (f : Bool) (l : List Int) (h : RD w g true f l) : Calls Try.prog 28 #[.pointer (some ⟨g, 0, none⟩)] w fun e w' => e = .returned (.int .u64 (smallNo 8 (taken l 8))) ∧ RD w' g true (f || !okTake l 8) (leftAt l 8) ∧ w.grownBy w' (some g) := by
  go_enter Try.func28, Try.ntmps28
  go_wp2_with fail
  refine (number_uint64 w g f l h).mono ?_
  rintro e w1 ⟨rfl, hr, hg⟩
  go_wp2
  go_ret
  exact ⟨rfl, hr, hg⟩
def pcs (ls : List (List Int)) : List (List Int) := ls.flatMap fun l => [bigL 8 l.length, l]
def pcsTo (ls : List (List Int)) (k : Nat) : List (List Int) := pcs (ls.take k)
def framed (ls : List (List Int)) : List Int := (pcs ls).flatten
theorem pcs_snoc (ls : List (List Int)) (k : Nat) (hk : k < ls.length) : pcsTo ls (k + 1) = pcsTo ls k ++ [bigL 8 (ls.getD k []).length, ls.getD k []] := by
  unfold pcsTo pcs
  rw [List.take_succ_eq_append_getElem hk, List.flatMap_append]
  have e : ls.getD k [] = ls[k] := by simp [List.getD, List.getElem?_eq_getElem hk]
  rw [e]
  simp
theorem pcs_length (ls : List (List Int)) : (pcs ls).length = 2 * ls.length := by
  unfold pcs
  induction ls with
  | nil => rfl
  | cons a r ih => simp only [List.flatMap_cons, List.length_append, List.length_cons, List.length_nil, ih]; omega
theorem pcsTo_length (ls : List (List Int)) (k : Nat) : (pcsTo ls k).length ≤ 2 * ls.length := by
  unfold pcsTo
  rw [pcs_length, List.length_take]
  omega
theorem framed_length (ls : List (List Int)) : (framed ls).length = ls.flatten.length + 8 * ls.length := by
  unfold framed pcs
  induction ls with
  | nil => rfl
  | cons a r ih =>
    simp only [List.flatMap_cons, List.flatten_append, List.flatten_cons, List.flatten_nil, List.length_append, List.length_nil, List.length_cons, bigL_length] at ih ⊢
    omega
theorem valL_cons (c : Int) (l : List Int) : ∀ a : Nat, (c :: l).foldl (fun a c => a * 256 + c.toNat) a = l.foldl (fun a c => a * 256 + c.toNat) (a * 256 + c.toNat) := fun _ => rfl
theorem fold_bigL (r x a : Nat) : (bigL r x).foldl (fun a c => a * 256 + c.toNat) a = a * 256 ^ r + x % 256 ^ r := by
  induction r generalizing a with
  | zero => simp [bigL, Nat.mod_one]
  | succ r ih =>
    simp only [bigL, List.foldl_cons, Int.toNat_natCast]
    rw [ih, Nat.pow_succ]
    have h1 := Nat.mod_mul (a := 256 ^ r) (b := 256) (x := x)
    rw [h1]
    have : (a * 256 + x / 256 ^ r % 256) * 256 ^ r = a * (256 ^ r * 256) + 256 ^ r * (x / 256 ^ r % 256) := by
      rw [Nat.add_mul, Nat.mul_assoc, Nat.mul_comm 256 (256 ^ r), Nat.mul_comm (x / 256 ^ r % 256)]
    omega
theorem valL_bigL (r x : Nat) (h : x < 256 ^ r) : valL (bigL r x) = x := by
  unfold valL
  rw [fold_bigL, Nat.zero_mul, Nat.zero_add, Nat.mod_eq_of_lt h]
theorem valL_head (c : Int) (l : List Int) : valL (c :: l) = c.toNat * 256 ^ l.length + valL l := by
  obtain ⟨r, hr⟩ : ∃ r, r = l.reverse := ⟨_, rfl⟩
  have e : l = r.reverse := by rw [hr, List.reverse_reverse]
  subst e
  clear hr
  induction r with
  | nil => simp [valL]
  | cons d r ih =>
    rw [List.reverse_cons, ← List.cons_append, valL_snoc, valL_snoc, ih, List.length_append]
    simp only [List.length_cons, List.length_nil, Nat.zero_add, Nat.pow_succ]
    rw [Nat.add_mul, Nat.mul_assoc]
    omega
theorem bigL_mod (r x y : Nat) : bigL r (y * 256 ^ r + x) = bigL r x := by
  induction r generalizing y with
  | zero => rfl
  | succ r ih =>
    have e : y * 256 ^ (r + 1) + x = (y * 256) * 256 ^ r + x := by rw [Nat.pow_succ, Nat.mul_comm (256 ^ r), Nat.mul_assoc]
    simp only [bigL]
    rw [e, ih]
    have hp : 0 < 256 ^ r := Nat.pow_pos (by omega)
    rw [Nat.add_comm (y * 256 * 256 ^ r), Nat.add_mul_div_right _ _ hp]
    congr 2
    omega
theorem bigL_valL (l : List Int) (h : ∀ x ∈ l, 0 ≤ x ∧ x < 256) : bigL l.length (valL l) = l := by
  induction l with
  | nil => rfl
  | cons c l ih =>
    have hl : ∀ x ∈ l, 0 ≤ x ∧ x < 256 := fun x hx => h x (List.mem_cons_of_mem _ hx)
    have hc := h c (by simp)
    have hv := valL_lt l hl
    rw [valL_head]
    simp only [List.length_cons, bigL]
    rw [bigL_mod, ih hl]
    have hp : 0 < 256 ^ l.length := Nat.pow_pos (by omega)
    rw [Nat.add_comm (c.toNat * 256 ^ l.length), Nat.add_mul_div_right _ _ hp, Nat.div_eq_of_lt hv]
    congr 1
    omega
def Ok (ls : List (List Int)) : Prop := ∀ l ∈ ls, l.length < 256 ^ 8
theorem framed_cons (x : List Int) (xs : List (List Int)) : framed (x :: xs) = bigL 8 x.length ++ (x ++ framed xs) := by
  simp [framed, pcs]
theorem framed_append (a b : List (List Int)) : framed (a ++ b) = framed a ++ framed b := by
  simp [framed, pcs]
theorem framed_nil : framed [] = [] := rfl
theorem framed_cancel (ls : List (List Int)) (l : List Int) : ∀ xs, Ok xs → Ok ls → framed xs = framed ls ++ l → ∃ bs, xs = ls ++ bs ∧ framed bs = l := by
  induction ls with
  | nil => intro ys _ _ h; exact ⟨ys, rfl, h⟩
  | cons x xs ih =>
    intro as' ha hl h
    cases as' with
    | nil =>
      exfalso
      have := congrArg List.length h
      rw [framed_cons] at this
      simp [framed_nil, bigL_length] at this
      omega
    | cons y ys =>
      rw [framed_cons, framed_cons, List.append_assoc, List.append_assoc] at h
      have h1 := List.append_inj h (by rw [bigL_length, bigL_length])
      have hlen : y.length = x.length := by
        have := congrArg valL h1.1
        rwa [valL_bigL 8 _ (ha y (by simp)), valL_bigL 8 _ (hl x (by simp))] at this
      have h2 := List.append_inj h1.2 hlen
      obtain ⟨bs, e1, e2⟩ := ih ys (fun z hz => ha z (List.mem_cons_of_mem _ hz)) (fun z hz => hl z (List.mem_cons_of_mem _ hz)) h2.2
      exact ⟨bs, by rw [h2.1, e1]; rfl, e2⟩
theorem framed_inj {a b : List (List Int)} (ha : Ok a) (hb : Ok b) : framed a = framed b ↔ a = b := by
  constructor
  · intro h
    obtain ⟨bs, e1, e2⟩ := framed_cancel b [] a ha hb (by rw [List.append_nil]; exact h)
    have h2 : bs = [] := by
      cases bs with
      | nil => rfl
      | cons y ys =>
        have := congrArg List.length e2
        rw [framed_cons] at this
        simp [bigL_length] at this
    rw [e1, h2, List.append_nil]
  · intro h; rw [h]
def UInv (raw : List Int) (ls : List (List Int)) (f : Bool) (l : List Int) : Prop :=
  8 * ls.length ≤ raw.length + 8 ∧ l.length ≤ raw.length ∧ Ok ls ∧ (f = false → raw = framed ls ++ l) ∧ (f = true → l = [] ∧ ∀ xs, Ok xs → framed xs ≠ raw)
theorem UInv.start (raw : List Int) : UInv raw [] false raw := ⟨by simp, Nat.le_refl _, by intro l hl; simp at hl, fun _ => rfl, fun h => by cases h⟩
theorem UInv.none {raw : List Int} {ls : List (List Int)} {l : List Int} (h : UInv raw ls false l) (hb : ∀ bs, Ok bs → framed bs ≠ l) : ∀ xs, Ok xs → framed xs ≠ raw := by
  intro xs ha he
  obtain ⟨_, _, h3, h4, _⟩ := h
  rw [h4 rfl] at he
  obtain ⟨bs, e1, e2⟩ := framed_cancel ls l xs ha h3 he
  exact hb bs (fun z hz => ha z (by rw [e1]; exact List.mem_append_right _ hz)) e2
theorem no_frames_short {l : List Int} (h0 : 0 < l.length) (h8 : l.length < 8) : ∀ bs, Ok bs → framed bs ≠ l := by
  intro bs _ h
  cases bs with
  | nil => rw [framed_nil] at h; subst h; simp at h0
  | cons y ys =>
    have := congrArg List.length h
    rw [framed_cons] at this
    simp [bigL_length] at this
    omega
theorem no_frames_long {l : List Int} (h8 : 8 ≤ l.length) (hv : (l.drop 8).length < valL (l.take 8)) : ∀ bs, Ok bs → framed bs ≠ l := by
  intro bs hb h
  cases bs with
  | nil => rw [framed_nil] at h; subst h; simp at h8
  | cons y ys =>
    rw [framed_cons] at h
    have h1 : l.take 8 = bigL 8 y.length := by rw [← h, List.take_left' (bigL_length _ _)]
    have h2 : l.drop 8 = y ++ framed ys := by rw [← h, List.drop_left' (bigL_length _ _)]
    rw [h1, h2, valL_bigL 8 _ (hb y (by simp)), List.length_append] at hv
    omega
theorem UInv.step {raw : List Int} {ls : List (List Int)} {l : List Int} (hraw : raw.length < 256 ^ 8) (hby : ∀ x ∈ l, 0 ≤ x ∧ x < 256) (h : UInv raw ls false l) (h8 : 8 ≤ l.length) (hv : valL (l.take 8) ≤ (l.drop 8).length) :
    UInv raw (ls ++ [(l.drop 8).take (valL (l.take 8))]) false ((l.drop 8).drop (valL (l.take 8))) := by
  obtain ⟨h1, h2, h3, h4, h5⟩ := h
  have hlen : ((l.drop 8).take (valL (l.take 8))).length = valL (l.take 8) := by simp at hv ⊢; omega
  have e := h4 rfl
  have hr : raw.length = ls.flatten.length + 8 * ls.length + l.length := by rw [e, List.length_append, framed_length]
  refine ⟨?_, ?_, ?_, ?_, fun h => by cases h⟩
  · rw [List.length_append, List.length_singleton]; omega
  · simp; omega
  · intro z hz
    rcases List.mem_append.1 hz with hz | hz
    · exact h3 z hz
    · simp only [List.mem_singleton] at hz
      subst hz
      rw [hlen]
      refine Nat.lt_of_le_of_lt hv (Nat.lt_of_le_of_lt ?_ hraw)
      simp; omega
  · intro _
    rw [framed_append, framed_cons, framed_nil, List.append_nil, hlen, e]
    have hb8 : bigL 8 (valL (l.take 8)) = l.take 8 := by
      have := bigL_valL (l.take 8) (fun x hx => hby x (List.mem_of_mem_take hx))
      rwa [show (l.take 8).length = 8 by simp; omega] at this
    rw [hb8]
    simp only [List.append_assoc, List.take_append_drop]
theorem UInv.short {raw : List Int} {ls : List (List Int)} {l : List Int} (h : UInv raw ls false l) (h0 : 0 < l.length) (h8 : l.length < 8) : UInv raw (ls ++ [[]]) true [] := by
  have hn := h.none (no_frames_short h0 h8)
  obtain ⟨h1, h2, h3, h4, h5⟩ := h
  have e := h4 rfl
  have hr : raw.length = ls.flatten.length + 8 * ls.length + l.length := by rw [e, List.length_append, framed_length]
  refine ⟨by rw [List.length_append, List.length_singleton]; omega, by simp, ?_, (fun h => by cases h), fun _ => ⟨rfl, hn⟩⟩
  intro z hz
  rcases List.mem_append.1 hz with hz | hz
  · exact h3 z hz
  · simp only [List.mem_singleton] at hz
    subst hz
    simp
theorem EL.below {w0 w w' : World} {u : Value} {l : List Int} (h : EL w0 w u l) (hb : Below w.heap.size w w') : EL w0 w' u l :=
  h.grown (row := none) ⟨hb.os, hb.tape, hb.output, hb.size, fun k hk _ => hb.block k hk⟩ (fun g e => by cases e)
set_option maxHeartbeats 1000000 in
theorem framed_any (w : World) (v : Value) (ls : List (List Int)) (h : HL w v ls) (hbig : ls.flatten.length + ls.length ≤ 1100000) :
    Calls Try.prog 8 #[v] w fun e w' => ∃ v', e = .returned v' ∧ w'.ownsRow w.heap.size 5 1 v' (framed ls).length ((framed ls).map (Value.int .u8)) ∧ HB w' v' (framed ls) ∧ Below w.heap.size w w' := by
  obtain ⟨i0, hi, hz0, hz1, hz2⟩ := info_parts info_bytes
  obtain ⟨p, c, e, hlc, hm⟩ := h.open
  unfold maxLen at hm
  have A : Hid (0 < ls.length → ∃ b off, p = some ⟨b, off, none⟩ ∧ ∀ j, j < ls.length → ∃ u, w.cell? ⟨b, off + j, none⟩ = some u ∧ HB w u (ls.getD j [])) := by
    intro h0
    obtain ⟨b, off, c', e', _, _, hh⟩ := h.ne h0
    rw [e] at e'
    simp only [Value.slice.injEq, true_and] at e'
    exact ⟨b, off, e'.1, hh⟩
  clear h
  subst e
  obtain ⟨w1, hmk, hown, hgr⟩ := run_make_own (P := Try.prog) w w.heap.size 22 23 i0 (.slice none 0 0) 1 Try.underlying22 hi hz0 hz1 .i64 .i64 (2 * ls.length) (by rw [hz2]; omega) (by unfold maxLen; omega) (Nat.le_refl _)
  rw [show ((2 * ls.length : Nat) : Int) = 2 * (ls.length : Int) by omega] at hmk
  have HB1 := hid ((Below.refl _ w).grown hgr (Nat.le_refl _) (fun k e => by cases e))
  have HO1 : Hid (OWL w w1 _ []) := ⟨[], hown, fun j hj => by simp at hj⟩
  clear hown hgr
  go_enter Try.func8, Try.ntmps8
  go_wp2
  go_loopw [3, 12] (fun o i wr => ∃ k : Nat, k ≤ ls.length ∧ i = .int .i64 k ∧ Hid (OWL w wr o (pcsTo ls k)) ∧ Hid (Below w.heap.size w wr)) (fun _ i _ => ls.length - (intOf i).toNat)
  case atStart => exact ⟨0, Nat.zero_le _, rfl, HO1, HB1⟩
  case round =>
    clear HO1 HB1 hmk
    obtain ⟨k, hk, rfl, HO, HBw⟩ := hrel
    by_cases hlt : k < ls.length
    · obtain ⟨b, off, rfl, hh⟩ := A.out (by omega)
      obtain ⟨u, hu0, hb⟩ := hh k hlt
      have hu : wr.cell? ⟨b, off + k, none⟩ = some u := (HBw.out.cell (World.block_lt_of_cell? w _ hu0)).trans hu0
      have HS := hid (pcs_snoc ls k hlt)
      have hlen : (ls.getD k []).length ≤ 1100000 := by
        have h1 := flat_snoc ls k hlt
        have h2 := flat_take_le ls (k + 1)
        rw [h1, List.length_append] at h2
        omega
      obtain ⟨l, HLk⟩ : ∃ l, Hid (l = ls.getD k []) := ⟨_, rfl⟩
      rw [← HLk.out] at hb HS hlen
      have HU := hid hb
      obtain ⟨p2, c2, hu2, _, _⟩ := hb.open
      subst hu2
      clear hh hu0 hb
      go_wp2_with fail
      refine (big_uint64 l.length (by omega) wr).mono ?_
      rintro e w2 ⟨v2, rfl, hown2, hB2⟩
      have hO2 := HO.out.below hB2
      have hel : EL w w2 v2 (bigL 8 l.length) := .inl ⟨by rw [bigL_length]; exact own_mono hown2 HBw.out.size, bigL_byt _ _⟩
      have hBw2 : Below w.heap.size w w2 := HBw.out.trans (hB2.mono HBw.out.size)
      obtain ⟨p3, c3, e3, _, _⟩ := (hel.hb hBw2).open
      rw [bigL_length] at e3
      obtain ⟨W3, hW3⟩ : ∃ W3, W3 = w2.alloc (.cells #[v2, .slice p2 l.length c2] 23) := ⟨_, rfl⟩
      have hal : Below w2.heap.size w2 W3 := by rw [hW3]; exact (Below.refl _ _).alloc (Nat.le_refl _) _
      have HO3 := hid (hO2.below hal)
      have HE3 := hid (hel.below hal)
      have HB3 := hid (hBw2.trans (hal.mono hBw2.size))
      rw [hW3] at HO3 HE3 HB3
      clear hO2 hel hBw2 hown2 hal hW3 W3 hB2
      subst e3
      go_wp2_with (at_builtin; refine wpList_append_OWL (w0 := w) rfl _ _ rfl _ _ rfl HO3.out ⟨w2.heap.size, 0, none⟩ 2 2 [_, _] [bigL 8 l.length, l] rfl rfl rfl (cell_two_new _ _ _ _) ?q1 ?q2 ?q3 ?q4 ?_)
      case q1 =>
        intro j hj
        match j, hj with
        | 0, _ => exact HE3.out
        | 1, _ => exact .inr HU.out
      case q2 =>
        intro u hu
        simp only [List.mem_cons, List.not_mem_nil, or_false] at hu
        rcases hu with rfl | rfl <;> rfl
      case q3 => have := pcsTo_length ls k; omega
      case q4 => exact HB3.out.size
      intro v' w4 hO4 hg4 hbk
      have HO4 : Hid (OWL w w4 v' (pcsTo ls (k + 1))) := by rw [HS.out]; exact hO4
      have HB4 := hid (HB3.out.grown hg4 HB3.out.size (fun k e => (hbk k e).1))
      clear hO4 hg4 hbk
      go_wp2
      exact ⟨⟨k + 1, by omega, by go_num, HO4, HB4⟩, by simp [intOf]; omega⟩
    · have HP : Hid (pcsTo ls k = pcs ls) := by
        show _ = _
        unfold pcsTo
        rw [List.take_of_length_le (by omega)]
      have HO2 : Hid (OWL w wr u3 (pcs ls)) := by rw [← HP.out]; exact HO
      have HFl := hid (framed_length ls)
      obtain ⟨fl, HF⟩ : ∃ fl, Hid (framed ls = fl) := ⟨_, rfl⟩
      rw [HF.out] at HFl
      go_wp2_with fail
      have hHL := HO2.out.hl HBw.out
      refine (join_any wr _ (pcs ls) hHL (by have := HFl.out; rw [← HF.out] at this; unfold framed at this; omega)).mono ?_
      rintro e w2 ⟨v2, rfl, hown2, hB2⟩
      have hbt := hHL.byt
      rw [show (pcs ls).flatten = fl from HF.out] at hown2 hbt
      have H2 := hid hown2
      have Hb := hid hbt
      have HB3 := hid (HBw.out.trans (hB2.mono HBw.out.size))
      have hsz := HBw.out.size
      clear hHL hown2 hB2 hbt
      go_wp2
      go_ret
      refine ⟨_, rfl, ?_, ?_, HB3.out⟩
      · rw [HF.out]; exact own_mono H2.out hsz
      · rw [HF.out]; exact HB.of_own H2.out Hb.out
def HI (w : World) (v : Value) (l : List Int) : Prop :=
  ∃ (p : Option Addr) (c : Nat), v = .slice p l.length c ∧ l.length ≤ c ∧ c ≤ maxLen ∧
    (l ≠ [] → ∃ b off, p = some ⟨b, off, none⟩ ∧ ∀ j, j < l.length → w.cell? ⟨b, off + j, none⟩ = some (.int .i64 (l.getD j 0)))
theorem HI.open {w : World} {v : Value} {l : List Int} (h : HI w v l) : ∃ (p : Option Addr) (c : Nat), v = .slice p l.length c ∧ l.length ≤ c ∧ c ≤ maxLen ∧
    Hid (0 < l.length → ∃ b off, p = some ⟨b, off, none⟩ ∧ ∀ j, j < l.length → w.cell? ⟨b, off + j, none⟩ = some (.int .i64 (l.getD j 0))) := by
  obtain ⟨p, c, h1, h2, h3, h4⟩ := h
  exact ⟨p, c, h1, h2, h3, fun h0 => h4 (by intro e; subst e; simp at h0)⟩
theorem RD.block {w : World} {g : Nat} {m f : Bool} {l : List Int} (h : RD w g m f l) : BT w g 73 := by
  obtain ⟨v, hb, _⟩ := h
  exact ⟨_, _, hb⟩
theorem RD.grownOther {w w' : World} {g : Nat} {m f : Bool} {l : List Int} {row : Option Nat} (h : RD w g m f l) (hg : w.grownBy w' row) (hr : ∀ k, row = some k → BT w k 23) : RD w' g m f l := by
  obtain ⟨v, hblk, hv⟩ := h
  refine ⟨v, ?_, hv.grown hg fun k e => ?_⟩
  · rw [hg.block g (Array.getElem?_eq_some_iff.1 hblk).1 ?_]
    · exact hblk
    · intro e
      obtain ⟨cur, fz, hh⟩ := hr g e.symm
      rw [hblk] at hh
      simp at hh
  · obtain ⟨cur, fz, hh⟩ := hr k e
    exact ⟨cur, _, fz, hh, by decide⟩
theorem taken_left (l : List Int) (n : Int) : okTake l n = true → taken l n ++ leftAt l n = l := by
  intro h
  simp [taken, leftAt, h]
theorem taken_left_le (l : List Int) (n : Int) : (taken l n).length + (leftAt l n).length ≤ l.length := by
  unfold taken leftAt
  split
  · simp; omega
  · simp
def lenAt (w : World) (g : Nat) : Nat := match w.cell? ⟨g, 2, none⟩ with | some (.slice _ n _) => n | _ => 0
theorem RD.lenAt {w : World} {g : Nat} {m f : Bool} {l : List Int} (h : RD w g m f l) : lenAt w g = l.length := by
  obtain ⟨v, hblk, hv⟩ := h
  obtain ⟨p, c, rfl, _, _⟩ := hv.1.open
  obtain ⟨_, _, c2, _, _⟩ := three hblk
  simp [Go.Proofs.Ytjmihehihjbgpaa.lenAt, c2]
def UAns (w w' : World) (raw : List Int) (v : Value) (n : Int) : Prop :=
  (n = 0 ∧ ∃ ls, OWL w w' v ls ∧ Ok ls ∧ framed ls = raw) ∨ (n = 13 ∧ v = .slice none 0 0 ∧ ∀ xs, Ok xs → framed xs ≠ raw)
set_option maxHeartbeats 2000000 in
theorem unframed_any (w : World) (v : Value) (raw : List Int) (h : HB w v raw) (hbig : raw.length ≤ 16777216) :
    Calls Try.prog 9 #[v] w fun e w' => ∃ v' n, e = .returned (.tuple #[v', .int .i64 n]) ∧ UAns w w' raw v' n ∧ Below w.heap.size w w' := by
  obtain ⟨p, c, e, hlc, hm⟩ := h.open
  have H := hid h
  clear h
  subst e
  go_enter Try.func9, Try.ntmps9
  go_wp2_with fail
  refine (newReader_any w _ raw H.out (by omega)).mono ?_
  rintro e w1 ⟨g, rfl, hr1, hg, hB1⟩
  have HR1 := hid hr1
  have HB1 := hid hB1
  clear hr1 hB1
  go_wp2
  go_loopw [4] (fun o wr => ∃ (ls : List (List Int)) (f : Bool) (l : List Int), Hid (OWL w wr o ls) ∧ Hid (RD wr g true f l) ∧ Hid (Below w.heap.size w wr) ∧ Hid (UInv raw ls f l)) (fun _ wr => lenAt wr g)
  case atStart => exact ⟨[], false, raw, OWL.nil _ _, HR1, HB1, UInv.start raw⟩
  case round =>
    clear HR1 HB1
    obtain ⟨ls, f, l, HO, HR, HBw, HU⟩ := hrel
    have hlr : l.length ≤ raw.length := HU.out.2.1
    go_wp2_with fail
    refine (left_any wr g _ _ l HR.out).mono ?_
    rintro e w1' ⟨rfl, hw⟩
    have hw' := hw.symm
    subst hw'
    clear hw
    by_cases h0 : 0 < l.length
    · have hd : decide (0 < (l.length : Int)) = true := by simp; omega
      have hf : f = false := by
        cases f with
        | false => rfl
        | true =>
          have := (HU.out.2.2.2.2 rfl).1
          subst this
          simp at h0
      subst hf
      go_wp2_with fail
      refine (long_any wr g false l HR.out).mono ?_
      rintro e w2 ⟨rfl, hr2, hg2⟩
      have HR2 := hid hr2
      have HO2 := hid (HO.out.grown hg2 (fun g' e => by
        cases e
        obtain ⟨cur, fz, hh⟩ := HR.out.block
        exact ⟨cur, _, fz, hh, by decide, by decide⟩))
      have HB2 := hid (HBw.out.grown hg2 HBw.out.size (fun k e => by cases e; exact hg))
      clear hr2 hg2
      obtain ⟨N, f2, l2, HR3, HN, HX⟩ : ∃ (N : Nat) (f2 : Bool) (l2 : List Int), Hid (RD w2 g true f2 l2) ∧ Hid (smallNo 8 (taken l 8) = N) ∧ Hid ((8 ≤ l.length ∧ N = valL (l.take 8) ∧ f2 = false ∧ l2 = l.drop 8) ∨ (l.length < 8 ∧ N = 0 ∧ f2 = true ∧ l2 = [])) := by
        refine ⟨_, _, _, HR2, rfl, ?_⟩
        by_cases h8 : 8 ≤ l.length
        · have hok : okTake l 8 = true := okTake_iff.2 ⟨by omega, by omega⟩
          left
          refine ⟨h8, ?_, by simp [hok], by simp [leftAt, hok]⟩
          have e : taken l 8 = l.take 8 := by simp [taken, hok]
          rw [e, smallNo, if_pos (by simp; omega)]
        · have hok : okTake l 8 = false := by
            cases hh : okTake l 8 with
            | false => rfl
            | true => have := okTake_iff.1 hh; omega
          right
          refine ⟨by omega, ?_, by simp [hok], by simp [leftAt, hok]⟩
          have e : taken l 8 = [] := by simp [taken, hok]
          rw [e]; rfl
      rw [HN.out]
      have hl2 : l2.length < l.length := by
        rcases HX.out with ⟨h8, _, _, e⟩ | ⟨_, _, _, e⟩ <;> rw [e] <;> simp <;> omega
      have hNb : N < 18446744073709551616 := by
        rcases HX.out with ⟨h8, e, _, _⟩ | ⟨_, e, _, _⟩
        · rw [e]
          have := valL_take_lt l (by obtain ⟨v, _, hv⟩ := HR.out; exact hv.1.2) 8
          omega
        · omega
      clear HR2
      go_wp2_with fail
      refine (left_any w2 g _ _ l2 HR3.out).mono ?_
      rintro e w1' ⟨rfl, hw⟩
      have hw' := hw.symm
      subst hw'
      clear hw
      by_cases hgt : l2.length < N
      · have hd2 : decide ((l2.length : Int) < (N : Int)) = true := by simp; omega
        have HA : Hid (UAns w w2 raw (.slice none 0 0) 13) := by
          right
          refine ⟨rfl, rfl, ?_⟩
          rcases HX.out with ⟨h8, e1, _, e2⟩ | ⟨_, e1, _, e2⟩
          · exact HU.out.none (no_frames_long h8 (by rw [← e2, ← e1]; exact hgt))
          · exfalso; omega
        go_wp2
        go_ret2
        exact ⟨_, _, rfl, HA.out, HB2.out⟩
      · have hd2 : decide ((l2.length : Int) < (N : Int)) = false := by simp; omega
        have hok : okTake l2 (N : Int) = true := okTake_iff.2 ⟨by omega, by omega⟩
        have HOK := hid hok
        clear hok
        go_wp2_with fail
        refine (bytes_any w2 g f2 l2 (N : Int) HR3.out (by omega)).mono ?_
        rintro e w3 ⟨v3, B, rfl, hown3, hBle, hb3, hr3, hg3⟩
        have et : taken l2 (N : Int) = l2.take N := by simp [taken, HOK.out]
        have el : leftAt l2 (N : Int) = l2.drop N := by simp [leftAt, HOK.out]
        rw [et] at hown3 hb3
        rw [el, HOK.out, Bool.not_true, Bool.or_false] at hr3
        have hO3 := HO2.out.grown hg3 (fun g' e => by
          cases e
          obtain ⟨cur, fz, hh⟩ := HR3.out.block
          exact ⟨cur, _, fz, hh, by decide, by decide⟩)
        have hB3 := HB2.out.grown hg3 HB2.out.size (fun k e => by cases e; exact hg)
        have hel : EL w w3 v3 (l2.take N) := .inl ⟨own_mono hown3 (Nat.le_trans HB2.out.size hBle), hb3.2⟩
        have HU3 : Hid (UInv raw (ls ++ [l2.take N]) f2 (l2.drop N)) := by
          show UInv _ _ _ _
          rcases HX.out with ⟨h8, e1, e3, e2⟩ | ⟨h8, e1, e3, e2⟩
          · subst e1 e2 e3
            exact UInv.step (by omega) (by obtain ⟨v, _, hv⟩ := HR.out; exact hv.1.2) HU.out h8 (by omega)
          · subst e1 e2 e3
            exact HU.out.short h0 h8
        obtain ⟨p3, c3, e3, _, _⟩ := hb3.open
        obtain ⟨l3, HL3⟩ : ∃ l3, Hid (l2.take N = l3) := ⟨_, rfl⟩
        rw [HL3.out] at e3 hel HU3
        obtain ⟨W4, hW4⟩ : ∃ W4, W4 = w3.alloc (.cells #[v3] 23) := ⟨_, rfl⟩
        have hal : Below w3.heap.size w3 W4 := by rw [hW4]; exact (Below.refl _ _).alloc (Nat.le_refl _) _
        have HO4 := hid (hO3.below hal)
        have HE4 := hid (hel.below hal)
        have HR4 := hid (hr3.grow hal)
        have HB4 := hid (hB3.trans (hal.mono hB3.size))
        rw [hW4] at HO4 HE4 HR4 HB4
        have hll : 8 * ls.length ≤ raw.length + 8 := HU.out.1
        clear hO3 hel hr3 hB3 hown3 hal hW4 W4 hb3 hg3 hBle et el
        subst e3
        go_wp2_with (at_builtin; refine wpList_append_OWL (w0 := w) rfl _ _ rfl _ ls rfl HO4.out ⟨w3.heap.size, 0, none⟩ 1 1 [_] [l3] rfl rfl rfl (cell_one_new _ _ _) ?q1 ?q2 ?q3 ?q4 ?_)
        case q1 => intro j hj; have : j = 0 := by omega
                   subst this; exact HE4.out
        case q2 => intro u hu; simp only [List.mem_singleton] at hu; subst hu; rfl
        case q3 => omega
        case q4 => exact HB4.out.size
        intro v5 w5 hO5 hg5 hbk
        have HO5 := hid hO5
        have HR5 := hid (HR4.out.grownOther hg5 (fun k e => (hbk k e).2))
        have HB5 := hid (HB4.out.grown hg5 HB4.out.size (fun k e => (hbk k e).1))
        clear hO5 hg5 hbk
        have HM : Hid (lenAt w5 g < lenAt wr g) := by
          show _ < _
          rw [HR5.out.lenAt, HR.out.lenAt, List.length_drop]
          omega
        go_wp2
        exact ⟨⟨_, _, _, HO5, HR5, HB5, HU3⟩, HM.out⟩
    · have hd : decide (0 < (l.length : Int)) = false := decide_eq_false (by omega)
      have hl : l = [] := List.length_eq_zero_iff.1 (by omega)
      subst hl
      go_wp2_with fail
      refine (end_any wr g true f [] HR.out).mono ?_
      rintro e w1' ⟨rfl, hw⟩
      have hw' := hw.symm
      subst hw'
      clear hw
      cases f with
      | true =>
        have HA : Hid (UAns w wr raw (.slice none 0 0) 13) := .inr ⟨rfl, rfl, (HU.out.2.2.2.2 rfl).2⟩
        rw [show endNo true true [] = 10 from rfl]
        go_wp2
        go_ret2
        exact ⟨_, _, rfl, HA.out, HBw.out⟩
      | false =>
        have HA : Hid (UAns w wr raw u4 0) := .inl ⟨rfl, ls, HO.out, HU.out.2.2.1, by have := HU.out.2.2.2.1 rfl; rw [this, List.append_nil]⟩
        rw [show endNo true false [] = 0 from rfl]
        go_wp2
        go_ret2
        exact ⟨_, _, rfl, HA.out, HBw.out⟩
theorem run_append_byte (w : World) (base : Nat) (ty : TypeId) (v : Value) (n : Nat) (xs : List Value) (hown : w.ownsRow base 5 1 v n xs) (a : Addr) (c : Nat) (x : Int) (hx : w.cell? a = some (.int .u8 x)) (hn : n + 1 ≤ 140737488355328) (hbase : base ≤ w.heap.size) :
    ∃ v' w', (Builtin.append_ #[23, 23] ty #[v, .slice (some a) 1 c]).run Try.prog w = .ok v' w' ∧ w'.ownsRow base 5 1 v' (n + 1) (xs ++ [.int .u8 x]) ∧ w.grownBy w' v.ownBlock ∧
      (v'.ownBlock = v.ownBlock ∨ (v'.ownBlock = some w.heap.size ∧ w.grownBy w' none)) := by
  obtain ⟨i0, hi, hz0, hz1, hz2⟩ := info_parts info_u8
  have hnews : ∀ j u, [Value.int .u8 x][j]? = some u → w.cell? (a.add j) = some u := by
    intro j u hj
    match j, hj with
    | 0, hj => simp at hj; subst hj; simpa [Addr.add] using hx
  have h1 : ∀ u ∈ [Value.int .u8 x], u.oneCell' = true := by intro u hu; simp at hu; subst hu; rfl
  obtain ⟨v', w', hr, h2, h3, _⟩ := run_append_own (P := Try.prog) w base 23 ty 5 i0 (.int .u8 0) 1 1 Try.underlying23 hi hz0 hz1 hz2 rfl (by decide) v n xs hown a 1 c [.int .u8 x] rfl hnews h1 (by unfold maxLen; omega) (by omega) hbase
  refine ⟨v', w', hr, h2, h3, ?_⟩
  rcases hown.2 with ⟨rfl, rfl⟩ | ⟨g, cap, cur, rfl, hbg, hg, hnc, hcm, hcs, htake⟩
  · have hr2 := run_append_nil (P := Try.prog) w 23 ty 5 i0 (.int .u8 0) Try.underlying23 hi hz0 a 1 c [.int .u8 x] (by rw [hz1]; rfl) hnews (by omega) (by omega) (by rw [hz2]; omega)
    rw [hr] at hr2
    simp only [Result.ok.injEq] at hr2
    obtain ⟨rfl, rfl⟩ := hr2
    exact .inr ⟨rfl, ⟨rfl, rfl, rfl, by simp, fun k hk _ => heap_alloc_old w.drew _ hk⟩⟩
  · by_cases hroom : n + 1 ≤ cap
    · obtain ⟨w2, hr2, _⟩ := run_append_fits (P := Try.prog) w base 23 ty 5 i0 1 Try.underlying23 hi hz1 g n cap xs hown a 1 c [.int .u8 x] rfl hnews h1 hroom
      rw [hr] at hr2
      simp only [Result.ok.injEq] at hr2
      obtain ⟨rfl, rfl⟩ := hr2
      exact .inl rfl
    · have hr2 := run_append_grow (P := Try.prog) w 23 ty 5 i0 (.int .u8 0) Try.underlying23 hi hz0 ⟨g, 0, none⟩ n cap xs (by rw [hz1]; exact hown.1) (hown.cells (g := g) rfl) a 1 c [.int .u8 x] (by rw [hz1]; rfl) hnews (by omega) (by omega) (growslice_fits (by omega) (by rw [hz2]; omega))
      rw [hr] at hr2
      simp only [Result.ok.injEq] at hr2
      obtain ⟨rfl, rfl⟩ := hr2
      exact .inr ⟨rfl, ⟨rfl, rfl, rfl, by simp, fun k hk _ => heap_alloc_old w.drew _ hk⟩⟩
theorem wpList_append_byte {w : World} {ops : Array Oper} {rest : List Oper} {o : Oper} {a : Act} {Q : Exit → Act → World → Prop} (hgd : o.guard = none) (s x : Operand)
    (ho : o.op = .call { callee := .builtin .append, args := #[s, x], argTypes := #[23, 23] })
    (base : Nat) (v : Value) (n : Nat) (xs : List Value) (hs : a.eval s = v) (hown : w.ownsRow base 5 1 v n xs)
    (ad : Addr) (c : Nat) (y : Int) (hx : a.eval x = .slice (some ad) 1 c) (hy : w.cell? ad = some (.int .u8 y)) (hn : n + 1 ≤ 140737488355328) (hbase : base ≤ w.heap.size)
    (h : ∀ v' w', w'.ownsRow base 5 1 v' (n + 1) (xs ++ [.int .u8 y]) → w.grownBy w' v.ownBlock → (v'.ownBlock = v.ownBlock ∨ (v'.ownBlock = some w.heap.size ∧ w.grownBy w' none)) → wpList Try.prog ops Q rest (a.put o.dst v') w') : wpList Try.prog ops Q (o :: rest) a w := by
  refine wpList_plain hgd fun K hK => ?_
  obtain ⟨v', w', hr, h2, h3, h4⟩ := run_append_byte w base o.type v n xs hown ad c y hy hn hbase
  unfold Oper.wp execOp
  simp only [ho, resolve, invoke, builtin, Sem.run_bind, Sem.run_pure, Result.andThen_ok, List.map_toArray, List.map_cons, List.map_nil, hs, hx, hr]
  exact hK _ _ (h v' w' h2 h3 h4)
end Go.Proofs.Ytjmihehihjbgpaa
