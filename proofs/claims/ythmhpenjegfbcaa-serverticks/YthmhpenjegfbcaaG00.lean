/- Of the road to serverTicksUpto_holds: Base, Opens, U8, SvRq, OpensRq, HpS0, Owns, SvLz, SvDel, SvEnd, SvMap. -/
import Derived.WalkKit
import Derived.WalkSpells
import Derived.WalkLawsBesides
import Derived.Deep.QuietTactic
import Derived.BigQuiet
import Derived.Test.YthmhpenjegfbcaaRows
import Derived.ProofKit
import Derived.OpenShut
import Derived.ShutString
import Derived.ChangeOld
import Derived.Deep.Slices
import Derived.JoinedCond
import Derived.SizedLaws
import Derived.Test.YthmhpenjegfbcaaChecked
import Derived.Laws.StructEq
import Derived.Laws.AppendOwnNone
import Derived.Deep.MidRow
import Derived.Laws.CopyRow
import Derived.Shelf.Abstract
import Derived.DeepKeys5
import Derived.MapKept
set_option linter.unusedVariables false
set_option linter.unusedSimpArgs false
namespace Go.Proofs.Ythmhpenjegfbcaa
open Go.RowKit
theorem hid {p : Prop} (h : p) : Hid p := h
def HB (w : World) (v : Value) (l : List Int) : Prop :=
  (∃ (p : Option Addr) (c : Nat), v = .slice p l.length c ∧ l.length ≤ c ∧ c ≤ maxLen ∧ (p = none → c = 0) ∧
    (l ≠ [] → ∃ b off, p = some ⟨b, off, none⟩ ∧ ∀ j, j < l.length → w.cell? ⟨b, off + j, none⟩ = some (.int .u8 (l.getD j 0)))) ∧ ∀ x ∈ l, 0 ≤ x ∧ x < 256
theorem HB.open {w : World} {v : Value} {l : List Int} (h : HB w v l) : ∃ (p : Option Addr) (c : Nat), v = .slice p l.length c ∧ l.length ≤ c ∧ c ≤ maxLen := by
  obtain ⟨⟨p, c, h1, h2, h3, _⟩, _⟩ := h
  exact ⟨p, c, h1, h2, h3⟩
theorem HB.ne {w : World} {v : Value} {l : List Int} (h : HB w v l) (hl : 0 < l.length) :
    ∃ b off c, v = .slice (some ⟨b, off, none⟩) l.length c ∧ l.length ≤ c ∧ c ≤ maxLen ∧ ∀ j, j < l.length → w.cell? ⟨b, off + j, none⟩ = some (.int .u8 (l.getD j 0)) := by
  obtain ⟨⟨p, c, h1, h2, h3, _, h4⟩, _⟩ := h
  obtain ⟨b, off, rfl, hc⟩ := h4 (by intro e; subst e; simp at hl)
  exact ⟨b, off, c, h1, h2, h3, hc⟩
theorem HB.byte {w : World} {v : Value} {l : List Int} (h : HB w v l) (j : Nat) : 0 ≤ l.getD j 0 ∧ l.getD j 0 < 256 := by
  by_cases hj : j < l.length
  · have e : l.getD j 0 = l[j] := by simp [List.getD, List.getElem?_eq_getElem hj]
    rw [e]
    exact h.2 _ (List.getElem_mem hj)
  · have e : l.getD j 0 = 0 := by simp [List.getD, List.getElem?_eq_none (by omega : l.length ≤ j)]
    rw [e]; omega
theorem HB.later {w w' : World} {v : Value} {l : List Int} (h : HB w v l) (hc : ∀ a (n : Int), w.cell? a = some (.int .u8 n) → w'.cell? a = some (.int .u8 n)) : HB w' v l := by
  obtain ⟨⟨p, c, h1, h2, h3, h6, h4⟩, h5⟩ := h
  refine ⟨⟨p, c, h1, h2, h3, h6, fun hl => ?_⟩, h5⟩
  obtain ⟨b, off, e, hh⟩ := h4 hl
  exact ⟨b, off, e, fun j hj => hc _ _ (hh j hj)⟩
theorem HB.below {w w' : World} {v : Value} {l : List Int} (h : HB w v l) (hb : Below w.heap.size w w') : HB w' v l :=
  h.later fun a _ hx => (hb.cell (World.block_lt_of_cell? w a hx)).trans hx
theorem HB.drewN {w : World} {v : Value} {l : List Int} (h : HB w v l) (q : Nat) : HB (w.drewN q) v l := h.later fun _ _ hx => hx
theorem getD_of_lt {l : List Int} {k : Nat} (h : k < l.length) : l.getD k 0 = l[k] := by simp [List.getD, List.getElem?_eq_getElem h]
theorem ownsRow_cells {w : World} {B : Nat} {e : TypeId} {v : Value} {n : Nat} {xs : List Value} (h : w.ownsRow B e 1 v n xs) (h0 : 0 < n) :
    ∃ g cap, v = .slice (some ⟨g, 0, none⟩) n cap ∧ B ≤ g ∧ n ≤ cap ∧ cap ≤ maxLen ∧ ∀ j u, xs[j]? = some u → w.cell? ⟨g, 0 + j, none⟩ = some u := by
  have hc := @World.ownsRow.cells w B e 1 v n xs h
  rcases h.2 with ⟨_, e0⟩ | ⟨g, cap, cur, rfl, hb, _, hn, hm, _, _⟩
  · omega
  · refine ⟨g, cap, rfl, hb, hn, hm, fun j u hj => ?_⟩
    have := @hc g rfl j u hj
    rwa [Go.WideShapes.add_plain] at this
theorem HB.of_own {w : World} {B : Nat} {e : TypeId} {v : Value} {l : List Int} (h : w.ownsRow B e 1 v l.length (l.map (Value.int .u8))) (hx : ∀ x ∈ l, 0 ≤ x ∧ x < 256) : HB w v l := by
  refine ⟨?_, hx⟩
  by_cases h0 : 0 < l.length
  · obtain ⟨g, cap, rfl, _, hn, hm, hc⟩ := ownsRow_cells h h0
    refine ⟨_, cap, rfl, hn, hm, (fun e => by cases e), fun _ => ⟨g, 0, rfl, fun j hj => ?_⟩⟩
    exact hc j _ (by simp [List.getD, List.getElem?_eq_getElem hj])
  · have e : l = [] := List.length_eq_zero_iff.1 (by omega)
    subst e
    rcases h.2 with ⟨rfl, _⟩ | ⟨g, cap, cur, rfl, _, _, hn, hm, _⟩
    · exact ⟨none, 0, rfl, Nat.le_refl _, Nat.zero_le _, fun _ => rfl, fun h => absurd rfl h⟩
    · exact ⟨_, cap, rfl, hn, hm, (fun e => by cases e), fun h => absurd rfl h⟩
theorem HB.grown {w w' : World} {v : Value} {l : List Int} {g : Nat} (h : HB w v l) (hg : w.grownBy w' (some g)) (hn : ∀ o sp (n : Int), w.cell? ⟨g, o, sp⟩ ≠ some (.int .u8 n)) : HB w' v l :=
  h.later fun a n hx => hg.cell hx (by
    intro e
    obtain ⟨b, o, sp⟩ := a
    simp only [Option.some.injEq] at e
    subst e
    exact hn o sp n hx)
theorem HB.nil (w : World) : HB w (.slice none 0 0) [] := ⟨⟨none, 0, rfl, Nat.zero_le _, Nat.zero_le _, fun _ => rfl, fun h => absurd rfl h⟩, by simp⟩
def BT (w : World) (g : Nat) (T : TypeId) : Prop := ∃ cur fz, w.heap[g]? = some (.cells cur T fz)
def HL (w : World) (v : Value) (ls : List (List Int)) : Prop :=
  ∃ (p : Option Addr) (c : Nat), v = .slice p ls.length c ∧ ls.length ≤ c ∧ c ≤ maxLen ∧ (p = none → c = 0) ∧
    (ls ≠ [] → ∃ b off, p = some ⟨b, off, none⟩ ∧ ∀ j, j < ls.length → ∃ u, w.cell? ⟨b, off + j, none⟩ = some u ∧ HB w u (ls.getD j []))
theorem HL.ne {w : World} {v : Value} {ls : List (List Int)} (h : HL w v ls) (hl : 0 < ls.length) :
    ∃ b off c, v = .slice (some ⟨b, off, none⟩) ls.length c ∧ ls.length ≤ c ∧ c ≤ maxLen ∧ ∀ j, j < ls.length → ∃ u, w.cell? ⟨b, off + j, none⟩ = some u ∧ HB w u (ls.getD j []) := by
  obtain ⟨p, c, h1, h2, h3, _, h4⟩ := h
  obtain ⟨b, off, rfl, hc⟩ := h4 (by intro e; subst e; simp at hl)
  exact ⟨b, off, c, h1, h2, h3, hc⟩
theorem HL.open {w : World} {v : Value} {ls : List (List Int)} (h : HL w v ls) : ∃ (p : Option Addr) (c : Nat), v = .slice p ls.length c ∧ ls.length ≤ c ∧ c ≤ maxLen := by
  obtain ⟨p, c, h1, h2, h3, _⟩ := h
  exact ⟨p, c, h1, h2, h3⟩
theorem HL.later {w w' : World} {v : Value} {ls : List (List Int)} (h : HL w v ls) (hc : ∀ a x, w.cell? a = some x → w'.cell? a = some x) : HL w' v ls := by
  obtain ⟨p, c, h1, h2, h3, h5, h4⟩ := h
  refine ⟨p, c, h1, h2, h3, h5, fun hl => ?_⟩
  obtain ⟨b, off, e, hh⟩ := h4 hl
  refine ⟨b, off, e, fun j hj => ?_⟩
  obtain ⟨u, hu, hb⟩ := hh j hj
  exact ⟨u, hc _ _ hu, hb.later fun a n => hc a _⟩
theorem HL.below {w w' : World} {v : Value} {ls : List (List Int)} (h : HL w v ls) (hb : Below w.heap.size w w') : HL w' v ls :=
  h.later fun a _ hx => (hb.cell (World.block_lt_of_cell? w a hx)).trans hx
theorem HL.byt {w : World} {v : Value} {ls : List (List Int)} (h : HL w v ls) : ∀ x ∈ ls.flatten, 0 ≤ x ∧ x < 256 := by
  intro x hx
  obtain ⟨l, hl, hxl⟩ := List.mem_flatten.1 hx
  obtain ⟨j, hj, rfl⟩ := List.getElem_of_mem hl
  obtain ⟨b, off, c, _, _, _, hh⟩ := h.ne (by omega)
  obtain ⟨u, _, hb⟩ := hh j hj
  have e : ls.getD j [] = ls[j] := by simp [List.getD, List.getElem?_eq_getElem hj]
  rw [e] at hb
  exact hb.2 x hxl
theorem HL.nil (w : World) : HL w (.slice none 0 0) [] := ⟨none, 0, rfl, Nat.zero_le _, Nat.zero_le _, fun _ => rfl, fun h => absurd rfl h⟩
def Dr (w w' : World) : Prop := ∃ q, w' = w.drewN q
theorem Dr.refl (w : World) : Dr w w := ⟨0, rfl⟩
theorem Dr.drewN {w u : World} (h : Dr w u) (n : Nat) : Dr w (u.drewN n) := by
  obtain ⟨q, rfl⟩ := h
  exact ⟨q + n, World.drewN_drewN w q n⟩
theorem Dr.one (w : World) (n : Nat) : Dr w (w.drewN n) := ⟨n, rfl⟩
theorem Dr.trans {a b c : World} (h : Dr a b) (k : Dr b c) : Dr a c := by
  obtain ⟨q, rfl⟩ := k
  exact h.drewN q
theorem Dr.cell {w w' : World} (h : Dr w w') (a : Addr) : w'.cell? a = w.cell? a := by obtain ⟨q, rfl⟩ := h; rfl
theorem Dr.heap {w w' : World} (h : Dr w w') : w'.heap = w.heap := by obtain ⟨q, rfl⟩ := h; rfl
theorem Dr.below {w w' : World} (h : Dr w w') (B : Nat) : Below B w w' := by obtain ⟨q, rfl⟩ := h; exact ⟨rfl, rfl, rfl, Nat.le_refl _, fun _ _ => rfl⟩
theorem HB.dr {w w' : World} {v : Value} {l : List Int} (h : HB w v l) (d : Dr w w') : HB w' v l := h.later fun a _ hx => (d.cell a).trans hx
theorem HL.dr {w w' : World} {v : Value} {ls : List (List Int)} (h : HL w v ls) (d : Dr w w') : HL w' v ls := h.below (d.below _)
end Go.Proofs.Ythmhpenjegfbcaa
namespace Go.Proofs.Ythmhpenjegfbcaa
open Go.ChangeShapes Go.WideShapes Go.ChangeAt Go.RowKit
theorem Opn.own : ownKnob Try.prog.godebug = none := by kernel_rfl
theorem Opn.laidOut : laidOutB Try.prog = true := by kernel_rfl
theorem Opn.cells_u8 : Try.prog.cellsOf 5 = 1 := by kernel_rfl
theorem Opn.cells_int : Try.prog.cellsOf 3 = 1 := by kernel_rfl
theorem bulk_pos {H : Type} (d : DataW H) : 1 ≤ Rows.uptoBulk d := by
  cases d with
  | lit l => cases l <;> simp [Rows.uptoBulk]
  | _ => simp [Rows.uptoBulk]
theorem bulk_len {H : Type} (l : List (DataW H)) : l.length ≤ Rows.uptoBulkAll l := by
  induction l with
  | nil => simp
  | cons x r ih => have := bulk_pos x; simp only [Rows.uptoBulkAll, List.length_cons]; omega
theorem bulk_slice {H : Type} (a b : List (DataW H)) : a.length + b.length + 1 ≤ Rows.uptoBulk (.slice a b) := by
  have h1 := bulk_len a
  have h2 := bulk_len b
  simp only [Rows.uptoBulk]
  omega
theorem bulk_all {H : Type} {l : List (DataW H)} (hk : Rows.uptoSmall H l = true) : Rows.uptoBulkAll l ≤ 1048576 := of_decide_eq_true hk
variable {H : Type} {enc : TypeId × Value → H} {W : World}
theorem open_row {k : IntKind} {t e : TypeId} {fuel base : Nat} {cs : List Value} {d : DataW H} {p : List MemPlace} (ht : Try.prog.underlying t = some (.slice e)) (he : Try.prog.underlying e = some (.int k)) (hc : Try.prog.cellsOf e = 1)
    (hf : DataW.trod enc Try.prog W base (fun _ => true) true fuel t cs = some (d, p)) :
    ∃ (q : Option Addr) (c : Nat) (l : List Int), cs = [.slice q l.length c] ∧ l.length ≤ c ∧ c ≤ maxLen ∧ (q = none → c = 0) ∧ (l ≠ [] → ∃ b off, q = some ⟨b, off, none⟩ ∧ ∀ j, j < l.length → W.cell? ⟨b, off + j, none⟩ = some (.int k (l.getD j 0))) ∧ (∀ n ∈ l, (Lit.int k n).wf = true) ∧ l.length + 1 ≤ Rows.uptoBulk d := by
  rcases open_ints ht he hc hf with ⟨rfl, hx⟩ | ⟨x, len, cap, zs, rfl, _, hl, hm, hz, hx, hcell, hwz⟩
  · cases hx
    exact ⟨none, 0, [], rfl, Nat.le_refl _, Nat.zero_le _, fun _ => rfl, fun h => absurd rfl h, by simp, by simp [Rows.uptoBulk]⟩
  · simp only [Prod.mk.injEq] at hx
    obtain ⟨rfl, _⟩ := hx
    simp only [if_true] at hz
    have hlen : (zs.take len).length = len := by simp; omega
    refine ⟨some x, cap, zs.take len, by rw [hlen], by omega, hm, (fun e => by cases e), fun hne => ?_, fun n hn => hwz n (List.mem_of_mem_take hn), ?_⟩
    · have h0 : 0 < len := by
        apply Classical.byContradiction
        intro h
        exact hne (List.length_eq_zero_iff.1 (by omega))
      obtain ⟨b, off, rfl, hh⟩ := ints_at hcell (by omega)
      refine ⟨b, off, rfl, fun j hj => ?_⟩
      rw [hlen] at hj
      rw [hh j (by omega)]
      simp only [List.getD, List.getElem?_take]
      rw [if_pos hj]
    · have := bulk_slice (lits (H := H) k (zs.take len)) (lits k (zs.drop len))
      simp only [lits, List.length_map] at this ⊢
      omega
theorem byte_wf {l : List Int} (h : ∀ n ∈ l, (Lit.int .u8 n).wf = true) : ∀ x ∈ l, 0 ≤ x ∧ x < 256 := by
  intro x hx
  have := bounds_u8 (h x hx)
  omega
theorem open_HB {base : Nat} {v : Value} {d : DataW H} {p : List MemPlace} (h : DataW.Trod enc Try.prog W base (fun _ => true) true 31 v d p) (hv : ∃ a n c, v = .slice a n c) : ∃ l, HB W v l ∧ l.length + 1 ≤ Rows.uptoBulk d := by
  obtain ⟨a, n, c, rfl⟩ := hv
  obtain ⟨fuel, hf⟩ := h
  obtain ⟨q, c', l, hcs, h1, h2, h3, h4, h5, h6⟩ := open_row Try.underlying31 Try.underlying5 Opn.cells_u8 hf
  simp only [Value.cells, List.cons.injEq, and_true] at hcs
  exact ⟨l, ⟨⟨q, c', hcs, h1, h2, h3, h4⟩, byte_wf h5⟩, h6⟩
theorem Opn.bytes_u8 : Try.prog.bytesOf 5 = 1 := by kernel_rfl
theorem len_reach {ts : List TypeId} {ds : List (DataW H)} {j base : Nat} {v : Value} {d : DataW H} {p : List MemPlace} {l : List Int} (h : (DataW.weightsEach Try.prog ts ds).all (· ≤ reachBytes) = true) (ht : ts[j]? = some 31) (hd : ds[j]? = some d)
    (hT : DataW.Trod enc Try.prog W base (fun _ => true) true 31 v d p) (hb : HB W v l) : l.length ≤ 140737488351232 := by
  obtain ⟨q, c, rfl, _, _⟩ := hb.open
  obtain ⟨fuel, hf⟩ := hT
  rcases open_ints Try.underlying31 Try.underlying5 Opn.cells_u8 hf with ⟨hcs, _⟩ | ⟨x, len, cap, zs, hcs, _, hl, hm, hz, hx, _, _⟩
  · simp only [Value.cells, List.cons.injEq, and_true, Value.slice.injEq] at hcs
    omega
  · simp only [Value.cells, List.cons.injEq, and_true, Value.slice.injEq] at hcs
    simp only [Prod.mk.injEq] at hx
    obtain ⟨rfl, _⟩ := hx
    have := sized_slice h ht hd Try.underlying31
    rw [Opn.bytes_u8] at this
    simp only [lits, List.length_map, List.length_take, List.length_drop, reachBytes, if_true] at this hz
    omega
theorem bulk_mem {H : Type} {d : DataW H} {l : List (DataW H)} (h : d ∈ l) : Rows.uptoBulk d ≤ Rows.uptoBulkAll l := by
  induction l with
  | nil => cases h
  | cons x r ih =>
    simp only [Rows.uptoBulkAll]
    rcases List.mem_cons.1 h with e | e
    · subst e; omega
    · have := ih e; omega
theorem bulk_sum {H : Type} : ∀ (n : Nat) (D : Nat → DataW H) (L : Nat → List Int), (∀ i, i < n → (L i).length + 1 ≤ Rows.uptoBulk (D i)) → ((List.range n).map L).flatten.length + n ≤ Rows.uptoBulkAll ((List.range n).map D)
  | 0, _, _, _ => by simp [Rows.uptoBulkAll]
  | n + 1, D, L, h => by
    have ih := bulk_sum n (fun i => D (i + 1)) (fun i => L (i + 1)) (fun i hi => h (i + 1) (by omega))
    have h0 := h 0 (by omega)
    rw [List.range_succ_eq_map]
    simp only [List.map_cons, List.map_map, List.flatten_cons, List.length_append, Rows.uptoBulkAll]
    have e1' : (List.range n).map (L ∘ Nat.succ) = (List.range n).map (fun i => L (i + 1)) := rfl
    have e2' : (List.range n).map (D ∘ Nat.succ) = (List.range n).map (fun i => D (i + 1)) := rfl
    rw [e1', e2']
    omega
theorem choose_lists {P : Nat → List Int → Prop} (n : Nat) (h : ∀ i, i < n → ∃ l, P i l) : ∃ L : Nat → List Int, ∀ i, i < n → P i (L i) :=
  ⟨fun i => if hi : i < n then Classical.choose (h i hi) else [], fun i hi => by simp only [hi, dif_pos]; exact Classical.choose_spec (h i hi)⟩
theorem Opn.cells_bytes : Try.prog.cellsOf 31 = 1 := by kernel_rfl
end Go.Proofs.Ythmhpenjegfbcaa
namespace Go.Proofs.Ythmhpenjegfbcaa
open Go.RowKit
theorem info_u8 : (Try.prog.info? 5).map (fun i => (i.zero, i.size, i.bytes)) = some (some (.int .u8 0), 1, 1) := by kernel_rfl
theorem size_u8 : ∀ w, Sem.run Try.prog (Go.sizeOf 5) w = .ok 1 w := fun w => by
  obtain ⟨i0, hi, hz0, hz1, hz2⟩ := info_parts info_u8
  simp [Go.sizeOf, typeInfo, hi, hz1]
theorem eql_nil_bytes : ∀ (w : World) (a : Option Addr) (n c n' c' : Nat), (binOp .eql 31 (.slice a n c) (.slice none n' c')).run Try.prog w = .ok (.bool a.isNone) w :=
  fun w a n c n' c' => Lib.run_eql_slice_nil w _ _ a n c n' c' Try.underlying31
end Go.Proofs.Ythmhpenjegfbcaa
namespace Go.Proofs.Ythmhpenjegfbcaa
open Go Go.RowKit
theorem bel_drewN {B : Nat} {a w : World} (h : Below B a w) (q : Nat) : Below B a (w.drewN q) := ⟨h.os, h.tape, h.output, h.size, h.block⟩
theorem nat0 (n : Nat) : (((n : Int)) == 0) = decide (n = 0) := by by_cases h : n = 0 <;> simp [h]
structure Rq where
  k : Int
  ix : List Int
  nb : Int
  pl : Int
  ln : Int
  who : Int
  til : Int
def rqL (r : Rq) (v : Value) : List Value := .int .u8 r.k :: (r.ix.map (Value.int .u8) ++ [.int .i64 r.nb, .int .i64 r.pl, .int .i64 r.ln, .int .u32 r.who, .int .i64 r.til, v])
def rqA (r : Rq) (v : Value) : Array Value := (rqL r v).toArray
def Rq.ok (r : Rq) : Prop := r.ix.length = 16 ∧ ∀ x ∈ r.ix, 0 ≤ x ∧ x < 256
theorem rqA_size {r : Rq} (h : r.ok) (v : Value) : (rqA r v).size = 23 := by simp [rqA, rqL, h.1]
theorem rqA_17 {r : Rq} (h : r.ok) (v : Value) : (rqA r v)[17]? = some (.int .i64 r.nb) := by
  simp [rqA, rqL, h.1, List.getElem?_append_right]
theorem rqA_18 {r : Rq} (h : r.ok) (v : Value) : (rqA r v)[18]? = some (.int .i64 r.pl) := by
  simp [rqA, rqL, h.1, List.getElem?_append_right]
theorem rqA_19 {r : Rq} (h : r.ok) (v : Value) : (rqA r v)[19]? = some (.int .i64 r.ln) := by
  simp [rqA, rqL, h.1, List.getElem?_append_right]
theorem rqA_20 {r : Rq} (h : r.ok) (v : Value) : (rqA r v)[20]? = some (.int .u32 r.who) := by
  simp [rqA, rqL, h.1, List.getElem?_append_right]
theorem rqA_21 {r : Rq} (h : r.ok) (v : Value) : (rqA r v)[21]? = some (.int .i64 r.til) := by
  simp [rqA, rqL, h.1, List.getElem?_append_right]
theorem rqA_22 {r : Rq} (h : r.ok) (v : Value) : (rqA r v)[22]? = some (v) := by
  simp [rqA, rqL, h.1, List.getElem?_append_right]
def nbB (n : Int) : Bool := decide (0 ≤ n ∧ n < 255)
def tkB (t : Int) : Bool := decide (0 ≤ t ∧ t ≤ 1099511627776)
def stB (a n : Int) : Bool := decide (0 ≤ a ∧ a ≤ 33554432 ∧ 1 ≤ n ∧ n ≤ 131072)
def mayB (r : Rq) (n : Nat) : Bool :=
  if r.k = 1 then decide (r.nb = 0 ∧ r.pl = 0 ∧ r.ln = 0 ∧ r.who = 0 ∧ r.til = 0 ∧ n = 0)
  else if r.k = 2 then nbB r.nb && (decide (r.pl = 0 ∧ r.ln = 0) && (tkB r.til && decide (n ≤ 33554432)))
  else if r.k = 3 then nbB r.nb && (stB r.pl r.ln && decide (r.who = 0 ∧ r.til = 0 ∧ n = 0))
  else if r.k = 4 then decide (r.nb = 0 ∧ r.pl = 0 ∧ r.ln = 0) && (tkB r.til && decide (n = 0))
  else if r.k = 5 then decide (r.nb = 0 ∧ r.pl = 0 ∧ r.ln = 0 ∧ r.til = 0 ∧ n = 0)
  else false
set_option maxRecDepth 100000 in
set_option maxHeartbeats 4000000 in
theorem isNumber_any (w : World) (t : Int) : Calls Try.prog 44 #[.int .i64 t] w fun e w' => e = .returned (.bool (nbB t)) ∧ w' = w := by
  go_enter Try.func44, Try.ntmps44
  go_wp2
  all_goals go_ret
  all_goals (refine ⟨?_, rfl⟩; simp [nbB]; try omega)
set_option maxRecDepth 100000 in
set_option maxHeartbeats 4000000 in
theorem isTick_any (w : World) (t : Int) : Calls Try.prog 34 #[.int .i64 t] w fun e w' => e = .returned (.bool (tkB t)) ∧ w' = w := by
  go_enter Try.func34, Try.ntmps34
  go_wp2
  all_goals go_ret
  all_goals (refine ⟨?_, rfl⟩; simp [tkB]; try omega)
set_option maxRecDepth 100000 in
set_option maxHeartbeats 4000000 in
theorem isStretch_any (w : World) (a n : Int) : Calls Try.prog 45 #[.int .i64 a, .int .i64 n] w fun e w' => e = .returned (.bool (stB a n)) ∧ w' = w := by
  go_enter Try.func45, Try.ntmps45
  go_wp2
  all_goals go_ret
  all_goals (refine ⟨?_, rfl⟩; simp [stB]; try (first | omega | simp_all))
set_option maxRecDepth 100000 in
theorem eqF_lease (w : World) (a b c d : Int) : (Op.equalIn 10000 30 (.agg #[.int .u32 a, .int .i64 b]) (.agg #[.int .u32 c, .int .i64 d])).run Try.prog w = .ok (a == c && b == d) w := by
  rw [run_equalIn_struct w 9999 _ _ _ (by kernel_rfl) (by kernel_rfl)]
  have hf : ∃ f0 f1, (Try.prog.fieldsOf 30).toList = [f0, f1] ∧ f0.name ≠ "_" ∧ f0.type = 28 ∧ f0.offset = 0 ∧ f1.name ≠ "_" ∧ f1.type = 3 ∧ f1.offset = 1 := ⟨_, _, rfl, by decide, rfl, rfl, by decide, rfl, rfl⟩
  obtain ⟨f0, f1, e0, n0, t0, o0, n1, t1, o1⟩ := hf
  rw [e0]
  have p0 : ∀ x y : Int, (part 28 #[.int .u32 x, .int .i64 y] 0).run Try.prog w = .ok (.int .u32 x) w := fun x y => by simp [part]
  have p1 : ∀ x y : Int, (part 3 #[.int .u32 x, .int .i64 y] 1).run Try.prog w = .ok (.int .i64 y) w := fun x y => by simp [part]
  have i0 := fun x y => run_equalIn_int (P := Try.prog) w 9998 28 .u32 .u32 x y Try.underlying28
  have i1 := fun x y => run_equalIn_int (P := Try.prog) w 9998 3 .i64 .i64 x y Try.underlying3
  simp only [Op.eqFields, n0, n1, t0, t1, o0, o1, if_true, ne_eq, not_false_eq_true, Sem.run_bind, p0, p1, Result.andThen_ok, i0]
  cases h1 : (a == c) with
  | false => simp
  | true => cases h2 : (b == d) <;> simp [p1, i1, h2]
theorem run_eql_lease (w : World) (a b c d : Int) : (binOp .eql 30 (.agg #[.int .u32 a, .int .i64 b]) (.agg #[.int .u32 c, .int .i64 d])).run Try.prog w = .ok (.bool (a == c && b == d)) w := by
  rw [run_eql_struct, eqF_lease]
  rfl
theorem run_neq_lease (w : World) (a b c d : Int) : (binOp .neq 30 (.agg #[.int .u32 a, .int .i64 b]) (.agg #[.int .u32 c, .int .i64 d])).run Try.prog w = .ok (.bool (!(a == c && b == d))) w := by
  rw [run_neq_struct, eqF_lease]
  rfl
set_option maxRecDepth 100000 in
set_option maxHeartbeats 4000000 in
theorem may_any (w : World) (r : Rq) (hr : r.ok) (p : Option Addr) (n c : Nat) : Calls Try.prog 29 #[.agg (rqA r (.slice p n c))] w fun e w' => e = .returned (.bool (mayB r n)) ∧ Below w.heap.size w w' := by
  have C1 := hid isNumber_any
  have C2 := hid isTick_any
  have C3 := hid isStretch_any
  have q0 : (rqA r (.slice p n c))[0]? = some (.int .u8 r.k) := rfl
  have q17 := rqA_17 hr (.slice p n c)
  have q18 := rqA_18 hr (.slice p n c)
  have q19 := rqA_19 hr (.slice p n c)
  have q20 := rqA_20 hr (.slice p n c)
  have q21 := rqA_21 hr (.slice p n c)
  have q22 := rqA_22 hr (.slice p n c)
  have HS := hid (rqA_size hr (.slice p n c))
  obtain ⟨m, HM⟩ : ∃ x, Hid (rqA r (.slice p n c) = x) := ⟨_, rfl⟩
  rw [HM.out] at HS q0 q17 q18 q19 q20 q21 q22 ⊢
  have E : Hid (mayB r n = mayB r n) := rfl
  obtain ⟨k, ix, nb, pl, ln, who, til⟩ := r
  simp only at q0 q17 q18 q19 q20 q21 q22
  generalize hM : mayB ⟨k, ix, nb, pl, ln, who, til⟩ n = M
  have HMM := hid hM
  clear hM HM hr E
  have heq := run_eql_lease
  have HB := hid fun q => bel_drewN ((Below.refl w.heap.size w).alloc (Nat.le_refl _) (.cells m 33)) q
  cases hb : (pl == 0) <;> (
    go_enter Try.func29, Try.ntmps29
    go_wp2_with fail
    go_quiet (fail)
    go_wp2_with fail
    go_quiet (fail)
    go_wp2_with (first | (go_at_call 44; refine (C1.out _ _).mono ?_; rintro e w' ⟨rfl, hw'⟩; subst hw') | (go_at_call 34; refine (C2.out _ _).mono ?_; rintro e w' ⟨rfl, hw'⟩; subst hw') | (go_at_call 45; refine (C3.out _ _ _).mono ?_; rintro e w' ⟨rfl, hw'⟩; subst hw'))
    all_goals go_ret
    all_goals (refine ⟨?_, HB.out _⟩; rw [← HMM.out]; clear HB HMM C1 C2 C3 HS q0 q17 q18 q19 q20 q21 q22 heq; simp_all [mayB, nat0]; try omega))
end Go.Proofs.Ythmhpenjegfbcaa
namespace Go.Proofs.Ythmhpenjegfbcaa
open Go.ChangeShapes Go.WideShapes Go.ChangeAt Go.RowKit
theorem Opn.rq_types : Try.prog.cellTypes Try.prog.depth 33 = some ([25] ++ List.replicate 16 5 ++ [3, 3, 3, 28, 3, 31]) := by kernel_rfl
theorem Opn.rq_cells : Try.prog.cellsOf 33 = 23 := by kernel_rfl
theorem has_u8 {n : Int} (h : IntKind.u8.has n) : 0 ≤ n ∧ n < 256 := by
  simp only [IntKind.has, IntKind.min, IntKind.max, IntKind.signed, IntKind.bits] at h
  simp at h
  omega
set_option maxRecDepth 100000 in
theorem cell_int {W : World} {base : Nat} {t : TypeId} {k : IntKind} {v : Value} (hu : Try.prog.underlying t = some (.int k)) (h : Cell.okWide Try.prog W .any base t v) : ∃ n : Int, v = .int k n ∧ k.has n := by
  simp only [Cell.okWide, hu] at h
  cases v <;> simp only [Cell.ok, hu] at h
  obtain ⟨rfl, h6⟩ := h
  exact ⟨_, rfl, h6⟩
set_option maxRecDepth 100000 in
theorem cell_slice {W : World} {base : Nat} {t e : TypeId} {v : Value} (hu : Try.prog.underlying t = some (.slice e)) (h : Cell.okWide Try.prog W .any base t v) : ∃ p n c, v = .slice p n c := by
  simp only [Cell.okWide, hu] at h
  cases v <;> simp only [Cell.ok, hu] at h
  exact ⟨_, _, _, rfl⟩
set_option maxRecDepth 100000 in
theorem rq_at {W : World} {base o : Nat} {cs : Array Value} (h0 : ∀ i, i < 23 → ∃ v, cs[o + i]? = some v)
    (h : ∀ i v, i < 23 → cs[o + i]? = some v → ∃ u, ([25] ++ List.replicate 16 5 ++ [3, 3, 3, 28, 3, 31])[i]? = some u ∧ Cell.okWide Try.prog W .any base u v) :
    ∃ (r : Rq) (p : Option Addr) (n c : Nat), r.ok ∧ (IntKind.i64.has r.nb ∧ IntKind.i64.has r.pl ∧ IntKind.i64.has r.ln ∧ IntKind.u32.has r.who ∧ IntKind.i64.has r.til ∧ IntKind.u8.has r.k) ∧ ∀ i, i < 23 → cs[o + i]? = (rqL r (.slice p n c))[i]? := by
  have g : ∀ (i : Nat) (t : TypeId) (k : IntKind), i < 23 → Try.prog.underlying t = some (.int k) → ([25] ++ List.replicate 16 5 ++ [3, 3, 3, 28, 3, 31])[i]? = some t → ∃ n : Int, cs[o + i]? = some (.int k n) ∧ k.has n := fun i t k hi hu ht => by
    obtain ⟨v, hv⟩ := h0 i hi
    obtain ⟨u, h1, h2⟩ := h i v hi hv
    rw [ht] at h1
    cases h1
    obtain ⟨n, rfl, hn⟩ := cell_int hu h2
    exact ⟨n, hv, hn⟩
  obtain ⟨k, hk, wk⟩ := g 0 25 .u8 (by omega) Try.underlying25 rfl
  obtain ⟨nb, hnb, wnb⟩ := g 17 3 .i64 (by omega) Try.underlying3 rfl
  obtain ⟨pl, hpl, wpl⟩ := g 18 3 .i64 (by omega) Try.underlying3 rfl
  obtain ⟨ln, hln, wln⟩ := g 19 3 .i64 (by omega) Try.underlying3 rfl
  obtain ⟨who, hwho, wwho⟩ := g 20 28 .u32 (by omega) Try.underlying28 rfl
  obtain ⟨til, htil, wtil⟩ := g 21 3 .i64 (by omega) Try.underlying3 rfl
  obtain ⟨v22, h22⟩ := h0 22 (by omega)
  obtain ⟨u, h1, h2⟩ := h 22 v22 (by omega) h22
  cases h1
  obtain ⟨p, n, c, rfl⟩ := cell_slice Try.underlying31 h2
  have hx : ∀ j : Nat, ∃ x : Int, j < 16 → cs[o + (j + 1)]? = some (.int .u8 x) ∧ IntKind.u8.has x := fun j => by
    by_cases hj : j < 16
    · have ht : ([25] ++ List.replicate 16 5 ++ [3, 3, 3, 28, 3, 31])[j + 1]? = some 5 := by
        rcases (by omega : j = 0 ∨ j = 1 ∨ j = 2 ∨ j = 3 ∨ j = 4 ∨ j = 5 ∨ j = 6 ∨ j = 7 ∨ j = 8 ∨ j = 9 ∨ j = 10 ∨ j = 11 ∨ j = 12 ∨ j = 13 ∨ j = 14 ∨ j = 15) with rfl | rfl | rfl | rfl | rfl | rfl | rfl | rfl | rfl | rfl | rfl | rfl | rfl | rfl | rfl | rfl <;> rfl
      obtain ⟨x, hx, hw⟩ := g (j + 1) 5 .u8 (by omega) Try.underlying5 ht
      exact ⟨x, fun _ => ⟨hx, hw⟩⟩
    · exact ⟨0, fun q => absurd q hj⟩
  obtain ⟨f, hf⟩ : ∃ f : Nat → Int, ∀ j, j < 16 → cs[o + (j + 1)]? = some (.int .u8 (f j)) ∧ IntKind.u8.has (f j) := ⟨fun j => Classical.choose (hx j), fun j => Classical.choose_spec (hx j)⟩
  refine ⟨⟨k, (List.range 16).map f, nb, pl, ln, who, til⟩, p, n, c, ⟨by simp, fun x hx => ?_⟩, ⟨wnb, wpl, wln, wwho, wtil, wk⟩, fun i hi => ?_⟩
  · obtain ⟨j, hj, rfl⟩ := List.mem_map.1 hx
    exact has_u8 (hf j (List.mem_range.1 hj)).2
  · unfold rqL
    rcases Nat.eq_zero_or_pos i with rfl | hi0
    · exact hk
    · obtain ⟨j, rfl⟩ : ∃ j, i = j + 1 := ⟨i - 1, by omega⟩
      rw [List.getElem?_cons_succ]
      by_cases hj : j < 16
      · rw [List.getElem?_append_left (by simpa using hj), (hf j hj).1]
        simp [hj]
      · rw [List.getElem?_append_right (by simp; omega)]
        simp only [List.length_map, List.length_range]
        rcases (by omega : j = 16 ∨ j = 17 ∨ j = 18 ∨ j = 19 ∨ j = 20 ∨ j = 21) with rfl | rfl | rfl | rfl | rfl | rfl
        · exact hnb
        · exact hpl
        · exact hln
        · exact hwho
        · exact htil
        · exact h22
set_option maxRecDepth 100000 in
theorem open_rq {W : World} {base : Nat} {v : Value} (h : Value.okWide Try.prog W .any base 33 v) :
    ∃ (r : Rq) (p : Option Addr) (n c : Nat), r.ok ∧ (IntKind.i64.has r.nb ∧ IntKind.i64.has r.pl ∧ IntKind.i64.has r.ln ∧ IntKind.u32.has r.who ∧ IntKind.i64.has r.til ∧ IntKind.u8.has r.k) ∧ v = .agg (rqA r (.slice p n c)) := by
  simp only [Value.okWide, Try.underlying33] at h
  obtain ⟨cs, rfl, h1, ts, h2, _, h3⟩ := h
  rw [Opn.rq_types] at h2
  have hs : cs.size = 23 := by rw [← Opn.rq_cells]; exact h1
  obtain ⟨r, p, n, c, hr, hw, he⟩ := rq_at (W := W) (base := base) (o := 0) (cs := cs) (fun i hi => ⟨cs[0 + i]'(by omega), Array.getElem?_eq_getElem (by omega)⟩) (fun i v hi hv => by
    obtain ⟨u, q1, q2⟩ := h3 (0 + i) v hv
    rw [← (Option.some.inj h2)] at q1
    refine ⟨u, ?_, q2⟩
    rw [← q1]
    congr 1
    have : (0 + i) % ([25] ++ List.replicate 16 5 ++ [3, 3, 3, 28, 3, 31]).length = (0 + i) % 23 := rfl
    rw [this]
    omega)
  refine ⟨r, p, n, c, hr, hw, ?_⟩
  congr 1
  apply Array.ext_getElem?
  intro i
  by_cases hi : i < 23
  · have := he i hi
    rw [Nat.zero_add] at this
    rw [this]
    simp [rqA]
  · rw [Array.getElem?_eq_none (by omega), Array.getElem?_eq_none (by rw [rqA_size hr]; omega)]
end Go.Proofs.Ythmhpenjegfbcaa
namespace Go.Proofs.Ythmhpenjegfbcaa
open Go Go.RowKit
structure Ex (S : Nat → Prop) (w w' : World) : Prop where
  os : w'.os = w.os
  tape : w'.tape = w.tape
  output : w'.output = w.output
  size : w.heap.size ≤ w'.heap.size
  block : ∀ k, k < w.heap.size → ¬ S k → w'.heap[k]? = w.heap[k]?
theorem Ex.refl (S : Nat → Prop) (w : World) : Ex S w w := ⟨rfl, rfl, rfl, Nat.le_refl _, fun _ _ _ => rfl⟩
theorem Ex.trans {S S' : Nat → Prop} {a b c : World} (h : Ex S a b) (k : Ex S' b c) (hs : ∀ k, S' k → S k ∨ a.heap.size ≤ k) : Ex S a c :=
  ⟨k.os.trans h.os, k.tape.trans h.tape, k.output.trans h.output, Nat.le_trans h.size k.size, fun i hi hn => by
    rw [k.block i (Nat.lt_of_lt_of_le hi h.size) (fun q => by rcases hs i q with q | q; exact hn q; omega), h.block i hi hn]⟩
theorem Ex.mono {S S' : Nat → Prop} {a b : World} (h : Ex S a b) (hs : ∀ k, S k → S' k) : Ex S' a b := ⟨h.os, h.tape, h.output, h.size, fun k hk hn => h.block k hk fun q => hn (hs k q)⟩
theorem Ex.of_below {S : Nat → Prop} {a b : World} (h : Below a.heap.size a b) : Ex S a b := ⟨h.os, h.tape, h.output, h.size, fun k hk _ => h.block k hk⟩
theorem Ex.below {S : Nat → Prop} {a b : World} (h : Ex S a b) {B : Nat} (hB : B ≤ a.heap.size) (hs : ∀ k, S k → B ≤ k) : Below B a b := ⟨h.os, h.tape, h.output, h.size, fun k hk => h.block k (by omega) fun q => by have := hs k q; omega⟩
theorem Ex.drewN {S : Nat → Prop} {a b : World} (h : Ex S a b) (q : Nat) : Ex S a (b.drewN q) := ⟨h.os, h.tape, h.output, h.size, h.block⟩
theorem Ex.drew {S : Nat → Prop} {a b : World} (h : Ex S a b) : Ex S a b.drew := ⟨h.os, h.tape, h.output, h.size, h.block⟩
theorem Ex.grown {S : Nat → Prop} {a b : World} {r : Option Nat} (h : a.grownBy b r) (hs : ∀ k, r = some k → S k) : Ex S a b := ⟨h.os, h.tape, h.output, h.size, fun k hk hn => h.block k hk fun q => hn (hs k q.symm)⟩
theorem Ex.setCell {S : Nat → Prop} {a b : World} (h : Ex S a b) {x o : Nat} (hx : S x) (v : Value) : Ex S a (b.setCell ⟨x, o, none⟩ v) := by
  refine ⟨h.os, h.tape, h.output, by simpa [World.setCell] using h.size, fun k hk hn => ?_⟩
  rw [← h.block k hk hn]
  have : x ≠ k := fun q => hn (q ▸ hx)
  simp [World.setCell, Array.getElem?_modify, this]
theorem Ex.alloc {S : Nat → Prop} {a b : World} (h : Ex S a b) (o : Obj) : Ex S a (b.alloc o) :=
  ⟨h.os, h.tape, h.output, by have := h.size; show a.heap.size ≤ (b.heap.push o).size; rw [Array.size_push]; omega, fun k hk hn => by
    rw [← h.block k hk hn]
    have := h.size
    show (b.heap.push o)[k]? = _
    rw [Array.getElem?_push, if_neg (by omega)]⟩
theorem free_of {w : World} {b : Nat} {cs : Array Value} {T : TypeId} (h : w.heap[b]? = some (.cells cs T (0, 0))) (i : Nat) : w.frozen? ⟨b, i, none⟩ = false := by simp [World.frozen?, h]
end Go.Proofs.Ythmhpenjegfbcaa
namespace Go.Proofs.Ythmhpenjegfbcaa
open Go.RowKit
theorem own_mono {w : World} {B B' e n : Nat} {v : Value} {xs : List Value} (h : w.ownsRow B e 1 v n xs) (hb : B' ≤ B) : w.ownsRow B' e 1 v n xs := by
  refine ⟨h.1, ?_⟩
  rcases h.2 with h2 | ⟨g, cap, cur, h1, h2, h3⟩
  · exact .inl h2
  · exact .inr ⟨g, cap, cur, h1, Nat.le_trans hb h2, h3⟩
theorem own_slc {w : World} {B n : Nat} {e : TypeId} {v : Value} {xs : List Value} (h : w.ownsRow B e 1 v n xs) : ∃ p c, v = .slice p n c := by
  rcases h.2 with ⟨rfl, rfl⟩ | ⟨g, cap, cur, rfl, _⟩
  · exact ⟨none, 0, rfl⟩
  · exact ⟨_, _, rfl⟩
theorem none_or (z : Option Nat) : z = none ∨ z ≠ none := by cases z <;> simp
theorem own_below {w w' : World} {B n : Nat} {e : TypeId} {v : Value} {xs : List Value} (h : w.ownsRow B e 1 v n xs) (hb : Below w.heap.size w w') : w'.ownsRow B e 1 v n xs :=
  h.kept ⟨hb.os, hb.tape, hb.output, hb.size, fun k hk _ => hb.block k hk⟩ (none_or _)
theorem own_ne {w w' : World} {B B' n n' : Nat} {e e' : TypeId} {v v' : Value} {xs xs' : List Value} (h : w.ownsRow B e 1 v n xs) (h' : w'.ownsRow B' e' 1 v' n' xs') (hb : w.heap.size ≤ B') :
    (v.ownBlock = none ∨ v.ownBlock ≠ v'.ownBlock) ∧ (v'.ownBlock = none ∨ v'.ownBlock ≠ v.ownBlock) := by
  constructor
  · rcases none_or v.ownBlock with q | q
    · exact .inl q
    · refine .inr fun e => ?_
      obtain ⟨k, hk⟩ := Option.ne_none_iff_exists'.1 q
      have h1 := h.lt k hk
      have h2 := h'.lt k (e ▸ hk)
      omega
  · rcases none_or v'.ownBlock with q | q
    · exact .inl q
    · refine .inr fun e => ?_
      obtain ⟨k, hk⟩ := Option.ne_none_iff_exists'.1 q
      have h1 := h'.lt k hk
      have h2 := h.lt k (e ▸ hk)
      omega
end Go.Proofs.Ythmhpenjegfbcaa
namespace Go.Proofs.Ythmhpenjegfbcaa
open Go Go.RowKit
structure Lz where
  who : Int
  til : Int
deriving DecidableEq
instance : Inhabited Lz := ⟨⟨0, 0⟩⟩
def lzA (l : Lz) : Array Value := #[.int .u32 l.who, .int .i64 l.til]
def lzC (l : Lz) : List Value := [.int .u32 l.who, .int .i64 l.til]
def lzL (ls : List Lz) : List Value := ls.flatMap lzC
theorem lzL_length (ls : List Lz) : (lzL ls).length = 2 * ls.length := by
  induction ls with
  | nil => rfl
  | cons a l ih => simp [lzL, lzC, List.flatMap_cons] at ih ⊢; omega
theorem lzL_at (ls : List Lz) (i : Nat) (h : i < ls.length) : (lzL ls)[i * 2]? = some (.int .u32 ls[i].who) ∧ (lzL ls)[i * 2 + 1]? = some (.int .i64 ls[i].til) := by
  induction ls generalizing i with
  | nil => simp at h
  | cons a l ih =>
    cases i with
    | zero => exact ⟨rfl, rfl⟩
    | succ i =>
      have := ih i (by simpa using h)
      have e : lzL (a :: l) = .int .u32 a.who :: .int .i64 a.til :: lzL l := rfl
      rw [e, show (i + 1) * 2 = i * 2 + 1 + 1 by omega]
      simpa using this
structure Prd (fid : Nat) (fr : Array Value) (J : World → Prop) (U : Nat → Prop) (p : Lz → Bool) : Prop where
  ask : ∀ w l, J w → Calls Try.prog fid (#[.agg (lzA l)] ++ fr) w fun e w' => e = .returned (.bool (p l)) ∧ Below w.heap.size w w'
  stay : ∀ w w', J w → (∀ k, U k → w'.heap[k]? = w.heap[k]?) → J w'
  lt : ∀ w, J w → ∀ k, U k → k < w.heap.size
  ent : ∀ args w, (callFunc fid args).run Try.prog w = .ok (.enter fid args) w
theorem Prd.below {fid : Nat} {fr : Array Value} {J : World → Prop} {U : Nat → Prop} {p : Lz → Bool} (O : Prd fid fr J U p) {w w' : World} (h : J w) (hb : Below w.heap.size w w') : J w' := O.stay w w' h fun k hk => hb.block k (O.lt w h k hk)
def idxL (p : Lz → Bool) (ls : List Lz) : Int := match ls.findIdx? p with
  | some i => (i : Int)
  | none => -1
def HRl (w : World) (b : Nat) (ls : List Lz) : Prop := w.rangeAt b 0 (lzL ls)
theorem HRl.c {w : World} {b : Nat} {ls : List Lz} (h : HRl w b ls) {i : Nat} (hi : i < ls.length) : w.cell? ⟨b, i * 2, none⟩ = some (.int .u32 ls[i].who) ∧ w.cell? ⟨b, i * 2 + 1, none⟩ = some (.int .i64 ls[i].til) := by
  obtain ⟨h1, h2⟩ := lzL_at ls i hi
  have q1 := h _ _ h1
  have q2 := h _ _ h2
  rw [Nat.zero_add] at q1 q2
  exact ⟨q1, q2⟩
set_option maxRecDepth 100000 in
set_option maxHeartbeats 4000000 in
theorem indexFunc_any {fid : Nat} {fr : Array Value} {J : World → Prop} {U : Nat → Prop} {p : Lz → Bool} (O : Prd fid fr J U p) (w : World) (hJ : J w) (b cap : Nat) (ls : List Lz) (h : HRl w b ls) (hl : 0 < ls.length) (hm : ls.length ≤ 1048576) (hc : ls.length ≤ cap) (hbl : b < w.heap.size) :
    Calls Try.prog 72 #[.slice (some ⟨b, 0, none⟩) ls.length cap, .func (.func fid) #[] fr] w fun e w' => e = .returned (.int .i64 (idxL p ls)) ∧ Below w.heap.size w w' := by
  have HH := hid h
  have HJ := hid hJ
  clear h hJ
  go_enter Try.func72, Try.ntmps72
  go_wp2
  go_loopw [8] (fun i wr => ∃ k : Nat, k ≤ ls.length ∧ i = .int .i64 k ∧ (∀ j (hj : j < ls.length), j < k → p ls[j] = false) ∧ Below w.heap.size w wr) (fun i _ => ls.length - (intOf i).toNat)
  case atStart => exact ⟨0, Nat.zero_le _, rfl, fun j _ hj => by omega, Below.refl _ _⟩
  case round =>
    obtain ⟨k, hk, rfl, ht, hB⟩ := hrel
    have HT := hid ht
    clear ht
    by_cases hlt : k < ls.length
    · have J1 := hid (O.below HJ.out hB)
      obtain ⟨g1, g2⟩ := HH.out.c hlt
      have g1 := (hB.cell (p := ⟨b, k * 2, none⟩) hbl).trans g1
      have g2 := (hB.cell (p := ⟨b, k * 2 + 1, none⟩) hbl).trans g2
      have B1 := hid hB
      clear hB
      have hlt' : (k : Int) < (ls.length : Int) := by omega
      have CA := hid (O.ask wr ls[k] J1.out)
      unfold lzA at CA
      obtain ⟨x, hx⟩ : ∃ x, Hid (ls[k].who = x) := ⟨_, hid rfl⟩
      obtain ⟨y, hy⟩ : ∃ y, Hid (ls[k].til = y) := ⟨_, hid rfl⟩
      obtain ⟨z, hz⟩ : ∃ z, Hid (p ls[k] = z) := ⟨_, hid rfl⟩
      rw [hx.out] at g1 CA
      rw [hy.out] at g2 CA
      rw [hz.out] at CA
      go_wp2_with fail
      rw [O.ent, Oper.upon_enter]
      refine CA.out.mono ?_
      rintro e w1 ⟨rfl, hb1⟩
      have B2 := hid (B1.out.trans (hb1.mono B1.out.size))
      clear hb1
      cases z with
      | true =>
        go_wp2
        go_ret
        refine ⟨?_, B2.out⟩
        have e : ls.findIdx? p = some k := by
          rw [List.findIdx?_eq_some_iff_getElem]
          exact ⟨hlt, hz.out, fun j hj => by rw [HT.out j (by omega) hj]; simp⟩
        unfold idxL
        rw [e]
        rfl
      | false =>
        go_wp2
        refine ⟨⟨k + 1, by omega, by go_num, fun j hj hjk => ?_, B2.out⟩, by simp [intOf]; omega⟩
        by_cases e : j = k
        · subst e; exact hz.out
        · exact HT.out j hj (by omega)
    · have hk' : k = ls.length := by omega
      subst hk'
      have B1 := hid hB
      clear hB
      go_wp2
      go_ret
      refine ⟨?_, B1.out⟩
      have e : ls.findIdx? p = none := by
        rw [List.findIdx?_eq_none_iff]
        intro x hx
        obtain ⟨j, hj, rfl⟩ := List.getElem_of_mem hx
        rw [HT.out j hj hj]
      unfold idxL
      rw [e]
      rfl
def ORl (w : World) (b cap : Nat) (R : List Lz) : Prop := ∃ tl : List Value, w.heap[b]? = some (.cells (lzL R ++ tl).toArray 30 (0, 0)) ∧ R.length * 2 + tl.length = cap * 2
theorem ORl.rl {w : World} {b cap : Nat} {R : List Lz} (h : ORl w b cap R) : HRl w b R := by
  obtain ⟨tl, h1, h2⟩ := h
  intro j v hv
  rw [cell_of_row _ _ _ _ _ _ h1, Nat.zero_add]
  have hj := (List.getElem?_eq_some_iff.1 hv).1
  simp only [List.getElem?_toArray]
  rw [List.getElem?_append_left hj]
  exact hv
theorem ORl.lt {w : World} {b cap : Nat} {R : List Lz} (h : ORl w b cap R) : b < w.heap.size := by
  obtain ⟨tl, h1, h2⟩ := h
  exact (Array.getElem?_eq_some_iff.1 h1).1
theorem ORl.of {w w' : World} {b cap : Nat} {R : List Lz} (h : ORl w b cap R) (hb : w'.heap[b]? = w.heap[b]?) : ORl w' b cap R := by
  obtain ⟨tl, h1, h2⟩ := h
  exact ⟨tl, hb.trans h1, h2⟩
theorem ORl.le {w : World} {b cap : Nat} {R : List Lz} (h : ORl w b cap R) : R.length ≤ cap := by
  obtain ⟨tl, h1, h2⟩ := h
  omega
theorem lzL_append (a b : List Lz) : lzL (a ++ b) = lzL a ++ lzL b := by simp [lzL]
theorem lzL_set : ∀ (R : List Lz) (i : Nat) (l : Lz), ((lzL R).set (i * 2) (.int .u32 l.who)).set (i * 2 + 1) (.int .i64 l.til) = lzL (R.set i l)
  | [], _, _ => rfl
  | a :: r, 0, l => rfl
  | a :: r, i + 1, l => by
    have e : lzL (a :: r) = .int .u32 a.who :: .int .i64 a.til :: lzL r := rfl
    rw [e, show (i + 1) * 2 = i * 2 + 1 + 1 by omega]
    simp only [List.set_cons_succ]
    rw [lzL_set r i l]
    rfl
theorem heap_setCell {w : World} {b : Nat} {cs : Array Value} {T : TypeId} (h : w.heap[b]? = some (.cells cs T (0, 0))) (i : Nat) (v : Value) : (w.setCell ⟨b, i, none⟩ v).heap[b]? = some (.cells (cs.setIfInBounds i v) T (0, 0)) := by
  simp [World.setCell, Array.getElem?_modify, h]
theorem ORl.store {w : World} {b cap : Nat} {R : List Lz} (h : ORl w b cap R) {i : Nat} (hi : i < R.length) (l : Lz) : ORl ((w.setCell ⟨b, i * 2, none⟩ (.int .u32 l.who)).setCell ⟨b, i * 2 + 1, none⟩ (.int .i64 l.til)) b cap (R.set i l) := by
  obtain ⟨tl, h1, h2⟩ := h
  refine ⟨tl, ?_, by simpa using h2⟩
  rw [heap_setCell (heap_setCell h1 _ _)]
  congr 2
  apply Array.ext'
  have hl := lzL_length R
  simp only [List.setIfInBounds_toArray]
  rw [List.set_append_left _ _ (by omega), List.set_append_left _ _ (by rw [List.length_set]; omega), lzL_set]
def z2 (n : Nat) : List Value := lzL (List.replicate n ⟨0, 0⟩)
theorem z2_length (n : Nat) : (z2 n).length = 2 * n := by rw [z2, lzL_length, List.length_replicate]
theorem run_zero_lease (w : World) : (zeroValue 30).run Try.prog w = .ok (.agg #[.int .u32 0, .int .i64 0]) w := by kernel_rfl
theorem zeroCells2 (n : Nat) : (Builtin.zeroCells #[.int .u32 0, .int .i64 0] n).toList = z2 n := by
  apply List.ext_getElem?
  intro j
  by_cases hj : j < n * 2
  · have e1 : (Builtin.zeroCells #[.int .u32 0, .int .i64 0] n).toList[j]? = some (#[Value.int .u32 0, Value.int .i64 0][j % 2]!) := by simp [Builtin.zeroCells, hj]
    rw [e1, z2]
    have hi : j / 2 < (List.replicate n (⟨0, 0⟩ : Lz)).length := by rw [List.length_replicate]; omega
    obtain ⟨q1, q2⟩ := lzL_at (List.replicate n (⟨0, 0⟩ : Lz)) (j / 2) hi
    rw [List.getElem_replicate] at q1 q2
    rcases (by omega : j % 2 = 0 ∨ j % 2 = 1) with h | h
    · rw [show j / 2 * 2 = j by omega] at q1
      rw [q1, h]
      rfl
    · rw [show j / 2 * 2 + 1 = j by omega] at q2
      rw [q2, h]
      rfl
  · rw [List.getElem?_eq_none (by simp [Builtin.zeroCells]; omega), List.getElem?_eq_none (by rw [z2_length]; omega)]
theorem lz_one {x : Value} {R : List Lz} (h : x ∈ lzL R) : x.oneCell' = true := by
  unfold lzL at h
  rw [List.mem_flatMap] at h
  obtain ⟨l, _, hx⟩ := h
  simp only [lzC, List.mem_cons, List.not_mem_nil, or_false] at hx
  rcases hx with rfl | rfl <;> rfl
theorem ORl.clear {w : World} {b cap : Nat} {R : List Lz} (h : ORl w b cap R) {i : Nat} (hi : i < R.length) (ty : TypeId) (c : Nat) : ∃ w', (Builtin.clear_ #[58] ty #[.slice (some ⟨b, i * 2, none⟩) (R.length - i) c]).run Try.prog w = .ok (.tuple #[]) w' ∧ ORl w' b cap (R.take i) ∧ Ex (fun k => k = b) w w' := by
  obtain ⟨tl, h1, h2⟩ := h
  have hl := lzL_length R
  have hst := run_storeCells_at (P := Try.prog) b (i * 2) 30 (z2 (R.length - i)) 0 _ w h1 (by rw [List.size_toArray, List.length_append, z2_length]; omega) (fun v hv => lz_one hv)
  have e1 : (lzL R ++ tl).take (i * 2 + 0) = lzL (R.take i) := by
    have := lzL_append (R.take i) (R.drop i)
    rw [List.take_append_drop] at this
    rw [this, List.append_assoc, Nat.add_zero, List.take_append_of_le_length (by rw [lzL_length, List.length_take]; omega), List.take_of_length_le (by rw [lzL_length, List.length_take]; omega)]
  have e2 : (lzL R ++ tl).drop (i * 2 + 0 + (z2 (R.length - i)).length) = tl := by
    rw [z2_length, show i * 2 + 0 + 2 * (R.length - i) = (lzL R).length by omega, List.drop_left]
  simp only [List.toList_toArray] at hst
  rw [e1, e2] at hst
  refine ⟨w.setRow b (lzL (R.take i) ++ z2 (R.length - i) ++ tl).toArray, ?_, ⟨z2 (R.length - i) ++ tl, ?_, ?_⟩, ?_⟩
  · generalize (lzL (R.take i) ++ z2 (R.length - i) ++ tl).toArray = Y at hst ⊢
    obtain ⟨m, hm⟩ : ∃ m, R.length - i = m + 1 := ⟨R.length - i - 1, by omega⟩
    rw [hm] at hst ⊢
    simp [Builtin.clear_, run_underlying Try.underlying58, run_zero_lease, Value.cells, zeroCells2, hst]
  · rw [setRow_heap w b _ _ _ _ h1, List.append_assoc]
  · rw [List.length_append, z2_length, List.length_take]
    omega
  · refine ⟨rfl, rfl, rfl, by simp [World.setRow], fun k hk hn => ?_⟩
    simp [World.setRow, Array.getElem?_modify, Ne.symm hn]
def keptL (p : Lz → Bool) (ls : List Lz) : List Lz := ls.filter fun l => !p l
theorem keptL_none {p : Lz → Bool} {ls : List Lz} (h : ls.findIdx? p = none) : keptL p ls = ls := by
  rw [List.findIdx?_eq_none_iff] at h
  unfold keptL
  rw [List.filter_eq_self]
  intro x hx
  rw [h x hx]
  rfl
theorem keptL_take {p : Lz → Bool} {ls : List Lz} {i : Nat} (h : ls.findIdx? p = some i) : i < ls.length ∧ keptL p (ls.take (i + 1)) = ls.take i := by
  rw [List.findIdx?_eq_some_iff_getElem] at h
  obtain ⟨hi, h1, h2⟩ := h
  refine ⟨hi, ?_⟩
  have e : keptL p (ls.take i) = ls.take i := by
    unfold keptL
    rw [List.filter_eq_self]
    intro x hx
    obtain ⟨j, hj, rfl⟩ := List.getElem_of_mem hx
    have hj' : j < i := by simp at hj; omega
    have := h2 j hj'
    simp only [List.getElem_take]
    simpa using this
  rw [List.take_succ_eq_append_getElem hi]
  unfold keptL at e ⊢
  rw [List.filter_append, e]
  simp [h1]
theorem keptL_step {p : Lz → Bool} {ls : List Lz} {j : Nat} (hj : j < ls.length) : keptL p (ls.take (j + 1)) = keptL p (ls.take j) ++ (if p ls[j] then [] else [ls[j]]) := by
  rw [List.take_succ_eq_append_getElem hj]
  unfold keptL
  rw [List.filter_append]
  congr 1
  cases h : p ls[j] <;> simp [h]
set_option maxRecDepth 100000 in
set_option maxHeartbeats 8000000 in
theorem deleteFunc_any {fid : Nat} {fr : Array Value} {J : World → Prop} {U : Nat → Prop} {p : Lz → Bool} (O : Prd fid fr J U p) (w : World) (hJ : J w) (b cap : Nat) (ls : List Lz) (h : ORl w b cap ls) (hU : ¬ U b) (hl : 0 < ls.length) (hm : ls.length ≤ 1048576) (hcm : cap ≤ maxLen) :
    Calls Try.prog 52 #[.slice (some ⟨b, 0, none⟩) ls.length cap, .func (.func fid) #[] fr] w fun e w' => e = .returned (.slice (some ⟨b, 0, none⟩) (keptL p ls).length cap) ∧ ORl w' b cap (keptL p ls) ∧ Ex (fun k => k = b) w w' := by
  have hc := h.le
  have hbl := h.lt
  unfold maxLen at hcm
  have C1 := hid (indexFunc_any O w hJ b cap ls h.rl hl hm hc hbl)
  have HH := hid h
  have HJ := hid hJ
  clear h hJ
  unfold idxL at C1
  cases hf : ls.findIdx? p with
  | none =>
    rw [hf] at C1
    have ek := keptL_none hf
    rw [ek]
    clear ek hf
    go_enter Try.func52, Try.ntmps52
    go_wp2_with fail
    refine C1.out.mono ?_
    rintro e w1 ⟨rfl, hb1⟩
    have B1 := hid hb1
    clear hb1
    go_wp2
    go_ret
    exact ⟨rfl, HH.out.of (B1.out.block b hbl), Ex.of_below B1.out⟩
  | some i0 =>
    rw [hf] at C1
    obtain ⟨hi0, ht0⟩ := keptL_take hf
    have HT0 := hid ht0
    clear hf ht0
    simp only at C1
    go_enter Try.func52, Try.ntmps52
    go_wp2_with fail
    refine C1.out.mono ?_
    rintro e w1 ⟨rfl, hb1⟩
    have B1 := hid hb1
    clear hb1
    have hne : ((i0 : Int) == -1) = false := by simp <;> omega
    go_wp2
    go_loopw [5, 6, 7] (fun u5 u6 u7 wr => ∃ (i j : Nat) (R : List Lz), i < j ∧ j ≤ ls.length ∧ u5 = .int .i64 i ∧ u6 = .int .i64 j ∧ R.length = ls.length ∧ R.take i = keptL p (ls.take j) ∧ R.drop j = ls.drop j ∧ ORl wr b cap R ∧ Ex (fun k => k = b) w wr) (fun u5 u6 u7 _ => ls.length - (intOf u6).toNat)
    case atStart =>
      refine ⟨i0, i0 + 1, ls, by omega, by omega, rfl, by simp, rfl, HT0.out.symm, rfl, HH.out.of (B1.out.block b hbl), Ex.of_below B1.out⟩
    case round =>
      obtain ⟨i, j, R, hij, hj, rfl, rfl, hR, hT, hD, hO, hE⟩ := hrel
      have HR := hid hR
      have HT := hid hT
      have HD := hid hD
      have HO := hid hO
      have HE := hid hE
      have hwl : b < wr.heap.size := hO.lt
      clear hR hT hD hO hE
      by_cases hlt : j < ls.length
      · have hRj : R[j]'(by rw [HR.out]; exact hlt) = ls[j] := by
          have h1 : (R.drop j)[0]? = (ls.drop j)[0]? := by rw [HD.out]
          rw [List.getElem?_drop, List.getElem?_drop, Nat.add_zero, List.getElem?_eq_getElem hlt, List.getElem?_eq_getElem (by rw [HR.out]; exact hlt)] at h1
          exact Option.some.inj h1
        obtain ⟨g1, g2⟩ := HO.out.rl.c (i := j) (by rw [HR.out]; exact hlt)
        rw [hRj] at g1 g2
        have HRj := hid hRj
        clear hRj
        have J1 : Hid (J (wr.alloc (.cells (lzA ls[j]) 30))) := hid (O.stay w _ HJ.out fun k hk => by
          have hkw := O.lt w HJ.out k hk
          rw [Below.heap_alloc _ _ _ (Nat.lt_of_lt_of_le hkw HE.out.size)]
          exact HE.out.block k hkw (fun e => hU (e ▸ hk)))
        have CA := hid (O.ask _ ls[j] J1.out)
        unfold lzA at CA
        obtain ⟨x, hx⟩ : ∃ x, Hid (ls[j].who = x) := ⟨_, hid rfl⟩
        obtain ⟨y, hy⟩ : ∃ y, Hid (ls[j].til = y) := ⟨_, hid rfl⟩
        obtain ⟨z, hz⟩ : ∃ z, Hid (p ls[j] = z) := ⟨_, hid rfl⟩
        rw [hx.out] at g1 CA
        rw [hy.out] at g2 CA
        rw [hz.out] at CA
        have hlt' : (j : Int) < (ls.length : Int) := by omega
        have hli : (i : Int) < (ls.length : Int) := by omega
        go_wp2_with fail
        rw [O.ent, Oper.upon_enter]
        refine CA.out.mono ?_
        rintro e w2 ⟨rfl, hb2⟩
        have n1 : w2.cell? ⟨wr.heap.size, 0, none⟩ = some (.int .u32 x) := (hb2.cell (p := ⟨wr.heap.size, 0, none⟩) (by simp)).trans ((cell_of_row _ _ _ _ _ _ (heap_alloc_new wr _)).trans rfl)
        have n2 : w2.cell? ⟨wr.heap.size, 1, none⟩ = some (.int .i64 y) := (hb2.cell (p := ⟨wr.heap.size, 1, none⟩) (by simp)).trans ((cell_of_row _ _ _ _ _ _ (heap_alloc_new wr _)).trans rfl)
        have O2 := hid (HO.out.of ((hb2.block b (by simp; omega)).trans (Below.heap_alloc _ _ _ hwl)))
        have E2 : Hid (Ex (fun k => k = b) w w2) := hid ((HE.out.alloc _).trans (S' := fun _ => False) (Ex.of_below hb2) (fun _ q => q.elim))
        clear hb2 CA J1 g1 g2
        cases z with
        | true =>
          go_wp2
          refine ⟨⟨i, j + 1, R, by omega, by omega, rfl, by go_num, HR.out, ?_, ?_, O2.out, E2.out⟩, by simp [intOf]; omega⟩
          · rw [keptL_step hlt, hz.out, HT.out]; simp
          · rw [← List.drop_drop, HD.out, List.drop_drop]
        | false =>
          obtain ⟨o1, o2⟩ := O2.out.rl.c (i := i) (by rw [HR.out]; omega)
          have f1 : w2.frozen? ⟨b, i * 2, none⟩ = false := by obtain ⟨tl, q, _⟩ := O2.out; exact free_of q _
          have f2 : w2.frozen? ⟨b, i * 2 + 1, none⟩ = false := by obtain ⟨tl, q, _⟩ := O2.out; exact free_of q _
          go_wp2
          have hil : i < R.length := by rw [HR.out]; omega
          refine ⟨⟨i + 1, j + 1, R.set i ls[j], by omega, by omega, by go_num, by go_num, by rw [List.length_set]; exact HR.out, ?_, ?_, ?_, ?_⟩, by simp [intOf]; omega⟩
          · rw [keptL_step hlt, hz.out, ← HT.out, List.take_succ_eq_append_getElem (by rw [List.length_set]; exact hil), List.getElem_set_self, List.take_set_of_le (Nat.le_refl _)]
            simp
          · rw [List.drop_set_of_lt (by omega), ← List.drop_drop, HD.out, List.drop_drop]
          · have := O2.out.store hil ls[j]
            rw [hx.out, hy.out] at this
            exact this
          · exact (E2.out.setCell rfl _).setCell rfl _
      · have hj' : j = ls.length := by omega
        subst hj'
        obtain ⟨w3, hcl, hO3, hE3⟩ := HO.out.clear (i := i) (by rw [HR.out]; omega) 0 (cap - i)
        rw [HR.out] at hcl
        have O3 := hid hO3
        have E3 := hid (HE.out.trans hE3 (fun k hk => .inl hk))
        clear hO3 hE3
        have hli : (i : Int) ≤ (ls.length : Int) := by omega
        go_wp2
        go_ret
        have e : R.take i = keptL p ls := by rw [HT.out, List.take_of_length_le (Nat.le_refl _)]
        have e2 : (keptL p ls).length = i := by rw [← e, List.length_take, HR.out]; omega
        rw [e] at O3
        rw [e2]
        exact ⟨rfl, O3.out, E3.out⟩
structure Sp where
  ix : List Int
  nb : Int
deriving DecidableEq
def Sp.ok (s : Sp) : Prop := s.ix.length = 16 ∧ (∀ x ∈ s.ix, 0 ≤ x ∧ x < 256) ∧ -9223372036854775808 ≤ s.nb ∧ s.nb ≤ 9223372036854775807
def spL (s : Sp) : List Value := s.ix.map (Value.int .u8) ++ [.int .i64 s.nb]
def spA (s : Sp) : Array Value := (spL s).toArray
theorem spL_length {s : Sp} (h : s.ok) : (spL s).length = 17 := by simp [spL, h.1]
theorem spA_size {s : Sp} (h : s.ok) : (spA s).size = 17 := by rw [spA, List.size_toArray, spL_length h]
theorem spL_one {s : Sp} {v : Value} (h : v ∈ spL s) : v.oneCell' = true := by
  unfold spL at h
  rcases List.mem_append.1 h with h | h
  · obtain ⟨x, _, rfl⟩ := List.mem_map.1 h; rfl
  · rw [List.mem_singleton.1 h]; rfl
theorem size_spot : (Try.prog.info? 63).map (·.size) = some 17 := by kernel_rfl
theorem size_sp {s : Sp} (h : s.ok) : (Try.prog.info? 63).map (·.size) = some (spL s).length := by rw [spL_length h]; exact size_spot
structure Ovr (fid : Nat) (fr : Array Value) (J : World → Prop) (U : Nat → Prop) (p : Sp → Lz → Bool) : Prop where
  ask : ∀ w s l, Sp.ok s → J w → Calls Try.prog fid (#[.agg (spA s), .agg (lzA l)] ++ fr) w fun e w' => e = .returned (.bool (p s l)) ∧ Below w.heap.size w w'
  stay : ∀ w w', J w → (∀ k, U k → w'.heap[k]? = w.heap[k]?) → J w'
  lt : ∀ w, J w → ∀ k, U k → k < w.heap.size
  ent : ∀ args w, (callFunc fid args).run Try.prog w = .ok (.enter fid args) w
theorem range_below0 {w w' : World} {B b o : Nat} {cs : List Value} (h : w.rangeAt b o cs) (hB : Below B w w') (hb : b < B) : w'.rangeAt b o cs := fun j v hv => (hB.cell (p := ⟨b, o + j, none⟩) hb).trans (h j v hv)
theorem range_of {w : World} {b : Nat} {cs : List Value} {T : TypeId} (h : w.heap[b]? = some (.cells cs.toArray T (0, 0))) : w.rangeAt b 0 cs := fun j v hv => by
  rw [cell_of_row _ _ _ _ _ _ h]
  simpa using hv
set_option maxRecDepth 100000 in
set_option maxHeartbeats 4000000 in
theorem runs_any (w : World) (l : Lz) (t : Int) : Calls Try.prog 23 #[.agg (lzA l), .int .i64 t] w fun e w' => e = .returned (.bool (decide (t ≤ l.til))) ∧ Below w.heap.size w w' := by
  obtain ⟨x, y⟩ := l
  unfold lzA
  have HB := hid ((Below.refl w.heap.size w).alloc (Nat.le_refl _) (.cells #[.int .u32 x, .int .i64 y] 30))
  go_enter Try.func23, Try.ntmps23
  go_wp2
  go_ret
  exact ⟨rfl, HB.out⟩
def JT (tb : Nat) (t : Int) (w : World) : Prop := w.heap[tb]? = some (.cells #[.int .i64 t] 3 (0, 0))
set_option maxRecDepth 100000 in
set_option maxHeartbeats 4000000 in
theorem tick1_ovr (tb : Nat) (t : Int) : Ovr 22 #[.pointer (some ⟨tb, 0, none⟩)] (JT tb t) (fun k => k = tb) (fun _ l => !decide (t ≤ l.til)) where
  ask := fun w s l hs hJ => by
    have ct : w.cell? ⟨tb, 0, none⟩ = some (.int .i64 t) := (cell_of_row _ _ _ _ _ _ hJ).trans rfl
    have htb : tb < w.heap.size := (Array.getElem?_eq_some_iff.1 hJ).1
    obtain ⟨m, HM⟩ : ∃ x, Hid (spA s = x) := ⟨_, hid rfl⟩
    rw [HM.out]
    have CR := hid fun W => runs_any W l t
    obtain ⟨x, y⟩ := l
    unfold lzA at CR ⊢
    simp only at CR
    have B0 := hid (((Below.refl w.heap.size w).alloc (Nat.le_refl _) (.cells m 63)).alloc (by simp) (.cells #[.int .u32 x, .int .i64 y] 30))
    generalize decide (t ≤ y) = z at CR ⊢
    clear hJ
    go_enter Try.func22, Try.ntmps22
    go_wp2_with fail
    refine (CR.out _).mono ?_
    rintro e w1 ⟨rfl, hb1⟩
    have B1 := hid (B0.out.trans (hb1.mono B0.out.size))
    clear hb1
    go_wp2
    go_ret
    exact ⟨rfl, B1.out⟩
  stay := fun w w' h hk => (hk tb rfl).trans h
  lt := fun w h k hk => by rw [hk]; exact (Array.getElem?_eq_some_iff.1 h).1
  ent := enters_of Try.func22 (by kernel_rfl) rfl
def JE (fid : Nat) (fr : Array Value) (J : World → Prop) (fb sb : Nat) (s : Sp) (w : World) : Prop := w.heap[fb]? = some (.cells #[.func (.func fid) #[] fr] 69 (0, 0)) ∧ w.heap[sb]? = some (.cells (spA s) 63 (0, 0)) ∧ J w
set_option maxRecDepth 100000 in
set_option maxHeartbeats 4000000 in
theorem end1_prd {fid : Nat} {fr : Array Value} {J : World → Prop} {U : Nat → Prop} {p : Sp → Lz → Bool} (O : Ovr fid fr J U p) (fb sb : Nat) (s : Sp) (hs : s.ok) : Prd 37 #[.pointer (some ⟨fb, 0, none⟩), .pointer (some ⟨sb, 0, none⟩)] (JE fid fr J fb sb s) (fun k => k = fb ∨ k = sb ∨ U k) (p s) where
  ask := fun w l hJ => by
    obtain ⟨h1, h2, h3⟩ := hJ
    have hfb : fb < w.heap.size := (Array.getElem?_eq_some_iff.1 h1).1
    have hsb : sb < w.heap.size := (Array.getElem?_eq_some_iff.1 h2).1
    have c1 : w.cell? ⟨fb, 0, none⟩ = some (.func (.func fid) #[] fr) := (cell_of_row _ _ _ _ _ _ h1).trans rfl
    obtain ⟨W1, HW1⟩ : ∃ x, Hid (w.alloc (.cells (lzA l) 30) = x) := ⟨_, hid rfl⟩
    have B0 : Hid (Below w.heap.size w W1) := by rw [← HW1.out]; exact hid ((Below.refl w.heap.size w).alloc (Nat.le_refl _) _)
    have c1 := (B0.out.cell (p := ⟨fb, 0, none⟩) hfb).trans c1
    have R2 := hid (range_below0 (range_of (cs := spL s) h2) B0.out hsb)
    have HS := hid (size_sp hs)
    have HA : Hid ((spL s).toArray = spA s) := hid rfl
    have CA := hid (O.ask W1 s l hs (O.stay w W1 h3 fun k hk => B0.out.block k (O.lt w h3 k hk)))
    obtain ⟨m, HM⟩ : ∃ x, Hid (spA s = x) := ⟨_, hid rfl⟩
    obtain ⟨ml, HML⟩ : ∃ x, Hid (spL s = x) := ⟨_, hid rfl⟩
    rw [HM.out, HML.out] at HA
    rw [HM.out] at CA
    rw [HML.out] at HS R2
    have n1 : W1.cell? ⟨w.heap.size, 0, none⟩ = some (.int .u32 l.who) := by rw [← HW1.out]; exact (cell_of_row _ _ _ _ _ _ (heap_alloc_new w _)).trans rfl
    have n2 : W1.cell? ⟨w.heap.size, 1, none⟩ = some (.int .i64 l.til) := by rw [← HW1.out]; exact (cell_of_row _ _ _ _ _ _ (heap_alloc_new w _)).trans rfl
    generalize p s l = z at CA ⊢
    obtain ⟨x, y⟩ := l
    unfold lzA at CA HW1 ⊢
    simp only at n1 n2
    clear h1 h2 h3 HM HML
    go_enter Try.func37, Try.ntmps37
    refine wp_seq_k fun K0 h0 => ?_
    have H0 := hid h0
    clear h0
    go_wp2
    rw [HW1.out]
    refine H0.out _ _ ?_
    go_wp2_with (refine wpList_load_mid rfl 63 _ rfl sb 0 rfl ml _ R2.out Try.underlying63 rfl HS.out ?_; rw [HA.out])
    rw [O.ent, Oper.upon_enter]
    refine CA.out.mono ?_
    rintro e w2 ⟨rfl, hb2⟩
    have B2 := hid (B0.out.trans (hb2.mono B0.out.size))
    clear hb2
    go_wp2
    go_ret
    exact ⟨rfl, B2.out⟩
  stay := fun w w' h hk => ⟨(hk fb (.inl rfl)).trans h.1, (hk sb (.inr (.inl rfl))).trans h.2.1, O.stay w w' h.2.2 fun k hU => hk k (.inr (.inr hU))⟩
  lt := fun w h k hk => by
    rcases hk with rfl | rfl | hk
    · exact (Array.getElem?_eq_some_iff.1 h.1).1
    · exact (Array.getElem?_eq_some_iff.1 h.2.1).1
    · exact O.lt w h.2.2 k hk
  ent := enters_of Try.func37 (by kernel_rfl) rfl
theorem heap_setCell_ne {w : World} {g k : Nat} (hne : k ≠ g) (i : Nat) (v : Value) : (w.setCell ⟨g, i, none⟩ v).heap[k]? = w.heap[k]? := by
  simp [World.setCell, Array.getElem?_modify, Ne.symm hne]
def HHd (w : World) (hb : Nat) (bv : Value) (b cap n : Nat) : Prop := w.heap[hb]? = some (.cells #[bv, .slice (some ⟨b, 0, none⟩) n cap] 74 (0, 0))
set_option maxRecDepth 100000 in
set_option maxHeartbeats 4000000 in
theorem hend_any {fid : Nat} {fr : Array Value} {J : World → Prop} {U : Nat → Prop} {p : Lz → Bool} (O : Prd fid fr J U p) (w : World) (hJ : J w) (hb : Nat) (bv : Value) (b cap : Nat) (ls : List Lz) (hh : HHd w hb bv b cap ls.length) (h : ORl w b cap ls) (hU : ¬ U b) (hl : 0 < ls.length) (hm : ls.length ≤ 1048576) (hcm : cap ≤ maxLen) :
    Calls Try.prog 36 #[.pointer (some ⟨hb, 0, none⟩), .func (.func fid) #[] fr] w fun e w' => e = .returned (.tuple #[]) ∧ HHd w' hb bv b cap (keptL p ls).length ∧ ORl w' b cap (keptL p ls) ∧ Ex (fun k => k = hb ∨ k = b) w w' := by
  have C1 := hid (deleteFunc_any O w hJ b cap ls h hU hl hm hcm)
  have c1 : w.cell? ⟨hb, 1, none⟩ = some (.slice (some ⟨b, 0, none⟩) ls.length cap) := (cell_of_row _ _ _ _ _ _ hh).trans rfl
  have hne : hb ≠ b := fun e => by
    obtain ⟨tl, q, _⟩ := h
    unfold HHd at hh
    rw [e, q] at hh
    simp at hh
  have HHH := hid hh
  have hhl : hb < w.heap.size := (Array.getElem?_eq_some_iff.1 hh).1
  clear hh h hJ
  go_enter Try.func36, Try.ntmps36
  go_wp2_with fail
  refine C1.out.mono ?_
  rintro e w1 ⟨rfl, hO, hE⟩
  have h1 : HHd w1 hb bv b cap ls.length := (hE.block hb hhl hne).trans HHH.out
  have d1 : w1.cell? ⟨hb, 1, none⟩ = some (.slice (some ⟨b, 0, none⟩) ls.length cap) := (cell_of_row _ _ _ _ _ _ h1).trans rfl
  have f1 := free_of h1 1
  have H1 := hid h1
  have HO := hid hO
  have HE := hid hE
  clear h1 hO hE
  go_wp2
  go_end0
  refine ⟨rfl, ?_, HO.out.of (heap_setCell_ne (Ne.symm hne) _ _), ?_⟩
  · exact heap_setCell H1.out 1 _
  · exact (HE.out.mono (fun k hk => .inr hk)).setCell (.inl rfl) _
end Go.Proofs.Ythmhpenjegfbcaa
namespace Go.Proofs.Ythmhpenjegfbcaa
open Go Go.RowKit Go.MapKept
theorem sv_laid : laidOutB Try.prog = true := by kernel_rfl
theorem spotLaw : WideMaps.KeyLaw Try.prog 63 := deep_law_gate sv_laid (of_decide_eq_true (by kernel_rfl)) (of_decide_eq_true (by kernel_rfl)) (by kernel_rfl) (by kernel_rfl)
theorem list16s (l : List Int) (h : l.length = 16) : ∃ x0 x1 x2 x3 x4 x5 x6 x7 x8 x9 x10 x11 x12 x13 x14 x15 : Int, l = [x0, x1, x2, x3, x4, x5, x6, x7, x8, x9, x10, x11, x12, x13, x14, x15] := by
  match l, h with
  | [x0, x1, x2, x3, x4, x5, x6, x7, x8, x9, x10, x11, x12, x13, x14, x15], _ => exact ⟨x0, x1, x2, x3, x4, x5, x6, x7, x8, x9, x10, x11, x12, x13, x14, x15, rfl⟩
theorem wf_u8 {x : Int} (h : 0 ≤ x ∧ x < 256) : (Lit.int .u8 x).wf = true := by
  simp [Lit.wf, IntKind.has, IntKind.min, IntKind.max, IntKind.signed, IntKind.bits]
  omega
theorem wf_i64s {x : Int} (h : -9223372036854775808 ≤ x ∧ x ≤ 9223372036854775807) : (Lit.int .i64 x).wf = true := by
  simp [Lit.wf, IntKind.has, IntKind.min, IntKind.max, IntKind.signed, IntKind.bits]
  omega
theorem lits_u8 {d : Nat} {x : Int} (h : (Lit.int .u8 x).wf = true) : Try.prog.keyLits (d + 1) 5 [.int .u8 x] = some [.int .u8 x] := by
  simp [Program.keyLits, Try.underlying5, h]
theorem lits_i64 {d : Nat} {x : Int} (h : (Lit.int .i64 x).wf = true) : Try.prog.keyLits (d + 1) 3 [.int .i64 x] = some [.int .i64 x] := by
  simp [Program.keyLits, Try.underlying3, h]
theorem sv_c1 : Try.prog.cellsOf 5 = 1 := by kernel_rfl
theorem sv_c2 : Try.prog.cellsOf 3 = 1 := by kernel_rfl
theorem sv_c3 : Try.prog.cellsOf 27 = 16 := by kernel_rfl
theorem sv_c4 : Try.prog.cellsOf 63 = 17 := by kernel_rfl
set_option maxRecDepth 100000 in
set_option maxHeartbeats 4000000 in
theorem lits_ix {d : Nat} {l : List Int} (hl : l.length = 16) (h : ∀ x ∈ l, 0 ≤ x ∧ x < 256) : ∃ ls, Try.prog.keyLits (d + 2) 27 (l.map (Value.int .u8)) = some ls := by
  unfold Program.keyLits
  simp only [Try.underlying27, sv_c3, sv_c1]
  rw [if_pos (by simpa using hl)]
  rw [ChangeMaps.mapM_total [] (fun i hi => ?_)]
  · exact ⟨_, rfl⟩
  · have hi' : i < 16 := List.mem_range.1 hi
    have hil : i < l.length := by omega
    refine ⟨[Lit.int .u8 l[i]], ?_⟩
    have e : ((l.map (Value.int .u8)).drop (i * 1)).take 1 = [Value.int .u8 l[i]] := by
      rw [Nat.mul_one, ← List.map_drop, ← List.map_take, List.drop_eq_getElem_cons hil]
      rfl
    rw [e]
    exact lits_u8 (wf_u8 (h _ (List.getElem_mem hil)))
set_option maxRecDepth 100000 in
set_option maxHeartbeats 4000000 in
theorem key_spot {s : Sp} (h : s.ok) : ∃ l, keyOf Try.prog 63 (.agg (spA s)) = some l := by
  have hk : Try.prog.keyType 63 = true := by kernel_rfl
  have hn : ∃ d, Try.prog.types.size + 1 = d + 3 := ⟨Try.prog.types.size - 2, by have : 2 ≤ Try.prog.types.size := of_decide_eq_true (by kernel_rfl); omega⟩
  obtain ⟨d, hd⟩ := hn
  have hf : (Value.agg (spA s)).formed Try.prog 63 = true := by
    simp only [Value.formed, Try.underlying63, sv_c4, spA_size h]
    rfl
  have hlit : ∃ ls, Try.prog.keyLits (d + 3) 63 (spL s) = some ls := by
    obtain ⟨li, hli⟩ := lits_ix (d := d) h.1 h.2.1
    unfold Program.keyLits
    simp only [Try.underlying63, sv_c4]
    rw [if_pos ⟨spL_length h, by kernel_rfl⟩]
    rw [ChangeMaps.mapM_total [] (fun f hf => ?_)]
    · exact ⟨_, rfl⟩
    · have hl16 : (s.ix.map (Value.int .u8)).length = 16 := by simpa using h.1
      simp only [List.mem_cons, List.not_mem_nil, or_false] at hf
      rcases hf with rfl | rfl
      · refine ⟨li, ?_⟩
        simp only [sv_c3, List.drop_zero]
        unfold spL
        rw [List.take_append_of_le_length (by omega), List.take_of_length_le (by omega)]
        exact hli
      · refine ⟨[Lit.int .i64 s.nb], ?_⟩
        simp only [sv_c2]
        unfold spL
        rw [List.drop_append_of_le_length (by omega), List.drop_of_length_le (by omega)]
        exact lits_i64 (wf_i64s h.2.2)
  obtain ⟨ls, hls⟩ := hlit
  unfold keyOf
  simp only [Try.underlying63, hk, hf, hd]
  have e : (Value.agg (spA s)).cells.toList = spL s := by simp [Value.cells, spA]
  rw [e, hls]
  exact ⟨_, rfl⟩
theorem spA_inj {s t : Sp} (hs : s.ok) (ht : t.ok) (h : spA s = spA t) : s = t := by
  have h1 : spL s = spL t := by have := congrArg Array.toList h; simpa [spA] using this
  unfold spL at h1
  have h2 := List.append_inj h1 (by simp [hs.1, ht.1])
  obtain ⟨ix, nb⟩ := s
  obtain ⟨ix', nb'⟩ := t
  simp only at h2
  have e1 : ix = ix' := List.map_inj_right (fun a b e => by simpa using e) |>.1 h2.1
  have e2 : nb = nb' := by simpa using h2.2
  rw [e1, e2]
abbrev spV (s : Sp) : Value := .agg (spA s)
theorem spV_inj {s t : Sp} (hs : s.ok) (ht : t.ok) (h : spV s = spV t) : s = t := spA_inj hs ht (by simpa using h)
def SpK (es : Array MapEntry) : Prop := ∀ e ∈ es.toList, ∃ s : Sp, s.ok ∧ e.key = spV s
theorem SpK.lit {es : Array MapEntry} (h : SpK es) : ∀ e ∈ es.toList, ∃ l, keyOf Try.prog 63 e.key = some l := fun e he => by
  obtain ⟨s, hs, hk⟩ := h e he
  rw [hk]
  exact key_spot hs
theorem run_zero_heldp (w : World) : (zeroValue 71).run Try.prog w = .ok (.pointer none) w := by kernel_rfl
theorem run_lookS {w : World} {b c : Nat} {es : Array MapEntry} (hb : w.heap[b]? = some (.map es c)) (hK : SpK es) {s : Sp} (hs : s.ok) :
    ((∀ e ∈ es.toList, e.key ≠ spV s) ∧ (Instr.lookup 64 (.map (some b)) (spV s) true).run Try.prog w = .ok (.tuple #[.pointer none, .bool false]) w) ∨
    ∃ e ∈ es.toList, e.key = spV s ∧ (Instr.lookup 64 (.map (some b)) (spV s) true).run Try.prog w = .ok (.tuple #[e.val, .bool true]) w ∧ (Instr.lookup 64 (.map (some b)) (spV s) false).run Try.prog w = .ok e.val w := by
  obtain ⟨l, hl⟩ := key_spot hs
  have hc : (Instr.checkKey es.isEmpty 10000 63 (spV s)).run Try.prog w = .ok () w := spotLaw.check w _ hl
  rcases spotLaw.find w hl es.toList hK.lit with ⟨h1, h2⟩ | ⟨j, e, h1, h2, h3⟩
  · left
    refine ⟨h2, ?_⟩
    simp [Instr.lookup, run_underlying Try.underlying64, MapKept.run_getObj_map hb, hc, h1, Result.andThen, run_zero_heldp]
  · right
    refine ⟨e, List.mem_of_getElem? h2, h3, ?_, ?_⟩ <;> simp [Instr.lookup, run_underlying Try.underlying64, MapKept.run_getObj_map hb, hc, h1, Result.andThen]
theorem run_delS {w : World} {b c : Nat} {es : Array MapEntry} (hb : w.heap[b]? = some (.map es c)) (hK : SpK es) {s : Sp} (hs : s.ok) (ty : TypeId) {j : Nat} {e : MapEntry} (hj : es.toList[j]? = some e) (he : e.key = spV s) (hn : (es.toList.map (·.key)).Nodup) :
    (Builtin.delete_ #[64, 63] ty #[.map (some b), spV s]).run Try.prog w = .ok (.tuple #[]) { w with heap := w.heap.setIfInBounds b (.map (es.eraseIdxIfInBounds j) c) } := by
  obtain ⟨l, hl⟩ := key_spot hs
  have hc : (Instr.checkKey es.isEmpty 10000 63 (spV s)).run Try.prog w = .ok () w := spotLaw.check w _ hl
  rcases spotLaw.find w hl es.toList hK.lit with ⟨h1, h2⟩ | ⟨j', e', h1, h2, h3⟩
  · exact absurd he (h2 e (List.mem_of_getElem? hj))
  · have ejj : j' = j := by
      have q1 : (es.toList.map (·.key))[j']? = some (spV s) := by rw [List.getElem?_map, h2]; exact congrArg some h3
      have q2 : (es.toList.map (·.key))[j]? = some (spV s) := by rw [List.getElem?_map, hj]; exact congrArg some he
      have hlt : j' < (es.toList.map (·.key)).length := (List.getElem?_eq_some_iff.1 q1).1
      exact (List.getElem?_inj hlt hn).1 (q1.trans q2.symm)
    subst ejj
    simp [Builtin.delete_, run_underlying Try.underlying64, MapKept.run_getObj_map hb, hc, h1, MapKept.run_setObj_map _ hb, Result.andThen]
theorem run_putS {w : World} {b c : Nat} {es : Array MapEntry} (hb : w.heap[b]? = some (.map es c)) (hK : SpK es) {s : Sp} (hs : s.ok) (hn : ∀ e ∈ es.toList, e.key ≠ spV s) (v : Value) :
    (Instr.mapUpdate 64 (.map (some b)) (spV s) v).run Try.prog w = .ok () { w with heap := w.heap.setIfInBounds b (.map (es.push ⟨spV s, v, c⟩) (c + 1)) } := by
  obtain ⟨l, hl⟩ := key_spot hs
  have hc : (Instr.checkKey false 10000 63 (spV s)).run Try.prog w = .ok () w := spotLaw.check w _ hl
  rcases spotLaw.find w hl es.toList hK.lit with ⟨h1, h2⟩ | ⟨j', e', h1, h2, h3⟩
  · simp [Instr.mapUpdate, run_underlying Try.underlying64, MapKept.run_getObj_map hb, hc, h1, MapKept.run_setObj_map _ hb, Result.andThen]
  · exact absurd h3 (hn e' (List.mem_of_getElem? h2))
end Go.Proofs.Ythmhpenjegfbcaa
