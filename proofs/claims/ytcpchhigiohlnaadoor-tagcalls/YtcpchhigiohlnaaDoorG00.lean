/- Of the road to tagCallsUptoCard_holds: Base, Opens, U8, ShaTurn, Arrays, ShaWords, ShaSched, ShaMix, ShaLaid, ShaUpto, TgKit, Join, SameBytes, Owns, Lists. -/
import Derived.WalkKit
import Derived.WalkSpells
import Derived.WalkLawsBesides
import Derived.Deep.QuietTactic
import Derived.BigQuiet
import Derived.Test.YtcpchhigiohlnaaDoorRows
import Derived.ProofKit
import Derived.OpenShut
import Derived.ShutString
import Derived.ChangeOld
import Derived.Deep.Slices
import Derived.JoinedCond
import Derived.SizedLaws
import Derived.Test.YtcpchhigiohlnaaDoorChecked
import Derived.Laws.BitsAllLaws
import Derived.Deep.MidRow
import Derived.BigRegion
import Derived.LaidLaws
import Derived.Lay
import Derived.MakeChecks
import Derived.Stop.Joined
import Derived.SevenTiedAt
import Derived.Deep.Grids
import Derived.Laws.Rows
import Derived.RegionTactic
import Derived.Deep.RegionHeld
import Derived.Laws.AppendOwnNone
set_option linter.unusedVariables false
set_option linter.unusedSimpArgs false
set_option maxRecDepth 100000
set_option maxHeartbeats 16000000
namespace Go.Proofs.YtcpchhigiohlnaaDoor
open Go.RowKit
theorem hid {p : Prop} (h : p) : Hid p := h
def HB (w : World) (v : Value) (l : List Int) : Prop :=
 (∃ (p : Option Addr) (c : Nat), v = .slice p l.length c /\ l.length <= c /\ c <= maxLen /\ (p = none -> c = 0) ∧
  (l ≠ [] -> ∃ b off, p = some ⟨b, off, none⟩ /\ ∀ j, j < l.length -> w.cell? ⟨b, off + j, none⟩ = some (.int .u8 (l.getD j 0)))) /\ ∀ x ∈ l, 0 <= x /\ x < 256
theorem HB.open {w : World} {v : Value} {l : List Int} (h : HB w v l) : ∃ (p : Option Addr) (c : Nat), v = .slice p l.length c /\ l.length <= c /\ c <= maxLen := by
 obtain ⟨⟨p, c, h1, h2, h3, _⟩, _⟩ := h
 exact ⟨p, c, h1, h2, h3⟩
theorem HB.ne {w : World} {v : Value} {l : List Int} (h : HB w v l) (hl : 0 < l.length) :
  ∃ b off c, v = .slice (some ⟨b, off, none⟩) l.length c /\ l.length <= c /\ c <= maxLen /\ ∀ j, j < l.length -> w.cell? ⟨b, off + j, none⟩ = some (.int .u8 (l.getD j 0)) := by
 obtain ⟨⟨p, c, h1, h2, h3, _, h4⟩, _⟩ := h
 obtain ⟨b, off, rfl, hc⟩ := h4 (by intro e; subst e; simp at hl)
 exact ⟨b, off, c, h1, h2, h3, hc⟩
theorem HB.later {w w' : World} {v : Value} {l : List Int} (h : HB w v l) (hc : ∀ a (n : Int), w.cell? a = some (.int .u8 n) -> w'.cell? a = some (.int .u8 n)) : HB w' v l := by
 obtain ⟨⟨p, c, h1, h2, h3, h6, h4⟩, h5⟩ := h
 refine ⟨⟨p, c, h1, h2, h3, h6, fun hl => ?_⟩, h5⟩
 obtain ⟨b, off, e, hh⟩ := h4 hl
 exact ⟨b, off, e, fun j hj => hc _ _ (hh j hj)⟩
theorem HB.below {w w' : World} {v : Value} {l : List Int} (h : HB w v l) (hb : Below w.heap.size w w') : HB w' v l :=
 h.later fun a _ hx => (hb.cell (World.block_lt_of_cell? w a hx)).trans hx
theorem getD_of_lt {l : List Int} {k : Nat} (h : k < l.length) : l.getD k 0 = l[k] := by simp [List.getD, List.getElem?_eq_getElem h]
theorem ownsRow_cells {w : World} {B : Nat} {e : TypeId} {v : Value} {n : Nat} {xs : List Value} (h : w.ownsRow B e 1 v n xs) (h0 : 0 < n) :
  ∃ g cap, v = .slice (some ⟨g, 0, none⟩) n cap /\ B <= g /\ n <= cap /\ cap <= maxLen /\ ∀ j u, xs[j]? = some u -> w.cell? ⟨g, 0 + j, none⟩ = some u := by
 have hc := @World.ownsRow.cells w B e 1 v n xs h
 rcases h.2 with ⟨_, e0⟩ | ⟨g, cap, cur, rfl, hb, _, hn, hm, _, _⟩
 ·omega
 ·refine ⟨g, cap, rfl, hb, hn, hm, fun j u hj => ?_⟩
  have := @hc g rfl j u hj
  rwa [Go.WideShapes.add_plain] at this
theorem HB.of_own {w : World} {B : Nat} {e : TypeId} {v : Value} {l : List Int} (h : w.ownsRow B e 1 v l.length (l.map (Value.int .u8))) (hx : ∀ x ∈ l, 0 <= x /\ x < 256) : HB w v l := by
 refine ⟨?_, hx⟩
 by_cases h0 : 0 < l.length
 ·obtain ⟨g, cap, rfl, _, hn, hm, hc⟩ := ownsRow_cells h h0
  refine ⟨_, cap, rfl, hn, hm, (fun e => by cases e), fun _ => ⟨g, 0, rfl, fun j hj => ?_⟩⟩
  exact hc j _ (by simp [List.getD, List.getElem?_eq_getElem hj])
 ·have e : l = [] := List.length_eq_zero_iff.1 (by omega)
  subst e
  rcases h.2 with ⟨rfl, _⟩ | ⟨g, cap, cur, rfl, _, _, hn, hm, _⟩
  ·exact ⟨none, 0, rfl, Nat.le_refl _, Nat.zero_le _, fun _ => rfl, fun h => absurd rfl h⟩
  ·exact ⟨_, cap, rfl, hn, hm, (fun e => by cases e), fun h => absurd rfl h⟩
theorem HB.nil (w : World) : HB w (.slice none 0 0) [] := ⟨⟨none, 0, rfl, Nat.zero_le _, Nat.zero_le _, fun _ => rfl, fun h => absurd rfl h⟩, by simp⟩
def BT (w : World) (g : Nat) (T : TypeId) : Prop := ∃ cur fz, w.heap[g]? = some (.cells cur T fz)
def HL (w : World) (v : Value) (ls : List (List Int)) : Prop :=
 ∃ (p : Option Addr) (c : Nat), v = .slice p ls.length c /\ ls.length <= c /\ c <= maxLen /\ (p = none -> c = 0) ∧
  (ls ≠ [] -> ∃ b off, p = some ⟨b, off, none⟩ /\ ∀ j, j < ls.length -> ∃ u, w.cell? ⟨b, off + j, none⟩ = some u /\ HB w u (ls.getD j []))
theorem HL.ne {w : World} {v : Value} {ls : List (List Int)} (h : HL w v ls) (hl : 0 < ls.length) :
  ∃ b off c, v = .slice (some ⟨b, off, none⟩) ls.length c /\ ls.length <= c /\ c <= maxLen /\ ∀ j, j < ls.length -> ∃ u, w.cell? ⟨b, off + j, none⟩ = some u /\ HB w u (ls.getD j []) := by
 obtain ⟨p, c, h1, h2, h3, _, h4⟩ := h
 obtain ⟨b, off, rfl, hc⟩ := h4 (by intro e; subst e; simp at hl)
 exact ⟨b, off, c, h1, h2, h3, hc⟩
theorem HL.open {w : World} {v : Value} {ls : List (List Int)} (h : HL w v ls) : ∃ (p : Option Addr) (c : Nat), v = .slice p ls.length c /\ ls.length <= c /\ c <= maxLen := by
 obtain ⟨p, c, h1, h2, h3, _⟩ := h
 exact ⟨p, c, h1, h2, h3⟩
theorem HL.later {w w' : World} {v : Value} {ls : List (List Int)} (h : HL w v ls) (hc : ∀ a x, w.cell? a = some x -> w'.cell? a = some x) : HL w' v ls := by
 obtain ⟨p, c, h1, h2, h3, h5, h4⟩ := h
 refine ⟨p, c, h1, h2, h3, h5, fun hl => ?_⟩
 obtain ⟨b, off, e, hh⟩ := h4 hl
 refine ⟨b, off, e, fun j hj => ?_⟩
 obtain ⟨u, hu, hb⟩ := hh j hj
 exact ⟨u, hc _ _ hu, hb.later fun a n => hc a _⟩
theorem HL.below {w w' : World} {v : Value} {ls : List (List Int)} (h : HL w v ls) (hb : Below w.heap.size w w') : HL w' v ls :=
 h.later fun a _ hx => (hb.cell (World.block_lt_of_cell? w a hx)).trans hx
theorem HL.byt {w : World} {v : Value} {ls : List (List Int)} (h : HL w v ls) : ∀ x ∈ ls.flatten, 0 <= x /\ x < 256 := by
 intro x hx
 obtain ⟨l, hl, hxl⟩ := List.mem_flatten.1 hx
 obtain ⟨j, hj, rfl⟩ := List.getElem_of_mem hl
 obtain ⟨b, off, c, _, _, _, hh⟩ := h.ne (by omega)
 obtain ⟨u, _, hb⟩ := hh j hj
 have e : ls.getD j [] = ls[j] := by simp [List.getD, List.getElem?_eq_getElem hj]
 rw [e] at hb
 exact hb.2 x hxl
theorem HL.nil (w : World) : HL w (.slice none 0 0) [] := ⟨none, 0, rfl, Nat.zero_le _, Nat.zero_le _, fun _ => rfl, fun h => absurd rfl h⟩
def Dr (w w' : World) : Prop := ∃ q, w' = w.drewN q
theorem Dr.refl (w : World) : Dr w w := ⟨0, rfl⟩
theorem Dr.drewN {w u : World} (h : Dr w u) (n : Nat) : Dr w (u.drewN n) := by
 obtain ⟨q, rfl⟩ := h
 exact ⟨q + n, World.drewN_drewN w q n⟩
theorem Dr.one (w : World) (n : Nat) : Dr w (w.drewN n) := ⟨n, rfl⟩
theorem Dr.cell {w w' : World} (h : Dr w w') (a : Addr) : w'.cell? a = w.cell? a := by obtain ⟨q, rfl⟩ := h; rfl
theorem Dr.heap {w w' : World} (h : Dr w w') : w'.heap = w.heap := by obtain ⟨q, rfl⟩ := h; rfl
theorem Dr.below {w w' : World} (h : Dr w w') (B : Nat) : Below B w w' := by obtain ⟨q, rfl⟩ := h; exact ⟨rfl, rfl, rfl, Nat.le_refl _, fun _ _ => rfl⟩
theorem HB.dr {w w' : World} {v : Value} {l : List Int} (h : HB w v l) (d : Dr w w') : HB w' v l := h.later fun a _ hx => (d.cell a).trans hx
theorem HL.dr {w w' : World} {v : Value} {ls : List (List Int)} (h : HL w v ls) (d : Dr w w') : HL w' v ls := h.below (d.below _)
theorem lay6.{u} {α : Type u} : (∀ (xs : List α) (i : Nat) (h : i < xs.toArray.size), xs.toArray[i] = xs[i]'(by simpa using h)) /\ (∀ (a : α) (l : List α) (h : 0 < (a :: l).length), (a :: l)[0]'h = a) /\ (∀ (a : α) (l : List α) (i : Nat) (h : i + 1 < (a :: l).length), (a :: l)[i + 1]'h = l[i]'(by simpa using h)) /\ (∀ (l : List α) (i : Nat) (a : α), l.toArray.setIfInBounds i a = (l.set i a).toArray) /\ (∀ (a : α) (l : List α) (b : α), (a :: l).set 0 b = b :: l) /\ (∀ (a : α) (l : List α) (n : Nat) (b : α), (a :: l).set (n + 1) b = a :: l.set n b) :=
 ⟨fun _ _ _ => by simp, fun _ _ _ => rfl, fun _ _ _ _ => rfl, fun _ _ _ => by simp, fun _ _ _ => rfl, fun _ _ _ _ => rfl⟩
end Go.Proofs.YtcpchhigiohlnaaDoor
namespace Go.Proofs.YtcpchhigiohlnaaDoor
open Go.ChangeShapes Go.WideShapes Go.ChangeAt Go.RowKit
theorem Opn.own : ownKnob Tryd.prog.godebug = none := by kernel_rfl
theorem Opn.laidOut : laidOutB Tryd.prog = true := by kernel_rfl
theorem Opn.cells_u8 : Tryd.prog.cellsOf 5 = 1 := by kernel_rfl
theorem bulk_pos {H : Type} (d : DataW H) : 1 <= Rows.uptoBulk d := by
 cases d with
 | lit l => cases l <;> simp [Rows.uptoBulk]
 | _ => simp [Rows.uptoBulk]
theorem bulk_len {H : Type} (l : List (DataW H)) : l.length <= Rows.uptoBulkAll l := by
 induction l with
 | nil => simp
 | cons x r ih => have := bulk_pos x; simp only [Rows.uptoBulkAll, List.length_cons]; omega
theorem bulk_slice {H : Type} (a b : List (DataW H)) : a.length + b.length + 1 <= Rows.uptoBulk (.slice a b) := by
 have h1 := bulk_len a
 have h2 := bulk_len b
 simp only [Rows.uptoBulk]
 omega
theorem bulk_all {H : Type} {l : List (DataW H)} (hk : Rows.uptoSmall H l = true) : Rows.uptoBulkAll l <= 1048576 := of_decide_eq_true hk
variable {H : Type} {enc : TypeId × Value -> H} {W : World}
theorem open_row {k : IntKind} {t e : TypeId} {fuel base : Nat} {cs : List Value} {d : DataW H} {p : List MemPlace} (ht : Tryd.prog.underlying t = some (.slice e)) (he : Tryd.prog.underlying e = some (.int k)) (hc : Tryd.prog.cellsOf e = 1)
  (hf : DataW.trod enc Tryd.prog W base (fun _ => true) true fuel t cs = some (d, p)) :
  ∃ (q : Option Addr) (c : Nat) (l : List Int), cs = [.slice q l.length c] /\ l.length <= c /\ c <= maxLen /\ (q = none -> c = 0) /\ (l ≠ [] -> ∃ b off, q = some ⟨b, off, none⟩ /\ ∀ j, j < l.length -> W.cell? ⟨b, off + j, none⟩ = some (.int k (l.getD j 0))) /\ (∀ n ∈ l, (Lit.int k n).wf = true) /\ l.length + 1 <= Rows.uptoBulk d := by
 rcases open_ints ht he hc hf with ⟨rfl, hx⟩ | ⟨x, len, cap, zs, rfl, _, hl, hm, hz, hx, hcell, hwz⟩
 ·cases hx
  exact ⟨none, 0, [], rfl, Nat.le_refl _, Nat.zero_le _, fun _ => rfl, fun h => absurd rfl h, by simp, by simp [Rows.uptoBulk]⟩
 ·simp only [Prod.mk.injEq] at hx
  obtain ⟨rfl, _⟩ := hx
  simp only [if_true] at hz
  have hlen : (zs.take len).length = len := by simp; omega
  refine ⟨some x, cap, zs.take len, by rw [hlen], by omega, hm, (fun e => by cases e), fun hne => ?_, fun n hn => hwz n (List.mem_of_mem_take hn), ?_⟩
  ·have h0 : 0 < len := by
    apply Classical.byContradiction
    intro h
    exact hne (List.length_eq_zero_iff.1 (by omega))
   obtain ⟨b, off, rfl, hh⟩ := ints_at hcell (by omega)
   refine ⟨b, off, rfl, fun j hj => ?_⟩
   rw [hlen] at hj
   rw [hh j (by omega)]
   simp only [List.getD, List.getElem?_take]
   rw [if_pos hj]
  ·have := bulk_slice (lits (H := H) k (zs.take len)) (lits k (zs.drop len))
   simp only [lits, List.length_map] at this ⊢
   omega
theorem byte_wf {l : List Int} (h : ∀ n ∈ l, (Lit.int .u8 n).wf = true) : ∀ x ∈ l, 0 <= x /\ x < 256 := by
 intro x hx
 have := bounds_u8 (h x hx)
 omega
theorem bulk_sum {H : Type} : ∀ (n : Nat) (D : Nat -> DataW H) (L : Nat -> List Int), (∀ i, i < n -> (L i).length + 1 <= Rows.uptoBulk (D i)) -> ((List.range n).map L).flatten.length + n <= Rows.uptoBulkAll ((List.range n).map D)
 | 0, _, _, _ => by simp [Rows.uptoBulkAll]
 | n + 1, D, L, h => by
  have ih := bulk_sum n (fun i => D (i + 1)) (fun i => L (i + 1)) (fun i hi => h (i + 1) (by omega))
  have h0 := h 0 (by omega)
  rw [List.range_succ_eq_map]
  simp only [List.map_cons, List.map_map, List.flatten_cons, List.length_append, Rows.uptoBulkAll]
  have e1' : (List.range n).map (L ∘ Nat.succ) = (List.range n).map (fun i => L (i + 1)) := rfl
  have e2' : (List.range n).map (D ∘ Nat.succ) = (List.range n).map (fun i => D (i + 1)) := rfl
  rw [e1', e2']
  omega
theorem choose_lists {P : Nat -> List Int -> Prop} (n : Nat) (h : ∀ i, i < n -> ∃ l, P i l) : ∃ L : Nat -> List Int, ∀ i, i < n -> P i (L i) :=
 ⟨fun i => if hi : i < n then Classical.choose (h i hi) else [], fun i hi => by simp only [hi, dif_pos]; exact Classical.choose_spec (h i hi)⟩
theorem Opn.cells_bytes : Tryd.prog.cellsOf 30 = 1 := by kernel_rfl
theorem open_HL {base : Nat} {v : Value} {d : DataW H} {p : List MemPlace} (h : DataW.Trod enc Tryd.prog W base (fun _ => true) true 24 v d p) (hv : ∃ a n c, v = .slice a n c) : ∃ ls, HL W v ls /\ ls.flatten.length + ls.length + 1 <= Rows.uptoBulk d := by
 obtain ⟨a, n, c, rfl⟩ := hv
 obtain ⟨fuel, hf⟩ := h
 rcases Go.Deep.open_slice Tryd.underlying24 hf with ⟨hcs, hx⟩ | ⟨a, len, cap, m, n, D, Pl, hcs, hb, hl, hm, hmm, hx, hel⟩
 ·simp only [Value.cells, List.cons.injEq, and_true] at hcs
  cases hx
  rw [hcs]
  exact ⟨[], HL.nil _, by simp [Rows.uptoBulk]⟩
 ·simp only [Value.cells, List.cons.injEq, and_true] at hcs
  rw [hcs]
  simp only [if_true] at hmm
  subst hmm
  simp only [Prod.mk.injEq] at hx
  obtain ⟨rfl, _⟩ := hx
  have each : ∀ i, i < len -> ∃ l, (∃ u, W.cell? (a.add i) = some u /\ HB W u l) /\ l.length + 1 <= Rows.uptoBulk (D i) := by
   intro i hi
   obtain ⟨cs', h1, h2⟩ := hel i (by omega)
   rw [Opn.cells_bytes, Nat.mul_one] at h1
   obtain ⟨q, c', l, rfl, k1, k2, k3, k4, k5, k6⟩ := open_row Tryd.underlying30 Tryd.underlying5 Opn.cells_u8 h2
   exact ⟨l, ⟨_, cell_of_cells?_one h1, ⟨⟨q, c', rfl, k1, k2, k3, k4⟩, byte_wf k5⟩⟩, k6⟩
  obtain ⟨L, hL⟩ := choose_lists len each
  have hlen : ((List.range len).map L).length = len := by simp
  refine ⟨(List.range len).map L, ⟨some a, m, by rw [hlen], by omega, hm, (fun e => by cases e), fun hne => ?_⟩, ?_⟩
  ·have h0 : 0 < len := by
    apply Classical.byContradiction
    intro h
    exact hne (List.length_eq_zero_iff.1 (by omega))
   obtain ⟨b, off, sp⟩ := a
   obtain ⟨⟨u, hu, _⟩, _⟩ := hL 0 h0
   have hsp : sp = none := by simpa [Addr.add] using World.cell?_spot hu
   subst hsp
   refine ⟨b, off, rfl, fun j hj => ?_⟩
   rw [hlen] at hj
   obtain ⟨⟨u, hu, hb⟩, _⟩ := hL j hj
   rw [Go.WideShapes.add_plain] at hu
   refine ⟨u, hu, ?_⟩
   have e : ((List.range len).map L).getD j [] = L j := by simp [List.getD, hj]
   rw [e]
   exact hb
  ·have h1 := bulk_sum len D L (fun i hi => (hL i hi).2)
   rw [hlen]
   simp only [Rows.uptoBulk]
   omega
end Go.Proofs.YtcpchhigiohlnaaDoor
namespace Go.Proofs.YtcpchhigiohlnaaDoor
open Go.RowKit
theorem info_u8 : (Tryd.prog.info? 5).map (fun i => (i.zero, i.size, i.bytes)) = some (some (.int .u8 0), 1, 1) := by kernel_rfl
theorem size_u8 : ∀ w, Sem.run Tryd.prog (Go.sizeOf 5) w = .ok 1 w := fun w => by
 obtain ⟨i0, hi, hz0, hz1, hz2⟩ := info_parts info_u8
 simp [Go.sizeOf, typeInfo, hi, hz1]
theorem eql_nil_bytes : ∀ (w : World) (a : Option Addr) (n c n' c' : Nat), (binOp .eql 30 (.slice a n c) (.slice none n' c')).run Tryd.prog w = .ok (.bool a.isNone) w :=
 fun w a n c n' c' => Lib.run_eql_slice_nil w _ _ a n c n' c' Tryd.underlying30
def rot (x n : Nat) : Nat := x * 2 ^ (32 - n) % 4294967296 ||| x / 2 ^ n
theorem rot_lt {x n : Nat} (hx : x < 4294967296) : rot x n < 4294967296 := by
 unfold rot
 have h1 : x * 2 ^ (32 - n) % 4294967296 < 2 ^ 32 := Nat.mod_lt _ (by decide)
 have h2 : x / 2 ^ n < 2 ^ 32 := Nat.lt_of_le_of_lt (Nat.div_le_self _ _) hx
 exact Nat.or_lt_two_pow h1 h2
theorem rot_bits (x n : Nat) (hx : x < 4294967296) : bits .or .u32 (IntKind.u32.wrap ((x : Int) * 2 ^ (32 - n))) ((x : Int) / 2 ^ n) = ((rot x n : Nat) : Int) := by
 have e1 : IntKind.u32.wrap ((x : Int) * 2 ^ (32 - n)) = ((x * 2 ^ (32 - n) % 4294967296 : Nat) : Int) := by
  rw [IntKind.wrap_u32, Int.natCast_emod, Int.natCast_mul, Int.natCast_pow]
  rfl
 have e2 : (x : Int) / 2 ^ n = ((x / 2 ^ n : Nat) : Int) := by rw [Int.natCast_ediv, Int.natCast_pow]; rfl
 rw [e1, e2, u32_or_nat _ _ (Nat.mod_lt _ (by decide)) (Nat.lt_of_le_of_lt (Nat.div_le_self _ _) hx)]
 rfl
theorem turn_6 (w : World) (x : Nat) (hx : x < 4294967296) : Calls Tryd.prog 84 #[.int .u32 (x : Int), .int .i64 6] w fun e w' => e = .returned (.int .u32 ((rot x 6 : Nat) : Int)) /\ w' = w := by
 have h1 : bits .and .u64 (IntKind.u64.wrap (-6)) 31 = 26 := by decide
 have HR := hid (rot_bits x 6 hx)
 go_enter Tryd.func84, Tryd.ntmps84
 go_wp2
 go_ret
 refine ⟨?_, rfl⟩
 rw [<- HR.out]
 rfl
theorem turn_11 (w : World) (x : Nat) (hx : x < 4294967296) : Calls Tryd.prog 84 #[.int .u32 (x : Int), .int .i64 11] w fun e w' => e = .returned (.int .u32 ((rot x 11 : Nat) : Int)) /\ w' = w := by
 have h1 : bits .and .u64 (IntKind.u64.wrap (-11)) 31 = 21 := by decide
 have HR := hid (rot_bits x 11 hx)
 go_enter Tryd.func84, Tryd.ntmps84
 go_wp2
 go_ret
 refine ⟨?_, rfl⟩
 rw [<- HR.out]
 rfl
theorem turn_25 (w : World) (x : Nat) (hx : x < 4294967296) : Calls Tryd.prog 84 #[.int .u32 (x : Int), .int .i64 25] w fun e w' => e = .returned (.int .u32 ((rot x 25 : Nat) : Int)) /\ w' = w := by
 have h1 : bits .and .u64 (IntKind.u64.wrap (-25)) 31 = 7 := by decide
 have HR := hid (rot_bits x 25 hx)
 go_enter Tryd.func84, Tryd.ntmps84
 go_wp2
 go_ret
 refine ⟨?_, rfl⟩
 rw [<- HR.out]
 rfl
theorem turn_2 (w : World) (x : Nat) (hx : x < 4294967296) : Calls Tryd.prog 84 #[.int .u32 (x : Int), .int .i64 2] w fun e w' => e = .returned (.int .u32 ((rot x 2 : Nat) : Int)) /\ w' = w := by
 have h1 : bits .and .u64 (IntKind.u64.wrap (-2)) 31 = 30 := by decide
 have HR := hid (rot_bits x 2 hx)
 go_enter Tryd.func84, Tryd.ntmps84
 go_wp2
 go_ret
 refine ⟨?_, rfl⟩
 rw [<- HR.out]
 rfl
theorem turn_13 (w : World) (x : Nat) (hx : x < 4294967296) : Calls Tryd.prog 84 #[.int .u32 (x : Int), .int .i64 13] w fun e w' => e = .returned (.int .u32 ((rot x 13 : Nat) : Int)) /\ w' = w := by
 have h1 : bits .and .u64 (IntKind.u64.wrap (-13)) 31 = 19 := by decide
 have HR := hid (rot_bits x 13 hx)
 go_enter Tryd.func84, Tryd.ntmps84
 go_wp2
 go_ret
 refine ⟨?_, rfl⟩
 rw [<- HR.out]
 rfl
theorem turn_22 (w : World) (x : Nat) (hx : x < 4294967296) : Calls Tryd.prog 84 #[.int .u32 (x : Int), .int .i64 22] w fun e w' => e = .returned (.int .u32 ((rot x 22 : Nat) : Int)) /\ w' = w := by
 have h1 : bits .and .u64 (IntKind.u64.wrap (-22)) 31 = 10 := by decide
 have HR := hid (rot_bits x 22 hx)
 go_enter Tryd.func84, Tryd.ntmps84
 go_wp2
 go_ret
 refine ⟨?_, rfl⟩
 rw [<- HR.out]
 rfl
theorem turn_7 (w : World) (x : Nat) (hx : x < 4294967296) : Calls Tryd.prog 84 #[.int .u32 (x : Int), .int .i64 7] w fun e w' => e = .returned (.int .u32 ((rot x 7 : Nat) : Int)) /\ w' = w := by
 have h1 : bits .and .u64 (IntKind.u64.wrap (-7)) 31 = 25 := by decide
 have HR := hid (rot_bits x 7 hx)
 go_enter Tryd.func84, Tryd.ntmps84
 go_wp2
 go_ret
 refine ⟨?_, rfl⟩
 rw [<- HR.out]
 rfl
theorem turn_18 (w : World) (x : Nat) (hx : x < 4294967296) : Calls Tryd.prog 84 #[.int .u32 (x : Int), .int .i64 18] w fun e w' => e = .returned (.int .u32 ((rot x 18 : Nat) : Int)) /\ w' = w := by
 have h1 : bits .and .u64 (IntKind.u64.wrap (-18)) 31 = 14 := by decide
 have HR := hid (rot_bits x 18 hx)
 go_enter Tryd.func84, Tryd.ntmps84
 go_wp2
 go_ret
 refine ⟨?_, rfl⟩
 rw [<- HR.out]
 rfl
theorem turn_17 (w : World) (x : Nat) (hx : x < 4294967296) : Calls Tryd.prog 84 #[.int .u32 (x : Int), .int .i64 17] w fun e w' => e = .returned (.int .u32 ((rot x 17 : Nat) : Int)) /\ w' = w := by
 have h1 : bits .and .u64 (IntKind.u64.wrap (-17)) 31 = 15 := by decide
 have HR := hid (rot_bits x 17 hx)
 go_enter Tryd.func84, Tryd.ntmps84
 go_wp2
 go_ret
 refine ⟨?_, rfl⟩
 rw [<- HR.out]
 rfl
theorem turn_19 (w : World) (x : Nat) (hx : x < 4294967296) : Calls Tryd.prog 84 #[.int .u32 (x : Int), .int .i64 19] w fun e w' => e = .returned (.int .u32 ((rot x 19 : Nat) : Int)) /\ w' = w := by
 have h1 : bits .and .u64 (IntKind.u64.wrap (-19)) 31 = 13 := by decide
 have HR := hid (rot_bits x 19 hx)
 go_enter Tryd.func84, Tryd.ntmps84
 go_wp2
 go_ret
 refine ⟨?_, rfl⟩
 rw [<- HR.out]
 rfl
def cellsB (l : List Int) : Array Value := (l.map (Value.int .u8)).toArray
theorem cellsB_size (l : List Int) : (cellsB l).size = l.length := by simp [cellsB]
theorem cellsB_one (l : List Int) : (cellsB l).all (·.oneCell') = true := all_oneCell_toArray (fun v hv => by obtain ⟨x, _, rfl⟩ := List.mem_map.1 hv; rfl)
def zeros32 : List Int := List.replicate 32 0
theorem part_u8 (w : World) (l : List Int) (i : Nat) (hi : i < l.length) : (part 5 (cellsB l) i).run Tryd.prog w = .ok (.int .u8 (l.getD i 0)) w := by
 have e : (cellsB l)[i]? = some (.int .u8 (l.getD i 0)) := by simp [cellsB, List.getD, List.getElem?_eq_getElem hi]
 simp [part, e]
def eqRound (d : Nat) (xs ys : List Int) (i : Nat) (_ : Option Bool × Unit) : Sem (ForInStep (Option Bool × Unit)) := do
 let a <- part 5 (cellsB xs) (i * 1)
 let b <- part 5 (cellsB ys) (i * 1)
 let c <- Op.equalIn (d + 1) 5 a b
 if (!c) = true then pure (ForInStep.done (some false, ())) else pure (ForInStep.yield (none, ()))
theorem run_eqRound (w : World) (d : Nat) (xs ys : List Int) (i : Nat) (s : Option Bool × Unit) (hx : i < xs.length) (hy : i < ys.length) :
  (eqRound d xs ys i s).run Tryd.prog w = .ok (if xs.getD i 0 = ys.getD i 0 then .yield (none, ()) else .done (some false, ())) w := by
 unfold eqRound
 simp only [Sem.run_bind, Nat.mul_one, part_u8 w xs i hx, part_u8 w ys i hy, Result.andThen_ok, run_equalIn_int w d 5 .u8 .u8 _ _ Tryd.underlying5]
 by_cases h : xs.getD i 0 = ys.getD i 0
 ·have e : (xs.getD i 0 == ys.getD i 0) = true := by simpa using h
  rw [e, if_pos h]; rfl
 ·have e : (xs.getD i 0 == ys.getD i 0) = false := by simpa using h
  rw [e, if_neg h]; rfl
theorem run_eqRounds (w : World) (d n : Nat) (xs ys : List Int) (hx : xs.length = n) (hy : ys.length = n) : ∀ (m k : Nat), k + m = n -> xs.take k = ys.take k →
  (forIn (List.range' k m 1) ((none : Option Bool), ()) (eqRound d xs ys)).run Tryd.prog w = .ok (if xs = ys then (none, ()) else (some false, ())) w
 | 0, k, hk, ht => by
  have e : xs = ys := by rw [<- List.take_of_length_le (show xs.length <= k by omega), <- List.take_of_length_le (show ys.length <= k by omega), ht]
  simp [e]
 | m + 1, k, hk, ht => by
  rw [List.range'_succ, List.forIn_cons, Sem.run_bind, run_eqRound w d xs ys k _ (by omega) (by omega), Result.andThen_ok]
  by_cases h : xs.getD k 0 = ys.getD k 0
  ·rw [if_pos h]
   have h2 : xs.take (k + 1) = ys.take (k + 1) := by
    rw [List.take_succ_eq_append_getElem (by omega), List.take_succ_eq_append_getElem (by omega), ht]
    rw [getD_of_lt (by omega), getD_of_lt (by omega)] at h
    rw [h]
   exact run_eqRounds w d n xs ys hx hy m (k + 1) (by omega) h2
  ·rw [if_neg h, if_neg (fun e => h (by rw [e]))]
   rfl
theorem run_equalIn_bytes (w : World) (d n : Nat) (t : TypeId) (ht : Tryd.prog.underlying t = some (.array n 5)) (xs ys : List Int) (hx : xs.length = n) (hy : ys.length = n) :
  (Op.equalIn (d + 2) t (.agg (cellsB xs)) (.agg (cellsB ys))).run Tryd.prog w = .ok (decide (xs = ys)) w := by
 rw [Op.equalIn]
 simp only [Sem.run_bind, run_underlying ht, Result.andThen_ok, size_u8]
 have hr := run_eqRounds w d n xs ys hx hy n 0 (by omega) rfl
 have e : (forIn (m := Sem) [:n] ((none : Option Bool), ()) (eqRound d xs ys)) = forIn (List.range' 0 n 1) ((none : Option Bool), ()) (eqRound d xs ys) := by
  rw [Std.Legacy.Range.forIn_eq_forIn_range']
  simp [Std.Legacy.Range.size]
 rw [<- e] at hr
 refine (congrArg (fun r => Result.andThen r _) hr).trans ?_
 by_cases h : xs = ys
 ·simp [h]
 ·simp [h]
theorem run_neq_bytes (w : World) (n : Nat) (t : TypeId) (ht : Tryd.prog.underlying t = some (.array n 5)) (xs ys : List Int) (hx : xs.length = n) (hy : ys.length = n) :
  (binOp .neq t (.agg (cellsB xs)) (.agg (cellsB ys))).run Tryd.prog w = .ok (.bool (!decide (xs = ys))) w := by
 rw [run_neq_struct, run_equalIn_bytes w 9998 n t ht xs ys hx hy]
 rfl
theorem run_eql_bytes (w : World) (n : Nat) (t : TypeId) (ht : Tryd.prog.underlying t = some (.array n 5)) (xs ys : List Int) (hx : xs.length = n) (hy : ys.length = n) :
  (binOp .eql t (.agg (cellsB xs)) (.agg (cellsB ys))).run Tryd.prog w = .ok (.bool (decide (xs = ys))) w := by
 rw [run_eql_struct, run_equalIn_bytes w 9998 n t ht xs ys hx hy]
 rfl
theorem info_digest : (Tryd.prog.info? 34).map (fun i => (i.zero, i.size, i.bytes)) = some (some (.agg (cellsB zeros32)), 32, 32) := by kernel_rfl
theorem size_digest : (Tryd.prog.info? 34).map (·.size) = some 32 := by kernel_rfl
theorem zeros32_length : zeros32.length = 32 := by simp [zeros32]
theorem run_alloc_digest (w : World) : (Instr.alloc 34 true (.tuple #[])).run Tryd.prog w = .ok (.pointer (some ⟨w.heap.size, 0, none⟩)) (w.alloc (.cells (cellsB zeros32) 34)) := by
 obtain ⟨i0, hi, hz0, hz1, hz2⟩ := info_parts info_digest
 simp [Instr.alloc, zeroValue, typeInfo, hi, hz0, newVar, newRow, Value.cells]
theorem wpList_alloc_digest {ops : Array Oper} {rest : List Oper} {o : Oper} {a : Act} {w : World} {Q : Exit -> Act -> World -> Prop} (hgd : o.guard = none) (ho : o.op = .alloc 34)
  (h : wpList Tryd.prog ops Q rest (a.put o.dst (.pointer (some ⟨w.heap.size, 0, none⟩))) (w.alloc (.cells (cellsB zeros32) 34))) : wpList Tryd.prog ops Q (o :: rest) a w :=
 wpList_plain hgd fun _ hK => by
  have hr := run_alloc_digest w
  unfold Oper.wp
  simp only [execOp, ho, Sem.run_bind, hr, Result.andThen_ok]
  exact hK _ _ h
theorem built_digest : Tryd.prog.built 34 [] = some (cellsB zeros32) := by kernel_rfl
theorem wpList_build_digest {ops : Array Oper} {rest : List Oper} {o : Oper} {a : Act} {w : World} {Q : Exit -> Act -> World -> Prop} (hgd : o.guard = none) (ho : o.op = .build 34 #[])
  (h : wpList Tryd.prog ops Q rest (a.put o.dst (.agg (cellsB zeros32))) w) : wpList Tryd.prog ops Q (o :: rest) a w := by
 have e : ((#[] : Array (Nat × Operand)).map fun (i, x) => (i, a.eval x)).toList = [] := by simp
 refine wpList_build hgd 34 #[] ho (by rw [e, built_digest]; rfl) ?_
 rw [e, built_digest]
 exact h
theorem below_setRow {B : Nat} {a w : World} (h : Below B a w) {g : Nat} (hg : B <= g) (cs : Array Value) : Below B a (w.setRow g cs) :=
 h.trans ⟨rfl, rfl, rfl, by simp [World.setRow], fun k hk => setRow_other w g k _ (by omega)⟩
def cellsW (l : List Nat) : Array Value := (l.map (fun x : Nat => Value.int .u32 (x : Int))).toArray
theorem cellsW_size (l : List Nat) : (cellsW l).size = l.length := by simp [cellsW]
theorem cellsW_one (l : List Nat) : (cellsW l).all (·.oneCell') = true := all_oneCell_toArray (fun v hv => by obtain ⟨x, _, rfl⟩ := List.mem_map.1 hv; rfl)
theorem cellsW_get {l : List Nat} {i : Nat} (h : i < l.length) : (cellsW l)[i]? = some (.int .u32 ((l.getD i 0 : Nat) : Int)) := by
 simp [cellsW, List.getD, List.getElem?_eq_getElem h]
theorem cellsW_set (l : List Nat) (i x : Nat) : (cellsW l).setIfInBounds i (.int .u32 (x : Int)) = cellsW (l.set i x) := by
 unfold cellsW
 rw [List.map_set]
 simp
def zerosW (n : Nat) : List Nat := List.replicate n 0
theorem zerosW_length (n : Nat) : (zerosW n).length = n := by simp [zerosW]
theorem wpList_alloc_agg {T : TypeId} {cs : Array Value} (hz : (Tryd.prog.info? T).map (·.zero) = some (some (.agg cs))) {ops : Array Oper} {rest : List Oper} {o : Oper} {a : Act} {w : World} {Q : Exit -> Act -> World -> Prop} (hgd : o.guard = none) (ho : o.op = .alloc T)
  (h : wpList Tryd.prog ops Q rest (a.put o.dst (.pointer (some ⟨w.heap.size, 0, none⟩))) (w.alloc (.cells cs T))) : wpList Tryd.prog ops Q (o :: rest) a w :=
 wpList_plain hgd fun _ hK => by
  have hr : (Instr.alloc T true (.tuple #[])).run Tryd.prog w = .ok (.pointer (some ⟨w.heap.size, 0, none⟩)) (w.alloc (.cells cs T)) := by
   cases hi : Tryd.prog.info? T with
   | none => simp [hi] at hz
   | some i0 =>
    simp [hi] at hz
    simp [Instr.alloc, zeroValue, typeInfo, hi, hz, newVar, newRow, Value.cells]
  unfold Oper.wp
  simp only [execOp, ho, Sem.run_bind, hr, Result.andThen_ok]
  exact hK _ _ h
theorem zero_w64 : (Tryd.prog.info? 95).map (·.zero) = some (some (.agg (cellsW (zerosW 64)))) := by kernel_rfl
theorem zero_w8 : (Tryd.prog.info? 69).map (·.zero) = some (some (.agg (cellsW (zerosW 8)))) := by kernel_rfl
theorem size_w64 : (Tryd.prog.info? 95).map (·.size) = some 64 := by kernel_rfl
theorem size_w8 : (Tryd.prog.info? 69).map (·.size) = some 8 := by kernel_rfl
theorem size_b64 : (Tryd.prog.info? 71).map (·.size) = some 64 := by kernel_rfl
def beW (l : List Int) (t : Nat) : Nat := (l.getD (4 * t) 0).toNat * 16777216 + (l.getD (4 * t + 1) 0).toNat * 65536 + (l.getD (4 * t + 2) 0).toNat * 256 + (l.getD (4 * t + 3) 0).toNat
def add32 (x y : Nat) : Nat := (x + y) % 4294967296
def sig0 (x : Nat) : Nat := rot x 7 ^^^ rot x 18 ^^^ x / 8
def sig1 (x : Nat) : Nat := rot x 17 ^^^ rot x 19 ^^^ x / 1024
def nextW (l : List Int) (ws : List Nat) (t : Nat) : Nat :=
 if t < 16 then beW l t else add32 (add32 (add32 (sig1 (ws.getD (t - 2) 0)) (ws.getD (t - 7) 0)) (sig0 (ws.getD (t - 15) 0))) (ws.getD (t - 16) 0)
def wordsTo (l : List Int) : Nat -> List Nat
 | 0 => []
 | t + 1 => wordsTo l t ++ [nextW l (wordsTo l t) t]
theorem wordsTo_length (l : List Int) : ∀ t, (wordsTo l t).length = t
 | 0 => rfl
 | t + 1 => by simp [wordsTo, wordsTo_length l t]
def curWs (l : List Int) (t : Nat) : List Nat := wordsTo l t ++ List.replicate (64 - t) 0
theorem curWs_length (l : List Int) (t : Nat) (h : t <= 64) : (curWs l t).length = 64 := by simp [curWs, wordsTo_length]; omega
theorem curWs_step (l : List Int) (t : Nat) (h : t < 64) : (curWs l t).set t (nextW l (wordsTo l t) t) = curWs l (t + 1) := by
 unfold curWs
 rw [List.set_append_right _ _ (by rw [wordsTo_length]; exact Nat.le_refl _), wordsTo_length, Nat.sub_self, show 64 - t = (64 - (t + 1)) + 1 by omega, List.replicate_succ, List.set_cons_zero]
 simp [wordsTo]
theorem curWs_get (l : List Int) (t i : Nat) (h : i < t) : (curWs l t).getD i 0 = (wordsTo l t).getD i 0 := by
 unfold curWs
 simp [List.getD, List.getElem?_append, wordsTo_length, h]
theorem byte_nat {l : List Int} (h : ∀ x ∈ l, 0 <= x /\ x < 256) (i : Nat) : (l.getD i 0).toNat < 256 := by
 by_cases hj : i < l.length
 ·rw [getD_of_lt hj]
  have := h _ (List.getElem_mem hj)
  omega
 ·have e : l.getD i 0 = 0 := by simp [List.getD, List.getElem?_eq_none (by omega : l.length <= i)]
  rw [e]; decide
theorem beW_lt {l : List Int} (h : ∀ x ∈ l, 0 <= x /\ x < 256) (t : Nat) : beW l t < 4294967296 := by
 unfold beW
 have h0 := byte_nat h (4 * t)
 have h1 := byte_nat h (4 * t + 1)
 have h2 := byte_nat h (4 * t + 2)
 have h3 := byte_nat h (4 * t + 3)
 omega
theorem nextW_lt {l : List Int} (h : ∀ x ∈ l, 0 <= x /\ x < 256) (ws : List Nat) (t : Nat) : nextW l ws t < 4294967296 := by
 unfold nextW
 split
 ·exact beW_lt h t
 ·exact Nat.mod_lt _ (by decide)
theorem wordsTo_lt {l : List Int} (h : ∀ x ∈ l, 0 <= x /\ x < 256) : ∀ t, ∀ x ∈ wordsTo l t, x < 4294967296
 | 0 => by simp [wordsTo]
 | t + 1 => by
  intro x hx
  rcases List.mem_append.1 hx with h1 | h1
  ·exact wordsTo_lt h t x h1
  ·have : x = nextW l (wordsTo l t) t := by simpa using h1
   rw [this]
   exact nextW_lt h _ _
theorem getW_lt {ws : List Nat} (h : ∀ x ∈ ws, x < 4294967296) (i : Nat) : ws.getD i 0 < 4294967296 := by
 by_cases hj : i < ws.length
 ·rw [show ws.getD i 0 = ws[i] by simp [List.getD, List.getElem?_eq_getElem hj]]
  exact h _ (List.getElem_mem hj)
 ·rw [show ws.getD i 0 = 0 by simp [List.getD, List.getElem?_eq_none (by omega : ws.length <= i)]]
  decide
theorem or_four (a b c d : Nat) (ha : a < 256) (hb : b < 256) (hc : c < 256) (hd : d < 256) :
  bits .or .u32 (bits .or .u32 (bits .or .u32 ((a : Int) * 16777216) ((b : Int) * 65536)) ((c : Int) * 256)) (d : Int) = ((a * 16777216 + b * 65536 + c * 256 + d : Nat) : Int) := by
 have e1 : bits .or .u32 ((a : Int) * 16777216) ((b : Int) * 65536) = ((a * 16777216 + b * 65536 : Nat) : Int) := by
  have := u32_or_nat (a * 16777216) (b * 65536) (by omega) (by omega)
  rw [Int.natCast_mul, Int.natCast_mul] at this
  rw [show ((a : Int) * 16777216) = (a : Int) * ((16777216 : Nat) : Int) from rfl, show ((b : Int) * 65536) = (b : Int) * ((65536 : Nat) : Int) from rfl, this]
  congr 1
  have := Nat.two_pow_add_eq_or_of_lt (i := 24) (b := b * 65536) (by omega) a
  rw [show 2 ^ 24 * a = a * 16777216 by omega] at this
  omega
 have e2 : bits .or .u32 ((a * 16777216 + b * 65536 : Nat) : Int) ((c : Int) * 256) = ((a * 16777216 + b * 65536 + c * 256 : Nat) : Int) := by
  have := u32_or_nat (a * 16777216 + b * 65536) (c * 256) (by omega) (by omega)
  rw [show ((c : Int) * 256) = ((c * 256 : Nat) : Int) by rw [Int.natCast_mul]; rfl, this]
  congr 1
  have := Nat.two_pow_add_eq_or_of_lt (i := 16) (b := c * 256) (by omega) (a * 256 + b)
  rw [show 2 ^ 16 * (a * 256 + b) = a * 16777216 + b * 65536 by omega] at this
  omega
 rw [e1, e2, u32_or_nat _ _ (by omega) (by omega)]
 congr 1
 have := Nat.two_pow_add_eq_or_of_lt (i := 8) (b := d) (by omega) (a * 65536 + b * 256 + c)
 rw [show 2 ^ 8 * (a * 65536 + b * 256 + c) = a * 16777216 + b * 65536 + c * 256 by omega] at this
 omega
theorem grown_setd (w : World) (g o : Nat) (u : Value) : w.grownBy (w.setCell ⟨g, o, none⟩ u).drew (some g) :=
 ⟨rfl, rfl, rfl, by show w.heap.size <= (w.setCell ⟨g, o, none⟩ u).heap.size; simp, fun k _ hk => heap_setCell_other w ⟨g, o, none⟩ k u (fun e => hk (by simp [e]))⟩
theorem grown_sets (w : World) (g o : Nat) (u : Value) : w.grownBy (w.setCell ⟨g, o, none⟩ u) (some g) :=
 ⟨rfl, rfl, rfl, by simp, fun k _ hk => heap_setCell_other w ⟨g, o, none⟩ k u (fun e => hk (by simp [e]))⟩
theorem grown_tr {a b c : World} {r : Option Nat} (h : a.grownBy b r) (k : b.grownBy c r) : a.grownBy c r :=
 ⟨k.os.trans h.os, k.tape.trans h.tape, k.output.trans h.output, Nat.le_trans h.size k.size, fun i hi hr => (k.block i (Nat.lt_of_lt_of_le hi h.size) hr).trans (h.block i hi hr)⟩
theorem sig0_bits (x : Nat) (hx : x < 4294967296) : bits .xor .u32 (bits .xor .u32 ((rot x 7 : Nat) : Int) ((rot x 18 : Nat) : Int)) ((x : Int) / 8) = ((sig0 x : Nat) : Int) := by
 have h1 : rot x 7 ^^^ rot x 18 < 2 ^ 32 := Nat.xor_lt_two_pow (rot_lt hx) (rot_lt hx)
 rw [u32_xor_nat _ _ (rot_lt hx) (rot_lt hx), show (x : Int) / 8 = ((x / 8 : Nat) : Int) by omega, u32_xor_nat _ _ h1 (by omega)]
 rfl
theorem sig1_bits (x : Nat) (hx : x < 4294967296) : bits .xor .u32 (bits .xor .u32 ((rot x 17 : Nat) : Int) ((rot x 19 : Nat) : Int)) ((x : Int) / 1024) = ((sig1 x : Nat) : Int) := by
 have h1 : rot x 17 ^^^ rot x 19 < 2 ^ 32 := Nat.xor_lt_two_pow (rot_lt hx) (rot_lt hx)
 rw [u32_xor_nat _ _ (rot_lt hx) (rot_lt hx), show (x : Int) / 1024 = ((x / 1024 : Nat) : Int) by omega, u32_xor_nat _ _ h1 (by omega)]
 rfl
theorem add32_lt (x y : Nat) : add32 x y < 4294967296 := Nat.mod_lt _ (by decide)
theorem sched_any (w : World) (l : List Int) (hl : l.length = 64) (hby : ∀ x ∈ l, 0 <= x /\ x < 256) :
  Calls Tryd.prog 83 #[.agg (cellsB l)] w fun e w' => e = .returned (.agg (cellsW (wordsTo l 64))) /\ Below w.heap.size w w' := by
 obtain ⟨z, HZ⟩ : ∃ z, Hid (cellsW (zerosW 64) = z) := ⟨_, rfl⟩
 have hz := zero_w64
 rw [HZ.out] at hz
 have HZ0 := hid hz
 obtain ⟨bl, HBL⟩ : ∃ bl, Hid (cellsB l = bl) := ⟨_, rfl⟩
 rw [HBL.out]
 clear hz
 go_enter Tryd.func83, Tryd.ntmps83
 go_wp2_with (refine wpList_alloc_agg HZ0.out rfl rfl ?_)
 obtain ⟨W0, hW0⟩ : ∃ W0, Hid (((w.alloc (.cells bl 71)).alloc (.cells z 95)).alloc (.cells z 95) = W0) := ⟨_, rfl⟩
 rw [hW0.out]
 have HB0 : Hid (Below w.heap.size w W0) := by rw [<- hW0.out]; exact (((Below.refl _ w).alloc (Nat.le_refl _) _).alloc (by simp) _).alloc (by simp; omega) _
 have HS0 : Hid (W0.heap.size = w.heap.size + 3) := by rw [<- hW0.out]; show _ = _; simp
 have H0 : Hid (W0.heap[w.heap.size]? = some (.cells bl 71 (0, 0))) := by
  rw [<- hW0.out]
  exact (Below.heap_alloc _ _ _ (by simp; omega)).trans ((Below.heap_alloc _ _ _ (by simp)).trans (heap_alloc_new w _))
 have H1 : Hid (W0.heap[w.heap.size + 1]? = some (.cells z 95 (0, 0))) := by
  rw [<- hW0.out]
  refine (Below.heap_alloc _ _ _ (by simp)).trans ?_
  have := heap_alloc_new (w.alloc (.cells bl 71)) (.cells z 95)
  rwa [World.size_alloc] at this
 have H2 : Hid (W0.heap[w.heap.size + 2]? = some (.cells (cellsW (curWs l 0)) 95 (0, 0))) := by
  have := heap_alloc_new ((w.alloc (.cells bl 71)).alloc (.cells z 95)) (.cells z 95)
  rw [World.size_alloc, World.size_alloc, hW0.out, <- HZ.out] at this
  exact this
 clear hW0
 go_loopw [11] (fun i wr => ∃ I : Nat, I <= 16 /\ i = .int .i64 I /\ Hid (wr.heap[w.heap.size + 2]? = some (.cells (cellsW (curWs l I)) 95 (0, 0))) /\ Hid (W0.grownBy wr (some (w.heap.size + 2)))) (fun i _ => 16 - (intOf i).toNat)
 case atStart => exact ⟨0, Nat.zero_le _, rfl, H2, ⟨rfl, rfl, rfl, Nat.le_refl _, fun _ _ _ => rfl⟩⟩
 case round =>
  obtain ⟨I, hI, rfl, HF, HG⟩ := hrel
  by_cases hlt : I < 16
  ·have hb := (HG.out.block w.heap.size (by rw [HS0.out]; omega) (by simp)).trans H0.out
   have byt : ∀ j, j < 64 -> ∃ a : Nat, a < 256 /\ wr.cell? ⟨w.heap.size, j, none⟩ = some (.int .u8 (a : Int)) /\ (l.getD j 0).toNat = a := fun j hj => by
    have hlj : j < l.length := by omega
    refine ⟨(l.getD j 0).toNat, byte_nat hby j, ?_, rfl⟩
    rw [cell_of_row wr w.heap.size j _ _ _ hb, <- HBL.out]
    have := hby _ (List.getElem_mem hlj)
    simp only [cellsB, List.getElem?_toArray, List.getElem?_map, List.getElem?_eq_getElem hlj, Option.map_some, getD_of_lt hlj]
    congr 2
    omega
   obtain ⟨a0, ha0, c0, e0⟩ := byt (4 * I) (by omega)
   obtain ⟨a1, ha1, c1, e1⟩ := byt (4 * I + 1) (by omega)
   obtain ⟨a2, ha2, c2, e2⟩ := byt (4 * I + 2) (by omega)
   obtain ⟨a3, ha3, c3, e3⟩ := byt (4 * I + 3) (by omega)
   have HV : Hid (nextW l (wordsTo l I) I = a0 * 16777216 + a1 * 65536 + a2 * 256 + a3) := by
    show _ = _
    unfold nextW beW
    rw [if_pos hlt, e0, e1, e2, e3]
   have HE := hid (And.intro e0 (And.intro e1 (And.intro e2 e3)))
   have HOR := hid (or_four a0 a1 a2 a3 ha0 ha1 ha2 ha3)
   have hci : wr.cell? ⟨w.heap.size + 2, I, none⟩ = some (.int .u32 (((curWs l I).getD I 0 : Nat) : Int)) := by
    rw [cell_of_row wr (w.heap.size + 2) I _ _ _ HF.out]
    exact cellsW_get (by rw [curWs_length l I (by omega)]; omega)
   obtain ⟨old, HOLD⟩ : ∃ old, Hid ((curWs l I).getD I 0 = old) := ⟨_, rfl⟩
   rw [HOLD.out] at hci
   have hfz : wr.frozen? ⟨w.heap.size + 2, I, none⟩ = false := by simp [World.frozen?, HF.out]
   clear byt hb e0 e1 e2 e3
   go_wp2
   go_region
   all_goals go_wp2
   refine ⟨⟨I + 1, by omega, by go_num, ?_, grown_tr HG.out (grown_setd _ _ _ _)⟩, by simp [intOf]; omega⟩
   show _ = _
   rw [<- curWs_step l I (by omega), HV.out, <- cellsW_set, HOR.out]
   exact heap_setCell_same wr (w.heap.size + 2) I _ _ _ HF.out
  ·have hI16 : I = 16 := by omega
   rw [hI16] at HF
   clear hI16
   go_wp2
   clear hlt
   go_loopw [6] (fun i wq => ∃ I : Nat, 16 <= I /\ I <= 64 /\ i = .int .i64 I /\ Hid (wq.heap[w.heap.size + 2]? = some (.cells (cellsW (curWs l I)) 95 (0, 0))) /\ Hid (W0.grownBy wq (some (w.heap.size + 2)))) (fun i _ => 64 - (intOf i).toNat)
   case atStart => exact ⟨16, Nat.le_refl _, by decide, rfl, HF, HG⟩
   case round =>
    clear HF HG hI
    obtain ⟨I, hI16, hI, rfl, HF, HG⟩ := hrel
    by_cases hlt : I < 64
    ·have cell : ∀ j, j < I -> ∃ a : Nat, a < 4294967296 /\ wr.cell? ⟨w.heap.size + 2, j, none⟩ = some (.int .u32 (a : Int)) /\ (wordsTo l I).getD j 0 = a := fun j hj => by
      refine ⟨_, getW_lt (wordsTo_lt hby I) j, ?_, rfl⟩
      rw [cell_of_row wr (w.heap.size + 2) j _ _ _ HF.out, cellsW_get (by rw [curWs_length l I hI]; omega), curWs_get l I j hj]
     obtain ⟨a2, ha2, c2, e2⟩ := cell (I - 2) (by omega)
     obtain ⟨a7, ha7, c7, e7⟩ := cell (I - 7) (by omega)
     obtain ⟨a15, ha15, c15, e15⟩ := cell (I - 15) (by omega)
     obtain ⟨a16, ha16, c16, e16⟩ := cell (I - 16) (by omega)
     have HV : Hid (nextW l (wordsTo l I) I = add32 (add32 (add32 (sig1 a2) a7) (sig0 a15)) a16) := by
      show _ = _
      unfold nextW
      rw [if_neg (by omega), e2, e7, e15, e16]
     have hci : wr.cell? ⟨w.heap.size + 2, I, none⟩ = some (.int .u32 (((curWs l I).getD I 0 : Nat) : Int)) := by
      rw [cell_of_row wr (w.heap.size + 2) I _ _ _ HF.out]
      exact cellsW_get (by rw [curWs_length l I (by omega)]; omega)
     obtain ⟨old, HOLD⟩ : ∃ old, Hid ((curWs l I).getD I 0 = old) := ⟨_, rfl⟩
     rw [HOLD.out] at hci
     have hfz : wr.frozen? ⟨w.heap.size + 2, I, none⟩ = false := by simp [World.frozen?, HF.out]
     have n2 : ((I : Int) - 2) = ((I - 2 : Nat) : Int) := by omega
     have n7 : ((I : Int) - 7) = ((I - 7 : Nat) : Int) := by omega
     have n15 : ((I : Int) - 15) = ((I - 15 : Nat) : Int) := by omega
     have n16 : ((I : Int) - 16) = ((I - 16 : Nat) : Int) := by omega
     clear cell e2 e7 e15 e16
     have HS0 := hid (sig0_bits a15 ha15)
     have HS1 := hid (sig1_bits a2 ha2)
     have dc7 : wr.drew.cell? ⟨w.heap.size + 2, I - 7, none⟩ = some (.int .u32 (a7 : Int)) := c7
     have dc16 : wr.drew.cell? ⟨w.heap.size + 2, I - 16, none⟩ = some (.int .u32 (a16 : Int)) := c16
     have dci : wr.drew.cell? ⟨w.heap.size + 2, I, none⟩ = some (.int .u32 (old : Int)) := hci
     have dfz : wr.drew.frozen? ⟨w.heap.size + 2, I, none⟩ = false := hfz
     go_wp2
     go_region
     go_wp2_with fail
     refine (turn_7 _ a15 ha15).mono ?_
     rintro e w' ⟨rfl, hw⟩
     subst hw
     go_wp2_with fail
     refine (turn_18 _ a15 ha15).mono ?_
     rintro e w' ⟨rfl, hw⟩
     subst hw
     go_wp2_with fail
     rw [HS0.out]
     refine (turn_17 _ a2 ha2).mono ?_
     rintro e w' ⟨rfl, hw⟩
     subst hw
     go_wp2_with fail
     refine (turn_19 _ a2 ha2).mono ?_
     rintro e w' ⟨rfl, hw⟩
     subst hw
     go_wp2_with fail
     rw [HS1.out]
     go_region
     all_goals go_wp2
     have HADD : Hid ((((sig1 a2 : Nat) : Int) + (a7 : Int) + ((sig0 a15 : Nat) : Int) + (a16 : Int)) % 4294967296 = ((add32 (add32 (add32 (sig1 a2) a7) (sig0 a15)) a16 : Nat) : Int)) := by
      show _ = _
      unfold add32
      omega
     refine ⟨⟨I + 1, by omega, by omega, by go_num, ?_, grown_tr HG.out (grown_tr (b := wr.drew) ⟨rfl, rfl, rfl, Nat.le_refl _, fun _ _ _ => rfl⟩ (grown_setd _ _ _ _))⟩, by simp [intOf]; omega⟩
     show _ = _
     rw [<- curWs_step l I (by omega), HV.out, <- cellsW_set, HADD.out]
     exact heap_setCell_same wr (w.heap.size + 2) I _ _ _ HF.out
    ·have hI64 : I = 64 := by omega
     subst hI64
     have HWW : Hid (curWs l 64 = wordsTo l 64) := by show _ = _; simp [curWs]
     rw [HWW.out] at HF
     obtain ⟨y, HY⟩ : ∃ y, Hid (cellsW (wordsTo l 64) = y) := ⟨_, rfl⟩
     rw [HY.out] at HF
     have hys : y.size = 64 := by rw [<- HY.out, cellsW_size, wordsTo_length]
     have HIy : Hid ((Tryd.prog.info? 95).map (·.size) = some y.size) := by rw [hys]; exact size_w64
     have H1y : Hid (y.all (·.oneCell') = true) := by rw [<- HY.out]; exact cellsW_one _
     have HF1c : Hid (wr.heap[w.heap.size + 1]? = some (.cells z 95 (0, 0))) := by
      rw [HG.out.block (w.heap.size + 1) (by rw [HS0.out]; omega) (by simp)]
      exact H1
     have HZY : Hid (z.size = y.size) := by rw [hys, <- HZ.out, cellsW_size, zerosW_length]; exact rfl
     have HB1 := hid (below_setRow (HB0.out.grown HG.out (by rw [HS0.out]; omega) (fun k e => by cases e; omega)) (g := w.heap.size + 1) (by omega) y)
     clear hys hlt
     go_wp2_with (first | (refine wpList_load_row rfl 95 _ rfl (w.heap.size + 2) rfl 95 y (0, 0) _ HF.out Tryd.underlying95 rfl HIy.out ?_) | (refine wpList_store_row rfl 95 _ _ rfl (w.heap.size + 1) y rfl rfl 95 _ HF1c.out HIy.out HZY.out H1y.out ?_))
     refine bodyPost_ret (v := .agg y) (results_cell_row (p := 2) (ty := 95) rfl _ _ (w.heap.size + 1) 95 y (0, 0) _ rfl (setRow_heap _ _ _ _ _ _ HF1c.out) Tryd.underlying95 rfl HIy.out) rfl ?_
     rw [HY.out]
     exact ⟨rfl, HB1.out⟩
def kW : List Nat := [1116352408, 1899447441, 3049323471, 3921009573, 961987163, 1508970993, 2453635748, 2870763221, 3624381080, 310598401, 607225278, 1426881987, 1925078388, 2162078206, 2614888103, 3248222580, 3835390401, 4022224774, 264347078, 604807628, 770255983, 1249150122, 1555081692, 1996064986, 2554220882, 2821834349, 2952996808, 3210313671, 3336571891, 3584528711, 113926993, 338241895, 666307205, 773529912, 1294757372, 1396182291, 1695183700, 1986661051, 2177026350, 2456956037, 2730485921, 2820302411, 3259730800, 3345764771, 3516065817, 3600352804, 4094571909, 275423344, 430227734, 506948616, 659060556, 883997877, 958139571, 1322822218, 1537002063, 1747873779, 1955562222, 2024104815, 2227730452, 2361852424, 2428436474, 2756734187, 3204031479, 3329325298]
theorem kW_length : kW.length = 64 := by rfl
theorem kW_lt : ∀ x ∈ kW, x < 4294967296 := by decide
def KC (w : World) : Prop := ∀ t, t < 64 -> w.cell? ⟨0, t, none⟩ = some (.int .u32 ((kW.getD t 0 : Nat) : Int))
theorem KC.below {w w' : World} (h : KC w) (hb : Below w.heap.size w w') : KC w' := fun t ht => (hb.cell (World.block_lt_of_cell? w _ (h t ht))).trans (h t ht)
def bs1 (e : Nat) : Nat := rot e 6 ^^^ rot e 11 ^^^ rot e 25
def bs0 (a : Nat) : Nat := rot a 2 ^^^ rot a 13 ^^^ rot a 22
def chW (e f g : Nat) : Nat := (e &&& f) ^^^ ((4294967295 ^^^ e) &&& g)
def majW (a b c : Nat) : Nat := (a &&& b) ^^^ (a &&& c) ^^^ (b &&& c)
def rnd (k x : Nat) : List Nat -> List Nat
 | [a, b, c, d, e, f, g, h] =>
  let u := (h + bs1 e + chW e f g + k + x) % 4294967296
  let v := (bs0 a + majW a b c) % 4294967296
  [(u + v) % 4294967296, a, b, c, (d + u) % 4294967296, e, f, g]
 | _ => []
def rnds (hs ws : List Nat) : Nat -> List Nat
 | 0 => hs
 | t + 1 => rnd (kW.getD t 0) (ws.getD t 0) (rnds hs ws t)
def mixL (hs : List Nat) (l : List Int) : List Nat := List.zipWith add32 hs (rnds hs (wordsTo l 64) 64)
theorem xor32 {x y : Nat} (hx : x < 4294967296) (hy : y < 4294967296) : x ^^^ y < 4294967296 := Nat.xor_lt_two_pow (n := 32) hx hy
theorem and32 {x y : Nat} (hx : x < 4294967296) : x &&& y < 4294967296 := Nat.lt_of_le_of_lt Nat.and_le_left hx
theorem bs1_bits (x : Nat) (hx : x < 4294967296) : bits .xor .u32 (bits .xor .u32 ((rot x 6 : Nat) : Int) ((rot x 11 : Nat) : Int)) ((rot x 25 : Nat) : Int) = ((bs1 x : Nat) : Int) := by
 rw [u32_xor_nat _ _ (rot_lt hx) (rot_lt hx), u32_xor_nat _ _ (xor32 (rot_lt hx) (rot_lt hx)) (rot_lt hx)]
 rfl
theorem bs0_bits (x : Nat) (hx : x < 4294967296) : bits .xor .u32 (bits .xor .u32 ((rot x 2 : Nat) : Int) ((rot x 13 : Nat) : Int)) ((rot x 22 : Nat) : Int) = ((bs0 x : Nat) : Int) := by
 rw [u32_xor_nat _ _ (rot_lt hx) (rot_lt hx), u32_xor_nat _ _ (xor32 (rot_lt hx) (rot_lt hx)) (rot_lt hx)]
 rfl
theorem ch_bits (e f g : Nat) (he : e < 4294967296) (hf : f < 4294967296) (hg : g < 4294967296) :
  bits .xor .u32 (bits .and .u32 (e : Int) (f : Int)) (bits .and .u32 (bits .xor .u32 4294967295 (e : Int)) (g : Int)) = ((chW e f g : Nat) : Int) := by
 have h1 : bits .xor .u32 4294967295 (e : Int) = ((4294967295 ^^^ e : Nat) : Int) := u32_xor_nat 4294967295 e (by decide) he
 rw [h1, u32_and_nat _ _ he hf, u32_and_nat _ _ (xor32 (by decide) he) hg, u32_xor_nat _ _ (and32 he) (and32 (xor32 (by decide) he))]
 rfl
theorem maj_bits (a b c : Nat) (ha : a < 4294967296) (hb : b < 4294967296) (hc : c < 4294967296) :
  bits .xor .u32 (bits .xor .u32 (bits .and .u32 (a : Int) (b : Int)) (bits .and .u32 (a : Int) (c : Int))) (bits .and .u32 (b : Int) (c : Int)) = ((majW a b c : Nat) : Int) := by
 rw [u32_and_nat _ _ ha hb, u32_and_nat _ _ ha hc, u32_and_nat _ _ hb hc, u32_xor_nat _ _ (and32 ha) (and32 ha), u32_xor_nat _ _ (xor32 (and32 ha) (and32 ha)) (and32 hb)]
 rfl
theorem turn_i (w : World) (x : Nat) (i : Int) (hx : x < 4294967296) (hi : i = 6 \/ i = 11 \/ i = 25 \/ i = 2 \/ i = 13 \/ i = 22) : Calls Tryd.prog 84 #[.int .u32 (x : Int), .int .i64 i] w fun e w' => e = .returned (.int .u32 ((rot x i.toNat : Nat) : Int)) /\ w' = w := by
 rcases hi with rfl | rfl | rfl | rfl | rfl | rfl
 ·exact turn_6 w x hx
 ·exact turn_11 w x hx
 ·exact turn_25 w x hx
 ·exact turn_2 w x hx
 ·exact turn_13 w x hx
 ·exact turn_22 w x hx
def W8 (s : List Nat) : Prop := s.length = 8 /\ ∀ x ∈ s, x < 4294967296
theorem W8.open {s : List Nat} (hs : W8 s) : ∃ a b c d e f g h, s = [a, b, c, d, e, f, g, h] /\ a < 4294967296 /\ b < 4294967296 /\ c < 4294967296 /\ d < 4294967296 /\ e < 4294967296 /\ f < 4294967296 /\ g < 4294967296 /\ h < 4294967296 := by
 obtain ⟨hl, hx⟩ := hs
 match s, hl with
 | [a, b, c, d, e, f, g, h], _ =>
  exact ⟨a, b, c, d, e, f, g, h, rfl, hx a (by simp), hx b (by simp), hx c (by simp), hx d (by simp), hx e (by simp), hx f (by simp), hx g (by simp), hx h (by simp)⟩
theorem W8.rnd {k x : Nat} {s : List Nat} (hs : W8 s) : W8 (rnd k x s) := by
 obtain ⟨a, b, c, d, e, f, g, h, rfl, ha, hb, hc, hd, he, hf, hg, hh⟩ := hs.open
 refine ⟨rfl, fun y hy => ?_⟩
 simp only [YtcpchhigiohlnaaDoor.rnd, List.mem_cons, List.not_mem_nil, or_false] at hy
 rcases hy with rfl | rfl | rfl | rfl | rfl | rfl | rfl | rfl <;> first | assumption | exact Nat.mod_lt _ (by decide)
theorem W8.rnds {hs ws : List Nat} (h : W8 hs) : ∀ t, W8 (rnds hs ws t)
 | 0 => h
 | t + 1 => (W8.rnds h t).rnd
theorem W8.mix {hs : List Nat} {l : List Int} (h : W8 hs) : W8 (mixL hs l) := by
 have h2 := W8.rnds (ws := wordsTo l 64) h 64
 refine ⟨by simp [mixL, h.1, h2.1], fun x hx => ?_⟩
 obtain ⟨i, hi, rfl⟩ := List.getElem_of_mem hx
 simp only [mixL, List.getElem_zipWith]
 exact add32_lt _ _
theorem info_u32 : (Tryd.prog.info? 35).map (fun i => (i.zero, i.size, i.bytes)) = some (some (.int .u32 0), 1, 4) := by kernel_rfl
theorem size_u32 : ∀ w, Sem.run Tryd.prog (Go.sizeOf 35) w = .ok 1 w := fun w => by
 obtain ⟨i0, hi, hz0, hz1, hz2⟩ := info_parts info_u32
 simp [Go.sizeOf, typeInfo, hi, hz1]
theorem part_u32 (w : World) (l : List Nat) (i : Nat) (hi : i < l.length) : (part 35 (cellsW l) i).run Tryd.prog w = .ok (.int .u32 ((l.getD i 0 : Nat) : Int)) w := by
 simp [part, cellsW_get hi]
theorem run_index_w8 (w : World) (l : List Nat) (hl : l.length = 8) (i : Nat) (hi : i < 8) : (Instr.index 69 (.agg (cellsW l)) (.int .i64 (i : Int))).run Tryd.prog w = .ok (.int .u32 ((l.getD i 0 : Nat) : Int)) w := by
 have h1 := part_u32 w l i (by omega)
 simp [Instr.index, run_underlying Tryd.underlying69, asIntOf, h1, hi]
def curM (hs st : List Nat) (i : Nat) : List Nat := (List.zipWith add32 hs st).take i ++ hs.drop i
theorem curM_length {hs st : List Nat} (h1 : hs.length = 8) (h2 : st.length = 8) (i : Nat) : (curM hs st i).length = 8 := by simp [curM, h1, h2]; omega
theorem curM_get {hs st : List Nat} (h1 : hs.length = 8) (h2 : st.length = 8) {i : Nat} (hi : i < 8) : (curM hs st i).getD i 0 = hs.getD i 0 := by
 have hl : (List.zipWith add32 hs st).length = 8 := by simp [h1, h2]
 simp only [curM, List.getD, List.getElem?_append, List.length_take, hl, List.getElem?_drop]
 rw [if_neg (by omega), show i + (i - min i 8) = i by omega]
theorem curM_step {hs st : List Nat} (h1 : hs.length = 8) (h2 : st.length = 8) {i : Nat} (hi : i < 8) : (curM hs st i).set i (add32 (hs.getD i 0) (st.getD i 0)) = curM hs st (i + 1) := by
 have hl : (List.zipWith add32 hs st).length = 8 := by simp [h1, h2]
 have ht : ((List.zipWith add32 hs st).take i).length = i := by rw [List.length_take]; omega
 unfold curM
 rw [List.set_append_right _ _ (by omega), ht, Nat.sub_self, List.drop_eq_getElem_cons (show i < hs.length by omega), List.set_cons_zero, List.take_succ_eq_append_getElem (by omega), List.append_assoc]
 simp [List.getD, List.getElem?_eq_getElem (show i < hs.length by omega), List.getElem?_eq_getElem (show i < st.length by omega)]
theorem mix_core (w : World) (hs ws : List Nat) (l : List Int) (h8 : W8 hs) (hl : l.length = 64) (hwl : ws.length = 64) (hwb : ∀ x ∈ ws, x < 4294967296) (hk : KC w)
  (hS : ∀ W, Calls Tryd.prog 83 #[.agg (cellsB l)] W fun e w' => e = .returned (.agg (cellsW ws)) /\ Below W.heap.size W w') :
  Calls Tryd.prog 77 #[.agg (cellsW hs), .agg (cellsB l)] w fun e w' => e = .returned (.agg (cellsW (List.zipWith add32 hs (rnds hs ws 64)))) /\ Below w.heap.size w w' := by
 obtain ⟨z, HZ⟩ : ∃ z, Hid (cellsW (zerosW 64) = z) := ⟨_, rfl⟩
 obtain ⟨z8, HZ8⟩ : ∃ z8, Hid (cellsW (zerosW 8) = z8) := ⟨_, rfl⟩
 have hz := zero_w64
 rw [HZ.out] at hz
 have HZ0 := hid hz
 have hz8 := zero_w8
 rw [HZ8.out] at hz8
 have HZ1 := hid hz8
 obtain ⟨bl, HBL⟩ : ∃ bl, Hid (cellsB l = bl) := ⟨_, rfl⟩
 obtain ⟨hw, HHW⟩ : ∃ hw, Hid (cellsW hs = hw) := ⟨_, rfl⟩
 rw [HBL.out, HHW.out]
 have HKC := hid hk
 have HWB := hid hwb
 clear hz hz8 hk hwb
 obtain ⟨W0, hW0⟩ : ∃ W0, Hid (((w.alloc (.cells hw 69)).alloc (.cells bl 71)).alloc (.cells z8 69) = W0) := ⟨_, rfl⟩
 have HB0 : Hid (Below w.heap.size w W0) := by rw [<- hW0.out]; exact (((Below.refl _ w).alloc (Nat.le_refl _) _).alloc (by simp) _).alloc (by simp; omega) _
 have hS0 : W0.heap.size = w.heap.size + 3 := by rw [<- hW0.out]; simp
 have H0 : Hid (W0.heap[w.heap.size]? = some (.cells hw 69 (0, 0))) := by
  rw [<- hW0.out]
  exact (Below.heap_alloc _ _ _ (by simp; omega)).trans ((Below.heap_alloc _ _ _ (by simp)).trans (heap_alloc_new w _))
 have H1 : Hid (W0.heap[w.heap.size + 1]? = some (.cells bl 71 (0, 0))) := by
  rw [<- hW0.out]
  refine (Below.heap_alloc _ _ _ (by simp)).trans ?_
  have := heap_alloc_new (w.alloc (.cells hw 69)) (.cells bl 71)
  rwa [World.size_alloc] at this
 have H2 : Hid (W0.heap[w.heap.size + 2]? = some (.cells z8 69 (0, 0))) := by
  have := heap_alloc_new ((w.alloc (.cells hw 69)).alloc (.cells bl 71)) (.cells z8 69)
  rw [World.size_alloc, World.size_alloc, hW0.out] at this
  exact this
 have hbs : bl.size = 64 := by rw [<- HBL.out, cellsB_size, hl]
 have HIb : Hid ((Tryd.prog.info? 71).map (·.size) = some bl.size) := by rw [hbs]; exact size_b64
 have CS := hS W0
 clear hS
 rw [HBL.out] at CS
 obtain ⟨y, HY⟩ : ∃ y, Hid (cellsW ws = y) := ⟨_, rfl⟩
 rw [HY.out] at CS
 have C1 := hid CS
 have hys : y.size = 64 := by rw [<- HY.out, cellsW_size, hwl]
 have HIy : Hid ((Tryd.prog.info? 95).map (·.size) = some y.size) := by rw [hys]; exact size_w64
 have H1y : Hid (y.all (·.oneCell') = true) := by rw [<- HY.out]; exact cellsW_one _
 have HZY : Hid (z.size = y.size) := by rw [hys, <- HZ.out, cellsW_size, zerosW_length]; exact rfl
 clear CS hbs hys
 go_enter Tryd.func77, Tryd.ntmps77
 go_wp2_with (first | (refine wpList_alloc_agg HZ1.out rfl rfl ?_; rw [hW0.out]) | refine wpList_load_row rfl 71 _ rfl (w.heap.size + 1) rfl 71 bl (0, 0) _ H1.out Tryd.underlying71 rfl HIb.out ?_)
 refine C1.out.mono ?_
 rintro e w1 ⟨rfl, hB1⟩
 have HF1 : Hid ((w1.alloc (.cells z 95)).heap[w1.heap.size]? = some (.cells z 95 (0, 0))) := heap_alloc_new w1 _
 have HB1 := hid hB1
 have hs1 := hB1.size
 clear hB1 C1
 go_wp2_with (first | (refine wpList_alloc_agg HZ0.out rfl rfl ?_) | (refine wpList_store_row rfl 95 _ _ rfl w1.heap.size y rfl rfl 95 _ HF1.out HIy.out HZY.out H1y.out ?_))
 obtain ⟨W2, hW2⟩ : ∃ W2, Hid ((w1.alloc (.cells z 95)).setRow w1.heap.size y = W2) := ⟨_, rfl⟩
 rw [hW2.out]
 have HB2 : Hid (Below w.heap.size w W2) := by
  rw [<- hW2.out]
  exact below_setRow ((HB0.out.trans (HB1.out.mono (by omega))).alloc (by omega) _) (by omega) y
 have HB2' : Hid (Below W0.heap.size W0 W2) := by
  rw [<- hW2.out]
  exact below_setRow (HB1.out.alloc hs1 _) hs1 y
 have HY2 : Hid (W2.heap[w1.heap.size]? = some (.cells y 95 (0, 0))) := by
  rw [<- hW2.out]
  exact setRow_heap _ _ _ _ _ _ HF1.out
 have hS2 : W2.heap.size = w1.heap.size + 1 := by rw [<- hW2.out]; simp [World.setRow]
 have HH2 : Hid (W2.heap[w.heap.size]? = some (.cells hw 69 (0, 0))) := (HB2'.out.block w.heap.size (by omega)).trans H0.out
 have HR2 : Hid (W2.heap[w.heap.size + 2]? = some (.cells z8 69 (0, 0))) := (HB2'.out.block (w.heap.size + 2) (by omega)).trans H2.out
 have HK2 := hid (HKC.out.below HB2.out)
 clear hW2 hW0 HF1 H0 H1 H2 HIb
 obtain ⟨a, b, c, d, e, f, g, h, ehs, ha, hb, hc, hd, he, hf, hg, hh⟩ := h8.open
 have hcl : ∀ j, j < 8 -> W2.cell? ⟨w.heap.size, j, none⟩ = some (.int .u32 ((hs.getD j 0 : Nat) : Int)) := fun j hj => by
  rw [cell_of_row W2 w.heap.size j _ _ _ HH2.out, <- HHW.out]
  exact cellsW_get (by rw [h8.1]; exact hj)
 have c0 := hcl 0 (by decide)
 have c1 := hcl 1 (by decide)
 have c2 := hcl 2 (by decide)
 have c3 := hcl 3 (by decide)
 have c4 := hcl 4 (by decide)
 have c5 := hcl 5 (by decide)
 have c6 := hcl 6 (by decide)
 have c7 := hcl 7 (by decide)
 rw [ehs] at c0 c1 c2 c3 c4 c5 c6 c7
 simp only [List.getD_cons_zero, List.getD_cons_succ] at c0 c1 c2 c3 c4 c5 c6 c7
 have HHS := hid ehs
 have H8 := hid h8
 clear ehs hcl h8
 go_quiet (fail)
 go_wp2
 go_loopw [6, 7, 8, 9, 10, 11, 12, 13, 37] (fun va vb vc vd ve vf vg vh i wr => ∃ t : Nat, t <= 64 /\ i = .int .i64 t /\ ∃ a b c d e f g h : Nat, Hid (rnds hs ws t = [a, b, c, d, e, f, g, h]) /\ va = .int .u32 a /\ vb = .int .u32 b /\ vc = .int .u32 c /\ vd = .int .u32 d /\ ve = .int .u32 e /\ vf = .int .u32 f /\ vg = .int .u32 g /\ vh = .int .u32 h /\ Hid (Dr W2 wr)) (fun _ _ _ _ _ _ _ _ i _ => 64 - (intOf i).toNat)
 case atStart => exact ⟨0, by decide, rfl, a, b, c, d, e, f, g, h, HHS.out, rfl, rfl, rfl, rfl, rfl, rfl, rfl, rfl, Dr.one _ _⟩
 case round =>
  clear c0 c1 c2 c3 c4 c5 c6 c7 ha hb hc hd he hf hg hh HHS
  obtain ⟨t, ht, rfl, a, b, c, d, e, f, g, h, HR, rfl, rfl, rfl, rfl, rfl, rfl, rfl, rfl, HDr⟩ := hrel
  have hb8 := W8.rnds (ws := ws) H8.out t
  rw [HR.out] at hb8
  have hbd : a < 4294967296 /\ b < 4294967296 /\ c < 4294967296 /\ d < 4294967296 /\ e < 4294967296 /\ f < 4294967296 /\ g < 4294967296 /\ h < 4294967296 := ⟨hb8.2 a (by simp), hb8.2 b (by simp), hb8.2 c (by simp), hb8.2 d (by simp), hb8.2 e (by simp), hb8.2 f (by simp), hb8.2 g (by simp), hb8.2 h (by simp)⟩
  obtain ⟨ha, hb, hc, hd, he, hf, hg, hh⟩ := hbd
  clear hb8
  by_cases hlt : t < 64
  ·obtain ⟨k, HK⟩ : ∃ k, Hid (kW.getD t 0 = k) := ⟨_, rfl⟩
   obtain ⟨x, HX⟩ : ∃ x, Hid (ws.getD t 0 = x) := ⟨_, rfl⟩
   have ck := (HDr.out.cell _).trans (HK2.out t hlt)
   rw [HK.out] at ck
   have cx : wr.cell? ⟨w1.heap.size, t, none⟩ = some (.int .u32 (x : Int)) := by
    rw [HDr.out.cell, cell_of_row W2 w1.heap.size t _ _ _ HY2.out, <- HY.out, cellsW_get (by rw [hwl]; exact hlt), HX.out]
   have hkl : k < 4294967296 := by rw [<- HK.out]; exact getW_lt kW_lt t
   have hxl : x < 4294967296 := by rw [<- HX.out]; exact getW_lt HWB.out t
   have hmx : (if IntKind.u32.signed = true then (-1 : Int) else IntKind.u32.max) = 4294967295 := by decide
   have B1 := hid (bs1_bits e he)
   have B0 := hid (bs0_bits a ha)
   have BC := hid (ch_bits e f g he hf hg)
   have BM := hid (maj_bits a b c ha hb hc)
   go_wp2
   go_quiet ((go_at_call 84; exact Calls.quiet_of_same (turn_i _ _ _ (by assumption) (by decide))))
   rw [B1.out, BC.out]
   clear hmx
   obtain ⟨u, HU⟩ : ∃ u : Nat, Hid ((((h : Int) + ((bs1 e : Nat) : Int) + ((chW e f g : Nat) : Int) + (k : Int)) % 4294967296 + (x : Int)) % 4294967296 = (u : Int)) := ⟨((h + bs1 e + chW e f g + k) % 4294967296 + x) % 4294967296, by show _ = _; omega⟩
   rw [HU.out]
   have hu : u < 4294967296 := by have := HU.out; omega
   go_wp2_with fail
   refine (turn_2 _ a ha).mono ?_
   rintro e' w' ⟨rfl, hw'⟩
   subst hw'
   go_wp2_with fail
   refine (turn_13 _ a ha).mono ?_
   rintro e' w' ⟨rfl, hw'⟩
   subst hw'
   go_wp2_with fail
   refine (turn_22 _ a ha).mono ?_
   rintro e' w' ⟨rfl, hw'⟩
   subst hw'
   go_wp2_with fail
   rw [B0.out, BM.out]
   have HUN : Hid (u = (h + bs1 e + chW e f g + k + x) % 4294967296) := by
    show _ = _
    have := HU.out
    omega
   refine ⟨⟨t + 1, by omega, by go_num, (u + (bs0 a + majW a b c) % 4294967296) % 4294967296, a, b, c, (d + u) % 4294967296, e, f, g, ?_, ?_, rfl, rfl, rfl, ?_, rfl, rfl, rfl, HDr.out.drewN nq⟩, by simp [intOf]; omega⟩
   ·show rnd (kW.getD t 0) (ws.getD t 0) (rnds hs ws t) = _
    rw [HR.out, HK.out, HX.out, HUN.out]
    rfl
   ·congr 1
   ·congr 1
  ·have H64 : Hid (t = 64) := by show _ = _; omega
   rw [H64.out] at HR
   have hnlt : ¬ ((t : Int) < 64) := by omega
   have HM0 : Hid (wr.heap[w.heap.size]? = some (.cells (cellsW (curM hs [a, b, c, d, e, f, g, h] 0)) 69 (0, 0))) := by
    rw [show curM hs [a, b, c, d, e, f, g, h] 0 = hs from by simp [curM], HDr.out.heap, HHW.out]
    exact HH2
   have HR3 : Hid (wr.heap[w.heap.size + 2]? = some (.cells z8 69 (0, 0))) := by
    rw [HDr.out.heap]
    exact HR2
   have HB3 := hid (HB2.out.trans ((HDr.out.below W2.heap.size).mono HB2.out.size))
   clear hlt ht
   go_wp2
   clear hnlt
   go_loopw [109] (fun i wq => ∃ I : Nat, I <= 8 /\ i = .int .i64 I /\ Hid (wq.heap[w.heap.size]? = some (.cells (cellsW (curM hs [a, b, c, d, e, f, g, h] I)) 69 (0, 0))) /\ Hid (wr.grownBy wq (some w.heap.size))) (fun i _ => 8 - (intOf i).toNat)
   case atStart => exact ⟨0, by decide, rfl, HM0, ⟨rfl, rfl, rfl, Nat.le_refl _, fun _ _ _ => rfl⟩⟩
   case round =>
    obtain ⟨I, hI, rfl, HF, HG⟩ := hrel
    by_cases hlt : I < 8
    ·have hci := cell_of_row wr w.heap.size I _ _ _ HF.out
     rw [cellsW_get (by rw [curM_length H8.out.1 rfl]; exact hlt), curM_get H8.out.1 rfl hlt] at hci
     obtain ⟨p, HP⟩ : ∃ p, Hid (hs.getD I 0 = p) := ⟨_, rfl⟩
     rw [HP.out] at hci
     have hfz : wr.frozen? ⟨w.heap.size, I, none⟩ = false := by simp [World.frozen?, HF.out]
     have FIN : Hid (∀ q : Nat, q = ([a, b, c, d, e, f, g, h] : List Nat).getD I 0 -> ∀ v : Int, v = ((p : Int) + (q : Int)) % 4294967296 -> (wr.setCell ⟨w.heap.size, I, none⟩ (.int .u32 v)).heap[w.heap.size]? = some (.cells (cellsW (curM hs [a, b, c, d, e, f, g, h] (I + 1))) 69 (0, 0))) := fun q hq v hv => by
      rw [<- curM_step H8.out.1 rfl hlt, HP.out, <- hq, <- cellsW_set, show v = ((add32 p q : Nat) : Int) by rw [hv]; unfold add32; omega]
      exact heap_setCell_same wr w.heap.size I _ _ _ HF.out
     obtain ⟨q, HQ⟩ : ∃ q, Hid (([a, b, c, d, e, f, g, h] : List Nat).getD I 0 = q) := ⟨_, rfl⟩
     have hix : ∀ W, (Instr.index 69 (.agg #[.int .u32 (a : Int), .int .u32 (b : Int), .int .u32 (c : Int), .int .u32 (d : Int), .int .u32 (e : Int), .int .u32 (f : Int), .int .u32 (g : Int), .int .u32 (h : Int)]) (.int .i64 (I : Int))).run Tryd.prog W = .ok (.int .u32 (q : Int)) W := fun W => by
      rw [<- HQ.out]
      exact run_index_w8 W [a, b, c, d, e, f, g, h] rfl I hlt
     go_wp2
     refine ⟨⟨I + 1, by omega, by go_num, FIN.out q HQ.out.symm _ ?_, grown_tr HG.out (grown_sets _ _ _ _)⟩, by simp [intOf]; omega⟩
     rfl
    ·have hI8 : I = 8 := by omega
     have HCM : Hid (curM hs [a, b, c, d, e, f, g, h] I = List.zipWith add32 hs (rnds hs ws 64)) := by
      show _ = _
      rw [hI8, HR.out]
      unfold curM
      rw [List.take_of_length_le (by simp; omega), List.drop_eq_nil_of_le (by rw [H8.out.1]; exact Nat.le_refl _), List.append_nil]
     rw [HCM.out] at HF
     obtain ⟨m, HMM⟩ : ∃ m, Hid (cellsW (List.zipWith add32 hs (rnds hs ws 64)) = m) := ⟨_, rfl⟩
     rw [HMM.out] at HF
     have hms : m.size = 8 := by
      rw [<- HMM.out, cellsW_size, <- HCM.out, curM_length H8.out.1 rfl]
     have HIm : Hid ((Tryd.prog.info? 69).map (·.size) = some m.size) := by rw [hms]; exact size_w8
     have H1m : Hid (m.all (·.oneCell') = true) := by rw [<- HMM.out]; exact cellsW_one _
     have HR4 : Hid (wr.heap[w.heap.size + 2]? = some (.cells z8 69 (0, 0))) := by
      rw [HG.out.block (w.heap.size + 2) (Array.getElem?_eq_some_iff.1 HR3.out).1 (by simp)]
      exact HR3
     have HZM : Hid (z8.size = m.size) := by rw [hms, <- HZ8.out, cellsW_size, zerosW_length]; exact rfl
     have HBF := hid (below_setRow (HB3.out.grown HG.out HB3.out.size (fun k e => by cases e; exact Nat.le_refl _)) (g := w.heap.size + 2) (by omega) m)
     have hnl : ¬ ((I : Int) < 8) := by omega
     clear hms hlt hI8
     go_wp2_with (first | (refine wpList_load_row rfl 69 _ rfl w.heap.size rfl 69 m (0, 0) _ HF.out Tryd.underlying69 rfl HIm.out ?_) | (refine wpList_store_row rfl 69 _ _ rfl (w.heap.size + 2) m rfl rfl 69 _ HR4.out HIm.out HZM.out H1m.out ?_))
     refine bodyPost_ret (v := .agg m) (results_cell_row (p := 4) (ty := 69) rfl _ _ (w.heap.size + 2) 69 m (0, 0) _ rfl (setRow_heap _ _ _ _ _ _ HR4.out) Tryd.underlying69 rfl HIm.out) rfl ?_
     rw [HMM.out]
     exact ⟨rfl, HBF.out⟩
theorem mix_any (w : World) (hs : List Nat) (l : List Int) (h8 : W8 hs) (hl : l.length = 64) (hby : ∀ x ∈ l, 0 <= x /\ x < 256) (hk : KC w) :
  Calls Tryd.prog 77 #[.agg (cellsW hs), .agg (cellsB l)] w fun e w' => e = .returned (.agg (cellsW (mixL hs l))) /\ Below w.heap.size w w' :=
 mix_core w hs (wordsTo l 64) l h8 hl (wordsTo_length l 64) (wordsTo_lt hby 64) hk (fun W => sched_any W l hl hby)
end Go.Proofs.YtcpchhigiohlnaaDoor
namespace Go.Proofs.YtcpchhigiohlnaaDoor
open Go Go.RowKit Go.ChangeShapes Go.WideShapes Go.ChangeAt
def shaLaid : List (String × DataW Unit) := [("strongroom/sha.constants", Rows.laid_strongroom_sha_constants)]
theorem gK : Tryd.prog.globalNamed "strongroom/sha.constants" = some 0 := by kernel_rfl
theorem tK : (Tryd.prog.globals[0]?).map (·.type) = some 95 := by kernel_rfl
theorem cK : Tryd.prog.cellsOf 35 = 1 := by kernel_rfl
theorem dK : (Rows.laid_strongroom_sha_constants : DataW Unit) = .agg (kW.map fun x : Nat => .lit (.int .u32 (x : Int))) := by kernel_rfl
theorem kc_of_laid {W : World} (h : laidMetH Tryd.prog shaLaid W) : KC W := by
 rw [MakeChecks.laidMetH_plain _ _ _ (by kernel_rfl)] at h
 obtain ⟨ps, ⟨g0, t0, cs0, f0, p0, q0, hg0, ht0, hv0, hd0, _, _⟩, _, _⟩ := h
 obtain rfl := Option.some.inj (gK.symm.trans hg0)
 obtain rfl := Option.some.inj (tK.symm.trans ht0)
 obtain ⟨xs, m, rfl, hx, hlen, hn, hel⟩ := DataW.trod_array Tryd.underlying95 hd0
 intro t ht
 have h1 := hel t ht
 have hxt : xs[t]? = some xs[t] := List.getElem?_eq_getElem (by omega)
 rw [cK, hxt] at h1
 obtain ⟨k, e1, e2, _⟩ := DataW.trod_int Tryd.underlying35 h1
 simp only [Prod.mk.injEq] at hx
 have hd := hx.1
 rw [dK] at hd
 simp only [DataW.agg.injEq] at hd
 have hd2 : (kW.map fun x : Nat => (DataW.lit (.int .u32 (x : Int)) : DataW Unit))[t]? = (xs.map (·.1))[t]? := by rw [hd]
 have hkt : t < kW.length := by rw [kW_length]; exact ht
 rw [List.getElem?_map, List.getElem?_map, hxt, List.getElem?_eq_getElem hkt] at hd2
 simp only [Option.map_some, Option.some.injEq, e2, DataW.lit.injEq, Lit.int.injEq, true_and] at hd2
 have hv := World.var?_cell hg0 hv0 t
 have hcs : cs0[t]? = some (.int .u32 k) := by
  have : ((cs0.toList.drop (t * 1)).take 1)[0]? = some (.int .u32 k) := by rw [e1]; rfl
  simpa using this
 rw [hv, hcs, <- hd2]
 simp [List.getD, List.getElem?_eq_getElem hkt]
end Go.Proofs.YtcpchhigiohlnaaDoor
namespace Go.Proofs.YtcpchhigiohlnaaDoor
open Go.ChangeShapes Go.WideShapes Go.ChangeAt Go.RowKit
theorem handed_cond_and {H : Type} {enc : TypeId × Value -> H} {a : Assume} {C : Checked} {os : Os} {f : FuncId} {fn : Func} {s : OpenSpec} {k : (H : Type) -> List (DataW H) -> Bool} (hk : s.cond = some k) {F : Stop.Interp} {conds : List PathCond} {apart fresh handsOn again : Bool} {X : World -> Array Value -> Prop}
  (hX : ∀ (w w' : World) (args : Array Value), w.heap = w'.heap -> X w args -> X w' args)
  (own : ownKnob C.prog.godebug = none) (started : os.Started) (noInit : C.prog.inits.idxOf? f = none) (hfn : C.prog.funcs[f]? = some fn)
  (witness : ∃ (w : World) (tape : Tape) (i : Input), w.os = os /\ (w.forCall tape i).Shaped C.prog /\ i.vars = [] /\ Input.okWide C.prog (w.forCall tape i) .any w.heap.size f i ∧
   ((s.pre enc C.prog fn conds apart (w.forCall tape i).memory i.args /\ X (w.forCall tape i).memory i.args) /\ sizedMet enc C.prog fn s apart (w.forCall tape i).memory i.args) /\ a.holds C.prog (lone (Frame.enter C.prog f i.args .normal) [] (w.forCall tape i)))
  (contract : ∀ (W : World) (base : Nat) (args : Array Value) (ds gs : List (DataW H)) (before : List MemPlace),
   (∀ (j : Nat) t v, fn.params[j]? = some t -> args[j]? = some v -> Value.okWide C.prog W .any base t v) →
   DataW.Whole enc C.prog fn.params.toList s.vars apart W args.toList ds gs before -> k H (ds ++ gs) = true -> X W args →
   Calls C.prog f args W fun e W' => ∃ v, e = .returned v /\ (s.at F).post enc C.prog fn apart fresh handsOn again W args v W') :
  ReturnsInHanded a C os f .any (fun w args => (s.pre enc C.prog fn conds apart w args /\ X w args) /\ sizedMet enc C.prog fn s apart w args) ((s.at F).post enc C.prog fn apart fresh handsOn again) := by
 refine returnsInHanded_of_calls own started noInit witness ?_
 intro w tape i _ _ _ hok hpre hholds
 obtain ⟨_, _, _, fn', hfn', _, _, _, _, hval⟩ := hok
 have e : fn' = fn := Option.some.inj (hfn'.symm.trans hfn)
 subst e
 obtain ⟨⟨hp, hx⟩, _⟩ := hpre
 obtain ⟨ds, gs, before, hw, hc, hkk⟩ := (OpenSpec.pre_some hk conds apart _ _).1 hp
 have hw' := DataW.Whole.of_heap (w' := w.forCall tape i) (by rfl) hw
 refine (contract (w.forCall tape i) w.heap.size i.args ds gs before hval hw' hkk (hX _ _ _ (by rfl) hx)).mono fun e W' ⟨v, he, hp⟩ => ?_
 subst he
 exact ChangeSpec.post_blind hp
theorem witness_cond {H : Type} {enc : TypeId × Value -> H} {C : Checked} {os : Os} {f : FuncId} {fn : Func} {s : OpenSpec} {k : (H : Type) -> List (DataW H) -> Bool} (hk : s.cond = some k) {conds : List PathCond} {apart : Bool} {X : World -> Array Value -> Prop} (modest : Bool) (w0 : World) (args : Array Value) (fuel : Nat) (hos : w0.os = os)
  (hsh : (w0.forCall (fun _ _ => 0) ⟨#[], args, []⟩).Shaped C.prog)
  (hok : Input.okWideB C.prog (w0.forCall (fun _ _ => 0) ⟨#[], args, []⟩) f ⟨#[], args, []⟩ = true)
  {x : List (DataW H) × List (DataW H) × List MemPlace} (hx : DataW.whole enc C.prog (w0.forCall (fun _ _ => 0) ⟨#[], args, []⟩).memory fn.params.toList s.vars apart args.toList fuel = some x)
  (hconds : conds.all (PathCond.test C.prog ⟨fn.params.toList, x.1, s.bare.plain.varTypes C.prog, x.2.1⟩) = true) (hkk : k H (x.1 ++ x.2.1) = true)
  (hsz : s.bare.sizedB enc C.prog fn apart (w0.forCall (fun _ _ => 0) ⟨#[], args, []⟩).memory args fuel = true)
  (hX : X (w0.forCall (fun _ _ => 0) ⟨#[], args, []⟩).memory args) :
  ∃ (w : World) (tape : Tape) (i : Input), w.os = os /\ (w.forCall tape i).Shaped C.prog /\ i.vars = [] /\ Input.okWide C.prog (w.forCall tape i) .any w.heap.size f i ∧
   ((s.pre enc C.prog fn conds apart (w.forCall tape i).memory i.args /\ X (w.forCall tape i).memory i.args) /\ sizedMet enc C.prog fn s apart (w.forCall tape i).memory i.args) /\ ({ modest := modest } : Assume).holds C.prog (lone (Frame.enter C.prog f i.args .normal) [] (w.forCall tape i)) :=
 ⟨w0, fun _ _ => 0, ⟨#[], args, []⟩, hos, hsh, (Input.okWide_of_okWideB (base := 0) hok).1, (Input.okWide_of_okWideB hok).2,
  ⟨⟨(OpenSpec.pre_some hk conds apart _ _).2 ⟨x.1, x.2.1, x.2.2, DataW.Whole_of_whole hx, hconds, hkk⟩, hX⟩, sizedMet_of_sizedB hsz⟩, by
  simp only [Assume.holds]
  exact ⟨by simp, by simp, fun _ => Modest.zero, by simp, by simp⟩⟩
end Go.Proofs.YtcpchhigiohlnaaDoor
namespace Go.Proofs.YtcpchhigiohlnaaDoor
open Go Go.RowKit
theorem HL.at5 {w : World} {p : Option Addr} {c : Nat} {ls : List (List Int)} (h : HL w (.slice p ls.length c) ls) : 0 < ls.length -> ∃ b off, p = some ⟨b, off, none⟩ /\ ∀ j, j < ls.length -> ∃ u, w.cell? ⟨b, off + j, none⟩ = some u /\ HB w u (ls.getD j []) := by
 intro h0
 obtain ⟨b, off, c', e', _, _, hh⟩ := h.ne h0
 simp only [Value.slice.injEq, true_and] at e'
 exact ⟨b, off, e'.1, hh⟩
theorem results_cellT5 {P : Program} {fn : Func} {p u : Tmp} {ty : TypeId} (h : fn.results = #[.cell p ty, .tmp u]) (tmps : Array Value) (w : World) (g : Nat) (t : TypeId) (cs : Array Value) (fr : Nat × Nat) (d : TypeDesc)
  (hp : tmps.getD p undef = .pointer (some ⟨g, 0, none⟩)) (hg : w.heap[g]? = some (.cells cs t fr))
  (hu : P.underlying ty = some d) (hd : (match d with | .struct _ | .array _ _ => true | _ => false) = true) (hi : (P.info? ty).map (·.size) = some cs.size) (x : Value) (hx : tmps.getD u undef = x) :
  (results fn tmps).run P w = .ok (.tuple #[.agg cs, x]) w := by
 have hp' : tmps[p]?.getD undef = .pointer (some ⟨g, 0, none⟩) := by simpa using hp
 have hx' : tmps[u]?.getD undef = x := by simpa using hx
 simp [results, h, hp', hx', asAddr, run_loadVar_row w g t ty cs fr d hg hu hd hi]
theorem bel_set5 {B : Nat} {w W : World} {g : Nat} (h : Below B w W) (hg : B <= g) (cs : Array Value) : Below B w (W.setRow g cs) := ⟨h.os, h.tape, h.output, by simp [World.setRow]; exact h.size, fun k hk => by rw [<- h.block k hk]; simp [World.setRow, Array.getElem?_modify, show g ≠ k by omega]⟩
theorem bel_al5 (w : World) (o : Obj) : Below w.heap.size w (w.alloc o) := (Below.refl _ w).alloc (Nat.le_refl _) o
end Go.Proofs.YtcpchhigiohlnaaDoor
namespace Go.Proofs.YtcpchhigiohlnaaDoor
open Go.RowKit
theorem wpList_append_HB {w : World} {ops : Array Oper} {rest : List Oper} {o : Oper} {a : Act} {Q : Exit -> Act -> World -> Prop} (hgd : o.guard = none) (s x : Operand)
  (ho : o.op = .call { callee := .builtin .append, args := #[s, x], argTypes := #[30, 30] })
  (base : Nat) (v : Value) (n : Nat) (xs : List Value) (hs : a.eval s = v) (hown : w.ownsRow base 5 1 v n xs)
  (u : Value) (l : List Int) (hx : a.eval x = u) (hu : HB w u l) (hbytes : n + l.length <= 140737488355328) (hbase : base <= w.heap.size)
  (h : ∀ v' w', w'.ownsRow base 5 1 v' (n + l.length) (xs ++ l.map (Value.int .u8)) -> w.grownBy w' v.ownBlock -> wpList Tryd.prog ops Q rest (a.put o.dst v') w') : wpList Tryd.prog ops Q (o :: rest) a w := by
 obtain ⟨i0, hi, hz0, hz1, hz2⟩ := info_parts info_u8
 obtain ⟨⟨p, c, rfl, hlc, hm, hpc, hcell⟩, hby⟩ := hu
 cases p with
 | none =>
  have e : l = [] := by
   apply Classical.byContradiction
   intro hne
   obtain ⟨b, off, e, _⟩ := hcell hne
   cases e
  subst e
  have := hpc rfl
  subst this
  refine wpList_append_own_none hgd s x 30 ho base 5 i0 1 Tryd.underlying30 hi v n xs hs hown hx ?_
  exact h v w (by simpa using hown) ⟨rfl, rfl, rfl, Nat.le_refl _, fun _ _ _ => rfl⟩
 | some ad =>
  refine wpList_append_own w hgd s x 30 ho base 5 i0 (.int .u8 0) 1 1 Tryd.underlying30 hi hz0 hz1 hz2 rfl (by decide) v n xs hs hown ad l.length c (l.map (Value.int .u8)) hx (by simp) ?_ ?_ (by unfold maxLen; omega) (by omega) hbase (fun v' w' h1 h2 _ => h v' w' h1 h2)
  ·intro j y hj
   have hjn : j < l.length := by
    have := (List.getElem?_eq_some_iff.1 hj).1
    simpa using this
   obtain ⟨b, off, e, hh⟩ := hcell (by intro e; subst e; simp at hjn)
   cases e
   rw [Go.WideShapes.add_plain, hh j hjn]
   have e : (l.map (Value.int .u8))[j]? = some (Value.int .u8 (l.getD j 0)) := by simp [List.getD, List.getElem?_eq_getElem hjn]
   rw [e] at hj
   exact hj
  ·intro u hu; obtain ⟨x, _, rfl⟩ := List.mem_map.1 hu; rfl
theorem flat_snoc (ls : List (List Int)) (k : Nat) (hk : k < ls.length) : (ls.take (k + 1)).flatten = (ls.take k).flatten ++ ls.getD k [] := by
 rw [List.take_succ_eq_append_getElem hk, List.flatten_append]
 simp [List.getD, List.getElem?_eq_getElem hk]
theorem flat_take_le (ls : List (List Int)) (k : Nat) : (ls.take k).flatten.length <= ls.flatten.length := by
 conv => rhs; rw [<- List.take_append_drop k ls, List.flatten_append, List.length_append]
 omega
def lensTo (ls : List (List Int)) (k : Nat) : Nat := (ls.take k).flatten.length
def flatTo (ls : List (List Int)) (k : Nat) : List Int := (ls.take k).flatten
theorem join_any (w : World) (v : Value) (ls : List (List Int)) (h : HL w v ls) (hbig : ls.flatten.length <= 140737488355328) :
  Calls Tryd.prog 61 #[v] w fun e w' => ∃ v', e = .returned v' /\ w'.ownsRow w.heap.size 5 1 v' ls.flatten.length (ls.flatten.map (Value.int .u8)) /\ Below w.heap.size w w' := by
 obtain ⟨i0, hi, hz0, hz1, hz2⟩ := info_parts info_u8
 obtain ⟨p, c, e, hlc, hm⟩ := h.open
 unfold maxLen at hm
 have A : Hid (0 < ls.length -> ∃ b off, p = some ⟨b, off, none⟩ /\ ∀ j, j < ls.length -> ∃ u, w.cell? ⟨b, off + j, none⟩ = some u /\ HB w u (ls.getD j [])) := by
  intro h0
  obtain ⟨b, off, c', e', _, _, hh⟩ := h.ne h0
  rw [e] at e'
  simp only [Value.slice.injEq, true_and] at e'
  exact ⟨b, off, e'.1, hh⟩
 clear h
 subst e
 obtain ⟨fl, HF⟩ : ∃ fl : List Int, Hid (fl = ls.flatten) := ⟨_, rfl⟩
 rw [<- HF.out] at hbig ⊢
 obtain ⟨N, HN⟩ : ∃ N, Hid (N = fl.length) := ⟨_, rfl⟩
 rw [<- HN.out] at hbig ⊢
 have hle : ∀ k, lensTo ls k <= N := fun k => by rw [HN.out, HF.out]; exact flat_take_le ls k
 go_enter Tryd.func61, Tryd.ntmps61
 go_wp2
 go_loop [3, 11] (fun s i => ∃ k : Nat, k <= ls.length /\ i = .int .i64 k /\ s = .int .i64 (lensTo ls k)) (fun _ i => ls.length - (intOf i).toNat)
 case atStart => exact ⟨0, Nat.zero_le _, rfl, rfl⟩
 case round =>
  obtain ⟨k, hk, rfl, rfl⟩ := hrel
  have hf := hle k
  by_cases hlt : k < ls.length
  ·obtain ⟨b, off, rfl, hh⟩ := A.out (by omega)
   obtain ⟨u, hu, hb⟩ := hh k hlt
   obtain ⟨p2, c2, rfl, _, _⟩ := hb.open
   have hf2 := hle (k + 1)
   obtain ⟨m, HM⟩ : ∃ m, Hid (m = (ls.getD k []).length) := ⟨_, rfl⟩
   have HS : Hid (lensTo ls (k + 1) = lensTo ls k + m) := by
    show _ = _
    unfold lensTo
    rw [flat_snoc ls k hlt, List.length_append, HM.out]
   rw [HS.out] at hf2
   rw [<- HM.out] at hu
   clear hh hb hle
   go_wp2
   exact ⟨⟨k + 1, by omega, by go_num, by rw [HS.out]; go_num⟩, by simp [intOf]; omega⟩
  ·have HK : Hid (lensTo ls k = N) := by
    show _ = _
    unfold lensTo
    rw [List.take_of_length_le (by omega), HN.out, HF.out]
   rw [HK.out] at hf ⊢
   obtain ⟨w1, hmk, hown, hgr⟩ := run_make_own (P := Tryd.prog) w w.heap.size 30 5 i0 (.int .u8 0) 1 Tryd.underlying30 hi hz0 hz1 .i64 .i64 N (by rw [hz2]; omega) (by unfold maxLen; omega) (Nat.le_refl _)
   have hB1 : Below w.heap.size w w1 := (Below.refl _ w).grown hgr (Nat.le_refl _) (fun k e => by cases e)
   have hsz : w.heap.size <= w1.heap.size := hB1.size
   clear hk hf hgr hle
   go_wp2
   go_loopw [6, 24] (fun o i wr => ∃ k : Nat, k <= ls.length /\ i = .int .i64 k /\ wr.ownsRow w.heap.size 5 1 o (flatTo ls k).length ((flatTo ls k).map (Value.int .u8)) /\ Below w.heap.size w wr) (fun _ i _ => ls.length - (intOf i).toNat)
   case atStart => exact ⟨0, Nat.zero_le _, rfl, hown, hB1⟩
   case round =>
    clear hmk hown hB1 hsz HK hlt
    obtain ⟨k, hk, rfl, hown, hB⟩ := hrel
    by_cases hlt : k < ls.length
    ·obtain ⟨b, off, rfl, hh⟩ := A.out (by omega)
     obtain ⟨u, hu0, hb⟩ := hh k hlt
     have hu : wr.cell? ⟨b, off + k, none⟩ = some u := (hB.cell (World.block_lt_of_cell? w _ hu0)).trans hu0
     have HBu := hid (hb.below hB)
     have HS : Hid (flatTo ls (k + 1) = flatTo ls k ++ ls.getD k []) := flat_snoc ls k hlt
     have HL2 : Hid ((flatTo ls k).length + (ls.getD k []).length <= 140737488355328) := by
      have := flat_take_le ls (k + 1)
      rw [flat_snoc ls k hlt, List.length_append, <- HF.out, <- HN.out] at this
      exact Nat.le_trans this hbig
     have HO := hid hown
     have HBel := hid hB
     obtain ⟨lk, HK⟩ : ∃ lk, Hid (lk = ls.getD k []) := ⟨_, rfl⟩
     rw [<- HK.out] at HBu HS HL2 hb
     obtain ⟨p2, c2, hu2, _, _⟩ := hb.open
     clear hh hb hu0 hown hB
     subst hu2
     go_wp2_with (at_builtin; refine wpList_append_HB rfl _ _ rfl w.heap.size _ _ _ rfl HO.out _ _ rfl HBu.out ?q1 ?q2 ?_)
     case q1 => exact HL2.out
     case q2 => exact HBel.out.size
     intro v' w2 hown2 hgr2
     have HO2 : Hid (w2.ownsRow w.heap.size 5 1 v' (flatTo ls (k + 1)).length ((flatTo ls (k + 1)).map (Value.int .u8))) := by
      show World.ownsRow _ _ _ _ _ _ _
      rw [HS.out, List.length_append, List.map_append]
      exact hown2
     have HB2 : Hid (Below w.heap.size w w2) := HBel.out.grown hgr2 HBel.out.size (fun k e => (HO.out.lt k e).1)
     clear hown2 hgr2
     go_wp2
     exact ⟨⟨k + 1, by omega, by go_num, HO2.out, HB2.out⟩, by simp [intOf]; omega⟩
    ·have HK : Hid (flatTo ls k = fl) := by
      show _ = _
      unfold flatTo
      rw [List.take_of_length_le (by omega), HF.out]
     go_wp2
     go_ret
     refine ⟨_, rfl, ?_, hB⟩
     rw [HK.out, <- HN.out] at hown
     exact hown
theorem take_eq_step (la lb : List Int) (k : Nat) (ha : k < la.length) (hb : k < lb.length) (h : la.take k = lb.take k) (e : la.getD k 0 = lb.getD k 0) : la.take (k + 1) = lb.take (k + 1) := by
 rw [List.take_succ_eq_append_getElem ha, List.take_succ_eq_append_getElem hb, h]
 have e1 : la.getD k 0 = la[k] := by simp [List.getD, List.getElem?_eq_getElem ha]
 have e2 : lb.getD k 0 = lb[k] := by simp [List.getD, List.getElem?_eq_getElem hb]
 rw [e1, e2] at e
 rw [e]
theorem take_ne (la lb : List Int) (k : Nat) (e : la.getD k 0 ≠ lb.getD k 0) : la ≠ lb := fun h => e (by rw [h])
theorem sameBytes_any (w : World) (va vb : Value) (la lb : List Int) (ha : HB w va la) (hb : HB w vb lb) :
  Calls Tryd.prog 26 #[va, vb] w fun e w' => e = .returned (.bool (decide (la = lb))) /\ Dr w w' := by
 by_cases hlen : la.length = lb.length
 ·by_cases h0 : 0 < la.length
  ·obtain ⟨b1, o1, c1, rfl, hc1, hm1, hk1⟩ := ha.ne h0
   obtain ⟨b2, o2, c2, rfl, hc2, hm2, hk2⟩ := hb.ne (by omega)
   unfold maxLen at hm1 hm2
   have hm : la.length <= 9223372036854775807 := by omega
   have HL : Hid (la.length = lb.length) := hlen
   rw [<- hlen]
   have hcd : ∀ j, j < la.length -> w.cell? ⟨b2, o2 + j, none⟩ = some (.int .u8 (lb.getD j 0)) := fun j hj => hk2 j (by omega)
   clear hlen hk2
   go_enter Tryd.func26, Tryd.ntmps26
   go_wp2
   go_loopw [5] (fun i wr => ∃ k : Nat, k <= la.length /\ i = .int .i64 k /\ la.take k = lb.take k /\ Dr w wr) (fun i _ => la.length - (intOf i).toNat)
   case atStart => exact ⟨0, Nat.zero_le _, rfl, rfl, Dr.refl _⟩
   case round =>
    obtain ⟨k, hk, rfl, ht, q, rfl⟩ := hrel
    by_cases hlt : k < la.length
    ·have g1 := hk1 k hlt
     have g2 := hcd k hlt
     obtain ⟨x, hx⟩ : ∃ x, la.getD k 0 = x := ⟨_, rfl⟩
     obtain ⟨y, hy⟩ : ∃ y, lb.getD k 0 = y := ⟨_, rfl⟩
     rw [hx] at g1
     rw [hy] at g2
     have HX := hid hx
     have HY := hid hy
     clear hx hy hk1 hcd
     by_cases he : x = y
     ·have hne : (x != y) = false := by simpa using he
      have HE := hid he
      clear he
      go_wp2
      go_quiet (fail)
      go_wp2
      exact ⟨⟨k + 1, by omega, by go_num, take_eq_step la lb k hlt (by have := HL.out; omega) ht (by rw [HX.out, HY.out, HE.out]), Dr.one _ _⟩, by simp [intOf]; omega⟩
     ·have hne : (x != y) = true := by simpa using he
      go_wp2
      go_quiet (fail)
      go_wp2
      go_ret
      exact ⟨by simp [take_ne la lb k (by rw [HX.out, HY.out]; exact he)], (Dr.one _ _).drewN _⟩
    ·go_wp2
     go_ret
     have e : la = lb := by
      have h1 := List.take_of_length_le (show la.length <= k by omega)
      have h2 := List.take_of_length_le (show lb.length <= k by have := HL.out; omega)
      rw [<- h1, <- h2, ht]
     exact ⟨by simp [e], Dr.one _ _⟩
  ·obtain ⟨p1, c1, rfl, _, _⟩ := ha.open
   obtain ⟨p2, c2, rfl, _, _⟩ := hb.open
   have e1 : la = [] := List.length_eq_zero_iff.1 (by omega)
   have e2 : lb = [] := List.length_eq_zero_iff.1 (by omega)
   subst e1 e2
   go_enter Tryd.func26, Tryd.ntmps26
   go_wp2
   go_loop [5] (fun i => i = .int .i64 0) (fun _ => 0)
   case atStart => rfl
   case round =>
    subst hrel
    go_wp2
    go_ret
    exact ⟨rfl, Dr.refl _⟩
 ·obtain ⟨p1, c1, rfl, _, _⟩ := ha.open
  obtain ⟨p2, c2, rfl, _, _⟩ := hb.open
  have hne : ((la.length : Int) != (lb.length : Int)) = true := by rw [bne_iff_ne]; omega
  go_enter Tryd.func26, Tryd.ntmps26
  go_wp2
  go_ret
  exact ⟨by simp [show la ≠ lb from fun e => hlen (by rw [e])], Dr.refl _⟩
theorem own_mono {w : World} {B B' e n : Nat} {v : Value} {xs : List Value} (h : w.ownsRow B e 1 v n xs) (hb : B' <= B) : w.ownsRow B' e 1 v n xs := by
 refine ⟨h.1, ?_⟩
 rcases h.2 with h2 | ⟨g, cap, cur, h1, h2, h3⟩
 ·exact .inl h2
 ·exact .inr ⟨g, cap, cur, h1, Nat.le_trans hb h2, h3⟩
theorem own_slc {w : World} {B n : Nat} {e : TypeId} {v : Value} {xs : List Value} (h : w.ownsRow B e 1 v n xs) : ∃ p c, v = .slice p n c := by
 rcases h.2 with ⟨rfl, rfl⟩ | ⟨g, cap, cur, rfl, _⟩
 ·exact ⟨none, 0, rfl⟩
 ·exact ⟨_, _, rfl⟩
theorem none_or (z : Option Nat) : z = none \/ z ≠ none := by cases z <;> simp
theorem own_below {w w' : World} {B n : Nat} {e : TypeId} {v : Value} {xs : List Value} (h : w.ownsRow B e 1 v n xs) (hb : Below w.heap.size w w') : w'.ownsRow B e 1 v n xs :=
 h.kept ⟨hb.os, hb.tape, hb.output, hb.size, fun k hk _ => hb.block k hk⟩ (none_or _)
theorem info_bytes : (Tryd.prog.info? 30).map (fun i => (i.zero, i.size, i.bytes)) = some (some (.slice none 0 0), 1, 24) := by kernel_rfl
def BytI (l : List Int) : Prop := ∀ x ∈ l, 0 <= x /\ x < 256
def EL (w0 w : World) (u : Value) (l : List Int) : Prop :=
 (w.ownsRow w0.heap.size 5 1 u l.length (l.map (Value.int .u8)) /\ BytI l) \/ HB w0 u l
def OWL (w0 w : World) (v : Value) (ls : List (List Int)) : Prop :=
 ∃ xs, w.ownsRow w0.heap.size 30 1 v ls.length xs /\ ∀ j, j < ls.length -> EL w0 w (xs.getD j undef) (ls.getD j [])
theorem EL.hb {w0 w : World} {u : Value} {l : List Int} (h : EL w0 w u l) (hb : Below w0.heap.size w0 w) : HB w u l := by
 rcases h with ⟨h, hx⟩ | h
 ·exact HB.of_own h hx
 ·exact h.below hb
theorem own_block_ne {w : World} {B e n : Nat} {v : Value} {xs : List Value} (h : w.ownsRow B e 1 v n xs) {g : Nat} {cur : Array Value} {e' : TypeId} {fz : Nat × Nat} (hg : w.heap[g]? = some (.cells cur e' fz)) (hne : e ≠ e') : v.ownBlock ≠ some g := by
 intro hv
 rcases h.2 with ⟨rfl, _⟩ | ⟨g', cap, cur', rfl, _, hh, _⟩
 ·simp [Value.ownBlock] at hv
 ·simp only [Value.ownBlock, Option.some.injEq] at hv
  subst hv
  rw [hh] at hg
  simp only [Option.some.injEq, Obj.cells.injEq] at hg
  exact hne hg.2.1
theorem EL.grown {w0 w w' : World} {u : Value} {l : List Int} {row : Option Nat} (h : EL w0 w u l) (hg : w.grownBy w' row) (hr : ∀ g, row = some g -> ∃ cur e fz, w.heap[g]? = some (.cells cur e fz) /\ 5 ≠ e) : EL w0 w' u l := by
 rcases h with ⟨h, hx⟩ | h
 ·refine .inl ⟨h.kept hg ?_, hx⟩
  cases hrow : row with
  | none =>
   cases hv : u.ownBlock with
   | none => exact .inl rfl
   | some k => exact .inr (by simp)
  | some g =>
   obtain ⟨cur, e, fz, hh, hne⟩ := hr g hrow
   exact .inr (own_block_ne h hh hne)
 ·exact .inr h
theorem OWL.grown {w0 w w' : World} {v : Value} {ls : List (List Int)} {row : Option Nat} (h : OWL w0 w v ls) (hg : w.grownBy w' row) (hr : ∀ g, row = some g -> ∃ cur e fz, w.heap[g]? = some (.cells cur e fz) /\ 5 ≠ e /\ 30 ≠ e) : OWL w0 w' v ls := by
 obtain ⟨xs, h1, h2⟩ := h
 refine ⟨xs, h1.kept hg ?_, fun j hj => (h2 j hj).grown hg fun g e => ?_⟩
 ·cases hrow : row with
  | none =>
   cases hv : v.ownBlock with
   | none => exact .inl rfl
   | some k => exact .inr (by simp)
  | some g =>
   obtain ⟨cur, e, fz, hh, _, hne⟩ := hr g hrow
   exact .inr (own_block_ne h1 hh hne)
 ·obtain ⟨cur, e', fz, hh, hne, _⟩ := hr g e
  exact ⟨cur, e', fz, hh, hne⟩
theorem OWL.below {w0 w w' : World} {v : Value} {ls : List (List Int)} (h : OWL w0 w v ls) (hb : Below w.heap.size w w') : OWL w0 w' v ls :=
 h.grown (row := none) ⟨hb.os, hb.tape, hb.output, hb.size, fun k hk _ => hb.block k hk⟩ (fun g e => by cases e)
theorem OWL.hl {w0 w : World} {v : Value} {ls : List (List Int)} (h : OWL w0 w v ls) (hb : Below w0.heap.size w0 w) : HL w v ls := by
 obtain ⟨xs, h1, h2⟩ := h
 by_cases h0 : 0 < ls.length
 ·obtain ⟨g, cap, rfl, _, hn, hm, hc⟩ := ownsRow_cells h1 h0
  refine ⟨_, cap, rfl, hn, hm, (fun e => by cases e), fun _ => ⟨g, 0, rfl, fun j hj => ⟨xs.getD j undef, ?_, (h2 j hj).hb hb⟩⟩⟩
  have hx : xs.length = ls.length := by have := h1.1; omega
  exact hc j _ (by simp [List.getD, List.getElem?_eq_getElem (show j < xs.length by omega)])
 ·have e : ls = [] := List.length_eq_zero_iff.1 (by omega)
  subst e
  rcases h1.2 with ⟨rfl, _⟩ | ⟨g, cap, cur, rfl, _, _, hn, hm, _⟩
  ·exact HL.nil _
  ·exact ⟨_, cap, rfl, hn, hm, (fun e => by cases e), fun h => absurd rfl h⟩
theorem OWL.nil (w0 w : World) : OWL w0 w (.slice none 0 0) [] := ⟨[], World.ownsRow_nil _ _ _ _, fun j hj => by simp at hj⟩
theorem getD_app {α : Type} (l m : List α) (d : α) (j : Nat) : (l ++ m).getD j d = if j < l.length then l.getD j d else m.getD (j - l.length) d := by
 simp only [List.getD, List.getElem?_append]
 split <;> rfl
theorem wpList_append_OWL {w0 w : World} {ops : Array Oper} {rest : List Oper} {o : Oper} {a : Act} {Q : Exit -> Act -> World -> Prop} (hgd : o.guard = none) (s x : Operand)
  (ho : o.op = .call { callee := .builtin .append, args := #[s, x], argTypes := #[24, 24] })
  (v : Value) (ls : List (List Int)) (hs : a.eval s = v) (hown : OWL w0 w v ls)
  (ad : Addr) (m c : Nat) (us : List Value) (ns : List (List Int)) (hx : a.eval x = .slice (some ad) m c) (hl : us.length = m) (hn : ns.length = m) (hcell : ∀ j u, us[j]? = some u -> w.cell? (ad.add j) = some u)
  (hu : ∀ j, j < m -> EL w0 w (us.getD j undef) (ns.getD j [])) (h1 : ∀ u ∈ us, u.oneCell' = true)
  (hbytes : (ls.length + m) * 24 <= 140737488355328) (hbase : w0.heap.size <= w.heap.size)
  (h : ∀ v' w', OWL w0 w' v' (ls ++ ns) -> w.grownBy w' v.ownBlock -> (∀ g, v.ownBlock = some g -> w0.heap.size <= g /\ BT w g 30) -> wpList Tryd.prog ops Q rest (a.put o.dst v') w') : wpList Tryd.prog ops Q (o :: rest) a w := by
 obtain ⟨i0, hi, hz0, hz1, hz2⟩ := info_parts info_bytes
 obtain ⟨xs, hrow, hel⟩ := hown
 have hblk : ∀ g, v.ownBlock = some g -> w0.heap.size <= g /\ BT w g 30 := by
  intro g hg
  refine ⟨(hrow.lt g hg).1, ?_⟩
  rcases hrow.2 with ⟨rfl, _⟩ | ⟨g', cap, cur, rfl, _, hh, _⟩
  ·simp [Value.ownBlock] at hg
  ·simp only [Value.ownBlock, Option.some.injEq] at hg
   subst hg
   exact ⟨cur, _, hh⟩
 refine wpList_append_own w hgd s x 24 ho w0.heap.size 30 i0 (.slice none 0 0) 1 24 Tryd.underlying24 hi hz0 hz1 hz2 rfl (by decide) v ls.length xs hs hrow ad m c us hx (by omega) hcell h1 (by unfold maxLen; omega) hbytes hbase (fun v' w' h2 h3 _ => h v' w' ?_ h3 hblk)
 refine ⟨xs ++ us, by rw [List.length_append, hn]; exact h2, fun j hj => ?_⟩
 have key : ∀ u l, EL w0 w u l -> EL w0 w' u l := fun u l he => he.grown h3 fun g hg => by
  obtain ⟨_, cur, fz, hh⟩ := hblk g hg
  exact ⟨cur, _, fz, hh, by decide⟩
 have hxl : xs.length = ls.length := by have := hrow.1; omega
 rw [getD_app, getD_app, hxl]
 rw [List.length_append] at hj
 split
 ·exact key _ _ (hel j ‹_›)
 ·exact key _ _ (hu _ (by omega))
theorem takel_eq_step (la lb : List (List Int)) (k : Nat) (ha : k < la.length) (hb : k < lb.length) (h : la.take k = lb.take k) (e : la.getD k [] = lb.getD k []) : la.take (k + 1) = lb.take (k + 1) := by
 rw [List.take_succ_eq_append_getElem ha, List.take_succ_eq_append_getElem hb, h]
 have e1 : la.getD k [] = la[k] := by simp [List.getD, List.getElem?_eq_getElem ha]
 have e2 : lb.getD k [] = lb[k] := by simp [List.getD, List.getElem?_eq_getElem hb]
 rw [e1, e2] at e
 rw [e]
theorem sameLists_any (w : World) (va vb : Value) (la lb : List (List Int)) (ha : HL w va la) (hb : HL w vb lb) :
  Calls Tryd.prog 6 #[va, vb] w fun e w' => e = .returned (.bool (decide (la = lb))) /\ Dr w w' := by
 by_cases hlen : la.length = lb.length
 ·by_cases h0 : 0 < la.length
  ·obtain ⟨b1, o1, c1, rfl, hc1, hm1, hk1⟩ := ha.ne h0
   obtain ⟨b2, o2, c2, rfl, hc2, hm2, hk2⟩ := hb.ne (by omega)
   unfold maxLen at hm1 hm2
   have hm : la.length <= 9223372036854775807 := by omega
   have HL : Hid (la.length = lb.length) := hlen
   rw [<- hlen]
   have hcd : ∀ j, j < la.length -> ∃ u, w.cell? ⟨b2, o2 + j, none⟩ = some u /\ HB w u (lb.getD j []) := fun j hj => hk2 j (by omega)
   clear hlen hk2
   go_enter Tryd.func6, Tryd.ntmps6
   go_wp2
   go_loopw [5] (fun i wr => ∃ k : Nat, k <= la.length /\ i = .int .i64 k /\ la.take k = lb.take k /\ Dr w wr) (fun i _ => la.length - (intOf i).toNat)
   case atStart => exact ⟨0, Nat.zero_le _, rfl, rfl, Dr.refl _⟩
   case round =>
    obtain ⟨k, hk, rfl, ht, hD⟩ := hrel
    have HD := hid hD
    clear hD
    by_cases hlt : k < la.length
    ·obtain ⟨u1, g1, e1⟩ := hk1 k hlt
     obtain ⟨u2, g2, e2⟩ := hcd k hlt
     replace g1 := (HD.out.cell _).trans g1
     replace g2 := (HD.out.cell _).trans g2
     replace e1 := e1.dr HD.out
     replace e2 := e2.dr HD.out
     obtain ⟨x, HX⟩ : ∃ x, Hid (la.getD k [] = x) := ⟨_, rfl⟩
     obtain ⟨y, HY⟩ : ∃ y, Hid (lb.getD k [] = y) := ⟨_, rfl⟩
     rw [HX.out] at e1
     rw [HY.out] at e2
     obtain ⟨p1, c1', r1, _, _⟩ := e1.open
     obtain ⟨p2, c2', r2, _, _⟩ := e2.open
     subst r1 r2
     have E1 := hid e1
     have E2 := hid e2
     clear hk1 hcd e1 e2
     by_cases he : x = y
     ·have hne : decide (x = y) = true := by simpa using he
      have HE := hid he
      clear he
      go_wp2
      go_quiet ((go_at_call 26; exact Calls.quiet_of (sameBytes_any _ _ _ x y (E1.out.later fun _ _ hx => hx) (E2.out.later fun _ _ hx => hx))))
      go_wp2
      exact ⟨⟨k + 1, by omega, by go_num, takel_eq_step la lb k hlt (by have := HL.out; omega) ht (by rw [HX.out, HY.out, HE.out]), HD.out.drewN _⟩, by simp [intOf]; omega⟩
     ·have hne : decide (x = y) = false := by simpa using he
      go_wp2
      go_quiet ((go_at_call 26; exact Calls.quiet_of (sameBytes_any _ _ _ x y (E1.out.later fun _ _ hx => hx) (E2.out.later fun _ _ hx => hx))))
      go_wp2
      go_ret
      exact ⟨by rw [decide_eq_false (fun h => he ((HX.out.symm.trans (congrArg (fun z => List.getD z k []) h)).trans HY.out))]; rfl, HD.out.drewN _⟩
    ·go_wp2
     go_ret
     have e : la = lb := by
      have h1 := List.take_of_length_le (show la.length <= k by omega)
      have h2 := List.take_of_length_le (show lb.length <= k by have := HL.out; omega)
      rw [<- h1, <- h2, ht]
     exact ⟨by simp [e], HD.out⟩
  ·obtain ⟨p1, c1, rfl, _, _⟩ := ha.open
   obtain ⟨p2, c2, rfl, _, _⟩ := hb.open
   have e1 : la = [] := List.length_eq_zero_iff.1 (by omega)
   have e2 : lb = [] := List.length_eq_zero_iff.1 (by omega)
   subst e1 e2
   go_enter Tryd.func6, Tryd.ntmps6
   go_wp2
   go_loop [5] (fun i => i = .int .i64 0) (fun _ => 0)
   case atStart => rfl
   case round =>
    subst hrel
    go_wp2
    go_ret
    exact ⟨rfl, Dr.refl _⟩
 ·obtain ⟨p1, c1, rfl, _, _⟩ := ha.open
  obtain ⟨p2, c2, rfl, _, _⟩ := hb.open
  have hne : ((la.length : Int) != (lb.length : Int)) = true := by rw [bne_iff_ne]; omega
  go_enter Tryd.func6, Tryd.ntmps6
  go_wp2
  go_ret
  exact ⟨by simp [show la ≠ lb from fun e => hlen (by rw [e])], Dr.refl _⟩
end Go.Proofs.YtcpchhigiohlnaaDoor
