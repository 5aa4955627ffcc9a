/- Arrays of bytes: cells, zeros, the alloc of such an array. -/
import Derived.Test.YtmfamecadomipaaDoorU8
import Derived.Deep.MidRow
namespace Go.Proofs.YtmfamecadomipaaDoor
open Go.RowKit

/-- The cells of bytes. -/
def cells8 (l : List Nat) : Array Value := (l.map (fun x : Nat => Value.int .u8 (x : Int))).toArray
theorem cells8_size (l : List Nat) : (cells8 l).size = l.length := by simp [cells8]
theorem cells8_one (l : List Nat) : (cells8 l).all (·.oneCell') = true := all_oneCell_toArray (fun v hv => by obtain ⟨x, _, rfl⟩ := List.mem_map.1 hv; rfl)
theorem cells8_get {l : List Nat} {i : Nat} (h : i < l.length) : (cells8 l)[i]? = some (.int .u8 ((l.getD i 0 : Nat) : Int)) := by
  simp [cells8, List.getD, List.getElem?_eq_getElem h]
theorem cells8_set (l : List Nat) (i x : Nat) : (cells8 l).setIfInBounds i (.int .u8 (x : Int)) = cells8 (l.set i x) := by
  unfold cells8
  rw [List.map_set]
  simp
def zeros8 (n : Nat) : List Nat := List.replicate n 0
theorem zeros8_length (n : Nat) : (zeros8 n).length = n := by simp [zeros8]
theorem wpList_alloc_agg {T : TypeId} {cs : Array Value} (hz : (Tryd.prog.info? T).map (·.zero) = some (some (.agg cs))) {ops : Array Oper} {rest : List Oper} {o : Oper} {a : Act} {w : World} {Q : Exit → Act → World → Prop} (hgd : o.guard = none) (ho : o.op = .alloc T)
    (h : wpList Tryd.prog ops Q rest (a.put o.dst (.pointer (some ⟨w.heap.size, 0, none⟩))) (w.alloc (.cells cs T))) : wpList Tryd.prog ops Q (o :: rest) a w :=
  wpList_plain hgd fun _ hK => by
    have hr : (Instr.alloc T true (.tuple #[])).run Tryd.prog w = .ok (.pointer (some ⟨w.heap.size, 0, none⟩)) (w.alloc (.cells cs T)) := by
      cases hi : Tryd.prog.info? T with
      | none => simp [hi] at hz
      | some i0 =>
        simp [hi] at hz
        simp [Instr.alloc, zeroValue, typeInfo, hi, hz, newVar, newRow, Value.cells]
    unfold Oper.wp
    simp only [execOp, ho, Sem.run_bind, hr, Result.andThen_ok]
    exact hK _ _ h

theorem below_setRow {B : Nat} {a w : World} (h : Below B a w) {g : Nat} (hg : B ≤ g) (cs : Array Value) : Below B a (w.setRow g cs) :=
  h.trans ⟨rfl, rfl, rfl, by simp [World.setRow], fun k hk => setRow_other w g k _ (by omega)⟩
theorem grown_setd (w : World) (g o : Nat) (u : Value) : w.grownBy (w.setCell ⟨g, o, none⟩ u).drew (some g) :=
  ⟨rfl, rfl, rfl, by show w.heap.size ≤ (w.setCell ⟨g, o, none⟩ u).heap.size; simp, fun k _ hk => heap_setCell_other w ⟨g, o, none⟩ k u (fun e => hk (by simp [e]))⟩
theorem grown_sets (w : World) (g o : Nat) (u : Value) : w.grownBy (w.setCell ⟨g, o, none⟩ u) (some g) :=
  ⟨rfl, rfl, rfl, by simp, fun k _ hk => heap_setCell_other w ⟨g, o, none⟩ k u (fun e => hk (by simp [e]))⟩
theorem grown_tr {a b c : World} {r : Option Nat} (h : a.grownBy b r) (k : b.grownBy c r) : a.grownBy c r :=
  ⟨k.os.trans h.os, k.tape.trans h.tape, k.output.trans h.output, Nat.le_trans h.size k.size, fun i hi hr => (k.block i (Nat.lt_of_lt_of_le hi h.size) hr).trans (h.block i hi hr)⟩
theorem grown_rfl (a : World) (r : Option Nat) : a.grownBy a r := ⟨rfl, rfl, rfl, Nat.le_refl _, fun _ _ _ => rfl⟩

theorem part_u8 (w : World) (l : List Nat) (i : Nat) (hi : i < l.length) : (part 5 (cells8 l) i).run Tryd.prog w = .ok (.int .u8 ((l.getD i 0 : Nat) : Int)) w := by
  simp [part, cells8_get hi]
/-- A byte of an array that is a value. -/
theorem run_index8 (w : World) {t : TypeId} {n : Nat} (ht : Tryd.prog.underlying t = some (.array n 5)) (l : List Nat) (hl : l.length = n) (i : Nat) (hi : i < n) (k : IntKind) : (Instr.index t (.agg (cells8 l)) (.int k (i : Int))).run Tryd.prog w = .ok (.int .u8 ((l.getD i 0 : Nat) : Int)) w := by
  have h1 := part_u8 w l i (by omega)
  simp [Instr.index, run_underlying ht, asIntOf, h1, hi]

theorem zero_b32 : (Tryd.prog.info? 49).map (·.zero) = some (some (.agg (cells8 (zeros8 32)))) := by kernel_rfl
theorem size_b32 : (Tryd.prog.info? 49).map (·.size) = some 32 := by kernel_rfl
/-- The first k of a list, and noughts. -/
def partTo (L : List Int) (k : Nat) : List Int := L.take k ++ List.replicate (L.length - k) 0
theorem partTo_length (L : List Int) (k : Nat) (h : k ≤ L.length) : (partTo L k).length = L.length := by simp [partTo]; omega
theorem partTo_step (L : List Int) (k : Nat) (h : k < L.length) : (partTo L k).set k (L.getD k 0) = partTo L (k + 1) := by
  unfold partTo
  rw [List.set_append_right _ _ (by rw [List.length_take]; omega), List.length_take, Nat.min_eq_left (Nat.le_of_lt h), Nat.sub_self, show L.length - k = (L.length - (k + 1)) + 1 by omega, List.replicate_succ, List.set_cons_zero, List.take_succ_eq_append_getElem h, getD_of_lt h, List.append_assoc]
  rfl
theorem partTo_all (L : List Int) : partTo L L.length = L := by simp [partTo]
theorem partTo_none (L : List Int) : partTo L 0 = List.replicate L.length 0 := by simp [partTo]
end Go.Proofs.YtmfamecadomipaaDoor
