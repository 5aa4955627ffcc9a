/- Words of 32 bits and arrays of them: cells, zeros, the alloc of such an array; the words of a block. -/
import Derived.Test.YtdipjhcjmjajfaaDoorShaTurn
import Derived.Test.YtdipjhcjmjajfaaDoorArrays
import Derived.BigRegion
namespace Go.Proofs.YtdipjhcjmjajfaaDoor
open Go.RowKit

/-- The cells of words. -/
def cellsW (l : List Nat) : Array Value := (l.map (fun x : Nat => Value.int .u32 (x : Int))).toArray
theorem cellsW_size (l : List Nat) : (cellsW l).size = l.length := by simp [cellsW]
theorem cellsW_one (l : List Nat) : (cellsW l).all (·.oneCell') = true := all_oneCell_toArray (fun v hv => by obtain ⟨x, _, rfl⟩ := List.mem_map.1 hv; rfl)
theorem cellsW_get {l : List Nat} {i : Nat} (h : i < l.length) : (cellsW l)[i]? = some (.int .u32 ((l.getD i 0 : Nat) : Int)) := by
  simp [cellsW, List.getD, List.getElem?_eq_getElem h]
theorem cellsW_set (l : List Nat) (i x : Nat) : (cellsW l).setIfInBounds i (.int .u32 (x : Int)) = cellsW (l.set i x) := by
  unfold cellsW
  rw [List.map_set]
  simp
def zerosW (n : Nat) : List Nat := List.replicate n 0
theorem zerosW_length (n : Nat) : (zerosW n).length = n := by simp [zerosW]

theorem wpList_alloc_agg {T : TypeId} {cs : Array Value} (hz : (Tryd.prog.info? T).map (·.zero) = some (some (.agg cs))) {ops : Array Oper} {rest : List Oper} {o : Oper} {a : Act} {w : World} {Q : Exit → Act → World → Prop} (hgd : o.guard = none) (ho : o.op = .alloc T)
    (h : wpList Tryd.prog ops Q rest (a.put o.dst (.pointer (some ⟨w.heap.size, 0, none⟩))) (w.alloc (.cells cs T))) : wpList Tryd.prog ops Q (o :: rest) a w :=
  wpList_plain hgd fun _ hK => by
    have hr : (Instr.alloc T true (.tuple #[])).run Tryd.prog w = .ok (.pointer (some ⟨w.heap.size, 0, none⟩)) (w.alloc (.cells cs T)) := by
      cases hi : Tryd.prog.info? T with
      | none => simp [hi] at hz
      | some i0 =>
        simp [hi] at hz
        simp [Instr.alloc, zeroValue, typeInfo, hi, hz, newVar, newRow, Value.cells]
    unfold Oper.wp
    simp only [execOp, ho, Sem.run_bind, hr, Result.andThen_ok]
    exact hK _ _ h

theorem zero_w64 : (Tryd.prog.info? 68).map (·.zero) = some (some (.agg (cellsW (zerosW 64)))) := by kernel_rfl
theorem zero_w8 : (Tryd.prog.info? 25).map (·.zero) = some (some (.agg (cellsW (zerosW 8)))) := by kernel_rfl
theorem size_w64 : (Tryd.prog.info? 68).map (·.size) = some 64 := by kernel_rfl
theorem size_w8 : (Tryd.prog.info? 25).map (·.size) = some 8 := by kernel_rfl
theorem size_b64 : (Tryd.prog.info? 28).map (·.size) = some 64 := by kernel_rfl

/-- The t-th word of a block, the highest byte first. -/
def beW (l : List Int) (t : Nat) : Nat := (l.getD (4 * t) 0).toNat * 16777216 + (l.getD (4 * t + 1) 0).toNat * 65536 + (l.getD (4 * t + 2) 0).toNat * 256 + (l.getD (4 * t + 3) 0).toNat
def add32 (x y : Nat) : Nat := (x + y) % 4294967296
def sig0 (x : Nat) : Nat := rot x 7 ^^^ rot x 18 ^^^ x / 8
def sig1 (x : Nat) : Nat := rot x 17 ^^^ rot x 19 ^^^ x / 1024
/-- The word behind the words ws. -/
def nextW (l : List Int) (ws : List Nat) (t : Nat) : Nat :=
  if t < 16 then beW l t else add32 (add32 (add32 (sig1 (ws.getD (t - 2) 0)) (ws.getD (t - 7) 0)) (sig0 (ws.getD (t - 15) 0))) (ws.getD (t - 16) 0)
/-- The first t words. -/
def wordsTo (l : List Int) : Nat → List Nat
  | 0 => []
  | t + 1 => wordsTo l t ++ [nextW l (wordsTo l t) t]
theorem wordsTo_length (l : List Int) : ∀ t, (wordsTo l t).length = t
  | 0 => rfl
  | t + 1 => by simp [wordsTo, wordsTo_length l t]
/-- The array behind t words. -/
def curWs (l : List Int) (t : Nat) : List Nat := wordsTo l t ++ List.replicate (64 - t) 0
theorem curWs_length (l : List Int) (t : Nat) (h : t ≤ 64) : (curWs l t).length = 64 := by simp [curWs, wordsTo_length]; omega
theorem curWs_step (l : List Int) (t : Nat) (h : t < 64) : (curWs l t).set t (nextW l (wordsTo l t) t) = curWs l (t + 1) := by
  unfold curWs
  rw [List.set_append_right _ _ (by rw [wordsTo_length]; exact Nat.le_refl _), wordsTo_length, Nat.sub_self, show 64 - t = (64 - (t + 1)) + 1 by omega, List.replicate_succ, List.set_cons_zero]
  simp [wordsTo]
theorem curWs_get (l : List Int) (t i : Nat) (h : i < t) : (curWs l t).getD i 0 = (wordsTo l t).getD i 0 := by
  unfold curWs
  simp [List.getD, List.getElem?_append, wordsTo_length, h]

theorem byte_nat {l : List Int} (h : ∀ x ∈ l, 0 ≤ x ∧ x < 256) (i : Nat) : (l.getD i 0).toNat < 256 := by
  by_cases hj : i < l.length
  · rw [getD_of_lt hj]
    have := h _ (List.getElem_mem hj)
    omega
  · have e : l.getD i 0 = 0 := by simp [List.getD, List.getElem?_eq_none (by omega : l.length ≤ i)]
    rw [e]; decide
theorem beW_lt {l : List Int} (h : ∀ x ∈ l, 0 ≤ x ∧ x < 256) (t : Nat) : beW l t < 4294967296 := by
  unfold beW
  have h0 := byte_nat h (4 * t)
  have h1 := byte_nat h (4 * t + 1)
  have h2 := byte_nat h (4 * t + 2)
  have h3 := byte_nat h (4 * t + 3)
  omega
theorem nextW_lt {l : List Int} (h : ∀ x ∈ l, 0 ≤ x ∧ x < 256) (ws : List Nat) (t : Nat) : nextW l ws t < 4294967296 := by
  unfold nextW
  split
  · exact beW_lt h t
  · exact Nat.mod_lt _ (by decide)
theorem wordsTo_lt {l : List Int} (h : ∀ x ∈ l, 0 ≤ x ∧ x < 256) : ∀ t, ∀ x ∈ wordsTo l t, x < 4294967296
  | 0 => by simp [wordsTo]
  | t + 1 => by
    intro x hx
    rcases List.mem_append.1 hx with h1 | h1
    · exact wordsTo_lt h t x h1
    · have : x = nextW l (wordsTo l t) t := by simpa using h1
      rw [this]
      exact nextW_lt h _ _
theorem getW_lt {ws : List Nat} (h : ∀ x ∈ ws, x < 4294967296) (i : Nat) : ws.getD i 0 < 4294967296 := by
  by_cases hj : i < ws.length
  · rw [show ws.getD i 0 = ws[i] by simp [List.getD, List.getElem?_eq_getElem hj]]
    exact h _ (List.getElem_mem hj)
  · rw [show ws.getD i 0 = 0 by simp [List.getD, List.getElem?_eq_none (by omega : ws.length ≤ i)]]
    decide

/-- Four bytes or'ed together are their number. -/
theorem or_four (a b c d : Nat) (ha : a < 256) (hb : b < 256) (hc : c < 256) (hd : d < 256) :
    bits .or .u32 (bits .or .u32 (bits .or .u32 ((a : Int) * 16777216) ((b : Int) * 65536)) ((c : Int) * 256)) (d : Int) = ((a * 16777216 + b * 65536 + c * 256 + d : Nat) : Int) := by
  have e1 : bits .or .u32 ((a : Int) * 16777216) ((b : Int) * 65536) = ((a * 16777216 + b * 65536 : Nat) : Int) := by
    have := u32_or_nat (a * 16777216) (b * 65536) (by omega) (by omega)
    rw [Int.natCast_mul, Int.natCast_mul] at this
    rw [show ((a : Int) * 16777216) = (a : Int) * ((16777216 : Nat) : Int) from rfl, show ((b : Int) * 65536) = (b : Int) * ((65536 : Nat) : Int) from rfl, this]
    congr 1
    have := Nat.two_pow_add_eq_or_of_lt (i := 24) (b := b * 65536) (by omega) a
    rw [show 2 ^ 24 * a = a * 16777216 by omega] at this
    omega
  have e2 : bits .or .u32 ((a * 16777216 + b * 65536 : Nat) : Int) ((c : Int) * 256) = ((a * 16777216 + b * 65536 + c * 256 : Nat) : Int) := by
    have := u32_or_nat (a * 16777216 + b * 65536) (c * 256) (by omega) (by omega)
    rw [show ((c : Int) * 256) = ((c * 256 : Nat) : Int) by rw [Int.natCast_mul]; rfl, this]
    congr 1
    have := Nat.two_pow_add_eq_or_of_lt (i := 16) (b := c * 256) (by omega) (a * 256 + b)
    rw [show 2 ^ 16 * (a * 256 + b) = a * 16777216 + b * 65536 by omega] at this
    omega
  rw [e1, e2, u32_or_nat _ _ (by omega) (by omega)]
  congr 1
  have := Nat.two_pow_add_eq_or_of_lt (i := 8) (b := d) (by omega) (a * 65536 + b * 256 + c)
  rw [show 2 ^ 8 * (a * 65536 + b * 256 + c) = a * 16777216 + b * 65536 + c * 256 by omega] at this
  omega

theorem grown_setd (w : World) (g o : Nat) (u : Value) : w.grownBy (w.setCell ⟨g, o, none⟩ u).drew (some g) :=
  ⟨rfl, rfl, rfl, by show w.heap.size ≤ (w.setCell ⟨g, o, none⟩ u).heap.size; simp, fun k _ hk => heap_setCell_other w ⟨g, o, none⟩ k u (fun e => hk (by simp [e]))⟩
theorem grown_sets (w : World) (g o : Nat) (u : Value) : w.grownBy (w.setCell ⟨g, o, none⟩ u) (some g) :=
  ⟨rfl, rfl, rfl, by simp, fun k _ hk => heap_setCell_other w ⟨g, o, none⟩ k u (fun e => hk (by simp [e]))⟩
theorem grown_tr {a b c : World} {r : Option Nat} (h : a.grownBy b r) (k : b.grownBy c r) : a.grownBy c r :=
  ⟨k.os.trans h.os, k.tape.trans h.tape, k.output.trans h.output, Nat.le_trans h.size k.size, fun i hi hr => (k.block i (Nat.lt_of_lt_of_le hi h.size) hr).trans (h.block i hi hr)⟩
theorem sig0_bits (x : Nat) (hx : x < 4294967296) : bits .xor .u32 (bits .xor .u32 ((rot x 7 : Nat) : Int) ((rot x 18 : Nat) : Int)) ((x : Int) / 8) = ((sig0 x : Nat) : Int) := by
  have h1 : rot x 7 ^^^ rot x 18 < 2 ^ 32 := Nat.xor_lt_two_pow (rot_lt hx) (rot_lt hx)
  rw [u32_xor_nat _ _ (rot_lt hx) (rot_lt hx), show (x : Int) / 8 = ((x / 8 : Nat) : Int) by omega, u32_xor_nat _ _ h1 (by omega)]
  rfl
theorem sig1_bits (x : Nat) (hx : x < 4294967296) : bits .xor .u32 (bits .xor .u32 ((rot x 17 : Nat) : Int) ((rot x 19 : Nat) : Int)) ((x : Int) / 1024) = ((sig1 x : Nat) : Int) := by
  have h1 : rot x 17 ^^^ rot x 19 < 2 ^ 32 := Nat.xor_lt_two_pow (rot_lt hx) (rot_lt hx)
  rw [u32_xor_nat _ _ (rot_lt hx) (rot_lt hx), show (x : Int) / 1024 = ((x / 1024 : Nat) : Int) by omega, u32_xor_nat _ _ h1 (by omega)]
  rfl
theorem wrap_add32 (x y : Nat) : IntKind.u32.wrap ((x : Int) + (y : Int)) = ((add32 x y : Nat) : Int) := by
  rw [IntKind.wrap_u32]
  unfold add32
  omega
theorem add32_lt (x y : Nat) : add32 x y < 4294967296 := Nat.mod_lt _ (by decide)
theorem sig0_lt {x : Nat} (hx : x < 4294967296) : sig0 x < 4294967296 := by
  unfold sig0
  exact Nat.xor_lt_two_pow (n := 32) (Nat.xor_lt_two_pow (rot_lt hx) (rot_lt hx)) (by omega)
theorem sig1_lt {x : Nat} (hx : x < 4294967296) : sig1 x < 4294967296 := by
  unfold sig1
  exact Nat.xor_lt_two_pow (n := 32) (Nat.xor_lt_two_pow (rot_lt hx) (rot_lt hx)) (by omega)
end Go.Proofs.YtdipjhcjmjajfaaDoor
