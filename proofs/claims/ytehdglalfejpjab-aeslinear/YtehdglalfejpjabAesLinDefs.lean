/- AesLinear: the names, the tables. -/
import Derived.Test.YtehdglalfejpjabAesNilWalk
import Derived.Test.YtehdglalfejpjabAesAlg
import Derived.Test.YtehdglalfejpjabEvRows
set_option linter.unusedVariables false
set_option linter.unusedSimpArgs false
namespace Go.Proofs.Ytehdglalfejpjab
open Go Go.RowKit Ev

theorem entX {ρ : Env} {g : Nat} {xs : List AV} {v : AV} (vals : List Value) (u : Value) (hx : ∀ ms, xs.map (AV.inst ρ ms) = vals.map some) (hv : ∀ ms, v.inst ρ ms = some u) (h : ∀ w, Calls Try.prog g vals.toArray w fun e w' => e = .returned u ∧ Below w.heap.size w w') : EntOk ρ (g, xs, v) := by
  intro ms w args ha
  have ea : args = vals.toArray := by
    have := some_inj (ha.symm.trans (hx ms))
    rw [← this, Array.toArray_toList]
  subst ea
  exact (h w).mono fun e w' ⟨q1, q2⟩ => ⟨_, q1, hv ms, q2⟩
def R (p : Nat) : AV := V (176 + 16 * p) 16
def bothE : List Ex := (List.range 16).map fun j => xorE (.var j) (.var (16 + j))
theorem both_ev : evCall Try.prog noLore conC 100 24 [.tv (.agg (vars 0 16)), .tv (.agg (vars 16 16))] [] = some (.tv (.agg (bytesE bothE)), []) := by kernel_rfl
def bothL (a b : List Nat) : List Nat := bothE.map (nden (at8 (a ++ b)))
theorem both_any (w : World) (a b : List Nat) (ha : a.length = 16) (hb : b.length = 16) (ba : Byt a) (bb : Byt b) : Calls Try.prog 24 #[.agg (cells8 a), .agg (cells8 b)] w fun e w' => e = .returned (.agg (cells8 (bothL a b))) ∧ Below w.heap.size w w' :=
  fun2 both_ev (by decide +kernel) w a b ha hb ba bb
theorem bothL_get {a b : List Nat} (ha : a.length = 16) (j : Nat) (hj : j < 16) : at8 (bothL a b) j = at8 a j ^^^ at8 b j := by
  have e1 : at8 (a ++ b) j = at8 a j := by simp only [at8, List.getD]; rw [List.getElem?_append_left (by omega)]
  have e2 : at8 (a ++ b) (16 + j) = at8 b j := by simp only [at8, List.getD]; rw [List.getElem?_append_right (by omega), ha, Nat.add_sub_cancel_left]
  have : at8 (bothL a b) j = at8 (a ++ b) j ^^^ at8 (a ++ b) (16 + j) := by
    show (bothL a b).getD j 0 = _
    simp only [bothL, bothE, List.getD, List.getElem?_map, List.getElem?_range hj, Option.map_some, Option.getD_some]
    rfl
  rw [this, e1, e2]
theorem bothL_length (a b : List Nat) : (bothL a b).length = 16 := by simp [bothL, bothE]
theorem bothL_byt {a b : List Nat} (ha : Byt a) (hb : Byt b) : Byt (bothL a b) := fun x hx => by
  obtain ⟨e, he, rfl⟩ := List.mem_map.1 hx
  have hok : bothE.all okB = true := by decide +kernel
  exact (nden_ok (byt_get (byt_app ha hb)) e (List.all_eq_true.1 hok e he)).2
theorem mixB_xor {a b t a' b' t' : Nat} (ha : a < 256) (hb : b < 256) (ha' : a' < 256) (hb' : b' < 256) : mixB a b t ^^^ mixB a' b' t' = mixB (a ^^^ a') (b ^^^ b') (t ^^^ t') := by
  unfold mixB
  rw [show a ^^^ a' ^^^ (b ^^^ b') = (a ^^^ b) ^^^ (a' ^^^ b') by simp only [Nat.xor_assoc, Nat.xor_comm, xlc], dbl_xor _ _ (xor8 ha hb) (xor8 ha' hb')]
  simp only [Nat.xor_assoc, Nat.xor_comm, xlc]
theorem mix_both {s t : List Nat} (hs : Byt s) (ht : Byt t) (hsl : s.length = 16) (r c : Nat) (hr : r < 4) (hc : c < 4) :
    at8 (St.mix.ap [] s) (4 * r + c) ^^^ at8 (St.mix.ap [] t) (4 * r + c) = mixB (at8 s (4 * r + c) ^^^ at8 t (4 * r + c)) (at8 s (4 * ((r + 1) % 4) + c) ^^^ at8 t (4 * ((r + 1) % 4) + c)) ((at8 s c ^^^ at8 t c) ^^^ (at8 s (4 + c) ^^^ at8 t (4 + c)) ^^^ (at8 s (8 + c) ^^^ at8 t (8 + c)) ^^^ (at8 s (12 + c) ^^^ at8 t (12 + c))) := by
  rw [mixL_get hs r c hr hc, mixL_get ht r c hr hc, mixB_xor (byt_at hs _) (byt_at hs _) (byt_at ht _) (byt_at ht _)]
  congr 1
  simp only [Nat.xor_assoc, Nat.xor_comm, xlc]
theorem mix_bothL {s t : List Nat} (hs : Byt s) (ht : Byt t) (hsl : s.length = 16) : St.mix.ap [] (bothL s t) = bothL (St.mix.ap [] s) (St.mix.ap [] t) := by
  have hn : Byt ([] : List Nat) := fun y hy => by simp at hy
  refine ext16 (St.ap_ok hn (bothL_byt hs ht) .mix).1 (bothL_length _ _) fun r c hr hc => ?_
  rw [bothL_get (St.ap_ok hn hs .mix).1 _ (by omega), mix_both hs ht hsl r c hr hc, mixL_get (bothL_byt hs ht) r c hr hc, bothL_get hsl _ (by omega), bothL_get hsl _ (by omega), bothL_get hsl c (by omega), bothL_get hsl (4 + c) (by omega), bothL_get hsl (8 + c) (by omega), bothL_get hsl (12 + c) (by omega)]
theorem shift_get {s : List Nat} (r c : Nat) (hr : r < 4) (hc : c < 4) : at8 (St.shift.ap [] s) (4 * r + c) = at8 s (4 * r + (c + r) % 4) := by
  have h : 4 * r + c < 16 := by omega
  show (shiftE.map (nden (at8 s))).getD (4 * r + c) 0 = _
  simp only [shiftE, row, List.getD, List.getElem?_map, List.getElem?_range h, Option.map_some, Option.getD_some]
  rw [show (4 * r + c) / 4 = r by omega, show (4 * r + c) % 4 = c by omega]
  rfl
theorem shift_bothL {s t : List Nat} (hs : Byt s) (ht : Byt t) (hsl : s.length = 16) : St.shift.ap [] (bothL s t) = bothL (St.shift.ap [] s) (St.shift.ap [] t) := by
  have hn : Byt ([] : List Nat) := fun y hy => by simp at hy
  refine ext16 (St.ap_ok hn (bothL_byt hs ht) .shift).1 (bothL_length _ _) fun r c hr hc => ?_
  rw [bothL_get (St.ap_ok hn hs .shift).1 _ (by omega), shift_get r c hr hc, shift_get r c hr hc, shift_get r c hr hc, bothL_get hsl _ (by omega)]

/-- The state with one byte turned; what the two mixed states differ by. -/
def turnE (row col : Nat) : List Ex := (List.range 16).map fun j => if j = 4 * row + col then xorE (.var (176 + j)) (.bit .or .u8 (.var 0) (.lit 1)) else .var (176 + j)
def diffE (col : Nat) : List Ex := (List.range 16).map fun j => if j % 4 = col then .var (176 + 16 * 9 + j) else .lit 0
def linTab (row col : Nat) : List (Nat × List AV × AV) := [
  (10, [], .tv (.sc (.bool true))),
  (24, [R 0, R 1], R 2),
  (24, [R 3, R 4], R 5),
  (24, [R 6, R 7], R 8),
  (20, [R 0], R 3),
  (20, [R 1], R 4),
  (20, [R 2], R 5),
  (18, [R 0], R 6),
  (18, [R 1], R 7),
  (18, [R 2], R 8),
  (20, [.tv (.agg (bytesE (turnE row col)))], R 10),
  (24, [R 3, R 10], .tv (.agg (bytesE (diffE col))))]
def linFact (col : Nat) : List (BinOp × Ex × Ex × Bool) := (List.range 4).map fun r => (.neq, .var (176 + 16 * 9 + (4 * r + col)), .lit 0, true)
def linNm (row col : Nat) : Ex → Ex
  | .ari .rem .u8 (.var i) (.lit 4) => if i = 0 then .lit row else if i = 1 then .lit col else .ari .rem .u8 (.var i) (.lit 4)
  | .ari .quo .u8 (.var i) (.lit 4) => if i = 0 then .var 1 else .ari .quo .u8 (.var i) (.lit 4)
  | e => e
def linLore (row col : Nat) : Lore := ⟨tabCmp (linFact col), linNm row col, fun _ _ => none⟩
end Go.Proofs.Ytehdglalfejpjab
