/- What hangs on no type of things: worlds that are alike but in some blocks, rows of cells. -/
import Derived.Test.YtajdopmhdagehaaHpM
import Derived.Test.YtajdopmhdagehaaOwns
import Derived.MapKept
import Derived.Carry
set_option linter.unusedVariables false
set_option linter.unusedSimpArgs false
namespace Go.Proofs.Ytajdopmhdagehaa
open Go Go.RowKit Go.MapKept

/-- w' is w but in blocks of S, and for blocks that are new. -/
structure Ex (S : Nat → Prop) (w w' : World) : Prop where
  os : w'.os = w.os
  tape : w'.tape = w.tape
  output : w'.output = w.output
  size : w.heap.size ≤ w'.heap.size
  block : ∀ k, k < w.heap.size → ¬ S k → w'.heap[k]? = w.heap[k]?
theorem Ex.refl (S : Nat → Prop) (w : World) : Ex S w w := ⟨rfl, rfl, rfl, Nat.le_refl _, fun _ _ _ => rfl⟩
theorem Ex.trans {S S' : Nat → Prop} {a b c : World} (h : Ex S a b) (k : Ex S' b c) (hs : ∀ k, S' k → S k ∨ a.heap.size ≤ k) : Ex S a c :=
  ⟨k.os.trans h.os, k.tape.trans h.tape, k.output.trans h.output, Nat.le_trans h.size k.size, fun i hi hn => by
    rw [k.block i (Nat.lt_of_lt_of_le hi h.size) (fun q => by rcases hs i q with q | q; exact hn q; omega), h.block i hi hn]⟩
theorem Ex.mono {S S' : Nat → Prop} {a b : World} (h : Ex S a b) (hs : ∀ k, S k → S' k) : Ex S' a b := ⟨h.os, h.tape, h.output, h.size, fun k hk hn => h.block k hk fun q => hn (hs k q)⟩
theorem Ex.of_below {S : Nat → Prop} {a b : World} (h : Below a.heap.size a b) : Ex S a b := ⟨h.os, h.tape, h.output, h.size, fun k hk _ => h.block k hk⟩
theorem Ex.below {S : Nat → Prop} {a b : World} (h : Ex S a b) {B : Nat} (hB : B ≤ a.heap.size) (hs : ∀ k, S k → B ≤ k) : Below B a b := ⟨h.os, h.tape, h.output, h.size, fun k hk => h.block k (by omega) fun q => by have := hs k q; omega⟩
theorem Ex.drewN {S : Nat → Prop} {a b : World} (h : Ex S a b) (q : Nat) : Ex S a (b.drewN q) := ⟨h.os, h.tape, h.output, h.size, h.block⟩
theorem Ex.drew {S : Nat → Prop} {a b : World} (h : Ex S a b) : Ex S a b.drew := ⟨h.os, h.tape, h.output, h.size, h.block⟩
theorem Ex.grown {S : Nat → Prop} {a b : World} {r : Option Nat} (h : a.grownBy b r) (hs : ∀ k, r = some k → S k) : Ex S a b := ⟨h.os, h.tape, h.output, h.size, fun k hk hn => h.block k hk fun q => hn (hs k q.symm)⟩
theorem Ex.setCell {S : Nat → Prop} {a b : World} (h : Ex S a b) {x o : Nat} (hx : S x) (v : Value) : Ex S a (b.setCell ⟨x, o, none⟩ v) := by
  refine ⟨h.os, h.tape, h.output, by simpa [World.setCell] using h.size, fun k hk hn => ?_⟩
  rw [← h.block k hk hn]
  have : x ≠ k := fun q => hn (q ▸ hx)
  simp [World.setCell, Array.getElem?_modify, this]
theorem Ex.alloc {S : Nat → Prop} {a b : World} (h : Ex S a b) (o : Obj) : Ex S a (b.alloc o) :=
  ⟨h.os, h.tape, h.output, by have := h.size; show a.heap.size ≤ (b.heap.push o).size; rw [Array.size_push]; omega, fun k hk hn => by
    rw [← h.block k hk hn]
    have := h.size
    show (b.heap.push o)[k]? = _
    rw [Array.getElem?_push, if_neg (by omega)]⟩

abbrev ptr (b : Nat) : Value := .pointer (some ⟨b, 0, none⟩)
theorem free_of {w : World} {b : Nat} {cs : Array Value} {T : TypeId} (h : w.heap[b]? = some (.cells cs T (0, 0))) (i : Nat) : w.frozen? ⟨b, i, none⟩ = false := by simp [World.frozen?, h]
theorem bk_set {w : World} {x : Nat} {cs : Array Value} {T : TypeId} (h : w.heap[x]? = some (.cells cs T (0, 0))) (i : Nat) (v : Value) : (w.setCell ⟨x, i, none⟩ v).heap[x]? = some (.cells (cs.setIfInBounds i v) T (0, 0)) := by
  simp [World.setCell, Array.getElem?_modify, h]
theorem bk_other {w : World} {x y : Nat} (hne : y ≠ x) (i : Nat) (v : Value) : (w.setCell ⟨y, i, none⟩ v).heap[x]? = w.heap[x]? := by
  simp [World.setCell, Array.getElem?_modify, hne]
theorem sz_set (w : World) (y i : Nat) (v : Value) : (w.setCell ⟨y, i, none⟩ v).heap.size = w.heap.size := by simp [World.setCell]
def SU (S U : Nat → Prop) (k : Nat) : Prop := S k ∨ U k
def lseN (g : Nat) (w : World) : Nat := match w.cell? ⟨g, 5, none⟩ with | some (.int _ q) => q.toNat | _ => 0
def snkN (n g : Nat) (w : World) : Nat := match w.cell? ⟨g, 5, none⟩ with | some (.int _ q) => if q < 0 then 0 else n + 1 - q.toNat | _ => 0
theorem under_int : Try.prog.underlying 3 = some (.int .i64) := Try.underlying3
theorem grown_mset {w : World} {b : Nat} {o : Obj} (hb : w.heap[b]? = some o) (o' : Obj) : w.grownBy { w with heap := w.heap.setIfInBounds b o' } (some b) :=
  ⟨rfl, rfl, rfl, by simp, fun k hk hne => (heap_set (w := w) hb).2 k (fun e => hne (by rw [e]))⟩
theorem split_at {l : List MapEntry} {j : Nat} {e : MapEntry} (h : l[j]? = some e) : l = l.take j ++ e :: l.drop (j + 1) ∧ l.eraseIdx j = l.take j ++ l.drop (j + 1) := by
  obtain ⟨hj, rfl⟩ := List.getElem?_eq_some_iff.1 h
  refine ⟨?_, List.eraseIdx_eq_take_drop_succ ..⟩
  rw [← List.drop_eq_getElem_cons hj, List.take_append_drop]
def cutW (w : World) (g b m1 cap : Nat) : World := (w.setCell ⟨b, m1, none⟩ (.pointer none)).setCell ⟨g, 2, none⟩ (.slice (some ⟨b, 0, none⟩) m1 cap)
theorem results_cellt {P : Program} {fn : Func} {p u : Tmp} {ty : TypeId} (h : fn.results = #[.cell p ty, .tmp u]) (tmps : Array Value) (w : World) (g : Nat) (t : TypeId) (cs : Array Value) (fr : Nat × Nat) (d : TypeDesc)
    (hp : tmps.getD p undef = .pointer (some ⟨g, 0, none⟩)) (hg : w.heap[g]? = some (.cells cs t fr))
    (hu : P.underlying ty = some d) (hd : (match d with | .struct _ | .array _ _ => true | _ => false) = true) (hi : (P.info? ty).map (·.size) = some cs.size) (x : Value) (hx : tmps.getD u undef = x) :
    (results fn tmps).run P w = .ok (.tuple #[.agg cs, x]) w := by
  have hp' : tmps[p]?.getD undef = .pointer (some ⟨g, 0, none⟩) := by simpa using hp
  have hx' : tmps[u]?.getD undef = x := by simpa using hx
  simp [results, h, hp', hx', asAddr, run_loadVar_row w g t ty cs fr d hg hu hd hi]
end Go.Proofs.Ytajdopmhdagehaa
