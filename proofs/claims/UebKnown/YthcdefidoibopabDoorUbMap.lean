/- A map from texts to functions: looking up, storing, its size. -/
import Derived.Test.YthcdefidoibopabDoorBase
import Derived.Test.YthcdefidoibopabDoorChecked
import Derived.MapKept
set_option linter.unusedVariables false
namespace Go.Proofs.YthcdefidoibopabDoor
open Go Go.RowKit Go.MapKept

abbrev Km := ByteArray → Option Value
def kset (K : Km) (s : ByteArray) (v : Value) : Km := fun x => if x = s then some v else K x
structure Em (l : List MapEntry) (K : Km) : Prop where
  keys : ∀ e ∈ l, ∃ s, e.key = .string s ∧ K s = some e.val
  all : ∀ s v, K s = some v → ∃ e ∈ l, e.key = .string s
theorem Em.isKey {l : List MapEntry} {K : Km} (h : Em l K) : ∀ e ∈ l, IsKey .string e.key := fun e he => by
  obtain ⟨s, hk, _⟩ := h.keys e he
  rw [hk]
  exact trivial
/-- Block b is a map of n entries that knows K. -/
def HMm (w : World) (b : Nat) (K : Km) (n : Nat) : Prop := ∃ es clock, w.heap[b]? = some (.map es clock) ∧ Em es.toList K ∧ es.size = n
theorem HMm.lt {w : World} {b n : Nat} {K : Km} (h : HMm w b K n) : b < w.heap.size := by
  obtain ⟨es, c, h1, _⟩ := h
  exact (Array.getElem?_eq_some_iff.1 h1).1
theorem HMm.of {w w' : World} {b n : Nat} {K : Km} (h : HMm w b K n) (hb : w'.heap[b]? = w.heap[b]?) : HMm w' b K n := by
  obtain ⟨es, c, h1, h2⟩ := h
  exact ⟨es, c, hb.trans h1, h2⟩
theorem HMm.below {w w' : World} {b n : Nat} {K : Km} (h : HMm w b K n) (hB : Below w.heap.size w w') : HMm w' b K n := h.of (hB.block b h.lt)
theorem Em.find {l : List MapEntry} {K : Km} (h : Em l K) (s : ByteArray) :
    (K s = none ∧ Instr.findNow .string (.string s) l 0 = some none) ∨ ∃ v j, K s = some v ∧ Instr.findNow .string (.string s) l 0 = some (some (j, v)) := by
  rcases findNow_spec (d := .string) (k := .string s) trivial l 0 h.isKey with ⟨h1, h2⟩ | ⟨j, e, h1, h2, h3⟩
  · left
    refine ⟨?_, h1⟩
    cases hk : K s with
    | none => rfl
    | some v =>
      obtain ⟨e, he, hke⟩ := h.all s v hk
      exact absurd hke (h2 e he)
  · right
    obtain ⟨t, q1, q2⟩ := h.keys e (List.mem_of_getElem? h2)
    rw [h3] at q1
    injection q1 with q1
    subst q1
    exact ⟨e.val, 0 + j, q2, h1⟩
theorem run_lookm {w : World} {b n : Nat} {K : Km} (h : HMm w b K n) (s : ByteArray) : (Instr.lookup 67 (.map (some b)) (.string s) true).run Tryd.prog w = .ok (.tuple #[(K s).getD .nilFunc, .bool (K s).isSome]) w := by
  obtain ⟨es, c, hb, hE, _⟩ := h
  have hc : (Instr.checkKey es.isEmpty 10000 9 (.string s)).run Tryd.prog w = .ok () w := MapKept.run_checkKey (k := .string s) Tryd.underlying9 trivial _ 9999
  have hz : (zeroValue 70).run Tryd.prog w = .ok .nilFunc w := by
    cases hi : Tryd.prog.info? 70 with
    | none => have : (Tryd.prog.info? 70).isSome = true := by kernel_rfl
              rw [hi] at this; cases this
    | some i0 =>
      have : (Tryd.prog.info? 70).map (·.zero) = some (some .nilFunc) := by kernel_rfl
      rw [hi] at this
      simp at this
      simp [zeroValue, typeInfo, hi, this]
  rcases hE.find s with ⟨h1, h3⟩ | ⟨v, j, h1, h3⟩
  · rw [h1]
    simp [Instr.lookup, run_underlying Tryd.underlying67, MapKept.run_getObj_map hb, hc, MapKept.run_findKey Tryd.underlying9 h3, Result.andThen, hz]
  · rw [h1]
    simp [Instr.lookup, run_underlying Tryd.underlying67, MapKept.run_getObj_map hb, hc, MapKept.run_findKey Tryd.underlying9 h3, Result.andThen]
theorem Em.push {l : List MapEntry} {K : Km} (h : Em l K) {s : ByteArray} {v : Value} (hn : K s = none) (c : Nat) : Em (l ++ [⟨.string s, v, c⟩]) (kset K s v) := by
  refine ⟨fun e he => ?_, fun x y hx => ?_⟩
  · rcases List.mem_append.1 he with he | he
    · obtain ⟨t, q1, q2⟩ := h.keys e he
      have hne : t ≠ s := fun q => by rw [q, hn] at q2; cases q2
      exact ⟨t, q1, by simp [kset, hne, q2]⟩
    · rw [List.mem_singleton] at he
      subst he
      exact ⟨s, rfl, by simp [kset]⟩
  · by_cases e : x = s
    · subst e
      exact ⟨_, List.mem_append.2 (Or.inr (List.mem_singleton.2 rfl)), rfl⟩
    · simp only [kset, if_neg e] at hx
      obtain ⟨z, hz, hzk⟩ := h.all x y hx
      exact ⟨z, List.mem_append.2 (Or.inl hz), hzk⟩
theorem run_insm {w : World} {b n : Nat} {K : Km} (h : HMm w b K n) {s : ByteArray} {v : Value} (hn : K s = none) : ∃ w', (Instr.mapUpdate 67 (.map (some b)) (.string s) v).run Tryd.prog w = .ok () w' ∧ HMm w' b (kset K s v) (n + 1) ∧ w.grownBy w' (some b) ∧ w'.heap.size = w.heap.size := by
  obtain ⟨es, c, hb, hE, hsz⟩ := h
  have hc : (Instr.checkKey false 10000 9 (.string s)).run Tryd.prog w = .ok () w := MapKept.run_checkKey (k := .string s) Tryd.underlying9 trivial _ 9999
  rcases hE.find s with ⟨h1, h3⟩ | ⟨v, j, h1, h3⟩
  · refine ⟨{ w with heap := w.heap.setIfInBounds b (.map (es.push ⟨.string s, v, c⟩) (c + 1)) }, ?_, ⟨_, _, (heap_set hb).1, ?_, ?_⟩, ⟨rfl, rfl, rfl, by simp, fun k hk hne => (heap_set (w := w) hb).2 k (fun e => hne (by rw [e]))⟩, by simp⟩
    · simp [Instr.mapUpdate, run_underlying Tryd.underlying67, MapKept.run_getObj_map hb, hc, MapKept.run_findKey Tryd.underlying9 h3, MapKept.run_setObj_map _ hb, Result.andThen]
    · rw [Array.toList_push]
      exact hE.push hn c
    · simp [hsz]
  · rw [hn] at h1
    cases h1
end Go.Proofs.YthcdefidoibopabDoor
