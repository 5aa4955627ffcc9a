/- The document's heap (strongroomref17): a list of items. Push. -/
import Derived.Test.YtcgkcappfjhikaaHpOrd
import Derived.Test.YtcgkcappfjhikaaHpSorted
import Derived.Deep.AppendLies
import Derived.Deep.RegionLaw
set_option linter.unusedVariables false
set_option linter.unusedSimpArgs false
namespace Go.Proofs.Ytcgkcappfjhikaa
open Go Go.RowKit

def flat (its : List (Nat × Int)) : List Value := its.flatMap fun p => [.int .i64 (p.1 : Int), .int .i64 p.2]
theorem flat_append (a b : List (Nat × Int)) : flat (a ++ b) = flat a ++ flat b := by simp [flat]
theorem flat_one (p : Nat × Int) : flat [p] = [.int .i64 (p.1 : Int), .int .i64 p.2] := by simp [flat]
theorem flat_cons (p : Nat × Int) (l : List (Nat × Int)) : flat (p :: l) = .int .i64 (p.1 : Int) :: .int .i64 p.2 :: flat l := by simp [flat]
theorem flat_length (a : List (Nat × Int)) : (flat a).length = a.length * 2 := by
  induction a with
  | nil => rfl
  | cons p l ih => rw [flat_cons]; simp only [List.length_cons, ih]; omega
def itA (its : List (Nat × Int)) (i : Nat) : Nat × Int := its.getD i (0, 0)
theorem itA_some {its : List (Nat × Int)} {i : Nat} (h : i < its.length) : its[i]? = some (itA its i) := by simp [itA, h]
theorem flat_get (its : List (Nat × Int)) : ∀ i, i < its.length → (flat its)[2 * i]? = some (.int .i64 ((itA its i).1 : Int)) ∧ (flat its)[2 * i + 1]? = some (.int .i64 (itA its i).2) := by
  induction its with
  | nil => intro i h; simp at h
  | cons p l ih =>
    intro i h
    rw [flat_cons]
    cases i with
    | zero => exact ⟨rfl, rfl⟩
    | succ i =>
      have := ih i (by simpa using h)
      have e : itA (p :: l) (i + 1) = itA l i := rfl
      rw [e]
      exact this
/-- At g stands the document's heap of the items its. -/
structure HRf (w : World) (g : Nat) (d : Int) (its : List (Nat × Int)) (nx : Nat) (v : Value) : Prop where
  top : w.heap[g]? = some (.cells #[.int .i64 d, v, .int .i64 (nx : Int)] 33 (0, 0))
  row : w.ownsRow 0 85 2 v its.length (flat its)
/-- Where it lies. -/
def rS (g : Nat) (v : Value) (k : Nat) : Prop := k = g ∨ v.ownBlock = some k
theorem info_item : (Try.prog.info? 85).map (fun i => (i.zero, i.size, i.bytes)) = some (some (.agg #[.int .i64 0, .int .i64 0]), 2, 16) := by kernel_rfl
section
variable {w : World} {g : Nat} {d : Int} {its : List (Nat × Int)} {nx : Nat} {v : Value}
theorem HRf.lt (h : HRf w g d its nx v) : g < w.heap.size := (Array.getElem?_eq_some_iff.1 h.top).1
theorem HRf.c (h : HRf w g d its nx v) : w.cell? ⟨g, 0, none⟩ = some (.int .i64 d) ∧ w.cell? ⟨g, 1, none⟩ = some v ∧ w.cell? ⟨g, 2, none⟩ = some (.int .i64 (nx : Int)) := by
  refine ⟨?_, ?_, ?_⟩ <;> (rw [cell_of_row _ _ _ _ _ _ h.top]; rfl)
theorem own2_slc {w : World} {B n : Nat} {e : TypeId} {v : Value} {xs : List Value} (h : w.ownsRow B e 2 v n xs) : ∃ p c, v = .slice p n c := by
  rcases h.2 with ⟨rfl, rfl⟩ | ⟨g, cap, cur, rfl, _⟩
  · exact ⟨none, 0, rfl⟩
  · exact ⟨_, _, rfl⟩
theorem HRf.vg (h : HRf w g d its nx v) : v.ownBlock ≠ some g := fun e => by
  rcases h.row.2 with ⟨q, _⟩ | ⟨b, cap, cur, q, _, hw, _⟩
  · rw [q] at e; cases e
  · rw [q] at e
    cases e
    rw [h.top] at hw
    simp only [Option.some.injEq, Obj.cells.injEq] at hw
    exact absurd hw.2.1 (by decide)
theorem HRf.of (h : HRf w g d its nx v) {w' : World} (hk : ∀ k, rS g v k → w'.heap[k]? = w.heap[k]?) : HRf w' g d its nx v := by
  refine ⟨(hk g (.inl rfl)).trans h.top, h.row.1, ?_⟩
  rcases h.row.2 with q | ⟨b, cap, cur, hv, hb, hw, q⟩
  · exact .inl q
  · exact .inr ⟨b, cap, cur, hv, hb, (hk b (.inr (by rw [hv]; rfl))).trans hw, q⟩
theorem HRf.vlt (h : HRf w g d its nx v) : ∀ k, rS g v k → k < w.heap.size := fun k hk => by
  rcases hk with q | q
  · rw [q]; exact h.lt
  · rcases h.row.2 with ⟨z, _⟩ | ⟨b, cap, cur, z, _, hw, _⟩
    · rw [z] at q; cases q
    · rw [z] at q; cases q; exact (Array.getElem?_eq_some_iff.1 hw).1
/-- The cells of an item. -/
theorem HRf.item (h : HRf w g d its nx v) {i : Nat} (hi : i < its.length) : ∃ b cap, v = .slice (some ⟨b, 0, none⟩) its.length cap ∧ its.length ≤ cap ∧ w.cell? ⟨b, i * 2, none⟩ = some (.int .i64 ((itA its i).1 : Int)) ∧ w.cell? ⟨b, i * 2 + 1, none⟩ = some (.int .i64 (itA its i).2) := by
  rcases h.row.2 with ⟨_, q⟩ | ⟨b, cap, cur, hv, _, hw, q1, q2, q3, q4⟩
  · omega
  · obtain ⟨f1, f2⟩ := flat_get its i hi
    rw [← q4, List.getElem?_take, if_pos (by omega)] at f1 f2
    refine ⟨b, cap, hv, q1, ?_, ?_⟩
    · rw [cell_of_row _ _ _ _ _ _ hw, Nat.mul_comm]; simpa using f1
    · rw [cell_of_row _ _ _ _ _ _ hw, Nat.mul_comm]; simpa using f2
set_option maxRecDepth 100000 in
set_option maxHeartbeats 4000000 in
theorem rpush_ok (h : HRf w g d its nx v) (x : Int) (hnx : nx < 1152921504606846976) (hroom : (its.length + 1) * 16 ≤ 140737488355328) :
    Calls Try.prog 36 #[ptr g, .int .i64 x] w fun e w' => e = .returned (.int .i64 (nx : Int)) ∧ ∃ v', HRf w' g d (its ++ [(nx, x)]) (nx + 1) v' ∧ Ex (rS g v) w w' ∧ (v'.ownBlock = v.ownBlock ∨ ∃ b, v'.ownBlock = some b ∧ w.heap.size ≤ b) := by
  obtain ⟨i0, hi, hz0, hz1, hz2⟩ := info_parts info_item
  obtain ⟨c0, c1, c2⟩ := h.c
  have hvg := h.vg
  have H := hid h
  have f1 := free_of h.top 1
  have hgl := h.lt
  obtain ⟨pv, cv, hv⟩ := own2_slc h.row
  subst hv
  obtain ⟨n, hn⟩ : ∃ n, Hid (its.length = n) := ⟨_, rfl⟩
  have HROW := hid h.row
  rw [hn.out] at c1 HROW hvg hroom
  -- behind the append, whatever it makes
  have FC : Hid (∀ (w3 : World), ((w.alloc (.cells #[.int .i64 (nx : Int), .int .i64 x] 85)).drew).grownBy w3 (Value.slice pv n cv).ownBlock → w3.heap[g]? = w.heap[g]?) := hid fun w3 hg => (hg.block g (by show g < (w.heap.push _).size; rw [Array.size_push]; omega) (Ne.symm hvg)).trans (heap_alloc_old w _ hgl)
  clear h
  go_enter Try.func36, Try.ntmps36
  go_wp2_with fail
  go_region_law
    ((refine step_append_lies _ (by rfl) _ _ _ (by rfl) 0 85 i0 _ 2 16 Try.underlying31 hi hz0 hz1 hz2 rfl (by omega) (.slice pv n cv) n _ (by rfl) ((HROW.out.alloc _).drew)
                ⟨w.heap.size, 0, none⟩ 1 1 [.int .i64 (nx : Int), .int .i64 x] (by rfl) (by rfl) (World.news_of_block (cs := #[.int .i64 (nx : Int), .int .i64 x]) (t := 85) (fr := (0, 0)) (heap_alloc_new w _)) (by simp [Value.oneCell'])
                (by omega) (by unfold maxLen; omega) (by omega) (by simp) (w.heap.size + 1) (by simp) ?_; intro gO cO w3 hown3 hgrow hat hlt3; have k1 := FC.out w3 hgrow; have k2 : w3.cell? ⟨g, 1, none⟩ = some (.slice pv n cv) := (World.cell?_of_block (a := ⟨g, 1, none⟩) k1).trans c1; have k3 : w3.frozen? ⟨g, 1, none⟩ = false := (World.frozen?_of_block (a := ⟨g, 1, none⟩) k1).trans f1))
  all_goals
    have hw4 : (w3.setCell ⟨g, 1, none⟩ (.slice (some ⟨gO, 0, none⟩) (n + 1) cO)).heap[g]? = some (.cells #[.int .i64 d, .slice (some ⟨gO, 0, none⟩) (n + 1) cO, .int .i64 (nx : Int)] 33 (0, 0)) := by
      have := bk_set (k1.trans H.out.top) 1 (.slice (some ⟨gO, 0, none⟩) (n + 1) cO)
      simpa using this
    have e2 : (w3.setCell ⟨g, 1, none⟩ (.slice (some ⟨gO, 0, none⟩) (n + 1) cO)).cell? ⟨g, 2, none⟩ = some (.int .i64 (nx : Int)) := by rw [cell_of_row _ _ _ _ _ _ hw4]; rfl
    have f2 := free_of hw4 2
    have HW4 := hid hw4
    have HOWN3 := hid hown3
    have HGROW := hid hgrow
    have HAT := hid hat
    have HLT3 := hid hlt3
    have K1 := hid k1
    have hsz3 : w.heap.size + 1 ≤ w3.heap.size := by
      have := hgrow.size
      simp at this
      omega
    clear hw4 hown3 hgrow hat hlt3 k1 k2 k3
    go_wp2_with fail
    go_ret
    refine ⟨by first | rfl | (congr 2; omega) | (simp; done), .slice (some ⟨gO, 0, none⟩) (n + 1) cO, ⟨?_, ?_⟩, ?_, ?_⟩
    · have := bk_set HW4.out 2 (.int .i64 ((nx : Int) + 1))
      simpa using this
    · rw [flat_append, flat_one]
      have hne : gO ≠ g := fun e => by
        rcases HOWN3.out.2 with ⟨q, _⟩ | ⟨b, cap, cur, q, _, hw, _⟩
        · cases q
        · simp only [Value.slice.injEq, Option.some.injEq, Addr.mk.injEq, and_true] at q
          rw [← q.1, e, K1.out, H.out.top] at hw
          simp only [Option.some.injEq, Obj.cells.injEq] at hw
          exact absurd hw.2.1 (by decide)
      refine ⟨by simp [flat_length]; omega, ?_⟩
      rcases HOWN3.out.2 with ⟨q, _⟩ | ⟨b, cap, cur, q, qb, hw, qr⟩
      · cases q
      · simp only [Value.slice.injEq, Option.some.injEq, Addr.mk.injEq, and_true, true_and] at q
        obtain ⟨rfl, rfl⟩ := q
        refine .inr ⟨gO, cO, cur, by simp [hn.out], qb, ?_, ?_⟩
        · rw [bk_other (Ne.symm hne), bk_other (Ne.symm hne)]
          exact hw
        · simpa [hn.out] using qr
    · have E1 : Ex (rS g (.slice pv its.length cv)) w w3 := ((Ex.refl _ w).alloc _).drew.trans (Ex.grown (S := rS g (.slice pv its.length cv)) HGROW.out (fun k hk => .inr (by rw [hn.out]; exact hk))) (fun _ q => .inl q)
      exact (E1.setCell (.inl rfl) _).setCell (.inl rfl) _
    · rcases HAT.out with q | q
      · exact .inl (by rw [hn.out, q]; rfl)
      · exact .inr ⟨gO, rfl, by omega⟩
end
end Go.Proofs.Ytcgkcappfjhikaa
