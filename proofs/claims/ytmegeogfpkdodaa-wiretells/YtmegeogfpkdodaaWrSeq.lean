/- wire: the fields of a request, one behind the other. -/
import Derived.Test.YtmegeogfpkdodaaWrFl
import Derived.Shelf.Abstract
set_option linter.unusedVariables false
set_option linter.unusedSimpArgs false
namespace Go.Proofs.Ytmegeogfpkdodaa
open Go Go.RowKit

abbrev Fst := QS → QS × Bool
/-- The states that the fields lead through. -/
def sq (fs : List Fst) (s : QS) : Nat → QS
  | 0 => s
  | k + 1 => ((fs.getD k (fun s => (s, true))) (sq fs s k)).1
def tkS (n : Nat) (fs : List Fst) (s : QS) : Int × Bool := tkE n fs.length (fun k => (sq fs s k).f) (fun k => (sq fs s k).l) (fun k => ((fs.getD k (fun s => (s, true))) (sq fs s k)).2)
/-- The function keeps to the step. -/
structure Runs (fid : Nat) (φ : Fst) : Prop where
  run : ∀ w R g n s, QR w R g n s → s.l.length ≤ 140737488355328 → Calls Try.prog fid #[.pointer (some ⟨R, 0, none⟩)] w fun e w' => e = .returned (.bool (φ s).2) ∧ QR w' R g n (φ s).1 ∧ Ex (RG R g) w w'
  less : ∀ s, (φ s).1.l.length ≤ s.l.length
  ent : ∀ args w, (callFunc fid args).run Try.prog w = .ok (.enter fid args) w
theorem leftAt_le (l : List Int) (n : Int) : (leftAt l n).length ≤ l.length := by unfold leftAt; split <;> simp
theorem BR.below {w w' : World} {R g : Nat} {T : TypeId} {cs : List Value} {f : Bool} {l : List Int} (h : BR w R g T cs f l) (hb : Below w.heap.size w w') : BR w' R g T cs f l :=
  ⟨(hb.block R (Array.getElem?_eq_some_iff.1 h.blk).1).trans h.blk, h.rd.grow hb⟩
theorem QR.below {w w' : World} {R g n : Nat} {s : QS} (h : QR w R g n s) (hb : Below w.heap.size w w') : QR w' R g n s := ⟨h.1.below hb, h.2⟩
theorem BR.lt {w : World} {R g : Nat} {T : TypeId} {cs : List Value} {f : Bool} {l : List Int} (h : BR w R g T cs f l) : R < w.heap.size ∧ g < w.heap.size := by
  obtain ⟨v, hb, _⟩ := h.rd
  exact ⟨(Array.getElem?_eq_some_iff.1 h.blk).1, (Array.getElem?_eq_some_iff.1 hb).1⟩
theorem runs_kind : Runs 62 kindF := ⟨fun w R g n s h _ => kind_any w R g n s h, fun s => leftAt_le _ _, fun args w => enters_of Try.func62 (by kernel_rfl) rfl args w⟩
theorem runs_index : Runs 78 indexF := ⟨fun w R g n s h hb => index_any w R g n s h hb, fun s => leftAt_le _ _, fun args w => enters_of Try.func78 (by kernel_rfl) rfl args w⟩
theorem runs_number : Runs 79 numberF := ⟨fun w R g n s h _ => number_any w R g n s h, fun s => leftAt_le _ _, fun args w => enters_of Try.func79 (by kernel_rfl) rfl args w⟩
theorem runs_who : Runs 80 whoF := ⟨fun w R g n s h _ => who_any w R g n s h, fun s => leftAt_le _ _, fun args w => enters_of Try.func80 (by kernel_rfl) rfl args w⟩
theorem runs_until : Runs 81 untilF := ⟨fun w R g n s h _ => until_any w R g n s h, fun s => leftAt_le _ _, fun args w => enters_of Try.func81 (by kernel_rfl) rfl args w⟩
theorem runs_at : Runs 82 atF := ⟨fun w R g n s h _ => atQ_any w R g n s h, fun s => leftAt_le _ _, fun args w => enters_of Try.func82 (by kernel_rfl) rfl args w⟩
theorem runs_length : Runs 83 lengthF := ⟨fun w R g n s h _ => length_any w R g n s h, fun s => leftAt_le _ _, fun args w => enters_of Try.func83 (by kernel_rfl) rfl args w⟩
theorem runs_bytes : Runs 84 bytesF := ⟨fun w R g n s h _ => bytesQ_any w R g n s h, fun s => leftAt_le _ _, fun args w => enters_of Try.func84 (by kernel_rfl) rfl args w⟩
/-- The steps behind the kind. -/
def flS : Int → List Fst
  | 1 => [indexF]
  | 2 => [indexF, numberF, whoF, untilF, bytesF]
  | 3 => [indexF, numberF, atF, lengthF]
  | 4 => [indexF, whoF, untilF]
  | 5 => [indexF, whoF]
  | _ => []
def AllRuns (ids : List Nat) (fs : List Fst) : Prop := ids.length = fs.length ∧ ∀ k (h1 : k < ids.length) (h2 : k < fs.length), Runs ids[k] fs[k]
theorem AllRuns.nil : AllRuns [] [] := ⟨rfl, fun k h => by simp at h⟩
theorem AllRuns.cons {i : Nat} {φ : Fst} {ids : List Nat} {fs : List Fst} (h : Runs i φ) (t : AllRuns ids fs) : AllRuns (i :: ids) (φ :: fs) :=
  ⟨by simp [t.1], fun k h1 h2 => by
    cases k with
    | zero => exact h
    | succ k => exact t.2 k (by simpa using h1) (by simpa using h2)⟩
theorem fl_runs (k : Int) (hk : kdB k = true) : AllRuns (flF k) (flS k) ∧ (flF k).length ≤ 5 := by
  have : k = 1 ∨ k = 2 ∨ k = 3 ∨ k = 4 ∨ k = 5 := by simp [kdB] at hk; omega
  rcases this with rfl | rfl | rfl | rfl | rfl
  · exact ⟨.cons runs_index .nil, by decide⟩
  · exact ⟨.cons runs_index (.cons runs_number (.cons runs_who (.cons runs_until (.cons runs_bytes .nil)))), by decide⟩
  · exact ⟨.cons runs_index (.cons runs_number (.cons runs_at (.cons runs_length .nil))), by decide⟩
  · exact ⟨.cons runs_index (.cons runs_who (.cons runs_until .nil)), by decide⟩
  · exact ⟨.cons runs_index (.cons runs_who .nil), by decide⟩
theorem sq_le {ids : List Nat} {fs : List Fst} (h : AllRuns ids fs) (s : QS) : ∀ k, (sq fs s k).l.length ≤ s.l.length
  | 0 => Nat.le_refl _
  | k + 1 => by
    unfold sq
    by_cases hk : k < fs.length
    · have e : fs.getD k (fun s => (s, true)) = fs[k] := by simp [List.getD, List.getElem?_eq_getElem hk]
      rw [e]
      exact Nat.le_trans ((h.2 k (by rw [h.1]; exact hk) hk).less _) (sq_le h s k)
    · have e : fs.getD k (fun s => (s, true)) = (fun s => (s, true)) := by simp [List.getD, List.getElem?_eq_none (show fs.length ≤ k by omega)]
      rw [e]
      exact sq_le h s k
theorem fds_of {ids : List Nat} {fs : List Fst} (h : AllRuns ids fs) (R g n : Nat) (s : QS) (hs : s.l.length ≤ 140737488355328) :
    Fds R g fs.length (fun k => ids.getD k 0) (RG R g) (fun k u => QR u R g n (sq fs s k)) (fun k => (sq fs s k).f) (fun k => (sq fs s k).l) (fun k => ((fs.getD k (fun s => (s, true))) (sq fs s k)).2) where
  rd := fun k u hu => hu.1.rd
  stay := fun k u u' hu hb => hu.below hb
  ask := fun k hk u hu => by
    have e1 : ids.getD k 0 = ids[k]'(by rw [h.1]; exact hk) := by simp [List.getD, List.getElem?_eq_getElem (show k < ids.length by rw [h.1]; exact hk)]
    have e2 : fs.getD k (fun s => (s, true)) = fs[k] := by simp [List.getD, List.getElem?_eq_getElem hk]
    simp only [sq]
    rw [e1, e2]
    exact (h.2 k (by rw [h.1]; exact hk) hk).run u R g n _ hu (Nat.le_trans (sq_le h s k) hs)
  ent := fun k hk args w => by
    have e1 : ids.getD k 0 = ids[k]'(by rw [h.1]; exact hk) := by simp [List.getD, List.getElem?_eq_getElem (show k < ids.length by rw [h.1]; exact hk)]
    simp only [e1]
    exact (h.2 k (by rw [h.1]; exact hk) hk).ent args w
/-- take over fields of a request that lie in a row. -/
theorem takeQ_any {ids : List Nat} {fs : List Fst} (h : AllRuns ids fs) (hm : ids.length ≤ 1000) (w : World) (R g n B : Nat) (s : QS) (hQ : QR w R g n s) (hn : n ≤ 140737488355328) (hs : s.l.length ≤ n) (v : Value) (ho : w.ownsRow B TF 1 v ids.length (ids.map (cl R))) (hBR : R < B) (hBg : g < B) :
    Calls Try.prog 61 #[.agg #[.pointer (some ⟨g, 0, none⟩), .int .i64 (n : Int)], v] w fun e w' => e = .returned (.tuple #[.int .i64 (tkS n fs s).1, .bool (tkS n fs s).2]) ∧ QR w' R g n (sq fs s fs.length) ∧ Ex (RG R g) w w' := by
  have hl := hQ.1.lt
  have D := fds_of h R g n s (Nat.le_trans hs hn)
  rcases ho.2 with ⟨rfl, e0⟩ | ⟨b, cap, cur, rfl, hb, hblk, hnc, hm2, hsz, htk⟩
  · have e1 : fs.length = 0 := by rw [← h.1]; exact e0
    have := takeS_any D w hQ hn (fun k => Nat.le_trans (sq_le h s k) hs) (by rintro (e | e) <;> omega) 0 0 0 none (fun q => by omega) (by omega) (by unfold maxLen; omega) (by omega) (fun q => by omega) (fun k hk => by omega)
    unfold tkS
    rw [e1] at this ⊢
    exact this
  · have := takeS_any D w hQ hn (fun k => Nat.le_trans (sq_le h s k) hs) (by rintro (e | e) <;> omega) b 0 cap (some ⟨b, 0, none⟩) (fun _ => rfl) (by rw [← h.1]; exact hnc) hm2 (by rw [← h.1]; exact hm) (fun _ => by rintro (e | e) <;> omega) (fun k hk => by
      have hk' : k < ids.length := by rw [h.1]; exact hk
      rw [Nat.zero_add, cell_of_row _ _ _ _ _ _ hblk]
      have e : cur[k]? = (cur.toList.take (ids.length * 1))[k]? := by rw [List.getElem?_take, if_pos (by omega), Array.getElem?_toList]
      rw [e, htk]
      simp [cl, List.getD, List.getElem?_eq_getElem hk'])
    rw [h.1]
    exact this
end Go.Proofs.Ytmegeogfpkdodaa
