/- wire: the fields of a reply, one behind the other. -/
import Derived.Test.YtmegeogfpkdodaaWrP
import Derived.Test.YtmegeogfpkdodaaWrRep
set_option linter.unusedVariables false
set_option linter.unusedSimpArgs false
namespace Go.Proofs.Ytmegeogfpkdodaa
open Go Go.RowKit

abbrev Pst := PS → PS × Bool
def sqP (fs : List Pst) (s : PS) : Nat → PS
  | 0 => s
  | k + 1 => ((fs.getD k (fun s => (s, true))) (sqP fs s k)).1
def tkP (n : Nat) (fs : List Pst) (s : PS) : Int × Bool := tkE n fs.length (fun k => (sqP fs s k).f) (fun k => (sqP fs s k).l) (fun k => ((fs.getD k (fun s => (s, true))) (sqP fs s k)).2)
structure RunsP (fid : Nat) (φ : Pst) : Prop where
  run : ∀ B w R g n s, PR B w R g n s → s.ns.length ≤ 1000 → B ≤ w.heap.size + 1 → Calls Try.prog fid #[.pointer (some ⟨R, 0, none⟩)] w fun e w' => e = .returned (.bool (φ s).2) ∧ PR B w' R g n (φ s).1 ∧ Ex (SB R g B) w w'
  less : ∀ s, (φ s).1.l.length ≤ s.l.length
  more : ∀ s, (φ s).1.ns.length ≤ s.ns.length + 1
  ent : ∀ args w, (callFunc fid args).run Try.prog w = .ok (.enter fid args) w
theorem RG_SB {R g B : Nat} {w w' : World} (h : Ex (RG R g) w w') : Ex (SB R g B) w w' := h.mono fun k e => e.elim .inl fun e => .inr (.inl e)
theorem PR.below {B : Nat} {w w' : World} {R g n : Nat} {s : PS} (h : PR B w R g n s) (hb : Below w.heap.size w w') : PR B w' R g n s := by
  obtain ⟨vn, h1, h2, h3⟩ := h
  exact ⟨vn, h1.below hb, own_ex h2 (Ex.of_below (S := fun _ => False) hb) (fun _ _ _ e => e), h3⟩
theorem PR.rebase {B B' : Nat} {w : World} {R g n : Nat} {s : PS} (h : PR B w R g n s) (h0 : s.ns = []) (hR : R < B') (hg : g < B') : PR B' w R g n s := by
  obtain ⟨vn, h1, h2, h3, _, _, h4⟩ := h
  refine ⟨vn, h1, ?_, h3, hR, hg, h4⟩
  rw [h4 h0, h0]
  exact ⟨rfl, .inl ⟨rfl, rfl⟩⟩
theorem PR.lt {B : Nat} {w : World} {R g n : Nat} {s : PS} (h : PR B w R g n s) : R < w.heap.size ∧ g < w.heap.size := by
  obtain ⟨vn, h1, _⟩ := h
  exact h1.lt
theorem PR.rd {B : Nat} {w : World} {R g n : Nat} {s : PS} (h : PR B w R g n s) : RD w g true s.f s.l := by
  obtain ⟨vn, h1, _⟩ := h
  exact h1.rd
theorem PR.ok {B : Nat} {w : World} {R g n : Nat} {s : PS} (h : PR B w R g n s) : OkP s := by
  obtain ⟨vn, _, _, h3, _⟩ := h
  exact h3
theorem runsP_kind : RunsP 68 kindP := ⟨fun B w R g n s h _ _ => (kindP_any B w R g n s h).mono fun e w' ⟨q1, q2, q3⟩ => ⟨q1, q2, RG_SB q3⟩, fun s => leftAt_le _ _, fun s => Nat.le_succ _, fun args w => enters_of Try.func68 (by kernel_rfl) rfl args w⟩
theorem runsP_numbers : RunsP 87 numbersP := ⟨fun B w R g n s h _ _ => (numbersP_any B w R g n s h).mono fun e w' ⟨q1, q2, q3⟩ => ⟨q1, q2, RG_SB q3⟩, fun s => leftAt_le _ _, fun s => Nat.le_succ _, fun args w => enters_of Try.func87 (by kernel_rfl) rfl args w⟩
theorem runsP_bytes : RunsP 88 bytesP := ⟨fun B w R g n s h _ _ => (bytesP_any B w R g n s h).mono fun e w' ⟨q1, q2, q3⟩ => ⟨q1, q2, RG_SB q3⟩, fun s => leftAt_le _ _, fun s => Nat.le_succ _, fun args w => enters_of Try.func88 (by kernel_rfl) rfl args w⟩
theorem runsP_number : RunsP 72 numberP := ⟨fun B w R g n s h h1 h2 => numberP_any B w R g n s h h1 h2, fun s => leftAt_le _ _, fun s => by simp [numberP], fun args w => enters_of Try.func72 (by kernel_rfl) rfl args w⟩
def AllP (ids : List Nat) (fs : List Pst) : Prop := ids.length = fs.length ∧ ∀ k (h1 : k < ids.length) (h2 : k < fs.length), RunsP ids[k] fs[k]
theorem AllP.nil : AllP [] [] := ⟨rfl, fun k h => by simp at h⟩
theorem AllP.cons {i : Nat} {φ : Pst} {ids : List Nat} {fs : List Pst} (h : RunsP i φ) (t : AllP ids fs) : AllP (i :: ids) (φ :: fs) :=
  ⟨by simp [t.1], fun k h1 h2 => by
    cases k with
    | zero => exact h
    | succ k => exact t.2 k (by simpa using h1) (by simpa using h2)⟩
theorem AllP.rep {i : Nat} {φ : Pst} (h : RunsP i φ) (m : Nat) : AllP (List.replicate m i) (List.replicate m φ) :=
  ⟨by simp, fun k h1 h2 => by simpa using h⟩
theorem sqP_le {ids : List Nat} {fs : List Pst} (h : AllP ids fs) (s : PS) : ∀ k, (sqP fs s k).l.length ≤ s.l.length ∧ (sqP fs s k).ns.length ≤ s.ns.length + k
  | 0 => ⟨Nat.le_refl _, Nat.le_refl _⟩
  | k + 1 => by
    unfold sqP
    have ih := sqP_le h s k
    by_cases hk : k < fs.length
    · have e : fs.getD k (fun s => (s, true)) = fs[k] := by simp [List.getD, List.getElem?_eq_getElem hk]
      rw [e]
      have r := h.2 k (by rw [h.1]; exact hk) hk
      exact ⟨Nat.le_trans (r.less _) ih.1, by have := r.more (sqP fs s k); omega⟩
    · have e : fs.getD k (fun s => (s, true)) = (fun s => (s, true)) := by simp [List.getD, List.getElem?_eq_none (show fs.length ≤ k by omega)]
      rw [e]
      exact ⟨ih.1, by simp only; omega⟩
theorem fdsP_of {ids : List Nat} {fs : List Pst} (h : AllP ids fs) (B R g n : Nat) (s : PS) (hs : s.ns.length + fs.length ≤ 1000) :
    Fds R g fs.length (fun k => ids.getD k 0) (SB R g B) (fun k u => PR B u R g n (sqP fs s k) ∧ B ≤ u.heap.size + 1) (fun k => (sqP fs s k).f) (fun k => (sqP fs s k).l) (fun k => ((fs.getD k (fun s => (s, true))) (sqP fs s k)).2) where
  rd := fun k u hu => hu.1.rd
  stay := fun k u u' hu hb => ⟨hu.1.below hb, by have := hb.size; omega⟩
  ask := fun k hk u hu => by
    have e1 : ids.getD k 0 = ids[k]'(by rw [h.1]; exact hk) := by simp [List.getD, List.getElem?_eq_getElem (show k < ids.length by rw [h.1]; exact hk)]
    have e2 : fs.getD k (fun s => (s, true)) = fs[k] := by simp [List.getD, List.getElem?_eq_getElem hk]
    simp only [sqP]
    rw [e1, e2]
    refine ((h.2 k (by rw [h.1]; exact hk) hk).run B u R g n _ hu.1 (by have := (sqP_le h s k).2; omega) hu.2).mono ?_
    rintro e w' ⟨q1, q2, q3⟩
    exact ⟨q1, ⟨q2, by have := q3.size; omega⟩, q3⟩
  ent := fun k hk args w => by
    have e1 : ids.getD k 0 = ids[k]'(by rw [h.1]; exact hk) := by simp [List.getD, List.getElem?_eq_getElem (show k < ids.length by rw [h.1]; exact hk)]
    simp only [e1]
    exact (h.2 k (by rw [h.1]; exact hk) hk).ent args w
/-- take over fields of a reply that lie in a row. -/
theorem takeP_any {ids : List Nat} {fs : List Pst} (h : AllP ids fs) (hm : ids.length ≤ 500) (w : World) (B0 R g n : Nat) (s : PS) (hQ : PR B0 w R g n s) (h0 : s.ns = []) (hn : n ≤ 140737488355328) (hs : s.l.length ≤ n) (p : Option Addr) (c b : Nat) (hp : 0 < ids.length → p = some ⟨b, 0, none⟩) (hnc : ids.length ≤ c) (hcm : c ≤ maxLen) (hb : 0 < ids.length → b < w.heap.size ∧ b ≠ R ∧ b ≠ g) (hc : ∀ k (hk : k < ids.length), w.cell? ⟨b, 0 + k, none⟩ = some (cl R ids[k])) :
    Calls Try.prog 61 #[.agg #[.pointer (some ⟨g, 0, none⟩), .int .i64 (n : Int)], .slice p ids.length c] w fun e w' => e = .returned (.tuple #[.int .i64 (tkP n fs s).1, .bool (tkP n fs s).2]) ∧ PR (w.heap.size + 1) w' R g n (sqP fs s fs.length) ∧ Ex (RG R g) w w' := by
  have hl := hQ.lt
  have hPR := hQ.rebase h0 (B' := w.heap.size + 1) (by omega) (by omega)
  have D := fdsP_of h (w.heap.size + 1) R g n s (by rw [h0, ← h.1]; simp; omega)
  have := takeS_any D w ⟨hPR, Nat.le_refl _⟩ hn (fun k => Nat.le_trans (sqP_le h s k).1 hs) (by rintro (e | e | e) <;> omega) b 0 c p (by rw [← h.1]; exact hp) (by rw [← h.1]; exact hnc) hcm (by rw [← h.1]; omega) (fun q => by
    obtain ⟨q1, q2, q3⟩ := hb (by rw [h.1]; exact q)
    rintro (e | e | e) <;> omega) (fun k hk => by
    have hk' : k < ids.length := by rw [h.1]; exact hk
    rw [hc k hk']
    simp [cl, List.getD, List.getElem?_eq_getElem hk'])
  rw [h.1]
  refine this.mono ?_
  rintro e w' ⟨q1, q2, q3⟩
  refine ⟨q1, q2.1, ⟨q3.os, q3.tape, q3.output, q3.size, fun k hk hn => q3.block k hk ?_⟩⟩
  rintro (e | e | e)
  · exact hn (.inl e)
  · exact hn (.inr e)
  · omega
/-- The fields behind the kind of a reply. -/
def flPF (k : Int) : List Nat := if k = 1 then [87] else if k = 5 then [88] else []
def flPS (k : Int) : List Pst := if k = 1 then [numbersP] else if k = 5 then [bytesP] else []
theorem flP_runs (k : Int) : AllP (flPF k) (flPS k) := by
  unfold flPF flPS
  split
  · exact .cons runsP_numbers .nil
  · split
    · exact .cons runsP_bytes .nil
    · exact .nil
theorem flP_len (k : Int) : (flPF k).length ≤ 1 := by unfold flPF; split <;> (try split) <;> simp
set_option maxRecDepth 100000 in
set_option maxHeartbeats 8000000 in
theorem fieldsP_any (w : World) (R : Nat) (k : Int) (hk : w.cell? ⟨R, 2, none⟩ = some (.int .u8 k)) :
    Calls Try.prog 69 #[.pointer (some ⟨R, 0, none⟩)] w fun e w' => ∃ p, e = .returned (.slice p (flPF k).length (flPF k).length) ∧ (0 < (flPF k).length → p = some ⟨w.heap.size, 0, none⟩ ∧ w.heap.size < w'.heap.size) ∧ (∀ j (hj : j < (flPF k).length), w'.cell? ⟨w.heap.size, 0 + j, none⟩ = some (cl R (flPF k)[j])) ∧ Below w.heap.size w w' := by
  by_cases h1 : k = 1
  · subst h1
    have e : flPF 1 = [87] := rfl
    rw [e]
    go_enter Try.func69, Try.ntmps69
    go_wp2_with fail
    go_ret
    refine ⟨_, rfl, fun _ => ⟨rfl, by simp⟩, fun j hj => ?_, (Below.refl _ w).alloc (Nat.le_refl _) _⟩
    have hj0 : j = 0 := by simpa using hj
    subst hj0
    have := heap_alloc_new w (.cells #[cl R 87] TF)
    simp only [World.cell?]
    rw [show (.cells #[Value.func (Fn.func 87) #[.pointer (some ⟨R, 0, none⟩)] #[]] TF : Obj) = .cells #[cl R 87] TF from rfl, this]
    rfl
  · by_cases h5 : k = 5
    · subst h5
      have e : flPF 5 = [88] := rfl
      rw [e]
      go_enter Try.func69, Try.ntmps69
      go_wp2_with fail
      go_ret
      refine ⟨_, rfl, fun _ => ⟨rfl, by simp⟩, fun j hj => ?_, (Below.refl _ w).alloc (Nat.le_refl _) _⟩
      have hj0 : j = 0 := by simpa using hj
      subst hj0
      have := heap_alloc_new w (.cells #[cl R 88] TF)
      simp only [World.cell?]
      rw [show (.cells #[Value.func (Fn.func 88) #[.pointer (some ⟨R, 0, none⟩)] #[]] TF : Obj) = .cells #[cl R 88] TF from rfl, this]
      rfl
    · have e : flPF k = [] := by unfold flPF; rw [if_neg h1, if_neg h5]
      rw [e]
      have b1 : (k == 1) = false := beq_eq_false_iff_ne.2 h1
      have b5 : (k == 5) = false := beq_eq_false_iff_ne.2 h5
      go_enter Try.func69, Try.ntmps69
      go_wp2_with fail
      go_ret
      exact ⟨_, rfl, fun q => absurd q (by simp), fun j hj => absurd hj (by simp), Below.refl _ _⟩
end Go.Proofs.Ytmegeogfpkdodaa
