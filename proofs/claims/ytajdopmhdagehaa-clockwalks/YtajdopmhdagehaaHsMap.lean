/- The map of a heap: from tickets to rows. -/
import Derived.Test.YtajdopmhdagehaaHsSwap
set_option linter.unusedVariables false
set_option linter.unusedSimpArgs false
namespace Go.Proofs.Ytajdopmhdagehaa.Ds
open Go.Proofs.Ytajdopmhdagehaa
open Go Go.RowKit Go.MapKept

theorem Er.isKey {l : List MapEntry} {L : List (Rw Pr)} (h : Er l L) : ∀ e ∈ l, IsKey (.int .i64) e.key := fun e he => by
  obtain ⟨r, _, hk, _⟩ := h.keys e he
  rw [hk]
  exact rfl
theorem Er.find {l : List MapEntry} {L : List (Rw Pr)} (h : Er l L) (a : Int) :
    ((∀ r ∈ L, (r.t : Int) ≠ a) ∧ Instr.findNow (.int .i64) (.int .i64 a) l 0 = some none ∧ ∀ x ∈ l, x.key ≠ .int .i64 a) ∨
    (∃ r ∈ L, (r.t : Int) = a ∧ ∃ j e, Instr.findNow (.int .i64) (.int .i64 a) l 0 = some (some (j, ptr r.b)) ∧ l[j]? = some e ∧ e.key = .int .i64 a) := by
  rcases findNow_spec (d := .int .i64) (k := .int .i64 a) rfl l 0 h.isKey with ⟨h1, h2⟩ | ⟨j, e, h1, h2, h3⟩
  · left
    refine ⟨fun r hr he => ?_, h1, h2⟩
    obtain ⟨e, hel, hk⟩ := h.all r hr
    exact h2 e hel (by rw [hk, he])
  · right
    obtain ⟨r, hr, q1, q2⟩ := h.keys e (List.mem_of_getElem? h2)
    rw [h3] at q1
    have hka : a = (r.t : Int) := by simpa using q1
    exact ⟨r, hr, hka.symm, j, e, by rw [h1, q2, Nat.zero_add], h2, h3⟩
theorem run_zero_prow (w : World) : (zeroValue 146).run Try.prog w = .ok (.pointer none) w := by kernel_rfl
theorem run_look_ok {w : World} {m : Nat} {L : List (Rw Pr)} (h : HMr w m L) (a : Int) :
    ((∀ r ∈ L, (r.t : Int) ≠ a) ∧ (Instr.lookup 141 (.map (some m)) (.int .i64 a) true).run Try.prog w = .ok (.tuple #[.pointer none, .bool false]) w) ∨
    (∃ r ∈ L, (r.t : Int) = a ∧ (Instr.lookup 141 (.map (some m)) (.int .i64 a) true).run Try.prog w = .ok (.tuple #[ptr r.b, .bool true]) w) := by
  obtain ⟨es, c, hb, hE, _⟩ := h
  have hc : (Instr.checkKey es.isEmpty 10000 3 (.int .i64 a)).run Try.prog w = .ok () w := MapKept.run_checkKey (k := .int .i64 a) under_int rfl _ 9999
  rcases hE.find a with ⟨h1, h3, h4⟩ | ⟨r, hr, h1, j, e, h3, h4, h5⟩
  · left
    refine ⟨h1, ?_⟩
    have hz := run_zero_prow w
    simp [Instr.lookup, run_underlying Try.underlying141, MapKept.run_getObj_map hb, hc, MapKept.run_findKey under_int h3, hz, Result.andThen]
  · right
    refine ⟨r, hr, h1, ?_⟩
    simp [Instr.lookup, run_underlying Try.underlying141, MapKept.run_getObj_map hb, hc, MapKept.run_findKey under_int h3, Result.andThen]
theorem Er.push {l : List MapEntry} {L : List (Rw Pr)} (h : Er l L) {r : Rw Pr} (hn : ∀ x ∈ l, x.key ≠ .int .i64 (r.t : Int)) (c : Nat) : Er (l ++ [⟨.int .i64 (r.t : Int), ptr r.b, c⟩]) (L ++ [r]) := by
  refine ⟨fun e he => ?_, ?_, fun x hx => ?_⟩
  · rcases List.mem_append.1 he with he | he
    · obtain ⟨k', q1, q2, q3⟩ := h.keys e he
      exact ⟨k', List.mem_append.2 (.inl q1), q2, q3⟩
    · rw [List.mem_singleton] at he
      subst he
      exact ⟨r, List.mem_append.2 (.inr (List.mem_singleton.2 rfl)), rfl, rfl⟩
  · rw [List.map_append, List.nodup_append]
    refine ⟨h.apart, by simp, fun a ha b hb => ?_⟩
    obtain ⟨x, hx, rfl⟩ := List.mem_map.1 ha
    simp only [List.map_cons, List.map_nil, List.mem_singleton] at hb
    subst hb
    exact hn x hx
  · rcases List.mem_append.1 hx with hx | hx
    · obtain ⟨z, hz, hzk⟩ := h.all x hx
      exact ⟨z, List.mem_append.2 (Or.inl hz), hzk⟩
    · rw [List.mem_singleton] at hx
      subst hx
      exact ⟨_, List.mem_append.2 (Or.inr (List.mem_singleton.2 rfl)), rfl⟩
/-- A new row stored under its ticket. -/
theorem run_store_new {w : World} {m : Nat} {L : List (Rw Pr)} (h : HMr w m L) {r : Rw Pr} (hn : ∀ x ∈ L, x.t ≠ r.t) : ∃ w', (Instr.mapUpdate 141 (.map (some m)) (.int .i64 (r.t : Int)) (ptr r.b)).run Try.prog w = .ok () w' ∧ HMr w' m (L ++ [r]) ∧ w.grownBy w' (some m) ∧ w'.heap.size = w.heap.size := by
  obtain ⟨es, c, hb, hE, hcl⟩ := h
  have hc : (Instr.checkKey false 10000 3 (.int .i64 (r.t : Int))).run Try.prog w = .ok () w := MapKept.run_checkKey (k := .int .i64 (r.t : Int)) under_int rfl _ 9999
  rcases hE.find (r.t : Int) with ⟨h1, h3, h4⟩ | ⟨x, hx, h1, _⟩
  · refine ⟨{ w with heap := w.heap.setIfInBounds m (.map (es.push ⟨.int .i64 (r.t : Int), ptr r.b, c⟩) (c + 1)) }, ?_, ⟨_, _, (heap_set hb).1, ?_, ?_⟩, grown_mset hb _, by simp⟩
    · simp [Instr.mapUpdate, run_underlying Try.underlying141, MapKept.run_getObj_map hb, hc, MapKept.run_findKey under_int h3, MapKept.run_setObj_map _ hb, Result.andThen]
    · rw [Array.toList_push]
      exact hE.push h4 c
    · intro e he
      rw [Array.toList_push] at he
      rcases List.mem_append.1 he with q | q
      · have := hcl e q; omega
      · rw [List.mem_singleton.1 q]; simp
  · exact absurd (by omega) (hn x hx)
theorem Er.erase {l1 l2 : List MapEntry} {e : MapEntry} {L L' : List (Rw Pr)} {r : Rw Pr} (h : Er (l1 ++ e :: l2) L) (hk : e.key = .int .i64 (r.t : Int)) (hp : L.Perm (r :: L')) (hone : (L.map (·.t)).Nodup) : Er (l1 ++ l2) L' := by
  have hap := h.apart
  rw [List.map_append, List.map_cons, List.nodup_append] at hap
  obtain ⟨a1, a2, a3⟩ := hap
  rw [List.nodup_cons] at a2
  have hin : ∀ x, x ∈ l1 ++ l2 → x ∈ l1 ++ e :: l2 := fun x hx => by
    rcases List.mem_append.1 hx with q | q
    · exact List.mem_append.2 (Or.inl q)
    · exact List.mem_append.2 (Or.inr (List.mem_cons_of_mem _ q))
  have hnk : ∀ x ∈ l1 ++ l2, x.key ≠ .int .i64 (r.t : Int) := fun x hx hxk => by
    rcases List.mem_append.1 hx with q | q
    · exact a3 x.key (List.mem_map.2 ⟨x, q, rfl⟩) e.key (by simp) (by rw [hxk, hk])
    · exact a2.1 (List.mem_map.2 ⟨x, q, by rw [hxk, hk]⟩)
  have hone' := (hp.map (·.t)).nodup_iff.1 hone
  rw [List.map_cons, List.nodup_cons] at hone'
  refine ⟨fun x hx => ?_, ?_, fun x hxy => ?_⟩
  · obtain ⟨k', q1, q2, q3⟩ := h.keys x (hin x hx)
    rcases List.mem_cons.1 (hp.subset q1) with q | q
    · exact absurd (by rw [q2, q]) (hnk x hx)
    · exact ⟨k', q, q2, q3⟩
  · rw [List.map_append, List.nodup_append]
    exact ⟨a1, a2.2, fun x hx y hy => a3 x hx y (List.mem_cons_of_mem _ hy)⟩
  · obtain ⟨z, hz, hzk⟩ := h.all x (hp.symm.subset (List.mem_cons_of_mem _ hxy))
    refine ⟨z, ?_, hzk⟩
    rcases List.mem_append.1 hz with q | q
    · exact List.mem_append.2 (Or.inl q)
    · rcases List.mem_cons.1 q with q | q
      · subst q
        rw [hk] at hzk
        have : r.t = x.t := by simp at hzk; omega
        exact absurd (List.mem_map.2 ⟨x, hxy, this.symm⟩) hone'.1
      · exact List.mem_append.2 (Or.inr q)
/-- A row taken out by its ticket. -/
theorem run_delete {w : World} {m : Nat} {L L' : List (Rw Pr)} {r : Rw Pr} (h : HMr w m L) (hp : L.Perm (r :: L')) (hone : (L.map (·.t)).Nodup) : ∃ w', (∀ ty, (Builtin.delete_ #[141, 3] ty #[.map (some m), .int .i64 (r.t : Int)]).run Try.prog w = .ok (.tuple #[]) w') ∧ HMr w' m L' ∧ w.grownBy w' (some m) ∧ w'.heap.size = w.heap.size := by
  obtain ⟨es, c, hb, hE, hc⟩ := h
  have hck : (Instr.checkKey es.isEmpty 10000 3 (.int .i64 (r.t : Int))).run Try.prog w = .ok () w := MapKept.run_checkKey (k := .int .i64 (r.t : Int)) under_int rfl _ 9999
  rcases hE.find (r.t : Int) with ⟨h1, h3, h4⟩ | ⟨x, hx, h1, j, e, h3, h4, h5⟩
  · exact absurd rfl (h1 r (hp.symm.subset (List.mem_cons_self ..)))
  · obtain ⟨s1, s2⟩ := split_at h4
    refine ⟨{ w with heap := w.heap.setIfInBounds m (.map (es.eraseIdxIfInBounds j) c) }, fun ty => ?_, ⟨_, _, (heap_set hb).1, ?_⟩, grown_mset hb _, by simp⟩
    · simp [Builtin.delete_, run_underlying Try.underlying141, MapKept.run_getObj_map hb, hck, MapKept.run_findKey under_int h3, MapKept.run_setObj_map _ hb, Result.andThen]
    · have e2 : (es.eraseIdxIfInBounds j).toList = es.toList.eraseIdx j := by
        obtain ⟨l⟩ := es
        simp
      rw [e2, s2]
      rw [s1] at hE hc
      refine ⟨hE.erase h5 hp hone, fun x hx => hc x ?_⟩
      rcases List.mem_append.1 hx with q | q
      · exact List.mem_append.2 (Or.inl q)
      · exact List.mem_append.2 (Or.inr (List.mem_cons_of_mem _ q))
theorem run_delete_nil (w : World) (t : Int) (ty : TypeId) : (Builtin.delete_ #[141, 3] ty #[.map none, .int .i64 t]).run Try.prog w = .ok (.tuple #[]) w := by
  have hck : (Instr.checkKey true 10000 3 (.int .i64 t)).run Try.prog w = .ok () w := MapKept.run_checkKey (k := .int .i64 t) under_int rfl _ 9999
  simp [Builtin.delete_, run_underlying Try.underlying141, hck, Result.andThen]
theorem HMr.made (w : World) : HMr (w.alloc (.map #[] 0)) w.heap.size [] :=
  ⟨#[], 0, (MapKept.heap_alloc w _).1, ⟨(fun e he => by cases he), by simp, (fun r h => by cases h)⟩, fun e he => by cases he⟩
end Go.Proofs.Ytajdopmhdagehaa.Ds
