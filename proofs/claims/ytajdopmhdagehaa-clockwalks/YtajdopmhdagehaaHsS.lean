/- A heap in memory: its rows, its map, what may turn around it. -/
import Derived.Test.YtajdopmhdagehaaHdB
import Derived.MapKept
set_option linter.unusedVariables false
set_option linter.unusedSimpArgs false
namespace Go.Proofs.Ytajdopmhdagehaa.Ds
open Go.Proofs.Ytajdopmhdagehaa
open Go Go.RowKit Go.MapKept

abbrev Pr : Type := Int × Int × ByteArray
/-- The cells of a row at its place. -/
def rwA (r : Rw Pr) (i : Nat) : Array Value := #[.int .i64 (r.t : Int), .int .i64 r.x.1, .int .i64 r.x.2.1, .string r.x.2.2, .int .i64 (i : Int)]
def HRow (w : World) (r : Rw Pr) (i : Nat) : Prop := w.heap[r.b]? = some (.cells (rwA r i) 148 (0, 0))
/-- The entries l lead from tickets to the rows L. -/
structure Er (l : List MapEntry) (L : List (Rw Pr)) : Prop where
  keys : ∀ e ∈ l, ∃ r ∈ L, e.key = .int .i64 (r.t : Int) ∧ e.val = ptr r.b
  apart : (l.map (·.key)).Nodup
  all : ∀ r ∈ L, ∃ e ∈ l, e.key = .int .i64 (r.t : Int)
def HMr (w : World) (m : Nat) (L : List (Rw Pr)) : Prop := ∃ es clock, w.heap[m]? = some (.map es clock) ∧ Er es.toList L ∧ ∀ e ∈ es.toList, e.born < clock
theorem Er.perm {l : List MapEntry} {L L' : List (Rw Pr)} (h : Er l L) (hp : L'.Perm L) : Er l L' :=
  ⟨fun e he => by obtain ⟨r, hr, q⟩ := h.keys e he; exact ⟨r, hp.symm.subset hr, q⟩, h.apart, fun r hr => h.all r (hp.subset hr)⟩
theorem HMr.perm {w : World} {m : Nat} {L L' : List (Rw Pr)} (h : HMr w m L) (hp : L'.Perm L) : HMr w m L' := by
  obtain ⟨es, c, h1, h2, h3⟩ := h
  exact ⟨es, c, h1, h2.perm hp, h3⟩
theorem HMr.of {w w' : World} {m : Nat} {L : List (Rw Pr)} (h : HMr w m L) (hb : w'.heap[m]? = w.heap[m]?) : HMr w' m L := by
  obtain ⟨es, c, h1, h2⟩ := h
  exact ⟨es, c, hb.trans h1, h2⟩
theorem HMr.lt {w : World} {m : Nat} {L : List (Rw Pr)} (h : HMr w m L) : m < w.heap.size := by
  obtain ⟨es, c, h1, _⟩ := h
  exact (Array.getElem?_eq_some_iff.1 h1).1

/-- What stands in the cell of the next ticket: a copy has no map, and begins at 0. -/
def nxc (mp : Option Nat) (nx : Nat) : Int := match mp with
  | none => 0
  | some _ => (nx : Int)
/-- At g stands a heap of the rows L, by the order F; lo: the place of its loose row; all of it lies in S. -/
structure HHp (w : World) (g : Nat) (sf F : Value) (mp : Option Nat) (L : List (Rw Pr)) (nx : Nat) (lo : Int) (v : Value) (S : Nat → Prop) : Prop where
  top : w.heap[g]? = some (.cells #[sf, F, v, .map mp, .int .i64 (nxc mp nx), .int .i64 lo] 144 (0, 0))
  row : w.ownsRow 0 146 1 v L.length (L.map fun r => ptr r.b)
  each : ∀ i r, L[i]? = some r → HRow w r i
  held : ∀ m, mp = some m → HMr w m L ∧ S m
  tk : ∀ r ∈ L, r.t < nx
  one : (L.map (·.t)).Nodup
  sg : S g
  sr : ∀ b, v.ownBlock = some b → S b
  se : ∀ r ∈ L, S r.b
  lt : ∀ k, S k → k < w.heap.size
  few : nx < 1152921504606846976
  len : L.length ≤ nx
section
variable {w : World} {g : Nat} {sf F : Value} {mp : Option Nat} {L : List (Rw Pr)} {nx : Nat} {lo : Int} {v : Value} {S : Nat → Prop}
theorem HHp.of (h : HHp w g sf F mp L nx lo v S) {w' : World} (hk : ∀ k, S k → w'.heap[k]? = w.heap[k]?) : HHp w' g sf F mp L nx lo v S where
  top := (hk g h.sg).trans h.top
  row := by
    refine ⟨h.row.1, ?_⟩
    rcases h.row.2 with q | ⟨b, cap, cur, hv, hb, hw, q⟩
    · exact .inl q
    · exact .inr ⟨b, cap, cur, hv, hb, (hk b (h.sr b (by rw [hv]; rfl))).trans hw, q⟩
  each := fun i r hr => (hk r.b (h.se r (List.mem_of_getElem? hr))).trans (h.each i r hr)
  held := fun m hm => ⟨(h.held m hm).1.of (hk m (h.held m hm).2), (h.held m hm).2⟩
  tk := h.tk
  one := h.one
  sg := h.sg
  sr := h.sr
  se := h.se
  lt := fun k hS => by
    have h1 := h.lt k hS
    have h2 := hk k hS
    rw [Array.getElem?_eq_getElem h1] at h2
    exact (Array.getElem?_eq_some_iff.1 h2).1
  few := h.few
  len := h.len
theorem HHp.ex (h : HHp w g sf F mp L nx lo v S) {U : Nat → Prop} {w' : World} (he : Ex U w w') (hd : ∀ k, S k → ¬ U k) : HHp w' g sf F mp L nx lo v S := h.of fun k hk => he.block k (h.lt k hk) (hd k hk)
theorem HHp.drewN (h : HHp w g sf F mp L nx lo v S) (q : Nat) : HHp (w.drewN q) g sf F mp L nx lo v S := h.of fun _ _ => rfl
/-- The slice of a heap that holds something. -/
theorem HHp.slc (h : HHp w g sf F mp L nx lo v S) (hl : 0 < L.length) : ∃ b cap cur, v = .slice (some ⟨b, 0, none⟩) L.length cap ∧ w.heap[b]? = some (.cells cur 146 (0, 0)) ∧ L.length ≤ cap ∧ cap ≤ maxLen ∧ cur.size = cap ∧ S b ∧
    (∀ i, i < L.length → cur[i]? = some (ptr (rat L i).b)) := by
  rcases h.row.2 with ⟨_, q⟩ | ⟨b, cap, cur, hv, hb, hw, h1, h2, h3, h4⟩
  · omega
  · refine ⟨b, cap, cur, hv, hw, h1, h2, by simpa using h3, h.sr b (by rw [hv]; rfl), fun i hi => ?_⟩
    have e : (cur.toList.take (L.length * 1))[i]? = (L.map fun r => ptr r.b)[i]? := by rw [h4]
    rw [List.getElem?_take, if_pos (by omega), List.getElem?_map, rat_some hi] at e
    simpa using e
theorem HHp.cg (h : HHp w g sf F mp L nx lo v S) : w.cell? ⟨g, 0, none⟩ = some sf ∧ w.cell? ⟨g, 1, none⟩ = some F ∧ w.cell? ⟨g, 2, none⟩ = some v ∧ w.cell? ⟨g, 3, none⟩ = some (.map mp) ∧ w.cell? ⟨g, 4, none⟩ = some (.int .i64 (nxc mp nx)) ∧ w.cell? ⟨g, 5, none⟩ = some (.int .i64 lo) := by
  refine ⟨?_, ?_, ?_, ?_, ?_, ?_⟩ <;> (rw [cell_of_row _ _ _ _ _ _ h.top]; rfl)
theorem HRow.c {w : World} {r : Rw Pr} {i : Nat} (h : HRow w r i) : w.cell? ⟨r.b, 0, none⟩ = some (.int .i64 (r.t : Int)) ∧ (w.cell? ⟨r.b, 1, none⟩ = some (.int .i64 r.x.1) ∧ w.cell? ⟨r.b, 2, none⟩ = some (.int .i64 r.x.2.1) ∧ w.cell? ⟨r.b, 3, none⟩ = some (.string r.x.2.2)) ∧ w.cell? ⟨r.b, 4, none⟩ = some (.int .i64 (i : Int)) := by
  refine ⟨?_, ⟨?_, ?_, ?_⟩, ?_⟩ <;> (rw [cell_of_row _ _ _ _ _ _ h]; rfl)
theorem HHp.tne (h : HHp w g sf F mp L nx lo v S) {i j : Nat} (hi : i < L.length) (hj : j < L.length) (hne : i ≠ j) : (rat L i).t ≠ (rat L j).t := fun e => by
  have h1 : (L.map (·.t))[i]? = some (rat L i).t := by rw [List.getElem?_map, rat_some hi]; rfl
  have h2 : (L.map (·.t))[j]? = some (rat L j).t := by rw [List.getElem?_map, rat_some hj]; rfl
  rw [e, ← h2] at h1
  exact hne ((List.getElem?_inj (by simpa using hi) h.one).1 h1)
/-- Rows lie in blocks apart. -/
theorem HHp.bne (h : HHp w g sf F mp L nx lo v S) {i j : Nat} (hi : i < L.length) (hj : j < L.length) (hne : i ≠ j) : (rat L i).b ≠ (rat L j).b := fun e => by
  have h1 := h.each i _ (rat_some hi)
  have h2 := h.each j _ (rat_some hj)
  unfold HRow at h1 h2
  rw [e, h2] at h1
  simp only [Option.some.injEq, Obj.cells.injEq, rwA] at h1
  have h3 := h1.1
  simp at h3
  omega
theorem HHp.kinds (h : HHp w g sf F mp L nx lo v S) : (∀ r ∈ L, r.b ≠ g) ∧ (∀ b, v.ownBlock = some b → b ≠ g ∧ ∀ r ∈ L, r.b ≠ b) ∧ (∀ m, mp = some m → m ≠ g ∧ (∀ r ∈ L, r.b ≠ m) ∧ v.ownBlock ≠ some m) := by
  have hr : ∀ r ∈ L, ∃ i, HRow w r i := fun r hr => by
    obtain ⟨i, hi⟩ := List.mem_iff_getElem?.1 hr
    exact ⟨i, h.each i r hi⟩
  have hv : ∀ b, v.ownBlock = some b → ∃ cur, w.heap[b]? = some (.cells cur 146 (0, 0)) := fun b hb => by
    rcases h.row.2 with ⟨q, _⟩ | ⟨b', cap, cur, q, _, hw, _⟩
    · rw [q] at hb; cases hb
    · rw [q] at hb; cases hb; exact ⟨cur, hw⟩
  refine ⟨fun r hr' e => ?_, fun b hb => ⟨fun e => ?_, fun r hr' e => ?_⟩, fun m hm => ⟨fun e => ?_, fun r hr' e => ?_, fun e => ?_⟩⟩
  · obtain ⟨i, hi⟩ := hr r hr'
    unfold HRow at hi
    rw [e, h.top] at hi
    simp only [Option.some.injEq, Obj.cells.injEq] at hi
    exact absurd hi.2.1 (by decide)
  · obtain ⟨cur, hw⟩ := hv b hb
    rw [e, h.top] at hw
    simp only [Option.some.injEq, Obj.cells.injEq] at hw
    exact absurd hw.2.1 (by decide)
  · obtain ⟨cur, hw⟩ := hv b hb
    obtain ⟨i, hi⟩ := hr r hr'
    unfold HRow at hi
    rw [e, hw] at hi
    simp only [Option.some.injEq, Obj.cells.injEq] at hi
    exact absurd hi.2.1 (by decide)
  · obtain ⟨es, c, q, _⟩ := (h.held m hm).1
    rw [e, h.top] at q
    cases q
  · obtain ⟨es, c, q, _⟩ := (h.held m hm).1
    obtain ⟨i, hi⟩ := hr r hr'
    unfold HRow at hi
    rw [e, q] at hi
    cases hi
  · obtain ⟨es, c, q, _⟩ := (h.held m hm).1
    obtain ⟨cur, hw⟩ := hv m e
    rw [q] at hw
    cases hw
end
/-- What is asked of an order: F, called on things of Dm, answers r as Ls says; it leaves all but U as it is, and J stands on U alone. -/
structure Orc (fid : Nat) (fr : Array Value) (J : World → Prop) (U : Nat → Prop) (Dm : Pr → Prop) (Ls : Pr → Pr → Bool → Prop) : Prop where
  ask : ∀ w a b, J w → Dm a → Dm b → Calls Try.prog fid (#[.agg #[.int .i64 a.1, .int .i64 a.2.1, .string a.2.2], .agg #[.int .i64 b.1, .int .i64 b.2.1, .string b.2.2]] ++ fr) w fun e w' => ∃ r, e = .returned (.bool r) ∧ Ls a b r ∧ J w' ∧ Ex U w w'
  stay : ∀ w w', J w → (∀ k, U k → w'.heap[k]? = w.heap[k]?) → J w'
  lt : ∀ w, J w → ∀ k, U k → k < w.heap.size
  ent : ∀ args w, (callFunc fid args).run Try.prog w = .ok (.enter fid args) w
theorem Orc.drewN {fid : Nat} {fr : Array Value} {J : World → Prop} {U : Nat → Prop} {Dm : Pr → Prop} {Ls : Pr → Pr → Bool → Prop} (O : Orc fid fr J U Dm Ls) {w : World} (h : J w) (q : Nat) : J (w.drewN q) := O.stay w _ h fun _ _ => rfl
end Go.Proofs.Ytajdopmhdagehaa.Ds
