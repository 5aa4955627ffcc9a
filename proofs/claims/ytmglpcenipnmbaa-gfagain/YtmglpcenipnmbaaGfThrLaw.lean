/- The law GfThrough: points put behind one another; one post for both sides. -/
import Derived.Test.YtmglpcenipnmbaaGfRefThr2
import Derived.Test.YtmglpcenipnmbaaGfAwake
import Derived.Laws.AppendOwnNone
set_option linter.unusedSimpArgs false
set_option linter.unusedVariables false
namespace Go.Proofs.Ytmglpcenipnmbaa
open Go Go.RowKit

/-- Points, cell by cell. -/
def ptl (n : Nat) (X Y : Nat → Nat) : List Value := (List.range (n * 2)).map fun k => .int .u8 (if k % 2 = 0 then (X (k / 2) : Int) else (Y (k / 2) : Int))
theorem ptl_length (n : Nat) (X Y : Nat → Nat) : (ptl n X Y).length = n * 2 := by simp [ptl]
theorem ptl_fst {n i : Nat} (X Y : Nat → Nat) (h : i < n) : (ptl n X Y)[i * 2]? = some (.int .u8 (X i : Int)) := by
  unfold ptl
  rw [List.getElem?_map, List.getElem?_range (by omega), Option.map_some, if_pos (by omega), show i * 2 / 2 = i by omega]
theorem ptl_snd {n i : Nat} (X Y : Nat → Nat) (h : i < n) : (ptl n X Y)[i * 2 + 1]? = some (.int .u8 (Y i : Int)) := by
  unfold ptl
  rw [List.getElem?_map, List.getElem?_range (by omega), Option.map_some, if_neg (by omega), show (i * 2 + 1) / 2 = i by omega]
theorem ptl_cell {w : World} {b off n : Nat} {X Y : Nat → Nat} (h : ∀ i, i < n → w.cell? ⟨b, off + i * 2, none⟩ = some (.int .u8 (X i : Int)) ∧ w.cell? ⟨b, off + (i * 2 + 1), none⟩ = some (.int .u8 (Y i : Int))) (j : Nat) (u : Value) (hj : (ptl n X Y)[j]? = some u) :
    w.cell? ⟨b, off + j, none⟩ = some u := by
  have hlt : j < n * 2 := by have := (List.getElem?_eq_some_iff.1 hj).1; rwa [ptl_length] at this
  rcases Nat.mod_two_eq_zero_or_one j with e | e
  · have e2 : j = j / 2 * 2 := by omega
    rw [e2] at hj ⊢
    rw [ptl_fst X Y (by omega)] at hj
    rw [(h (j / 2) (by omega)).1, hj]
  · have e2 : j = j / 2 * 2 + 1 := by omega
    rw [e2] at hj ⊢
    rw [ptl_snd X Y (by omega)] at hj
    rw [(h (j / 2) (by omega)).2, hj]
theorem info_pt2 : (Try.prog.info? 54).map (fun i => (i.zero, i.size, i.bytes)) = some (some (.agg #[.int .u8 0, .int .u8 0]), 2, 2) := by kernel_rfl
/-- append of points onto a row of the call's own. -/
theorem wpList_append_pts {w : World} {ops : Array Oper} {rest : List Oper} {o : Oper} {a : Act} {Q : Exit → Act → World → Prop} (hgd : o.guard = none) (s x : Operand)
    (ho : o.op = .call { callee := .builtin .append, args := #[s, x], argTypes := #[52, 52] })
    (base : Nat) (v : Value) (k : Nat) (xs : List Value) (hs : a.eval s = v) (hown : w.ownsRow base 54 2 v k xs)
    (u : Value) (n : Nat) (X Y : Nat → Nat) (hx : a.eval x = u) (hu : HPt w u n X Y) (hu0 : ∀ c, u = .slice none n c → c = 0) (hbytes : (k + n) * 2 ≤ 140737488355328) (hbase : base ≤ w.heap.size)
    (h : ∀ v' w', w'.ownsRow base 54 2 v' (k + n) (xs ++ ptl n X Y) → w.grownBy w' v.ownBlock → wpList Try.prog ops Q rest (a.put o.dst v') w') : wpList Try.prog ops Q (o :: rest) a w := by
  obtain ⟨i0, hi, hz0, hz1, hz2⟩ := info_parts info_pt2
  obtain ⟨p, c, rfl, hlc, hm, hX, hY, hcell⟩ := hu
  cases p with
  | none =>
    have e : n = 0 := by
      apply Classical.byContradiction
      intro hne
      obtain ⟨b, off, e, _⟩ := hcell (by omega)
      cases e
    subst e
    have := hu0 c rfl
    subst this
    refine wpList_append_own_none hgd s x 52 ho base 54 i0 2 Try.underlying52 hi v k xs hs hown hx ?_
    exact h v w (by simpa [ptl] using hown) ⟨rfl, rfl, rfl, Nat.le_refl _, fun _ _ _ => rfl⟩
  | some ad =>
    refine wpList_append_own w hgd s x 52 ho base 54 i0 (.agg #[.int .u8 0, .int .u8 0]) 2 2 Try.underlying52 hi hz0 hz1 hz2 rfl (by decide) v k xs hs hown ad n c (ptl n X Y) hx (ptl_length _ _ _) ?_ ?_ (by unfold maxLen; omega) hbytes hbase (fun v' w' h1 h2 _ => h v' w' h1 h2)
    · intro j y hj
      have hjn : j < n * 2 := by
        have := (List.getElem?_eq_some_iff.1 hj).1
        rwa [ptl_length] at this
      obtain ⟨b, off, e, hh⟩ := hcell (by omega)
      cases e
      rw [Go.WideShapes.add_plain]
      exact ptl_cell hh j y hj
    · intro u hu; obtain ⟨x, _, rfl⟩ := List.mem_map.1 hu; rfl
/-- The error's number. -/
noncomputable def thrN (n : Nat) (X : Nat → Nat) : Int := open Classical in if 256 < n then 61 else if Dist X n then 0 else 62
/-- What a row must be. -/
def ThrRow (n : Nat) (X Y : Nat → Nat) (L : List Int) : Prop :=
  (thrN n X ≠ 0 → L = []) ∧ (thrN n X = 0 → n ≤ 256 ∧ Dist X n ∧ ∃ f : Nat → Nat, (∀ i, f i < 256) ∧ L = cutL (tabL n f) ∧ ∀ i, i < n → evS f (X i) n = Y i)
theorem ThrRow.one {n : Nat} {X Y : Nat → Nat} (hX : ∀ i, X i < 256) {L L' : List Int} (h : ThrRow n X Y L) (h' : ThrRow n X Y L') : L = L' := by
  by_cases e : thrN n X = 0
  · obtain ⟨h1, h2, f, hf, rfl, hev⟩ := h.2 e
    obtain ⟨_, _, g, hg, rfl, hev'⟩ := h'.2 e
    exact congrArg cutL (through_one hX h2 hf hg fun i hi => (hev i hi).trans (hev' i hi).symm)
  · rw [h.1 e, h'.1 e]
theorem ThrRow.byt {n : Nat} {X Y : Nat → Nat} {L : List Int} (h : ThrRow n X Y L) : (∀ c ∈ L, 0 ≤ c ∧ c < 256) ∧ L.length ≤ 256 := by
  by_cases e : thrN n X = 0
  · obtain ⟨h1, h2, f, hf, rfl, hev⟩ := h.2 e
    refine ⟨cutL_byt (tabL_byt n hf), ?_⟩
    have := cutN_le (tabL n f) (tabL n f).length
    rw [cutL_length]
    rw [tabL_length] at this ⊢
    omega
  · rw [h.1 e]
    exact ⟨by simp, by simp⟩
def TrPost (w : World) (n : Nat) (X Y : Nat → Nat) (e : Ending) (w' : World) : Prop :=
  ∃ p c L, e = .returned (.tuple #[.slice p L.length c, .int .i64 (thrN n X)]) ∧ ThrRow n X Y L ∧ w'.ownsRow w.heap.size 5 1 (.slice p L.length c) L.length (L.map (Value.int .u8)) ∧ Below w.heap.size w w'
theorem ThrPost.tr {w w' : World} {n : Nat} {X Y : Nat → Nat} {e : Ending} (h : ThrPost w n X Y e w') : TrPost w n X Y e w' := by
  obtain ⟨h1, h2, h3, h4⟩ := h
  by_cases a : 256 < n
  · have e1 : thrN n X = 61 := by unfold thrN; rw [if_pos a]
    refine ⟨none, 0, [], by rw [e1]; exact h1 a, ⟨fun _ => rfl, fun h => by rw [e1] at h; cases h⟩, World.ownsRow_nil _ _ _ _, h4⟩
  · by_cases d : Dist X n
    · have e1 : thrN n X = 0 := by unfold thrN; rw [if_neg a, if_pos d]
      obtain ⟨v, f, he, hf, ho, hev⟩ := h3 (by omega) d
      obtain ⟨p, c, rfl⟩ := own_slc ho
      exact ⟨p, c, _, by rw [e1]; exact he, ⟨fun h => absurd e1 h, fun _ => ⟨by omega, d, f, hf, rfl, hev⟩⟩, ho, h4⟩
    · have e1 : thrN n X = 62 := by unfold thrN; rw [if_neg a, if_neg d]
      exact ⟨none, 0, [], by rw [e1]; exact h2 (by omega) d, ⟨fun _ => rfl, fun h => by rw [e1] at h; cases h⟩, World.ownsRow_nil _ _ _ _, h4⟩
end Go.Proofs.Ytmglpcenipnmbaa
