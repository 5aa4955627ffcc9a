/- What holds while two readers and the document's are asked in turns: the pairs, the lists that were told, the lists that must be told. No program is walked here but an append. -/
import Derived.Test.YtiodfpaifkcmoaaDigests
namespace Go.Proofs.Ytiodfpaifkcmoaa
open Go.RowKit

/-- A reader and the document's, alike. -/
def Pair (w : World) (g h : Nat) (f : Bool) (l m : List Int) : Prop :=
  RD w g true f l ∧ RR w h f m ∧ (f = false → m = l) ∧ (f = true → l = []) ∧ l.length ≤ 140737488351232 ∧ m.length ≤ 140737488351232

theorem Pair.same {w : World} {g h : Nat} {f : Bool} {l m : List Int} (p : Pair w g h f l m) (n : Int) : rtk f m n = taken l n ∧ (f || !okTake m n) = (f || !okTake l n) := by
  obtain ⟨_, _, h3, h4, _⟩ := p
  cases f with
  | false => rw [h3 rfl]; simp [rtk]
  | true => rw [h4 rfl]; simp [rtk, taken]

/-- Behind one call of each. -/
theorem Pair.step {w w' : World} {g h : Nat} {f : Bool} {l m : List Int} (p : Pair w g h f l m) (n : Int) (h1 : RD w' g true (f || !okTake l n) (leftAt l n)) (h2 : RR w' h (f || !okTake m n) (rlf f m n)) : ∃ f' l' m', Pair w' g h f' l' m' := by
  have hs := (p.same n).2
  obtain ⟨_, _, h3, h4, h5, h6⟩ := p
  rw [hs] at h2
  refine ⟨_, _, _, h1, h2, fun hf => ?_, fun hf => ?_, ?_, ?_⟩
  · have hff : f = false := by cases f <;> simp_all
    have hok : okTake l n = true := by cases hh : okTake l n <;> simp_all
    subst hff
    rw [h3 rfl]
    simp [rlf, leftAt, hok]
  · cases f with
    | true => rw [h4 rfl]; unfold leftAt; split <;> simp
    | false =>
      have hok : okTake l n = false := by cases hh : okTake l n <;> simp_all
      simp [leftAt, hok]
  · unfold leftAt
    split
    · rw [List.length_drop]; omega
    · simp
  · unfold rlf
    split
    · exact h6
    · rw [List.length_drop]; omega

/-- A pair stays as it is where a row is written that is none of its own, and no row of bytes. -/
theorem Pair.away {w w' : World} {g h : Nat} {f : Bool} {l m : List Int} {row : Option Nat} (p : Pair w g h f l m) (hg : w.grownBy w' row) (hr : ∀ k, row = some k → k ≠ g ∧ k ≠ h ∧ ∃ e, BT w k e ∧ e ≠ 5) : Pair w' g h f l m :=
  ⟨p.1.away hg (fun k e => ⟨(hr k e).1, (hr k e).2.2⟩), p.2.1.other hg (fun k e => ⟨(hr k e).2.1, (hr k e).2.2⟩), p.2.2⟩

/-- At block G lies the variable that holds the lists ls, in rows gl of their own. -/
def Told (B : Nat) (w : World) (G : Nat) (gv : Value) (gl : List Value) (ls : List (List Int)) : Prop :=
  B ≤ G ∧ w.heap[G]? = some (.cells #[gv] 29 (0, 0)) ∧ w.ownsRow B 23 1 gv ls.length gl ∧ Apt B w gl ls ∧ ∀ j, (ls.getD j []).length ≤ 140737488351232 ∧ ∀ x ∈ ls.getD j [], 0 ≤ x ∧ x < 256

theorem Apt.away {B : Nat} {w w' : World} {us : List Value} {ls : List (List Int)} {row : Option Nat} (h : Apt B w us ls) (hg : w.grownBy w' row) (hr : ∀ k, row = Option.some k → ∃ e, BT w k e ∧ e ≠ 5) : Apt B w' us ls := by
  refine ⟨h.1, fun k hk => (h.2.1 k hk).kept hg ?_, h.2.2⟩
  cases hrow : row with
  | none => cases (us.getD k undef).ownBlock <;> simp
  | some q =>
    obtain ⟨e, ⟨cur, fz, hh⟩, hne⟩ := hr q hrow
    exact .inr (own_block_ne (h.2.1 k hk) hh (Ne.symm hne))

theorem Told.away {B : Nat} {w w' : World} {G : Nat} {gv : Value} {gl : List Value} {ls : List (List Int)} {row : Option Nat} (h : Told B w G gv gl ls) (hg : w.grownBy w' row) (hr : ∀ k, row = some k → k ≠ G ∧ gv.ownBlock ≠ some k ∧ ∃ e, BT w k e ∧ e ≠ 5) : Told B w' G gv gl ls := by
  obtain ⟨h0, h1, h2, h3, h4⟩ := h
  refine ⟨h0, ?_, h2.kept hg ?_, h3.away hg (fun k e => (hr k e).2.2), h4⟩
  · rw [hg.block G (Array.getElem?_eq_some_iff.1 h1).1 (fun e => (hr G e.symm).1 rfl)]
    exact h1
  · cases hrow : row with
    | none => cases gv.ownBlock <;> simp
    | some q => exact .inr ((hr q hrow).2.1)

theorem Told.row {B : Nat} {w : World} {G : Nat} {gv : Value} {gl : List Value} {ls : List (List Int)} (h : Told B w G gv gl ls) (k : Nat) (e : TypeId) (hb : BT w k e) (h1 : e ≠ 23) : gv.ownBlock ≠ some k := by
  obtain ⟨cur, fz, hh⟩ := hb
  exact own_block_ne h.2.2.1 hh (Ne.symm h1)

/-- append of one slice onto a row of slices of the call's own: what there is behind it, and where. -/
theorem run_append_slice (w : World) (base : Nat) (ty : TypeId) (v : Value) (n : Nat) (xs : List Value) (hown : w.ownsRow base 23 1 v n xs) (a : Addr) (c : Nat) (x : Value) (hx : w.cell? a = some x) (hx1 : x.oneCell' = true) (hn : (n + 1) * 24 ≤ 140737488355328) (hbase : base ≤ w.heap.size) :
    ∃ v' w', (Builtin.append_ #[29, 29] ty #[v, .slice (some a) 1 c]).run Try.prog w = .ok v' w' ∧ w'.ownsRow base 23 1 v' (n + 1) (xs ++ [x]) ∧ w.grownBy w' v.ownBlock ∧
      (v'.ownBlock = v.ownBlock ∨ v'.ownBlock = some w.heap.size) := by
  obtain ⟨i0, hi, hz0, hz1, hz2⟩ := info_parts info_bytes
  have hnews : ∀ j u, [x][j]? = some u → w.cell? (a.add j) = some u := by
    intro j u hj
    match j, hj with
    | 0, hj => simp at hj; subst hj; simpa [Addr.add] using hx
  have h1 : ∀ u ∈ [x], u.oneCell' = true := by intro u hu; simp at hu; subst hu; exact hx1
  obtain ⟨v', w', hr, h2, h3, _⟩ := run_append_own (P := Try.prog) w base 29 ty 23 i0 (.slice none 0 0) 1 24 Try.underlying29 hi hz0 hz1 hz2 rfl (by decide) v n xs hown a 1 c [x] rfl hnews h1 (by unfold maxLen; omega) hn hbase
  refine ⟨v', w', hr, h2, h3, ?_⟩
  rcases hown.2 with ⟨rfl, rfl⟩ | ⟨g, cap, cur, rfl, hbg, hg, hnc, hcm, hcs, htake⟩
  · have hr2 := run_append_nil (P := Try.prog) w 29 ty 23 i0 (.slice none 0 0) Try.underlying29 hi hz0 a 1 c [x] (by rw [hz1]; rfl) hnews (by omega) (by omega) (by rw [hz2]; omega)
    rw [hr] at hr2
    simp only [Result.ok.injEq] at hr2
    obtain ⟨rfl, rfl⟩ := hr2
    exact .inr rfl
  · by_cases hroom : n + 1 ≤ cap
    · obtain ⟨w2, hr2, _⟩ := run_append_fits (P := Try.prog) w base 29 ty 23 i0 1 Try.underlying29 hi hz1 g n cap xs hown a 1 c [x] rfl hnews h1 hroom
      rw [hr] at hr2
      simp only [Result.ok.injEq] at hr2
      obtain ⟨rfl, rfl⟩ := hr2
      exact .inl rfl
    · have hr2 := run_append_grow (P := Try.prog) w 29 ty 23 i0 (.slice none 0 0) Try.underlying29 hi hz0 ⟨g, 0, none⟩ n cap xs (by rw [hz1]; exact hown.1) (hown.cells (g := g) rfl) a 1 c [x] (by rw [hz1]; rfl) hnews (by omega) (by omega) (growslice_fits (by omega) (by rw [hz2]; exact hn))
      rw [hr] at hr2
      simp only [Result.ok.injEq] at hr2
      obtain ⟨rfl, rfl⟩ := hr2
      exact .inr rfl

theorem wpList_append_slice {w : World} {ops : Array Oper} {rest : List Oper} {o : Oper} {a : Act} {Q : Exit → Act → World → Prop} (hgd : o.guard = none) (s x : Operand)
    (ho : o.op = .call { callee := .builtin .append, args := #[s, x], argTypes := #[29, 29] })
    (base : Nat) (v : Value) (n : Nat) (xs : List Value) (hs : a.eval s = v) (hown : w.ownsRow base 23 1 v n xs)
    (ad : Addr) (c : Nat) (y : Value) (hx : a.eval x = .slice (some ad) 1 c) (hy : w.cell? ad = some y) (hy1 : y.oneCell' = true) (hn : (n + 1) * 24 ≤ 140737488355328) (hbase : base ≤ w.heap.size)
    (h : ∀ v' w', w'.ownsRow base 23 1 v' (n + 1) (xs ++ [y]) → w.grownBy w' v.ownBlock → (v'.ownBlock = v.ownBlock ∨ v'.ownBlock = some w.heap.size) → wpList Try.prog ops Q rest (a.put o.dst v') w') : wpList Try.prog ops Q (o :: rest) a w := by
  refine wpList_plain hgd fun K hK => ?_
  obtain ⟨v', w', hr, h2, h3, h4⟩ := run_append_slice w base o.type v n xs hown ad c y hy hy1 hn hbase
  unfold Oper.wp execOp
  simp only [ho, resolve, invoke, builtin, Sem.run_bind, Sem.run_pure, Result.andThen_ok, List.map_toArray, List.map_cons, List.map_nil, hs, hx, hr]
  exact hK _ _ (h v' w' h2 h3 h4)

theorem Apt.snoc {B : Nat} {w : World} {us : List Value} {ls : List (List Int)} (h : Apt B w us ls) {u : Value} {l : List Int} (hu : w.ownsRow B 5 1 u l.length (l.map (Value.int .u8))) (hd : ∀ j, j < us.length → u.ownBlock = none ∨ u.ownBlock ≠ (us.getD j undef).ownBlock) : Apt B w (us ++ [u]) (ls ++ [l]) := by
  obtain ⟨h1, h2, h3⟩ := h
  have gd : ∀ j, j < us.length + 1 → (us ++ [u]).getD j undef = if j < us.length then us.getD j undef else u := by
    intro j hj
    rw [getD_app]
    split
    · rfl
    · have : j - us.length = 0 := by omega
      rw [this]; rfl
  refine ⟨by simp [h1], fun k hk => ?_, fun i j hi hj hij => ?_⟩
  · rw [List.length_append, List.length_singleton] at hk
    rw [gd k hk, getD_app]
    by_cases hk2 : k < us.length
    · rw [if_pos hk2, if_pos (by omega)]
      exact h2 k hk2
    · have e : k - ls.length = 0 := by omega
      rw [if_neg hk2, if_neg (by omega), e]
      exact hu
  · rw [List.length_append, List.length_singleton] at hi hj
    rw [gd i hi, gd j hj]
    by_cases hi2 : i < us.length
    · by_cases hj2 : j < us.length
      · rw [if_pos hi2, if_pos hj2]; exact h3 i j hi2 hj2 hij
      · rw [if_pos hi2, if_neg hj2]
        rcases hd i hi2 with h | h
        · rw [h]
          cases (us.getD i undef).ownBlock <;> simp
        · exact .inr (Ne.symm h)
    · have hj2 : j < us.length := by omega
      rw [if_neg hi2, if_pos hj2]
      exact hd j hj2
end Go.Proofs.Ytiodfpaifkcmoaa
