/- Small laws of rows that lists of lists want (out of ReadsState and TakeBytes). -/
import Derived.Test.YtdmdcnikhnoclabLentKit
import Derived.Test.YtdmdcnikhnoclabLists
set_option linter.unusedVariables false
set_option linter.unusedSimpArgs false
namespace Go.Proofs.Ytdmdcnikhnoclab
open Go.RowKit

theorem Apt.away {B : Nat} {w w' : World} {us : List Value} {ls : List (List Int)} {row : Option Nat} (h : Apt B w us ls) (hg : w.grownBy w' row) (hr : ∀ k, row = Option.some k → ∃ e, BT w k e ∧ e ≠ 5) : Apt B w' us ls := by
  refine ⟨h.1, fun k hk => (h.2.1 k hk).kept hg ?_, h.2.2⟩
  cases hrow : row with
  | none => cases (us.getD k undef).ownBlock <;> simp
  | some q =>
    obtain ⟨e, ⟨cur, fz, hh⟩, hne⟩ := hr q hrow
    exact .inr (own_block_ne (h.2.1 k hk) hh (Ne.symm hne))

theorem own_slice {w : World} {B n : Nat} {e : TypeId} {v : Value} {xs : List Value} (h : w.ownsRow B e 1 v n xs) : ∃ p c, v = .slice p n c := by
  rcases h.2 with ⟨rfl, rfl⟩ | ⟨g, cap, cur, rfl, _⟩
  · exact ⟨_, _, rfl⟩
  · exact ⟨_, _, rfl⟩
theorem Dr.grownBy {w w' : World} (h : Dr w w') : w.grownBy w' none := by
  have b := h.below w.heap.size
  exact ⟨b.os, b.tape, b.output, b.size, fun k hk _ => b.block k hk⟩

theorem one_cell {w : World} {g : Nat} {a : Value} {T : TypeId} (h : w.heap[g]? = some (.cells #[a] T (0, 0))) : w.cell? ⟨g, 0, none⟩ = some a ∧ w.frozen? ⟨g, 0, none⟩ = false := by
  simp [World.cell?, World.frozen?, h]
theorem third_cell {w : World} {g : Nat} {a b c : Value} {T : TypeId} (h : w.heap[g]? = some (.cells #[a, b, c] T (0, 0))) : w.cell? ⟨g, 2, none⟩ = some c := by
  simp [World.cell?, h]


theorem Apt.snoc {B : Nat} {w : World} {us : List Value} {ls : List (List Int)} (h : Apt B w us ls) {u : Value} {l : List Int} (hu : w.ownsRow B 5 1 u l.length (l.map (Value.int .u8))) (hd : ∀ j, j < us.length → u.ownBlock = none ∨ u.ownBlock ≠ (us.getD j undef).ownBlock) : Apt B w (us ++ [u]) (ls ++ [l]) := by
  obtain ⟨h1, h2, h3⟩ := h
  have gd : ∀ j, j < us.length + 1 → (us ++ [u]).getD j undef = if j < us.length then us.getD j undef else u := by
    intro j hj
    rw [getD_app]
    split
    · rfl
    · have : j - us.length = 0 := by omega
      rw [this]; rfl
  refine ⟨by simp [h1], fun k hk => ?_, fun i j hi hj hij => ?_⟩
  · rw [List.length_append, List.length_singleton] at hk
    rw [gd k hk, getD_app]
    by_cases hk2 : k < us.length
    · rw [if_pos hk2, if_pos (by omega)]
      exact h2 k hk2
    · have e : k - ls.length = 0 := by omega
      rw [if_neg hk2, if_neg (by omega), e]
      exact hu
  · rw [List.length_append, List.length_singleton] at hi hj
    rw [gd i hi, gd j hj]
    by_cases hi2 : i < us.length
    · by_cases hj2 : j < us.length
      · rw [if_pos hi2, if_pos hj2]; exact h3 i j hi2 hj2 hij
      · rw [if_pos hi2, if_neg hj2]
        rcases hd i hi2 with h | h
        · rw [h]
          cases (us.getD i undef).ownBlock <;> simp
        · exact .inr (Ne.symm h)
    · have hj2 : j < us.length := by omega
      rw [if_neg hi2, if_pos hj2]
      exact hd j hj2

theorem run_append_slice (w : World) (base : Nat) (ty : TypeId) (v : Value) (n : Nat) (xs : List Value) (hown : w.ownsRow base 26 1 v n xs) (a : Addr) (c : Nat) (x : Value) (hx : w.cell? a = some x) (hx1 : x.oneCell' = true) (hn : (n + 1) * 24 ≤ 140737488355328) (hbase : base ≤ w.heap.size) :
    ∃ v' w', (Builtin.append_ #[22, 22] ty #[v, .slice (some a) 1 c]).run Try.prog w = .ok v' w' ∧ w'.ownsRow base 26 1 v' (n + 1) (xs ++ [x]) ∧ w.grownBy w' v.ownBlock ∧
      (v'.ownBlock = v.ownBlock ∨ v'.ownBlock = some w.heap.size) := by
  obtain ⟨i0, hi, hz0, hz1, hz2⟩ := info_parts info_bytes
  have hnews : ∀ j u, [x][j]? = some u → w.cell? (a.add j) = some u := by
    intro j u hj
    match j, hj with
    | 0, hj => simp at hj; subst hj; simpa [Addr.add] using hx
  have h1 : ∀ u ∈ [x], u.oneCell' = true := by intro u hu; simp at hu; subst hu; exact hx1
  obtain ⟨v', w', hr, h2, h3, _⟩ := run_append_own (P := Try.prog) w base 22 ty 26 i0 (.slice none 0 0) 1 24 Try.underlying22 hi hz0 hz1 hz2 rfl (by decide) v n xs hown a 1 c [x] rfl hnews h1 (by unfold maxLen; omega) hn hbase
  refine ⟨v', w', hr, h2, h3, ?_⟩
  rcases hown.2 with ⟨rfl, rfl⟩ | ⟨g, cap, cur, rfl, hbg, hg, hnc, hcm, hcs, htake⟩
  · have hr2 := run_append_nil (P := Try.prog) w 22 ty 26 i0 (.slice none 0 0) Try.underlying22 hi hz0 a 1 c [x] (by rw [hz1]; rfl) hnews (by omega) (by omega) (by rw [hz2]; omega)
    rw [hr] at hr2
    simp only [Result.ok.injEq] at hr2
    obtain ⟨rfl, rfl⟩ := hr2
    exact .inr rfl
  · by_cases hroom : n + 1 ≤ cap
    · obtain ⟨w2, hr2, _⟩ := run_append_fits (P := Try.prog) w base 22 ty 26 i0 1 Try.underlying22 hi hz1 g n cap xs hown a 1 c [x] rfl hnews h1 hroom
      rw [hr] at hr2
      simp only [Result.ok.injEq] at hr2
      obtain ⟨rfl, rfl⟩ := hr2
      exact .inl rfl
    · have hr2 := run_append_grow (P := Try.prog) w 22 ty 26 i0 (.slice none 0 0) Try.underlying22 hi hz0 ⟨g, 0, none⟩ n cap xs (by rw [hz1]; exact hown.1) (hown.cells (g := g) rfl) a 1 c [x] (by rw [hz1]; rfl) hnews (by omega) (by omega) (growslice_fits (by omega) (by rw [hz2]; exact hn))
      rw [hr] at hr2
      simp only [Result.ok.injEq] at hr2
      obtain ⟨rfl, rfl⟩ := hr2
      exact .inr rfl
theorem wpList_append_slice {w : World} {ops : Array Oper} {rest : List Oper} {o : Oper} {a : Act} {Q : Exit → Act → World → Prop} (hgd : o.guard = none) (s x : Operand)
    (ho : o.op = .call { callee := .builtin .append, args := #[s, x], argTypes := #[22, 22] })
    (base : Nat) (v : Value) (n : Nat) (xs : List Value) (hs : a.eval s = v) (hown : w.ownsRow base 26 1 v n xs)
    (ad : Addr) (c : Nat) (y : Value) (hx : a.eval x = .slice (some ad) 1 c) (hy : w.cell? ad = some y) (hy1 : y.oneCell' = true) (hn : (n + 1) * 24 ≤ 140737488355328) (hbase : base ≤ w.heap.size)
    (h : ∀ v' w', w'.ownsRow base 26 1 v' (n + 1) (xs ++ [y]) → w.grownBy w' v.ownBlock → (v'.ownBlock = v.ownBlock ∨ v'.ownBlock = some w.heap.size) → wpList Try.prog ops Q rest (a.put o.dst v') w') : wpList Try.prog ops Q (o :: rest) a w := by
  refine wpList_plain hgd fun K hK => ?_
  obtain ⟨v', w', hr, h2, h3, h4⟩ := run_append_slice w base o.type v n xs hown ad c y hy hy1 hn hbase
  unfold Oper.wp execOp
  simp only [ho, resolve, invoke, builtin, Sem.run_bind, Sem.run_pure, Result.andThen_ok, List.map_toArray, List.map_cons, List.map_nil, hs, hx, hr]
  exact hK _ _ (h v' w' h2 h3 h4)

theorem lent_pre {w : World} {p : Option Addr} {c : Nat} {l : List Int} (h : HB w (.slice p (l.length + 70) c) (lent l)) (hc : l.length ≤ c) : HB w (.slice p l.length c) l := by
  have hll := lent_length l
  have h2 : HB w (.slice p (lent l).length c) (lent l) := by rw [hll]; exact h
  have h3 := h2.sliced 0 l.length c (Nat.zero_le _) (by rw [hll]; omega) hc (Nat.le_refl _)
  rw [lent_take] at h3
  have e : (if c = 0 then p else p.map (·.add 0)) = p := by
    split
    · rfl
    · cases p <;> simp [Addr.add]
  rw [e] at h3
  simpa using h3

structure Fr (S : Nat → Prop) (w w' : World) : Prop where
  os : w'.os = w.os
  tape : w'.tape = w.tape
  output : w'.output = w.output
  size : w.heap.size ≤ w'.heap.size
  block : ∀ k, k < w.heap.size → ¬ S k → w'.heap[k]? = w.heap[k]?
theorem Fr.refl (S : Nat → Prop) (w : World) : Fr S w w := ⟨rfl, rfl, rfl, Nat.le_refl _, fun _ _ _ => rfl⟩
theorem Fr.step {S : Nat → Prop} {w w1 w2 : World} {row : Option Nat} (h : Fr S w w1) (hg : w1.grownBy w2 row) (hr : ∀ k, row = some k → S k ∨ w.heap.size ≤ k) : Fr S w w2 :=
  ⟨hg.os.trans h.os, hg.tape.trans h.tape, hg.output.trans h.output, Nat.le_trans h.size hg.size, fun k hk hs => (hg.block k (Nat.lt_of_lt_of_le hk h.size) (fun e => by
    rcases hr k e.symm with h1 | h1
    · exact hs h1
    · omega)).trans (h.block k hk hs)⟩
end Go.Proofs.Ytdmdcnikhnoclab
