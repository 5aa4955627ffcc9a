/- Of the road to wireCallsUpto_holds: Base, Opens, U8, Join, SameBytes, Owns, Lists, Numbers, WrLaid, Clone, Slices. -/
import Derived.WalkKit
import Derived.WalkSpells
import Derived.WalkLawsBesides
import Derived.Deep.QuietTactic
import Derived.BigQuiet
import Derived.Test.YtgjadpidoaianaaRows
import Derived.ProofKit
import Derived.OpenShut
import Derived.ShutString
import Derived.ChangeOld
import Derived.Deep.Slices
import Derived.JoinedCond
import Derived.SizedLaws
import Derived.Test.YtgjadpidoaianaaChecked
import Derived.Laws.AppendOwnNone
set_option linter.unusedVariables false
set_option linter.unusedSimpArgs false
namespace Go.Proofs.Ytgjadpidoaianaa
open Go.RowKit
theorem hid {p : Prop} (h : p) : Hid p := h
def HB (w : World) (v : Value) (l : List Int) : Prop :=
  (∃ (p : Option Addr) (c : Nat), v = .slice p l.length c ∧ l.length ≤ c ∧ c ≤ maxLen ∧ (p = none → c = 0) ∧
    (l ≠ [] → ∃ b off, p = some ⟨b, off, none⟩ ∧ ∀ j, j < l.length → w.cell? ⟨b, off + j, none⟩ = some (.int .u8 (l.getD j 0)))) ∧ ∀ x ∈ l, 0 ≤ x ∧ x < 256
theorem HB.open {w : World} {v : Value} {l : List Int} (h : HB w v l) : ∃ (p : Option Addr) (c : Nat), v = .slice p l.length c ∧ l.length ≤ c ∧ c ≤ maxLen := by
  obtain ⟨⟨p, c, h1, h2, h3, _⟩, _⟩ := h
  exact ⟨p, c, h1, h2, h3⟩
theorem HB.ne {w : World} {v : Value} {l : List Int} (h : HB w v l) (hl : 0 < l.length) :
    ∃ b off c, v = .slice (some ⟨b, off, none⟩) l.length c ∧ l.length ≤ c ∧ c ≤ maxLen ∧ ∀ j, j < l.length → w.cell? ⟨b, off + j, none⟩ = some (.int .u8 (l.getD j 0)) := by
  obtain ⟨⟨p, c, h1, h2, h3, _, h4⟩, _⟩ := h
  obtain ⟨b, off, rfl, hc⟩ := h4 (by intro e; subst e; simp at hl)
  exact ⟨b, off, c, h1, h2, h3, hc⟩
theorem HB.byte {w : World} {v : Value} {l : List Int} (h : HB w v l) (j : Nat) : 0 ≤ l.getD j 0 ∧ l.getD j 0 < 256 := by
  by_cases hj : j < l.length
  · have e : l.getD j 0 = l[j] := by simp [List.getD, List.getElem?_eq_getElem hj]
    rw [e]
    exact h.2 _ (List.getElem_mem hj)
  · have e : l.getD j 0 = 0 := by simp [List.getD, List.getElem?_eq_none (by omega : l.length ≤ j)]
    rw [e]; omega
theorem HB.later {w w' : World} {v : Value} {l : List Int} (h : HB w v l) (hc : ∀ a (n : Int), w.cell? a = some (.int .u8 n) → w'.cell? a = some (.int .u8 n)) : HB w' v l := by
  obtain ⟨⟨p, c, h1, h2, h3, h6, h4⟩, h5⟩ := h
  refine ⟨⟨p, c, h1, h2, h3, h6, fun hl => ?_⟩, h5⟩
  obtain ⟨b, off, e, hh⟩ := h4 hl
  exact ⟨b, off, e, fun j hj => hc _ _ (hh j hj)⟩
theorem HB.below {w w' : World} {v : Value} {l : List Int} (h : HB w v l) (hb : Below w.heap.size w w') : HB w' v l :=
  h.later fun a _ hx => (hb.cell (World.block_lt_of_cell? w a hx)).trans hx
theorem HB.drewN {w : World} {v : Value} {l : List Int} (h : HB w v l) (q : Nat) : HB (w.drewN q) v l := h.later fun _ _ hx => hx
theorem getD_of_lt {l : List Int} {k : Nat} (h : k < l.length) : l.getD k 0 = l[k] := by simp [List.getD, List.getElem?_eq_getElem h]
theorem ownsRow_cells {w : World} {B : Nat} {e : TypeId} {v : Value} {n : Nat} {xs : List Value} (h : w.ownsRow B e 1 v n xs) (h0 : 0 < n) :
    ∃ g cap, v = .slice (some ⟨g, 0, none⟩) n cap ∧ B ≤ g ∧ n ≤ cap ∧ cap ≤ maxLen ∧ ∀ j u, xs[j]? = some u → w.cell? ⟨g, 0 + j, none⟩ = some u := by
  have hc := @World.ownsRow.cells w B e 1 v n xs h
  rcases h.2 with ⟨_, e0⟩ | ⟨g, cap, cur, rfl, hb, _, hn, hm, _, _⟩
  · omega
  · refine ⟨g, cap, rfl, hb, hn, hm, fun j u hj => ?_⟩
    have := @hc g rfl j u hj
    rwa [Go.WideShapes.add_plain] at this
theorem HB.of_own {w : World} {B : Nat} {e : TypeId} {v : Value} {l : List Int} (h : w.ownsRow B e 1 v l.length (l.map (Value.int .u8))) (hx : ∀ x ∈ l, 0 ≤ x ∧ x < 256) : HB w v l := by
  refine ⟨?_, hx⟩
  by_cases h0 : 0 < l.length
  · obtain ⟨g, cap, rfl, _, hn, hm, hc⟩ := ownsRow_cells h h0
    refine ⟨_, cap, rfl, hn, hm, (fun e => by cases e), fun _ => ⟨g, 0, rfl, fun j hj => ?_⟩⟩
    exact hc j _ (by simp [List.getD, List.getElem?_eq_getElem hj])
  · have e : l = [] := List.length_eq_zero_iff.1 (by omega)
    subst e
    rcases h.2 with ⟨rfl, _⟩ | ⟨g, cap, cur, rfl, _, _, hn, hm, _⟩
    · exact ⟨none, 0, rfl, Nat.le_refl _, Nat.zero_le _, fun _ => rfl, fun h => absurd rfl h⟩
    · exact ⟨_, cap, rfl, hn, hm, (fun e => by cases e), fun h => absurd rfl h⟩
theorem HB.grown {w w' : World} {v : Value} {l : List Int} {g : Nat} (h : HB w v l) (hg : w.grownBy w' (some g)) (hn : ∀ o sp (n : Int), w.cell? ⟨g, o, sp⟩ ≠ some (.int .u8 n)) : HB w' v l :=
  h.later fun a n hx => hg.cell hx (by
    intro e
    obtain ⟨b, o, sp⟩ := a
    simp only [Option.some.injEq] at e
    subst e
    exact hn o sp n hx)
theorem HB.nil (w : World) : HB w (.slice none 0 0) [] := ⟨⟨none, 0, rfl, Nat.zero_le _, Nat.zero_le _, fun _ => rfl, fun h => absurd rfl h⟩, by simp⟩
def BT (w : World) (g : Nat) (T : TypeId) : Prop := ∃ cur fz, w.heap[g]? = some (.cells cur T fz)
def HL (w : World) (v : Value) (ls : List (List Int)) : Prop :=
  ∃ (p : Option Addr) (c : Nat), v = .slice p ls.length c ∧ ls.length ≤ c ∧ c ≤ maxLen ∧ (p = none → c = 0) ∧
    (ls ≠ [] → ∃ b off, p = some ⟨b, off, none⟩ ∧ ∀ j, j < ls.length → ∃ u, w.cell? ⟨b, off + j, none⟩ = some u ∧ HB w u (ls.getD j []))
theorem HL.ne {w : World} {v : Value} {ls : List (List Int)} (h : HL w v ls) (hl : 0 < ls.length) :
    ∃ b off c, v = .slice (some ⟨b, off, none⟩) ls.length c ∧ ls.length ≤ c ∧ c ≤ maxLen ∧ ∀ j, j < ls.length → ∃ u, w.cell? ⟨b, off + j, none⟩ = some u ∧ HB w u (ls.getD j []) := by
  obtain ⟨p, c, h1, h2, h3, _, h4⟩ := h
  obtain ⟨b, off, rfl, hc⟩ := h4 (by intro e; subst e; simp at hl)
  exact ⟨b, off, c, h1, h2, h3, hc⟩
theorem HL.open {w : World} {v : Value} {ls : List (List Int)} (h : HL w v ls) : ∃ (p : Option Addr) (c : Nat), v = .slice p ls.length c ∧ ls.length ≤ c ∧ c ≤ maxLen := by
  obtain ⟨p, c, h1, h2, h3, _⟩ := h
  exact ⟨p, c, h1, h2, h3⟩
theorem HL.nil (w : World) : HL w (.slice none 0 0) [] := ⟨none, 0, rfl, Nat.zero_le _, Nat.zero_le _, fun _ => rfl, fun h => absurd rfl h⟩
def Dr (w w' : World) : Prop := ∃ q, w' = w.drewN q
theorem Dr.refl (w : World) : Dr w w := ⟨0, rfl⟩
theorem Dr.drewN {w u : World} (h : Dr w u) (n : Nat) : Dr w (u.drewN n) := by
  obtain ⟨q, rfl⟩ := h
  exact ⟨q + n, World.drewN_drewN w q n⟩
theorem Dr.one (w : World) (n : Nat) : Dr w (w.drewN n) := ⟨n, rfl⟩
theorem Dr.trans {a b c : World} (h : Dr a b) (k : Dr b c) : Dr a c := by
  obtain ⟨q, rfl⟩ := k
  exact h.drewN q
theorem Dr.cell {w w' : World} (h : Dr w w') (a : Addr) : w'.cell? a = w.cell? a := by obtain ⟨q, rfl⟩ := h; rfl
theorem Dr.below {w w' : World} (h : Dr w w') (B : Nat) : Below B w w' := by obtain ⟨q, rfl⟩ := h; exact ⟨rfl, rfl, rfl, Nat.le_refl _, fun _ _ => rfl⟩
theorem HB.dr {w w' : World} {v : Value} {l : List Int} (h : HB w v l) (d : Dr w w') : HB w' v l := h.later fun a _ hx => (d.cell a).trans hx
end Go.Proofs.Ytgjadpidoaianaa
namespace Go.Proofs.Ytgjadpidoaianaa
open Go.ChangeShapes Go.WideShapes Go.ChangeAt Go.RowKit
theorem Opn.own : ownKnob Try.prog.godebug = none := by kernel_rfl
theorem Opn.laidOut : laidOutB Try.prog = true := by kernel_rfl
theorem Opn.cells_u8 : Try.prog.cellsOf 5 = 1 := by kernel_rfl
theorem Opn.cells_int : Try.prog.cellsOf 3 = 1 := by kernel_rfl
theorem bulk_pos {H : Type} (d : DataW H) : 1 ≤ Rows.uptoBulk d := by
  cases d with
  | lit l => cases l <;> simp [Rows.uptoBulk]
  | _ => simp [Rows.uptoBulk]
theorem bulk_len {H : Type} (l : List (DataW H)) : l.length ≤ Rows.uptoBulkAll l := by
  induction l with
  | nil => simp
  | cons x r ih => have := bulk_pos x; simp only [Rows.uptoBulkAll, List.length_cons]; omega
theorem bulk_slice {H : Type} (a b : List (DataW H)) : a.length + b.length + 1 ≤ Rows.uptoBulk (.slice a b) := by
  have h1 := bulk_len a
  have h2 := bulk_len b
  simp only [Rows.uptoBulk]
  omega
theorem bulk_all {H : Type} {l : List (DataW H)} (hk : Rows.uptoSmall H l = true) : Rows.uptoBulkAll l ≤ 1048576 := of_decide_eq_true hk
variable {H : Type} {enc : TypeId × Value → H} {W : World}
theorem open_row {k : IntKind} {t e : TypeId} {fuel base : Nat} {cs : List Value} {d : DataW H} {p : List MemPlace} (ht : Try.prog.underlying t = some (.slice e)) (he : Try.prog.underlying e = some (.int k)) (hc : Try.prog.cellsOf e = 1)
    (hf : DataW.trod enc Try.prog W base (fun _ => true) true fuel t cs = some (d, p)) :
    ∃ (q : Option Addr) (c : Nat) (l : List Int), cs = [.slice q l.length c] ∧ l.length ≤ c ∧ c ≤ maxLen ∧ (q = none → c = 0) ∧ (l ≠ [] → ∃ b off, q = some ⟨b, off, none⟩ ∧ ∀ j, j < l.length → W.cell? ⟨b, off + j, none⟩ = some (.int k (l.getD j 0))) ∧ (∀ n ∈ l, (Lit.int k n).wf = true) ∧ l.length + 1 ≤ Rows.uptoBulk d := by
  rcases open_ints ht he hc hf with ⟨rfl, hx⟩ | ⟨x, len, cap, zs, rfl, _, hl, hm, hz, hx, hcell, hwz⟩
  · cases hx
    exact ⟨none, 0, [], rfl, Nat.le_refl _, Nat.zero_le _, fun _ => rfl, fun h => absurd rfl h, by simp, by simp [Rows.uptoBulk]⟩
  · simp only [Prod.mk.injEq] at hx
    obtain ⟨rfl, _⟩ := hx
    simp only [if_true] at hz
    have hlen : (zs.take len).length = len := by simp; omega
    refine ⟨some x, cap, zs.take len, by rw [hlen], by omega, hm, (fun e => by cases e), fun hne => ?_, fun n hn => hwz n (List.mem_of_mem_take hn), ?_⟩
    · have h0 : 0 < len := by
        apply Classical.byContradiction
        intro h
        exact hne (List.length_eq_zero_iff.1 (by omega))
      obtain ⟨b, off, rfl, hh⟩ := ints_at hcell (by omega)
      refine ⟨b, off, rfl, fun j hj => ?_⟩
      rw [hlen] at hj
      rw [hh j (by omega)]
      simp only [List.getD, List.getElem?_take]
      rw [if_pos hj]
    · have := bulk_slice (lits (H := H) k (zs.take len)) (lits k (zs.drop len))
      simp only [lits, List.length_map] at this ⊢
      omega
theorem byte_wf {l : List Int} (h : ∀ n ∈ l, (Lit.int .u8 n).wf = true) : ∀ x ∈ l, 0 ≤ x ∧ x < 256 := by
  intro x hx
  have := bounds_u8 (h x hx)
  omega
theorem Opn.cells_bytes : Try.prog.cellsOf 36 = 1 := by kernel_rfl
end Go.Proofs.Ytgjadpidoaianaa
namespace Go.Proofs.Ytgjadpidoaianaa
open Go.RowKit
theorem info_u8 : (Try.prog.info? 5).map (fun i => (i.zero, i.size, i.bytes)) = some (some (.int .u8 0), 1, 1) := by kernel_rfl
theorem size_u8 : ∀ w, Sem.run Try.prog (Go.sizeOf 5) w = .ok 1 w := fun w => by
  obtain ⟨i0, hi, hz0, hz1, hz2⟩ := info_parts info_u8
  simp [Go.sizeOf, typeInfo, hi, hz1]
theorem eql_nil_bytes : ∀ (w : World) (a : Option Addr) (n c n' c' : Nat), (binOp .eql 36 (.slice a n c) (.slice none n' c')).run Try.prog w = .ok (.bool a.isNone) w :=
  fun w a n c n' c' => Lib.run_eql_slice_nil w _ _ a n c n' c' Try.underlying36
theorem wpList_append_HB {w : World} {ops : Array Oper} {rest : List Oper} {o : Oper} {a : Act} {Q : Exit → Act → World → Prop} (hgd : o.guard = none) (s x : Operand)
    (ho : o.op = .call { callee := .builtin .append, args := #[s, x], argTypes := #[36, 36] })
    (base : Nat) (v : Value) (n : Nat) (xs : List Value) (hs : a.eval s = v) (hown : w.ownsRow base 5 1 v n xs)
    (u : Value) (l : List Int) (hx : a.eval x = u) (hu : HB w u l) (hbytes : n + l.length ≤ 140737488355328) (hbase : base ≤ w.heap.size)
    (h : ∀ v' w', w'.ownsRow base 5 1 v' (n + l.length) (xs ++ l.map (Value.int .u8)) → w.grownBy w' v.ownBlock → wpList Try.prog ops Q rest (a.put o.dst v') w') : wpList Try.prog ops Q (o :: rest) a w := by
  obtain ⟨i0, hi, hz0, hz1, hz2⟩ := info_parts info_u8
  obtain ⟨⟨p, c, rfl, hlc, hm, hpc, hcell⟩, hby⟩ := hu
  cases p with
  | none =>
    have e : l = [] := by
      apply Classical.byContradiction
      intro hne
      obtain ⟨b, off, e, _⟩ := hcell hne
      cases e
    subst e
    have := hpc rfl
    subst this
    refine wpList_append_own_none hgd s x 36 ho base 5 i0 1 Try.underlying36 hi v n xs hs hown hx ?_
    exact h v w (by simpa using hown) ⟨rfl, rfl, rfl, Nat.le_refl _, fun _ _ _ => rfl⟩
  | some ad =>
    refine wpList_append_own w hgd s x 36 ho base 5 i0 (.int .u8 0) 1 1 Try.underlying36 hi hz0 hz1 hz2 rfl (by decide) v n xs hs hown ad l.length c (l.map (Value.int .u8)) hx (by simp) ?_ ?_ (by unfold maxLen; omega) (by omega) hbase (fun v' w' h1 h2 _ => h v' w' h1 h2)
    · intro j y hj
      have hjn : j < l.length := by
        have := (List.getElem?_eq_some_iff.1 hj).1
        simpa using this
      obtain ⟨b, off, e, hh⟩ := hcell (by intro e; subst e; simp at hjn)
      cases e
      rw [Go.WideShapes.add_plain, hh j hjn]
      have e : (l.map (Value.int .u8))[j]? = some (Value.int .u8 (l.getD j 0)) := by simp [List.getD, List.getElem?_eq_getElem hjn]
      rw [e] at hj
      exact hj
    · intro u hu; obtain ⟨x, _, rfl⟩ := List.mem_map.1 hu; rfl
theorem flat_snoc (ls : List (List Int)) (k : Nat) (hk : k < ls.length) : (ls.take (k + 1)).flatten = (ls.take k).flatten ++ ls.getD k [] := by
  rw [List.take_succ_eq_append_getElem hk, List.flatten_append]
  simp [List.getD, List.getElem?_eq_getElem hk]
theorem flat_take_le (ls : List (List Int)) (k : Nat) : (ls.take k).flatten.length ≤ ls.flatten.length := by
  conv => rhs; rw [← List.take_append_drop k ls, List.flatten_append, List.length_append]
  omega
def lensTo (ls : List (List Int)) (k : Nat) : Nat := (ls.take k).flatten.length
def flatTo (ls : List (List Int)) (k : Nat) : List Int := (ls.take k).flatten
set_option maxHeartbeats 1000000 in
theorem join_any (w : World) (v : Value) (ls : List (List Int)) (h : HL w v ls) (hbig : ls.flatten.length ≤ 140737488355328) :
    Calls Try.prog 59 #[v] w fun e w' => ∃ v', e = .returned v' ∧ w'.ownsRow w.heap.size 5 1 v' ls.flatten.length (ls.flatten.map (Value.int .u8)) ∧ Below w.heap.size w w' := by
  obtain ⟨i0, hi, hz0, hz1, hz2⟩ := info_parts info_u8
  obtain ⟨p, c, e, hlc, hm⟩ := h.open
  unfold maxLen at hm
  have A : Hid (0 < ls.length → ∃ b off, p = some ⟨b, off, none⟩ ∧ ∀ j, j < ls.length → ∃ u, w.cell? ⟨b, off + j, none⟩ = some u ∧ HB w u (ls.getD j [])) := by
    intro h0
    obtain ⟨b, off, c', e', _, _, hh⟩ := h.ne h0
    rw [e] at e'
    simp only [Value.slice.injEq, true_and] at e'
    exact ⟨b, off, e'.1, hh⟩
  clear h
  subst e
  obtain ⟨fl, HF⟩ : ∃ fl : List Int, Hid (fl = ls.flatten) := ⟨_, rfl⟩
  rw [← HF.out] at hbig ⊢
  obtain ⟨N, HN⟩ : ∃ N, Hid (N = fl.length) := ⟨_, rfl⟩
  rw [← HN.out] at hbig ⊢
  have hle : ∀ k, lensTo ls k ≤ N := fun k => by rw [HN.out, HF.out]; exact flat_take_le ls k
  go_enter Try.func59, Try.ntmps59
  go_wp2
  go_loop [3, 11] (fun s i => ∃ k : Nat, k ≤ ls.length ∧ i = .int .i64 k ∧ s = .int .i64 (lensTo ls k)) (fun _ i => ls.length - (intOf i).toNat)
  case atStart => exact ⟨0, Nat.zero_le _, rfl, rfl⟩
  case round =>
    obtain ⟨k, hk, rfl, rfl⟩ := hrel
    have hf := hle k
    by_cases hlt : k < ls.length
    · obtain ⟨b, off, rfl, hh⟩ := A.out (by omega)
      obtain ⟨u, hu, hb⟩ := hh k hlt
      obtain ⟨p2, c2, rfl, _, _⟩ := hb.open
      have hf2 := hle (k + 1)
      obtain ⟨m, HM⟩ : ∃ m, Hid (m = (ls.getD k []).length) := ⟨_, rfl⟩
      have HS : Hid (lensTo ls (k + 1) = lensTo ls k + m) := by
        show _ = _
        unfold lensTo
        rw [flat_snoc ls k hlt, List.length_append, HM.out]
      rw [HS.out] at hf2
      rw [← HM.out] at hu
      clear hh hb hle
      go_wp2
      exact ⟨⟨k + 1, by omega, by go_num, by rw [HS.out]; go_num⟩, by simp [intOf]; omega⟩
    · have HK : Hid (lensTo ls k = N) := by
        show _ = _
        unfold lensTo
        rw [List.take_of_length_le (by omega), HN.out, HF.out]
      rw [HK.out] at hf ⊢
      obtain ⟨w1, hmk, hown, hgr⟩ := run_make_own (P := Try.prog) w w.heap.size 36 5 i0 (.int .u8 0) 1 Try.underlying36 hi hz0 hz1 .i64 .i64 N (by rw [hz2]; omega) (by unfold maxLen; omega) (Nat.le_refl _)
      have hB1 : Below w.heap.size w w1 := (Below.refl _ w).grown hgr (Nat.le_refl _) (fun k e => by cases e)
      have hsz : w.heap.size ≤ w1.heap.size := hB1.size
      clear hk hf hgr hle
      go_wp2
      go_loopw [6, 24] (fun o i wr => ∃ k : Nat, k ≤ ls.length ∧ i = .int .i64 k ∧ wr.ownsRow w.heap.size 5 1 o (flatTo ls k).length ((flatTo ls k).map (Value.int .u8)) ∧ Below w.heap.size w wr) (fun _ i _ => ls.length - (intOf i).toNat)
      case atStart => exact ⟨0, Nat.zero_le _, rfl, hown, hB1⟩
      case round =>
        clear hmk hown hB1 hsz HK hlt
        obtain ⟨k, hk, rfl, hown, hB⟩ := hrel
        by_cases hlt : k < ls.length
        · obtain ⟨b, off, rfl, hh⟩ := A.out (by omega)
          obtain ⟨u, hu0, hb⟩ := hh k hlt
          have hu : wr.cell? ⟨b, off + k, none⟩ = some u := (hB.cell (World.block_lt_of_cell? w _ hu0)).trans hu0
          have HBu := hid (hb.below hB)
          have HS : Hid (flatTo ls (k + 1) = flatTo ls k ++ ls.getD k []) := flat_snoc ls k hlt
          have HL2 : Hid ((flatTo ls k).length + (ls.getD k []).length ≤ 140737488355328) := by
            have := flat_take_le ls (k + 1)
            rw [flat_snoc ls k hlt, List.length_append, ← HF.out, ← HN.out] at this
            exact Nat.le_trans this hbig
          have HO := hid hown
          have HBel := hid hB
          obtain ⟨lk, HK⟩ : ∃ lk, Hid (lk = ls.getD k []) := ⟨_, rfl⟩
          rw [← HK.out] at HBu HS HL2 hb
          obtain ⟨p2, c2, hu2, _, _⟩ := hb.open
          clear hh hb hu0 hown hB
          subst hu2
          go_wp2_with (at_builtin; refine wpList_append_HB rfl _ _ rfl w.heap.size _ _ _ rfl HO.out _ _ rfl HBu.out ?q1 ?q2 ?_)
          case q1 => exact HL2.out
          case q2 => exact HBel.out.size
          intro v' w2 hown2 hgr2
          have HO2 : Hid (w2.ownsRow w.heap.size 5 1 v' (flatTo ls (k + 1)).length ((flatTo ls (k + 1)).map (Value.int .u8))) := by
            show World.ownsRow _ _ _ _ _ _ _
            rw [HS.out, List.length_append, List.map_append]
            exact hown2
          have HB2 : Hid (Below w.heap.size w w2) := HBel.out.grown hgr2 HBel.out.size (fun k e => (HO.out.lt k e).1)
          clear hown2 hgr2
          go_wp2
          exact ⟨⟨k + 1, by omega, by go_num, HO2.out, HB2.out⟩, by simp [intOf]; omega⟩
        · have HK : Hid (flatTo ls k = fl) := by
            show _ = _
            unfold flatTo
            rw [List.take_of_length_le (by omega), HF.out]
          go_wp2
          go_ret
          refine ⟨_, rfl, ?_, hB⟩
          rw [HK.out, ← HN.out] at hown
          exact hown
theorem take_eq_step (la lb : List Int) (k : Nat) (ha : k < la.length) (hb : k < lb.length) (h : la.take k = lb.take k) (e : la.getD k 0 = lb.getD k 0) : la.take (k + 1) = lb.take (k + 1) := by
  rw [List.take_succ_eq_append_getElem ha, List.take_succ_eq_append_getElem hb, h]
  have e1 : la.getD k 0 = la[k] := by simp [List.getD, List.getElem?_eq_getElem ha]
  have e2 : lb.getD k 0 = lb[k] := by simp [List.getD, List.getElem?_eq_getElem hb]
  rw [e1, e2] at e
  rw [e]
theorem take_ne (la lb : List Int) (k : Nat) (e : la.getD k 0 ≠ lb.getD k 0) : la ≠ lb := fun h => e (by rw [h])
set_option maxHeartbeats 400000 in
theorem sameBytes_any (w : World) (va vb : Value) (la lb : List Int) (ha : HB w va la) (hb : HB w vb lb) :
    Calls Try.prog 17 #[va, vb] w fun e w' => e = .returned (.bool (decide (la = lb))) ∧ Dr w w' := by
  by_cases hlen : la.length = lb.length
  · by_cases h0 : 0 < la.length
    · obtain ⟨b1, o1, c1, rfl, hc1, hm1, hk1⟩ := ha.ne h0
      obtain ⟨b2, o2, c2, rfl, hc2, hm2, hk2⟩ := hb.ne (by omega)
      unfold maxLen at hm1 hm2
      have hm : la.length ≤ 9223372036854775807 := by omega
      have HL : Hid (la.length = lb.length) := hlen
      rw [← hlen]
      have hcd : ∀ j, j < la.length → w.cell? ⟨b2, o2 + j, none⟩ = some (.int .u8 (lb.getD j 0)) := fun j hj => hk2 j (by omega)
      clear hlen hk2
      go_enter Try.func17, Try.ntmps17
      go_wp2
      go_loopw [5] (fun i wr => ∃ k : Nat, k ≤ la.length ∧ i = .int .i64 k ∧ la.take k = lb.take k ∧ Dr w wr) (fun i _ => la.length - (intOf i).toNat)
      case atStart => exact ⟨0, Nat.zero_le _, rfl, rfl, Dr.refl _⟩
      case round =>
        obtain ⟨k, hk, rfl, ht, q, rfl⟩ := hrel
        by_cases hlt : k < la.length
        · have g1 := hk1 k hlt
          have g2 := hcd k hlt
          obtain ⟨x, hx⟩ : ∃ x, la.getD k 0 = x := ⟨_, rfl⟩
          obtain ⟨y, hy⟩ : ∃ y, lb.getD k 0 = y := ⟨_, rfl⟩
          rw [hx] at g1
          rw [hy] at g2
          have HX := hid hx
          have HY := hid hy
          clear hx hy hk1 hcd
          by_cases he : x = y
          · have hne : (x != y) = false := by simpa using he
            have HE := hid he
            clear he
            go_wp2
            go_quiet (fail)
            go_wp2
            exact ⟨⟨k + 1, by omega, by go_num, take_eq_step la lb k hlt (by have := HL.out; omega) ht (by rw [HX.out, HY.out, HE.out]), Dr.one _ _⟩, by simp [intOf]; omega⟩
          · have hne : (x != y) = true := by simpa using he
            go_wp2
            go_quiet (fail)
            go_wp2
            go_ret
            exact ⟨by simp [take_ne la lb k (by rw [HX.out, HY.out]; exact he)], (Dr.one _ _).drewN _⟩
        · go_wp2
          go_ret
          have e : la = lb := by
            have h1 := List.take_of_length_le (show la.length ≤ k by omega)
            have h2 := List.take_of_length_le (show lb.length ≤ k by have := HL.out; omega)
            rw [← h1, ← h2, ht]
          exact ⟨by simp [e], Dr.one _ _⟩
    · obtain ⟨p1, c1, rfl, _, _⟩ := ha.open
      obtain ⟨p2, c2, rfl, _, _⟩ := hb.open
      have e1 : la = [] := List.length_eq_zero_iff.1 (by omega)
      have e2 : lb = [] := List.length_eq_zero_iff.1 (by omega)
      subst e1 e2
      go_enter Try.func17, Try.ntmps17
      go_wp2
      go_loop [5] (fun i => i = .int .i64 0) (fun _ => 0)
      case atStart => rfl
      case round =>
        subst hrel
        go_wp2
        go_ret
        exact ⟨rfl, Dr.refl _⟩
  · obtain ⟨p1, c1, rfl, _, _⟩ := ha.open
    obtain ⟨p2, c2, rfl, _, _⟩ := hb.open
    have hne : ((la.length : Int) != (lb.length : Int)) = true := by rw [bne_iff_ne]; omega
    go_enter Try.func17, Try.ntmps17
    go_wp2
    go_ret
    exact ⟨by simp [show la ≠ lb from fun e => hlen (by rw [e])], Dr.refl _⟩
theorem info_bytes : (Try.prog.info? 36).map (fun i => (i.zero, i.size, i.bytes)) = some (some (.slice none 0 0), 1, 24) := by kernel_rfl
theorem own_block_ne {w : World} {B e n : Nat} {v : Value} {xs : List Value} (h : w.ownsRow B e 1 v n xs) {g : Nat} {cur : Array Value} {e' : TypeId} {fz : Nat × Nat} (hg : w.heap[g]? = some (.cells cur e' fz)) (hne : e ≠ e') : v.ownBlock ≠ some g := by
  intro hv
  rcases h.2 with ⟨rfl, _⟩ | ⟨g', cap, cur', rfl, _, hh, _⟩
  · simp [Value.ownBlock] at hv
  · simp only [Value.ownBlock, Option.some.injEq] at hv
    subst hv
    rw [hh] at hg
    simp only [Option.some.injEq, Obj.cells.injEq] at hg
    exact hne hg.2.1
theorem getD_app {α : Type} (l m : List α) (d : α) (j : Nat) : (l ++ m).getD j d = if j < l.length then l.getD j d else m.getD (j - l.length) d := by
  simp only [List.getD, List.getElem?_append]
  split <;> rfl
theorem takel_eq_step (la lb : List (List Int)) (k : Nat) (ha : k < la.length) (hb : k < lb.length) (h : la.take k = lb.take k) (e : la.getD k [] = lb.getD k []) : la.take (k + 1) = lb.take (k + 1) := by
  rw [List.take_succ_eq_append_getElem ha, List.take_succ_eq_append_getElem hb, h]
  have e1 : la.getD k [] = la[k] := by simp [List.getD, List.getElem?_eq_getElem ha]
  have e2 : lb.getD k [] = lb[k] := by simp [List.getD, List.getElem?_eq_getElem hb]
  rw [e1, e2] at e
  rw [e]
set_option maxHeartbeats 400000 in
theorem sameLists_any (w : World) (va vb : Value) (la lb : List (List Int)) (ha : HL w va la) (hb : HL w vb lb) :
    Calls Try.prog 11 #[va, vb] w fun e w' => e = .returned (.bool (decide (la = lb))) ∧ Dr w w' := by
  by_cases hlen : la.length = lb.length
  · by_cases h0 : 0 < la.length
    · obtain ⟨b1, o1, c1, rfl, hc1, hm1, hk1⟩ := ha.ne h0
      obtain ⟨b2, o2, c2, rfl, hc2, hm2, hk2⟩ := hb.ne (by omega)
      unfold maxLen at hm1 hm2
      have hm : la.length ≤ 9223372036854775807 := by omega
      have HL : Hid (la.length = lb.length) := hlen
      rw [← hlen]
      have hcd : ∀ j, j < la.length → ∃ u, w.cell? ⟨b2, o2 + j, none⟩ = some u ∧ HB w u (lb.getD j []) := fun j hj => hk2 j (by omega)
      clear hlen hk2
      go_enter Try.func11, Try.ntmps11
      go_wp2
      go_loopw [5] (fun i wr => ∃ k : Nat, k ≤ la.length ∧ i = .int .i64 k ∧ la.take k = lb.take k ∧ Dr w wr) (fun i _ => la.length - (intOf i).toNat)
      case atStart => exact ⟨0, Nat.zero_le _, rfl, rfl, Dr.refl _⟩
      case round =>
        obtain ⟨k, hk, rfl, ht, hD⟩ := hrel
        have HD := hid hD
        clear hD
        by_cases hlt : k < la.length
        · obtain ⟨u1, g1, e1⟩ := hk1 k hlt
          obtain ⟨u2, g2, e2⟩ := hcd k hlt
          replace g1 := (HD.out.cell _).trans g1
          replace g2 := (HD.out.cell _).trans g2
          replace e1 := e1.dr HD.out
          replace e2 := e2.dr HD.out
          obtain ⟨x, HX⟩ : ∃ x, Hid (la.getD k [] = x) := ⟨_, rfl⟩
          obtain ⟨y, HY⟩ : ∃ y, Hid (lb.getD k [] = y) := ⟨_, rfl⟩
          rw [HX.out] at e1
          rw [HY.out] at e2
          obtain ⟨p1, c1', r1, _, _⟩ := e1.open
          obtain ⟨p2, c2', r2, _, _⟩ := e2.open
          subst r1 r2
          have E1 := hid e1
          have E2 := hid e2
          clear hk1 hcd e1 e2
          by_cases he : x = y
          · have hne : decide (x = y) = true := by simpa using he
            have HE := hid he
            clear he
            go_wp2
            go_quiet ((go_at_call 17; exact Calls.quiet_of (sameBytes_any _ _ _ x y (E1.out.later fun _ _ hx => hx) (E2.out.later fun _ _ hx => hx))))
            go_wp2
            exact ⟨⟨k + 1, by omega, by go_num, takel_eq_step la lb k hlt (by have := HL.out; omega) ht (by rw [HX.out, HY.out, HE.out]), HD.out.drewN _⟩, by simp [intOf]; omega⟩
          · have hne : decide (x = y) = false := by simpa using he
            go_wp2
            go_quiet ((go_at_call 17; exact Calls.quiet_of (sameBytes_any _ _ _ x y (E1.out.later fun _ _ hx => hx) (E2.out.later fun _ _ hx => hx))))
            go_wp2
            go_ret
            exact ⟨by rw [decide_eq_false (fun h => he ((HX.out.symm.trans (congrArg (fun z => List.getD z k []) h)).trans HY.out))]; rfl, HD.out.drewN _⟩
        · go_wp2
          go_ret
          have e : la = lb := by
            have h1 := List.take_of_length_le (show la.length ≤ k by omega)
            have h2 := List.take_of_length_le (show lb.length ≤ k by have := HL.out; omega)
            rw [← h1, ← h2, ht]
          exact ⟨by simp [e], HD.out⟩
    · obtain ⟨p1, c1, rfl, _, _⟩ := ha.open
      obtain ⟨p2, c2, rfl, _, _⟩ := hb.open
      have e1 : la = [] := List.length_eq_zero_iff.1 (by omega)
      have e2 : lb = [] := List.length_eq_zero_iff.1 (by omega)
      subst e1 e2
      go_enter Try.func11, Try.ntmps11
      go_wp2
      go_loop [5] (fun i => i = .int .i64 0) (fun _ => 0)
      case atStart => rfl
      case round =>
        subst hrel
        go_wp2
        go_ret
        exact ⟨rfl, Dr.refl _⟩
  · obtain ⟨p1, c1, rfl, _, _⟩ := ha.open
    obtain ⟨p2, c2, rfl, _, _⟩ := hb.open
    have hne : ((la.length : Int) != (lb.length : Int)) = true := by rw [bne_iff_ne]; omega
    go_enter Try.func11, Try.ntmps11
    go_wp2
    go_ret
    exact ⟨by simp [show la ≠ lb from fun e => hlen (by rw [e])], Dr.refl _⟩
set_option maxHeartbeats 1000000 in
theorem width_uint8 (w : World) : Calls Try.prog 56 #[] w fun e w' => e = .returned (.int .i64 1) ∧ w' = w := by
  go_enter Try.func56, Try.ntmps56
  go_wp2
  go_loop [1, 2] (fun s m => (s = .int .i64 0 ∧ m = .int .u64 255) ∨ (s = .int .i64 1 ∧ m = .int .u64 0)) (fun s _ => 1 - (intOf s).toNat)
  case atStart =>
    simp
    decide +kernel
  case round =>
    rcases hrel with ⟨rfl, rfl⟩ | ⟨rfl, rfl⟩
    · go_wp2
      simp [intOf]
    · go_wp2
      go_ret
      exact ⟨rfl, rfl⟩
set_option maxHeartbeats 1000000 in
theorem width_uint32 (w : World) : Calls Try.prog 57 #[] w fun e w' => e = .returned (.int .i64 4) ∧ w' = w := by
  go_enter Try.func57, Try.ntmps57
  go_wp2
  go_loop [1, 2] (fun s m => (s = .int .i64 0 ∧ m = .int .u64 4294967295) ∨ (s = .int .i64 1 ∧ m = .int .u64 16777215) ∨ (s = .int .i64 2 ∧ m = .int .u64 65535) ∨ (s = .int .i64 3 ∧ m = .int .u64 255) ∨ (s = .int .i64 4 ∧ m = .int .u64 0)) (fun s _ => 4 - (intOf s).toNat)
  case atStart =>
    simp
    decide +kernel
  case round =>
    rcases hrel with ⟨rfl, rfl⟩ | ⟨rfl, rfl⟩ | ⟨rfl, rfl⟩ | ⟨rfl, rfl⟩ | ⟨rfl, rfl⟩
    · go_wp2
      simp [intOf]
    · go_wp2
      simp [intOf]
    · go_wp2
      simp [intOf]
    · go_wp2
      simp [intOf]
    · go_wp2
      go_ret
      exact ⟨rfl, rfl⟩
set_option maxHeartbeats 1000000 in
theorem width_uint64 (w : World) : Calls Try.prog 58 #[] w fun e w' => e = .returned (.int .i64 8) ∧ w' = w := by
  go_enter Try.func58, Try.ntmps58
  go_wp2
  go_loop [1, 2] (fun s m => (s = .int .i64 0 ∧ m = .int .u64 18446744073709551615) ∨ (s = .int .i64 1 ∧ m = .int .u64 72057594037927935) ∨ (s = .int .i64 2 ∧ m = .int .u64 281474976710655) ∨ (s = .int .i64 3 ∧ m = .int .u64 1099511627775) ∨ (s = .int .i64 4 ∧ m = .int .u64 4294967295) ∨ (s = .int .i64 5 ∧ m = .int .u64 16777215) ∨ (s = .int .i64 6 ∧ m = .int .u64 65535) ∨ (s = .int .i64 7 ∧ m = .int .u64 255) ∨ (s = .int .i64 8 ∧ m = .int .u64 0)) (fun s _ => 8 - (intOf s).toNat)
  case atStart =>
    simp
    decide +kernel
  case round =>
    rcases hrel with ⟨rfl, rfl⟩ | ⟨rfl, rfl⟩ | ⟨rfl, rfl⟩ | ⟨rfl, rfl⟩ | ⟨rfl, rfl⟩ | ⟨rfl, rfl⟩ | ⟨rfl, rfl⟩ | ⟨rfl, rfl⟩ | ⟨rfl, rfl⟩
    · go_wp2
      simp [intOf]
    · go_wp2
      simp [intOf]
    · go_wp2
      simp [intOf]
    · go_wp2
      simp [intOf]
    · go_wp2
      simp [intOf]
    · go_wp2
      simp [intOf]
    · go_wp2
      simp [intOf]
    · go_wp2
      simp [intOf]
    · go_wp2
      go_ret
      exact ⟨rfl, rfl⟩
def bigL : Nat → Nat → List Int
  | 0, _ => []
  | r + 1, x => ((x / 256 ^ r % 256 : Nat) : Int) :: bigL r x
theorem bigL_length (r x : Nat) : (bigL r x).length = r := by
  induction r with
  | zero => rfl
  | succ r ih => simp [bigL, ih]
theorem bigL_byt (r x : Nat) : ∀ y ∈ bigL r x, 0 ≤ y ∧ y < 256 := by
  induction r with
  | zero => simp [bigL]
  | succ r ih =>
    intro y hy
    simp only [bigL, List.mem_cons] at hy
    rcases hy with rfl | hy
    · omega
    · exact ih y hy
def stage (n r x : Nat) : List Int := List.replicate (n - r) 0 ++ bigL r x
theorem stage_length (n r x : Nat) (h : r ≤ n) : (stage n r x).length = n := by simp [stage, bigL_length]; omega
theorem stage_step (n r x : Nat) (h : r < n) : (stage n r x).set (n - 1 - r) ((x / 256 ^ r % 256 : Nat) : Int) = stage n (r + 1) x := by
  unfold stage
  rw [List.set_append_left _ _ (by simp; omega)]
  have e : n - r = (n - 1 - r) + 1 := by omega
  have e2 : n - (r + 1) = n - 1 - r := by omega
  rw [e, e2, List.replicate_succ']
  rw [List.set_append_right _ _ (by simp)]
  simp [bigL]
theorem big_round {w wr : World} {n r x y m : Nat} {b t i : Int} (hm : m + 1 + r = n) (hy : y = x / 256 ^ r) (hb : b = ((y % 256 : Nat) : Int)) (ht : t = ((y / 256 : Nat) : Int)) (hi : i = (m : Int) - 1)
    (HO : wr.ownsRow w.heap.size 5 1 (.slice (some ⟨w.heap.size, 0, none⟩) n n) n ((stage n r x).map (Value.int .u8))) (hB : Below w.heap.size w wr) :
    ∃ r', Value.int IntKind.u64 t = Value.int .u64 ((x / 256 ^ r' : Nat) : Int) ∧ ((∃ m' : Nat, m' + 1 + r' = n ∧ Value.int IntKind.i64 i = .int .i64 (m' : Int)) ∨ (r' = n ∧ Value.int IntKind.i64 i = .int .i64 (-1))) ∧ Hid ((wr.setCell ⟨w.heap.size, m, none⟩ (.int .u8 b)).ownsRow w.heap.size 5 1 (.slice (some ⟨w.heap.size, 0, none⟩) n n) n ((stage n r' x).map (Value.int .u8))) ∧ Hid (Below w.heap.size w (wr.setCell ⟨w.heap.size, m, none⟩ (.int .u8 b))) := by
  refine ⟨r + 1, ?_, ?_, ?_, ?_⟩
  · rw [ht, hy, Nat.div_div_eq_div_mul, Nat.pow_succ]
  · cases m with
    | zero => exact .inr ⟨by omega, by rw [hi]; rfl⟩
    | succ m => exact .inl ⟨m, by omega, by rw [hi]; congr 1; omega⟩
  · have h := (HO.stored m (.int .u8 b)).1
    rw [← List.map_set, hb, hy, show m = n - 1 - r by omega, stage_step n r x (by omega)] at h
    rw [hb, hy, show m = n - 1 - r by omega]
    exact h
  · exact hB.setCell (p := ⟨w.heap.size, m, none⟩) (Nat.le_refl _) _
set_option maxHeartbeats 1000000 in
theorem big_uint8 (x : Nat) (_hx : x < 256) (w : World) : Calls Try.prog 37 #[.int .u8 (x : Int)] w fun e w' => ∃ v', e = .returned v' ∧ w'.ownsRow w.heap.size 5 1 v' 1 ((bigL 1 x).map (Value.int .u8)) ∧ Below w.heap.size w w' := by
  obtain ⟨i0, hi, hz0, hz1, hz2⟩ := info_parts info_u8
  obtain ⟨w1, hmk, hown, hgr⟩ := run_make_full (P := Try.prog) w w.heap.size 36 5 i0 (.int .u8 0) 1 Try.underlying36 hi hz0 hz1 .i64 .i64 1 (by rw [hz2]; omega) (by unfold maxLen; omega) (Nat.le_refl _)
  have hmk2 : (Instr.makeSlice 36 (.int .i64 1) (.int .i64 1)).run Try.prog w = .ok (.slice (some ⟨w.heap.size, 0, none⟩) 1 1) w1 := hmk
  clear hmk
  have hB1 : Below w.heap.size w w1 := (Below.refl _ w).grown hgr (Nat.le_refl _) (fun k e => by cases e)
  have hO1 : w1.ownsRow w.heap.size 5 1 (.slice (some ⟨w.heap.size, 0, none⟩) 1 1) 1 ((stage 1 0 x).map (Value.int .u8)) := by
    have e : (madeCells (Value.int IntKind.u8 0).cells (1 * 1)).toList = (stage 1 0 x).map (Value.int .u8) := by
      rw [show (Value.int IntKind.u8 0).cells = #[Value.int .u8 0] from rfl, toList_madeCells_one]
      simp [stage, bigL]
    rw [← e]
    exact hown
  have HO1 := hid hO1
  have HB1 := hid hB1
  clear hO1 hB1 hown hgr
  go_enter Try.func37, Try.ntmps37
  go_wp2_with (go_at_call 56; refine (width_uint8 _).mono ?_; rintro e w' ⟨rfl, hw⟩; have hw' := hw.symm; subst hw'; clear hw)
  go_loopw [4, 5] (fun t i wr => ∃ r : Nat, t = .int .u64 ((x / 256 ^ r : Nat) : Int) ∧ ((∃ m : Nat, m + 1 + r = 1 ∧ i = .int .i64 (m : Int)) ∨ (r = 1 ∧ i = .int .i64 (-1))) ∧ Hid (wr.ownsRow w.heap.size 5 1 (.slice (some ⟨w.heap.size, 0, none⟩) 1 1) 1 ((stage 1 r x).map (Value.int .u8))) ∧ Hid (Below w.heap.size w wr)) (fun _ i _ => (intOf i + 1).toNat)
  case atStart => exact ⟨0, by simp, .inl ⟨0, rfl, rfl⟩, HO1, HB1⟩
  case round =>
    clear HO1 HB1 hmk2
    obtain ⟨r, rfl, hri, HO, HB⟩ := hrel
    obtain ⟨y, HY⟩ : ∃ y, Hid (y = x / 256 ^ r) := ⟨_, rfl⟩
    have hy : y ≤ x := by rw [HY.out]; exact Nat.div_le_self _ _
    rw [← HY.out]
    rcases hri with ⟨m, hm, rfl⟩ | ⟨rfl, rfl⟩
    · have hc := (HO.out.cellAt m (by omega))
      have hfz := HO.out.frozenAt m
      obtain ⟨z, hz⟩ : ∃ z, ((stage 1 r x).map (Value.int .u8))[m]? = some z := ⟨_, List.getElem?_eq_getElem (by rw [List.length_map, stage_length _ _ _ (by omega)]; omega)⟩
      rw [hz] at hc
      clear hz
      have hm1 : m < 1 := by omega
      have hm2 : (m : Int) < 1 := by omega
      go_wp2
      exact ⟨big_round hm HY.out (by omega) (by omega) rfl HO.out HB.out, by simp [intOf]⟩
    · go_wp2
      go_ret
      exact ⟨_, rfl, by simpa [stage] using HO.out, HB.out⟩
set_option maxHeartbeats 1000000 in
theorem big_uint32 (x : Nat) (_hx : x < 4294967296) (w : World) : Calls Try.prog 38 #[.int .u32 (x : Int)] w fun e w' => ∃ v', e = .returned v' ∧ w'.ownsRow w.heap.size 5 1 v' 4 ((bigL 4 x).map (Value.int .u8)) ∧ Below w.heap.size w w' := by
  obtain ⟨i0, hi, hz0, hz1, hz2⟩ := info_parts info_u8
  obtain ⟨w1, hmk, hown, hgr⟩ := run_make_full (P := Try.prog) w w.heap.size 36 5 i0 (.int .u8 0) 1 Try.underlying36 hi hz0 hz1 .i64 .i64 4 (by rw [hz2]; omega) (by unfold maxLen; omega) (Nat.le_refl _)
  have hmk2 : (Instr.makeSlice 36 (.int .i64 4) (.int .i64 4)).run Try.prog w = .ok (.slice (some ⟨w.heap.size, 0, none⟩) 4 4) w1 := hmk
  clear hmk
  have hB1 : Below w.heap.size w w1 := (Below.refl _ w).grown hgr (Nat.le_refl _) (fun k e => by cases e)
  have hO1 : w1.ownsRow w.heap.size 5 1 (.slice (some ⟨w.heap.size, 0, none⟩) 4 4) 4 ((stage 4 0 x).map (Value.int .u8)) := by
    have e : (madeCells (Value.int IntKind.u8 0).cells (4 * 1)).toList = (stage 4 0 x).map (Value.int .u8) := by
      rw [show (Value.int IntKind.u8 0).cells = #[Value.int .u8 0] from rfl, toList_madeCells_one]
      simp [stage, bigL]
    rw [← e]
    exact hown
  have HO1 := hid hO1
  have HB1 := hid hB1
  clear hO1 hB1 hown hgr
  go_enter Try.func38, Try.ntmps38
  go_wp2_with (go_at_call 57; refine (width_uint32 _).mono ?_; rintro e w' ⟨rfl, hw⟩; have hw' := hw.symm; subst hw'; clear hw)
  go_loopw [4, 5] (fun t i wr => ∃ r : Nat, t = .int .u64 ((x / 256 ^ r : Nat) : Int) ∧ ((∃ m : Nat, m + 1 + r = 4 ∧ i = .int .i64 (m : Int)) ∨ (r = 4 ∧ i = .int .i64 (-1))) ∧ Hid (wr.ownsRow w.heap.size 5 1 (.slice (some ⟨w.heap.size, 0, none⟩) 4 4) 4 ((stage 4 r x).map (Value.int .u8))) ∧ Hid (Below w.heap.size w wr)) (fun _ i _ => (intOf i + 1).toNat)
  case atStart => exact ⟨0, by simp, .inl ⟨3, rfl, rfl⟩, HO1, HB1⟩
  case round =>
    clear HO1 HB1 hmk2
    obtain ⟨r, rfl, hri, HO, HB⟩ := hrel
    obtain ⟨y, HY⟩ : ∃ y, Hid (y = x / 256 ^ r) := ⟨_, rfl⟩
    have hy : y ≤ x := by rw [HY.out]; exact Nat.div_le_self _ _
    rw [← HY.out]
    rcases hri with ⟨m, hm, rfl⟩ | ⟨rfl, rfl⟩
    · have hc := (HO.out.cellAt m (by omega))
      have hfz := HO.out.frozenAt m
      obtain ⟨z, hz⟩ : ∃ z, ((stage 4 r x).map (Value.int .u8))[m]? = some z := ⟨_, List.getElem?_eq_getElem (by rw [List.length_map, stage_length _ _ _ (by omega)]; omega)⟩
      rw [hz] at hc
      clear hz
      have hm1 : m < 4 := by omega
      have hm2 : (m : Int) < 4 := by omega
      go_wp2
      exact ⟨big_round hm HY.out (by omega) (by omega) rfl HO.out HB.out, by simp [intOf]⟩
    · go_wp2
      go_ret
      exact ⟨_, rfl, by simpa [stage] using HO.out, HB.out⟩
set_option maxHeartbeats 1000000 in
theorem big_uint64 (x : Nat) (_hx : x < 18446744073709551616) (w : World) : Calls Try.prog 39 #[.int .u64 (x : Int)] w fun e w' => ∃ v', e = .returned v' ∧ w'.ownsRow w.heap.size 5 1 v' 8 ((bigL 8 x).map (Value.int .u8)) ∧ Below w.heap.size w w' := by
  obtain ⟨i0, hi, hz0, hz1, hz2⟩ := info_parts info_u8
  obtain ⟨w1, hmk, hown, hgr⟩ := run_make_full (P := Try.prog) w w.heap.size 36 5 i0 (.int .u8 0) 1 Try.underlying36 hi hz0 hz1 .i64 .i64 8 (by rw [hz2]; omega) (by unfold maxLen; omega) (Nat.le_refl _)
  have hmk2 : (Instr.makeSlice 36 (.int .i64 8) (.int .i64 8)).run Try.prog w = .ok (.slice (some ⟨w.heap.size, 0, none⟩) 8 8) w1 := hmk
  clear hmk
  have hB1 : Below w.heap.size w w1 := (Below.refl _ w).grown hgr (Nat.le_refl _) (fun k e => by cases e)
  have hO1 : w1.ownsRow w.heap.size 5 1 (.slice (some ⟨w.heap.size, 0, none⟩) 8 8) 8 ((stage 8 0 x).map (Value.int .u8)) := by
    have e : (madeCells (Value.int IntKind.u8 0).cells (8 * 1)).toList = (stage 8 0 x).map (Value.int .u8) := by
      rw [show (Value.int IntKind.u8 0).cells = #[Value.int .u8 0] from rfl, toList_madeCells_one]
      simp [stage, bigL]
    rw [← e]
    exact hown
  have HO1 := hid hO1
  have HB1 := hid hB1
  clear hO1 hB1 hown hgr
  go_enter Try.func39, Try.ntmps39
  go_wp2_with (go_at_call 58; refine (width_uint64 _).mono ?_; rintro e w' ⟨rfl, hw⟩; have hw' := hw.symm; subst hw'; clear hw)
  go_loopw [4, 5] (fun t i wr => ∃ r : Nat, t = .int .u64 ((x / 256 ^ r : Nat) : Int) ∧ ((∃ m : Nat, m + 1 + r = 8 ∧ i = .int .i64 (m : Int)) ∨ (r = 8 ∧ i = .int .i64 (-1))) ∧ Hid (wr.ownsRow w.heap.size 5 1 (.slice (some ⟨w.heap.size, 0, none⟩) 8 8) 8 ((stage 8 r x).map (Value.int .u8))) ∧ Hid (Below w.heap.size w wr)) (fun _ i _ => (intOf i + 1).toNat)
  case atStart => exact ⟨0, by simp, .inl ⟨7, rfl, rfl⟩, HO1, HB1⟩
  case round =>
    clear HO1 HB1 hmk2
    obtain ⟨r, rfl, hri, HO, HB⟩ := hrel
    obtain ⟨y, HY⟩ : ∃ y, Hid (y = x / 256 ^ r) := ⟨_, rfl⟩
    have hy : y ≤ x := by rw [HY.out]; exact Nat.div_le_self _ _
    rw [← HY.out]
    rcases hri with ⟨m, hm, rfl⟩ | ⟨rfl, rfl⟩
    · have hc := (HO.out.cellAt m (by omega))
      have hfz := HO.out.frozenAt m
      obtain ⟨z, hz⟩ : ∃ z, ((stage 8 r x).map (Value.int .u8))[m]? = some z := ⟨_, List.getElem?_eq_getElem (by rw [List.length_map, stage_length _ _ _ (by omega)]; omega)⟩
      rw [hz] at hc
      clear hz
      have hm1 : m < 8 := by omega
      have hm2 : (m : Int) < 8 := by omega
      go_wp2
      exact ⟨big_round hm HY.out (by omega) (by omega) rfl HO.out HB.out, by simp [intOf]⟩
    · go_wp2
      go_ret
      exact ⟨_, rfl, by simpa [stage] using HO.out, HB.out⟩
def valL (l : List Int) : Nat := l.foldl (fun a c => a * 256 + c.toNat) 0
theorem valL_snoc (l : List Int) (c : Int) : valL (l ++ [c]) = valL l * 256 + c.toNat := by simp [valL, List.foldl_append]
theorem valL_lt (l : List Int) (h : ∀ x ∈ l, 0 ≤ x ∧ x < 256) : valL l < 256 ^ l.length := by
  obtain ⟨r, hr⟩ : ∃ r, r = l.reverse := ⟨_, rfl⟩
  have e : l = r.reverse := by rw [hr, List.reverse_reverse]
  subst e
  clear hr
  induction r with
  | nil => simp [valL]
  | cons c r ih =>
    rw [List.reverse_cons, valL_snoc, List.length_append]
    have h1 := ih (fun x hx => h x (by rw [List.reverse_cons]; exact List.mem_append_left _ hx))
    have h2 := h c (by simp)
    simp only [List.length_cons, List.length_nil, Nat.zero_add, Nat.pow_succ]
    omega
theorem valL_take_lt (l : List Int) (h : ∀ x ∈ l, 0 ≤ x ∧ x < 256) (j : Nat) : valL (l.take j) < 256 ^ j := by
  have h1 := valL_lt (l.take j) (fun x hx => h x (List.mem_of_mem_take hx))
  refine Nat.lt_of_lt_of_le h1 (Nat.pow_le_pow_right (by omega) ?_)
  simp; omega
theorem or_byte (x : Nat) (y : Int) (hx : x < 72057594037927936) (h0 : 0 ≤ y) (h1 : y < 256) : bits BinOp.or IntKind.u64 ((x : Int) * 256) y = ((x * 256 + y.toNat : Nat) : Int) := by
  rw [u64_or _ _ (by omega) (by omega) h0 (by omega)]
  have e : ((x : Int) * 256).toNat = 2 ^ 8 * x := by omega
  rw [e, ← Nat.two_pow_add_eq_or_of_lt (show y.toNat < 2 ^ 8 by omega)]
  congr 1
  omega
theorem small_round {x n j : Nat} {y : Int} {l : List Int} (hx : x < 72057594037927936) (h0 : 0 ≤ y) (h1 : y < 256) (hX : valL (l.take j) = x) (hY : l.getD j 0 = y) (hl : l.length = n) (hj : j < n) :
    ∃ j' : Nat, j' ≤ n ∧ Value.int IntKind.i64 ((j : Int) + 1) = .int .i64 j' ∧ Value.int IntKind.u64 (bits BinOp.or IntKind.u64 ((x : Int) * 256) y) = .int .u64 (valL (l.take j')) := by
  have hjl : j < l.length := by omega
  refine ⟨j + 1, by omega, by go_num, ?_⟩
  rw [or_byte x y hx h0 h1, List.take_succ_eq_append_getElem hjl, valL_snoc, hX, ← getD_of_lt hjl, hY]
def smallNo (n : Nat) (l : List Int) : Nat := if l.length = n then valL l else 0
def smallErr (n : Nat) (l : List Int) : Int := if l.length < n then 10 else if n < l.length then 11 else 0
set_option maxHeartbeats 1000000 in
theorem small_uint8 (w : World) (v : Value) (l : List Int) (h : HB w v l) : Calls Try.prog 95 #[v] w fun e w' => e = .returned (.tuple #[.int .u8 (smallNo 1 l), .int .i64 (smallErr 1 l)]) ∧ w' = w := by
  obtain ⟨p, c, rfl, hlc, hm⟩ := h.open
  unfold maxLen at hm
  by_cases h1 : l.length < 1
  · have HN : Hid (smallNo 1 l = 0) := if_neg (by omega)
    have HE : Hid (smallErr 1 l = 10) := if_pos h1
    have hd : decide ((l.length : Int) < 1) = true := by simp; omega
    rw [HN.out, HE.out]
    clear h
    go_enter Try.func95, Try.ntmps95
    go_wp2_with (go_at_call 56; refine (width_uint8 _).mono ?_; rintro e w' ⟨rfl, hw⟩; have hw' := hw.symm; subst hw'; clear hw)
    go_ret2
    exact ⟨rfl, rfl⟩
  · have hd : decide ((l.length : Int) < 1) = false := by simp; omega
    by_cases h2 : 1 < l.length
    · have HN : Hid (smallNo 1 l = 0) := if_neg (by omega)
      have HE : Hid (smallErr 1 l = 11) := (if_neg h1).trans (if_pos h2)
      have hd2 : decide ((1 : Int) < l.length) = true := by simp; omega
      rw [HN.out, HE.out]
      clear h
      go_enter Try.func95, Try.ntmps95
      go_wp2_with (go_at_call 56; refine (width_uint8 _).mono ?_; rintro e w' ⟨rfl, hw⟩; have hw' := hw.symm; subst hw'; clear hw)
      go_ret2
      exact ⟨rfl, rfl⟩
    · have hl : l.length = 1 := by omega
      have HN : Hid (smallNo 1 l = valL l) := if_pos hl
      have HE : Hid (smallErr 1 l = 0) := (if_neg h1).trans (if_neg h2)
      rw [HN.out, HE.out]
      have hby := h.2
      obtain ⟨b, off, c', e, _, _, hh⟩ := h.ne (by omega)
      simp only [Value.slice.injEq, true_and] at e
      obtain ⟨rfl, rfl⟩ := e
      rw [hl] at hlc ⊢
      have HL := hid hl
      have HBy := hid hby
      clear hd h1 h2 hl h hby
      go_enter Try.func95, Try.ntmps95
      go_wp2_with (go_at_call 56; refine (width_uint8 _).mono ?_; rintro e w' ⟨rfl, hw⟩; have hw' := hw.symm; subst hw'; clear hw)
      go_loop [5, 19] (fun x i => ∃ j : Nat, j ≤ 1 ∧ i = .int .i64 j ∧ x = .int .u64 (valL (l.take j))) (fun _ i => 1 - (intOf i).toNat)
      case atStart => exact ⟨0, Nat.zero_le _, rfl, rfl⟩
      case round =>
        obtain ⟨j, hj, rfl, rfl⟩ := hrel
        have hv := valL_take_lt l HBy.out j
        obtain ⟨x, HX⟩ : ∃ x, Hid (valL (l.take j) = x) := ⟨_, rfl⟩
        rw [HX.out] at hv ⊢
        by_cases hlt : j < 1
        · have hcell := hh j (by rw [HL.out]; exact hlt)
          obtain ⟨y, HY⟩ : ∃ y, Hid (l.getD j 0 = y) := ⟨_, rfl⟩
          rw [HY.out] at hcell
          have hx : x < 72057594037927936 := Nat.lt_of_lt_of_le hv (Nat.pow_le_pow_right (by omega) (by omega : j ≤ 7))
          clear hv hh
          have hy : 0 ≤ y ∧ y < 256 := by
            rw [← HY.out]
            have : j < l.length := by rw [HL.out]; exact hlt
            rw [getD_of_lt this]
            exact HBy.out _ (List.getElem_mem this)
          obtain ⟨hy0, hy1⟩ := hy
          go_wp2
          exact ⟨small_round hx hy0 hy1 HX.out HY.out HL.out hlt, by simp [intOf]; omega⟩
        · have HV : Hid (valL l = x) := by
            show _ = _
            rw [← HX.out, List.take_of_length_le (by rw [HL.out]; omega)]
          have hx : x < 256 := by
            have : j = 1 := by omega
            subst this
            exact hv
          clear hv hh
          go_wp2
          go_ret2
          exact ⟨by rw [HV.out]; first | rfl | (congr 4; omega), rfl⟩
set_option maxHeartbeats 1000000 in
theorem small_uint32 (w : World) (v : Value) (l : List Int) (h : HB w v l) : Calls Try.prog 98 #[v] w fun e w' => e = .returned (.tuple #[.int .u32 (smallNo 4 l), .int .i64 (smallErr 4 l)]) ∧ w' = w := by
  obtain ⟨p, c, rfl, hlc, hm⟩ := h.open
  unfold maxLen at hm
  by_cases h1 : l.length < 4
  · have HN : Hid (smallNo 4 l = 0) := if_neg (by omega)
    have HE : Hid (smallErr 4 l = 10) := if_pos h1
    have hd : decide ((l.length : Int) < 4) = true := by simp; omega
    rw [HN.out, HE.out]
    clear h
    go_enter Try.func98, Try.ntmps98
    go_wp2_with (go_at_call 57; refine (width_uint32 _).mono ?_; rintro e w' ⟨rfl, hw⟩; have hw' := hw.symm; subst hw'; clear hw)
    go_ret2
    exact ⟨rfl, rfl⟩
  · have hd : decide ((l.length : Int) < 4) = false := by simp; omega
    by_cases h2 : 4 < l.length
    · have HN : Hid (smallNo 4 l = 0) := if_neg (by omega)
      have HE : Hid (smallErr 4 l = 11) := (if_neg h1).trans (if_pos h2)
      have hd2 : decide ((4 : Int) < l.length) = true := by simp; omega
      rw [HN.out, HE.out]
      clear h
      go_enter Try.func98, Try.ntmps98
      go_wp2_with (go_at_call 57; refine (width_uint32 _).mono ?_; rintro e w' ⟨rfl, hw⟩; have hw' := hw.symm; subst hw'; clear hw)
      go_ret2
      exact ⟨rfl, rfl⟩
    · have hl : l.length = 4 := by omega
      have HN : Hid (smallNo 4 l = valL l) := if_pos hl
      have HE : Hid (smallErr 4 l = 0) := (if_neg h1).trans (if_neg h2)
      rw [HN.out, HE.out]
      have hby := h.2
      obtain ⟨b, off, c', e, _, _, hh⟩ := h.ne (by omega)
      simp only [Value.slice.injEq, true_and] at e
      obtain ⟨rfl, rfl⟩ := e
      rw [hl] at hlc ⊢
      have HL := hid hl
      have HBy := hid hby
      clear hd h1 h2 hl h hby
      go_enter Try.func98, Try.ntmps98
      go_wp2_with (go_at_call 57; refine (width_uint32 _).mono ?_; rintro e w' ⟨rfl, hw⟩; have hw' := hw.symm; subst hw'; clear hw)
      go_loop [5, 19] (fun x i => ∃ j : Nat, j ≤ 4 ∧ i = .int .i64 j ∧ x = .int .u64 (valL (l.take j))) (fun _ i => 4 - (intOf i).toNat)
      case atStart => exact ⟨0, Nat.zero_le _, rfl, rfl⟩
      case round =>
        obtain ⟨j, hj, rfl, rfl⟩ := hrel
        have hv := valL_take_lt l HBy.out j
        obtain ⟨x, HX⟩ : ∃ x, Hid (valL (l.take j) = x) := ⟨_, rfl⟩
        rw [HX.out] at hv ⊢
        by_cases hlt : j < 4
        · have hcell := hh j (by rw [HL.out]; exact hlt)
          obtain ⟨y, HY⟩ : ∃ y, Hid (l.getD j 0 = y) := ⟨_, rfl⟩
          rw [HY.out] at hcell
          have hx : x < 72057594037927936 := Nat.lt_of_lt_of_le hv (Nat.pow_le_pow_right (by omega) (by omega : j ≤ 7))
          clear hv hh
          have hy : 0 ≤ y ∧ y < 256 := by
            rw [← HY.out]
            have : j < l.length := by rw [HL.out]; exact hlt
            rw [getD_of_lt this]
            exact HBy.out _ (List.getElem_mem this)
          obtain ⟨hy0, hy1⟩ := hy
          go_wp2
          exact ⟨small_round hx hy0 hy1 HX.out HY.out HL.out hlt, by simp [intOf]; omega⟩
        · have HV : Hid (valL l = x) := by
            show _ = _
            rw [← HX.out, List.take_of_length_le (by rw [HL.out]; omega)]
          have hx : x < 4294967296 := by
            have : j = 4 := by omega
            subst this
            exact hv
          clear hv hh
          go_wp2
          go_ret2
          exact ⟨by rw [HV.out]; first | rfl | (congr 4; omega), rfl⟩
set_option maxHeartbeats 1000000 in
theorem small_uint64 (w : World) (v : Value) (l : List Int) (h : HB w v l) : Calls Try.prog 99 #[v] w fun e w' => e = .returned (.tuple #[.int .u64 (smallNo 8 l), .int .i64 (smallErr 8 l)]) ∧ w' = w := by
  obtain ⟨p, c, rfl, hlc, hm⟩ := h.open
  unfold maxLen at hm
  by_cases h1 : l.length < 8
  · have HN : Hid (smallNo 8 l = 0) := if_neg (by omega)
    have HE : Hid (smallErr 8 l = 10) := if_pos h1
    have hd : decide ((l.length : Int) < 8) = true := by simp; omega
    rw [HN.out, HE.out]
    clear h
    go_enter Try.func99, Try.ntmps99
    go_wp2_with (go_at_call 58; refine (width_uint64 _).mono ?_; rintro e w' ⟨rfl, hw⟩; have hw' := hw.symm; subst hw'; clear hw)
    go_ret2
    exact ⟨rfl, rfl⟩
  · have hd : decide ((l.length : Int) < 8) = false := by simp; omega
    by_cases h2 : 8 < l.length
    · have HN : Hid (smallNo 8 l = 0) := if_neg (by omega)
      have HE : Hid (smallErr 8 l = 11) := (if_neg h1).trans (if_pos h2)
      have hd2 : decide ((8 : Int) < l.length) = true := by simp; omega
      rw [HN.out, HE.out]
      clear h
      go_enter Try.func99, Try.ntmps99
      go_wp2_with (go_at_call 58; refine (width_uint64 _).mono ?_; rintro e w' ⟨rfl, hw⟩; have hw' := hw.symm; subst hw'; clear hw)
      go_ret2
      exact ⟨rfl, rfl⟩
    · have hl : l.length = 8 := by omega
      have HN : Hid (smallNo 8 l = valL l) := if_pos hl
      have HE : Hid (smallErr 8 l = 0) := (if_neg h1).trans (if_neg h2)
      rw [HN.out, HE.out]
      have hby := h.2
      obtain ⟨b, off, c', e, _, _, hh⟩ := h.ne (by omega)
      simp only [Value.slice.injEq, true_and] at e
      obtain ⟨rfl, rfl⟩ := e
      rw [hl] at hlc ⊢
      have HL := hid hl
      have HBy := hid hby
      clear hd h1 h2 hl h hby
      go_enter Try.func99, Try.ntmps99
      go_wp2_with (go_at_call 58; refine (width_uint64 _).mono ?_; rintro e w' ⟨rfl, hw⟩; have hw' := hw.symm; subst hw'; clear hw)
      go_loop [5, 19] (fun x i => ∃ j : Nat, j ≤ 8 ∧ i = .int .i64 j ∧ x = .int .u64 (valL (l.take j))) (fun _ i => 8 - (intOf i).toNat)
      case atStart => exact ⟨0, Nat.zero_le _, rfl, rfl⟩
      case round =>
        obtain ⟨j, hj, rfl, rfl⟩ := hrel
        have hv := valL_take_lt l HBy.out j
        obtain ⟨x, HX⟩ : ∃ x, Hid (valL (l.take j) = x) := ⟨_, rfl⟩
        rw [HX.out] at hv ⊢
        by_cases hlt : j < 8
        · have hcell := hh j (by rw [HL.out]; exact hlt)
          obtain ⟨y, HY⟩ : ∃ y, Hid (l.getD j 0 = y) := ⟨_, rfl⟩
          rw [HY.out] at hcell
          have hx : x < 72057594037927936 := Nat.lt_of_lt_of_le hv (Nat.pow_le_pow_right (by omega) (by omega : j ≤ 7))
          clear hv hh
          have hy : 0 ≤ y ∧ y < 256 := by
            rw [← HY.out]
            have : j < l.length := by rw [HL.out]; exact hlt
            rw [getD_of_lt this]
            exact HBy.out _ (List.getElem_mem this)
          obtain ⟨hy0, hy1⟩ := hy
          go_wp2
          exact ⟨small_round hx hy0 hy1 HX.out HY.out HL.out hlt, by simp [intOf]; omega⟩
        · have HV : Hid (valL l = x) := by
            show _ = _
            rw [← HX.out, List.take_of_length_le (by rw [HL.out]; omega)]
          have hx : x < 18446744073709551616 := by
            have : j = 8 := by omega
            subst this
            exact hv
          clear hv hh
          go_wp2
          go_ret2
          exact ⟨by rw [HV.out]; first | rfl | (congr 4; omega), rfl⟩
end Go.Proofs.Ytgjadpidoaianaa
namespace Go.Proofs.Ytgjadpidoaianaa
open Go Go.RowKit
theorem HL.vals {w : World} {v : Value} {ls : List (List Int)} (h : HL w v ls) (h0 : 0 < ls.length) :
    ∃ (b off c : Nat) (us : List Value), v = .slice (some ⟨b, off, none⟩) ls.length c ∧ us.length = ls.length ∧ ∀ j u, us[j]? = some u → w.cell? ⟨b, off + j, none⟩ = some u ∧ HB w u (ls.getD j []) := by
  obtain ⟨b, off, c, rfl, _, _, hh⟩ := h.ne h0
  refine ⟨b, off, c, (List.range ls.length).map (fun j => (w.cell? ⟨b, off + j, none⟩).getD undef), rfl, by simp, fun j u hj => ?_⟩
  have hj2 : j < ls.length := by have := (List.getElem?_eq_some_iff.1 hj).1; simpa using this
  obtain ⟨u', h1, h2⟩ := hh j hj2
  simp [List.getElem?_range, hj2, h1] at hj
  subst hj
  exact ⟨h1, h2⟩
theorem HB.one {w : World} {u : Value} {l : List Int} (h : HB w u l) : u.oneCell' = true := by obtain ⟨p, c, rfl, _⟩ := h.open; rfl
theorem HL.of_own {w : World} {B : Nat} {v : Value} {us : List Value} {ls : List (List Int)} (h : w.ownsRow B 36 1 v us.length us) (hl : us.length = ls.length) (hu : ∀ j u, us[j]? = some u → HB w u (ls.getD j [])) : HL w v ls := by
  rcases h.2 with ⟨rfl, e0⟩ | ⟨g, cap, cur, rfl, hb, hh, hn, hm, hs, ht⟩
  · have : ls = [] := List.length_eq_zero_iff.1 (by omega)
    subst this
    exact HL.nil w
  · refine ⟨_, cap, by rw [hl], by omega, hm, (fun e => by cases e), fun _ => ⟨g, 0, rfl, fun j hj => ?_⟩⟩
    have hj2 : j < us.length := by omega
    refine ⟨us[j], ?_, hu j _ (List.getElem?_eq_getElem hj2)⟩
    rw [cell_of_row _ _ _ _ _ _ hh, Nat.zero_add, ← Array.getElem?_toList]
    have e : cur.toList[j]? = (cur.toList.take (us.length * 1))[j]? := by rw [List.getElem?_take, if_pos (by omega)]
    rw [e, ht, List.getElem?_eq_getElem hj2]
theorem bigL_one (k : Nat) (h : k < 256) : bigL 1 k = [(k : Int)] := by
  have : k % 256 = k := Nat.mod_eq_of_lt h
  simp [bigL, this]
set_option maxRecDepth 100000 in
set_option maxHeartbeats 4000000 in
theorem laid_any (w : World) (k : Nat) (hk : k < 256) (v : Value) (ls : List (List Int)) (h : HL w v ls) (h0 : 0 < ls.length) (h1 : ls.length ≤ 1000) (hbig : ls.flatten.length + 1 ≤ 140737488355328) :
    Calls Try.prog 40 #[.int .u8 (k : Int), v] w fun e w' => ∃ v', e = .returned v' ∧ w'.ownsRow w.heap.size 5 1 v' (ls.flatten.length + 1) (((k : Int) :: ls.flatten).map (Value.int .u8)) ∧ Below w.heap.size w w' := by
  obtain ⟨b, off, c, us, rfl, hlu, hus⟩ := h.vals h0
  have C1 := hid (big_uint8 k hk w)
  rw [bigL_one k hk] at C1
  have HUS := hid hus
  obtain ⟨n, HN⟩ : ∃ n, Hid (ls.length = n) := ⟨_, hid rfl⟩
  rw [HN.out] at h1 hlu
  rw [HN.out]
  clear h hus
  obtain ⟨i0, hi, hz0, hz1, hz2⟩ := info_parts info_bytes
  go_enter Try.func40, Try.ntmps40
  go_wp2_with fail
  refine C1.out.mono ?_
  rintro e w1 ⟨v1, rfl, ho1, hB1⟩
  have hb1 : HB w1 v1 [(k : Int)] := HB.of_own ho1 (by simp; omega)
  obtain ⟨W2, HW2⟩ : ∃ W : World, Hid (w1.alloc (.cells #[v1] 36) = W) := ⟨_, hid rfl⟩
  have O2 : Hid (W2.ownsRow w1.heap.size 36 1 (.slice (some ⟨w1.heap.size, 0, none⟩) 1 1) 1 [v1]) := hid ⟨rfl, .inr ⟨_, _, _, rfl, Nat.le_refl _, by rw [← HW2.out]; exact heap_alloc_new w1 _, Nat.le_refl _, by decide, rfl, rfl⟩⟩
  have B2 : Hid (Below w1.heap.size w1 W2) := by rw [← HW2.out]; exact hid ((Below.refl _ w1).alloc (Nat.le_refl _) _)
  have C3 : Hid (∀ W v', W.ownsRow w1.heap.size 36 1 v' (1 + n) ([v1] ++ us) → Below w1.heap.size w1 W → Calls Try.prog 59 #[v'] W fun e w' => ∃ v', e = .returned v' ∧ w'.ownsRow W.heap.size 5 1 v' (ls.flatten.length + 1) (((k : Int) :: ls.flatten).map (Value.int .u8)) ∧ Below W.heap.size W w') := hid (fun W v' ho hb => by
    have hh : HL W v' ([(k : Int)] :: ls) := HL.of_own (us := [v1] ++ us) (by rw [List.length_append, hlu]; exact ho) (by simp [hlu, HN.out]) (fun j u hj => by
      cases j with
      | zero =>
        simp at hj
        subst hj
        exact hb1.later fun a _ hx => (hb.cell (World.block_lt_of_cell? w1 a hx)).trans hx
      | succ j =>
        have hj' : us[j]? = some u := by simpa using hj
        have := (HUS.out j u hj').2
        have h2 := this.below hB1
        exact h2.later fun a _ hx => (hb.cell (World.block_lt_of_cell? w1 a hx)).trans hx)
    have e1 : ([(k : Int)] :: ls).flatten = (k : Int) :: ls.flatten := by simp
    have := join_any W v' _ hh (by rw [e1, List.length_cons]; exact hbig)
    rw [e1, List.length_cons] at this
    exact this)
  have HB1 := hid hB1
  have hc2 : Hid (∀ j u, us[j]? = some u → W2.cell? (Addr.add ⟨b, off, none⟩ j) = some u) := hid (fun j u hj => by
    rw [Go.WideShapes.add_plain]
    have h1 := (HUS.out j u hj).1
    have hlt := World.block_lt_of_cell? w _ h1
    rw [B2.out.cell (p := ⟨b, off + j, none⟩) (Nat.lt_of_lt_of_le hlt hB1.size), hB1.cell (p := ⟨b, off + j, none⟩) hlt]
    exact h1)
  have hu1 : Hid (∀ u ∈ us, u.oneCell' = true) := hid (fun u hu => by
    obtain ⟨j, hj, rfl⟩ := List.getElem_of_mem hu
    exact (HUS.out j _ (List.getElem?_eq_getElem hj)).2.one)
  obtain ⟨p1, c1, e1, -, -⟩ := hb1.open
  have e1' : v1 = .slice p1 1 c1 := e1
  clear hb1 ho1 hB1 C1 e1
  subst e1'
  go_wp2_with (first | rw [HW2.out] | (at_builtin; refine wpList_append_own _ rfl _ _ 24 rfl w1.heap.size 36 i0 _ 1 24 Try.underlying24 hi hz0 hz1 hz2 rfl (by decide) _ 1 _ rfl O2.out ⟨b, off, none⟩ n c us rfl (by rw [hlu, Nat.mul_one]) hc2.out hu1.out (by unfold maxLen; omega) (by omega) B2.out.size ?_) | fail)
  intro v3 w3 ho3 hg3 _
  have B3 : Hid (Below w1.heap.size w1 w3) := hid (B2.out.grown hg3 B2.out.size (fun k e => (O2.out.lt k e).1))
  have C4 := hid (C3.out w3 v3 ho3 B3.out)
  clear ho3 hg3 C3
  go_wp2_with fail
  refine C4.out.mono ?_
  rintro e w4 ⟨v4, rfl, ho4, hB4⟩
  have HO4 := hid ho4
  have BB : Hid (Below w.heap.size w w4) := hid (HB1.out.trans ((B3.out.mono HB1.out.size).trans (hB4.mono (Nat.le_trans HB1.out.size B3.out.size))))
  have OM : Hid (w4.ownsRow w.heap.size 5 1 v4 (ls.flatten.length + 1) (((k : Int) :: ls.flatten).map (Value.int .u8))) := hid ⟨ho4.1, ho4.2.elim .inl fun ⟨gg, cap, cur, z1, z2, z3⟩ => .inr ⟨gg, cap, cur, z1, Nat.le_trans (Nat.le_trans HB1.out.size B3.out.size) z2, z3⟩⟩
  clear ho4 hB4
  go_wp2_with fail
  go_ret
  exact ⟨v4, rfl, OM.out, BB.out⟩
end Go.Proofs.Ytgjadpidoaianaa
namespace Go.Proofs.Ytgjadpidoaianaa
open Go.RowKit
set_option maxHeartbeats 1000000 in
theorem clone_any (w : World) (v : Value) (l : List Int) (h : HB w v l) (hbig : l.length ≤ 140737488355328) :
    Calls Try.prog 74 #[v] w fun e w' => ∃ v', e = .returned v' ∧ w'.ownsRow w.heap.size 5 1 v' l.length (l.map (Value.int .u8)) ∧ Below w.heap.size w w' := by
  obtain ⟨i0, hi, hz0, hz1, hz2⟩ := info_parts info_u8
  have q22 := eql_nil_bytes
  obtain ⟨⟨p, c, rfl, hlc, hm, _, hcell⟩, hby⟩ := h
  cases p with
  | none =>
    have e : l = [] := by
      apply Classical.byContradiction
      intro hne
      obtain ⟨b, off, e, _⟩ := hcell hne
      cases e
    subst e
    go_enter Try.func74, Try.ntmps74
    go_wp2
    go_ret
    exact ⟨_, rfl, World.ownsRow_nil _ _ _ _, Below.refl _ _⟩
  | some a =>
    have A : Hid (l ≠ [] → ∃ b off, some a = some ⟨b, off, none⟩ ∧ ∀ j, j < l.length → w.cell? ⟨b, off + j, none⟩ = some (.int .u8 (l.getD j 0))) := hcell
    clear hcell
    go_enter Try.func74, Try.ntmps74
    go_wp2_with (at_builtin; refine wpList_append_own _ rfl _ _ 36 rfl w.heap.size 5 i0 (.int .u8 0) 1 1 Try.underlying36 hi hz0 hz1 hz2 rfl (by decide) _ _ _ rfl (World.ownsRow_made w #[] 0 (Nat.le_refl _) (Nat.zero_le _) rfl) a l.length c (l.map (Value.int .u8)) rfl ?qc1 ?qc2 ?qc3 ?qc4 ?qc5 ?qc6 ?_)
    case qc1 => simp
    case qc2 =>
      intro j u hj
      have hjn : j < l.length := by
        have := (List.getElem?_eq_some_iff.1 hj).1
        simpa using this
      refine Lib.cell?_alloc_some _ ?_
      obtain ⟨b, off, e, hh⟩ := A.out (by intro e; subst e; simp at hjn)
      cases e
      rw [Go.WideShapes.add_plain, hh j hjn]
      have e : (l.map (Value.int .u8))[j]? = some (Value.int .u8 (l.getD j 0)) := by simp [List.getD, List.getElem?_eq_getElem hjn]
      rw [e] at hj
      exact hj
    case qc3 => intro u hu; obtain ⟨x, _, rfl⟩ := List.mem_map.1 hu; rfl
    case qc4 => unfold maxLen; omega
    case qc5 => omega
    case qc6 => simp
    intro v' w1 hown hgrow hnil
    go_wp2
    go_ret
    exact ⟨v', rfl, by simpa using hown, ((Below.refl _ w).alloc (Nat.le_refl _) _).grown hgrow (by simp) (by intro k hk; simp [Value.ownBlock] at hk; omega)⟩
theorem grown_set (w : World) (g o : Nat) (u : Value) : w.grownBy (w.setCell ⟨g, o, none⟩ u) (some g) :=
  ⟨rfl, rfl, rfl, by simp, fun k _ hk => heap_setCell_other w ⟨g, o, none⟩ k u (fun e => hk (by simp [e]))⟩
theorem grown_trans {a b c : World} {r : Option Nat} (h : a.grownBy b r) (k : b.grownBy c r) : a.grownBy c r :=
  ⟨k.os.trans h.os, k.tape.trans h.tape, k.output.trans h.output, Nat.le_trans h.size k.size, fun i hi hr => (k.block i (Nat.lt_of_lt_of_le hi h.size) hr).trans (h.block i hi hr)⟩
theorem grown_below {a b : World} {r : Option Nat} (h : Below a.heap.size a b) : a.grownBy b r :=
  ⟨h.os, h.tape, h.output, h.size, fun i hi _ => h.block i hi⟩
theorem HB.sliced {w : World} {p : Option Addr} {c : Nat} {l : List Int} (h : HB w (.slice p l.length c) l) (lo hi m : Nat) (h1 : lo ≤ hi) (h2 : hi ≤ l.length) (h3 : hi ≤ m) (h4 : m ≤ c) : HB w (.slice (if m = lo then p else p.map (·.add lo)) (hi - lo) (m - lo)) ((l.take hi).drop lo) := by
  obtain ⟨⟨p', c', e, hc, hm, hpc, hcell⟩, hby⟩ := h
  simp only [Value.slice.injEq, true_and] at e
  obtain ⟨rfl, rfl⟩ := e
  have hlen : ((l.take hi).drop lo).length = hi - lo := by simp; omega
  refine ⟨⟨_, m - lo, by rw [hlen], by omega, by omega, fun e => ?_, fun hne => ?_⟩, fun x hx => hby x (List.mem_of_mem_take (List.mem_of_mem_drop hx))⟩
  · have : p = none := by
      split at e
      · exact e
      · cases p <;> simp_all
    have := hpc this
    omega
  have hlt : lo < hi := by
    apply Classical.byContradiction
    intro hn
    exact hne (List.length_eq_zero_iff.1 (by omega))
  obtain ⟨b, off, rfl, hk⟩ := hcell (by intro e; subst e; simp at h2; omega)
  rw [if_neg (by omega)]
  refine ⟨b, off + lo, by simp [Go.WideShapes.add_plain], fun j hj => ?_⟩
  rw [hlen] at hj
  have := hk (lo + j) (by omega)
  rw [show off + lo + j = off + (lo + j) by omega, this]
  have e1 : ((l.take hi).drop lo).getD j 0 = l.getD (lo + j) 0 := by
    simp only [List.getD, List.getElem?_drop, List.getElem?_take]
    rw [if_pos (by omega)]
  rw [e1]
theorem HB.pre {w : World} {p : Option Addr} {c : Nat} {l : List Int} (h : HB w (.slice p l.length c) l) (n : Nat) (hn : n ≤ l.length) : HB w (.slice p n n) (l.take n) := by
  obtain ⟨p', c', e, hc, _⟩ := h.open
  simp only [Value.slice.injEq, true_and] at e
  obtain ⟨rfl, rfl⟩ := e
  have := h.sliced 0 n n (Nat.zero_le _) hn (Nat.le_refl _) (by omega)
  have e : (if n = 0 then p else p.map (·.add 0)) = p := by
    split
    · rfl
    · cases p <;> simp [Addr.add]
  simpa [e] using this
theorem HB.suf {w : World} {p : Option Addr} {c : Nat} {l : List Int} (h : HB w (.slice p l.length c) l) (n : Nat) (hn : n ≤ l.length) : HB w (.slice (if c = n then p else p.map (·.add n)) (l.length - n) (c - n)) (l.drop n) := by
  obtain ⟨p', c', e, hc, _⟩ := h.open
  simp only [Value.slice.injEq, true_and] at e
  obtain ⟨rfl, rfl⟩ := e
  have := h.sliced n l.length c hn (Nat.le_refl _) hc (Nat.le_refl _)
  rwa [List.take_of_length_le (Nat.le_refl _)] at this
theorem HB.slice_form {w : World} {v : Value} {l : List Int} (h : HB w v l) : ∃ p c, v = .slice p l.length c := by
  obtain ⟨p, c, e, _⟩ := h.open
  exact ⟨p, c, e⟩
end Go.Proofs.Ytgjadpidoaianaa
