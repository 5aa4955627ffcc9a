/- Of the road to octetChunks_holds: EvOps, EvPure, EvRead, EvStep. -/
import Derived.Test.YtnifnoadfepegaaG00
import Derived.Laws.Entries
import Derived.Laws.Concat
import Derived.Laws.Strings
set_option linter.unusedVariables false
set_option linter.unusedSimpArgs false
namespace Go.Proofs.Ytnifnoadfepegaa.Ev
open Go Go.RowKit
def ofScalar : Value → Option SV
  | .int k n => some (.int k (.lit n))
  | .bool b => some (.bool b)
  | .pointer none => some .nilp
  | .slice none l c => some (.nils l c)
  | .nilFunc => some .nilf
  | .map none => some .nilm
  | .nilIface => some .nili
  | .string s => some (.str (s.data.toList.map UInt8.toNat))
  | _ => none
def evGet (t : Tm) : Operand → Option AV
  | .tmp i => t.get i
  | .const v => (ofScalar v).map fun s => .tv (.sc s)
  | .func f => some (.tv (.sc (.clo f [])))
  | .global g => if g < nGl then some (.tv (.sc (.ptr g 0))) else none
theorem bytesOf_self (s : ByteArray) : bytesOf (s.data.toList.map UInt8.toNat) = s := by
  unfold bytesOf
  obtain ⟨⟨l⟩⟩ := s
  simp only [List.map_map]
  congr 2
  conv => rhs; rw [← List.map_id l]
  refine List.map_congr_left fun x _ => ?_
  simp
theorem ofScalar_inst {ρ : Env} {ms : List Nat} {v : Value} {s : SV} (h : ofScalar v = some s) : s.inst ρ ms = some v := by
  cases v <;> simp [ofScalar] at h
  case int => subst h; rfl
  case bool => subst h; rfl
  case pointer a => cases a <;> simp at h; subst h; rfl
  case slice a l c => cases a <;> simp at h; subst h; rfl
  case map a => cases a <;> simp at h; subst h; rfl
  case nilFunc => subst h; rfl
  case nilIface => subst h; rfl
  case string s => subst h; simp only [SV.inst, bytesOf_self]
theorem evGet_ok {ρ : Env} {ms : List Nat} {t : Tm} {a : Act} (hT : RelT ρ ms t a.tmps) {x : Operand} {v : AV} (h : evGet t x = some v) : v.inst ρ ms = some (a.eval x) := by
  cases x with
  | tmp i =>
    obtain ⟨u, h1, h2⟩ := hT.get h
    rw [h2]
    simp [Act.eval, Array.getD_eq_getD_getElem?, h1]
  | const c =>
    simp only [evGet, Option.map_eq_some_iff] at h
    obtain ⟨s, h1, rfl⟩ := h
    exact ofScalar_inst h1
  | func f =>
    simp only [evGet, Option.some.injEq] at h
    subst h
    rfl
  | global g =>
    simp only [evGet] at h
    split at h <;> cases h
    rename_i hg
    simp only [AV.inst, TV.inst, SV.inst, addr, hT.gl g hg, Option.map_some]
    rfl
def gPtr (t : Tm) (x : Operand) : Option (Nat × Nat) :=
  match evGet t x with
  | some (.tv (.sc (.ptr n o))) => some (n, o)
  | _ => none
def gInt (t : Tm) (x : Operand) : Option (IntKind × Int) :=
  match evGet t x with
  | some (.tv (.sc (.int k (.lit n)))) => some (k, n)
  | _ => none
def gCells (t : Tm) (x : Operand) : Option (List SV) :=
  match evGet t x with
  | some (.tv (.sc s)) => some [s]
  | some (.tv (.agg l)) => some l
  | _ => none
def gAgg (t : Tm) (x : Operand) : Option (List SV) :=
  match evGet t x with
  | some (.tv (.agg l)) => some l
  | _ => none
section
variable {ρ : Env} {ms : List Nat} {t : Tm} {a : Act}
theorem gPtr_ok (hT : RelT ρ ms t a.tmps) {x : Operand} {n o : Nat} (h : gPtr t x = some (n, o)) : ∃ b, ms[n]? = some b ∧ a.eval x = .pointer (some ⟨b, o, none⟩) := by
  unfold gPtr at h
  split at h
  · rename_i n' o' he
    simp only [Option.some.injEq, Prod.mk.injEq] at h
    obtain ⟨rfl, rfl⟩ := h
    have h1 := evGet_ok hT he
    simp only [AV.inst, TV.inst, SV.inst, addr, Option.map_eq_some_iff] at h1
    obtain ⟨b, hb, hv⟩ := h1
    exact ⟨b, hb, hv.symm⟩
  · cases h
theorem gInt_ok (hT : RelT ρ ms t a.tmps) {x : Operand} {k : IntKind} {n : Int} (h : gInt t x = some (k, n)) : a.eval x = .int k n := by
  unfold gInt at h
  split at h
  · rename_i k' n' he
    simp only [Option.some.injEq, Prod.mk.injEq] at h
    obtain ⟨rfl, rfl⟩ := h
    have h1 := evGet_ok hT he
    simp only [AV.inst, TV.inst, SV.inst, Ex.den, Option.some.injEq] at h1
    exact h1.symm
  · cases h
theorem gAgg_ok (hT : RelT ρ ms t a.tmps) {x : Operand} {l : List SV} (h : gAgg t x = some l) : ∃ vs : List Value, l.map (SV.inst ρ ms) = vs.map some ∧ a.eval x = .agg vs.toArray := by
  unfold gAgg at h
  split at h
  · rename_i l' he
    simp only [Option.some.injEq] at h
    subst h
    have h1 := evGet_ok hT he
    simp only [AV.inst, TV.inst, Option.map_eq_some_iff] at h1
    obtain ⟨vs, hb, hv⟩ := h1
    exact ⟨vs, (seqO_iff _ _).1 hb, hv.symm⟩
  · cases h
theorem gCells_ok (hT : RelT ρ ms t a.tmps) {x : Operand} {l : List SV} (h : gCells t x = some l) : ∃ vs : List Value, l.map (SV.inst ρ ms) = vs.map some ∧ (a.eval x).cells = vs.toArray := by
  unfold gCells at h
  split at h
  · rename_i s he
    simp only [Option.some.injEq] at h
    subst h
    have h1 := evGet_ok hT he
    simp only [AV.inst, TV.inst] at h1
    have h2 := SV.inst_one h1
    refine ⟨[a.eval x], by simp [h1], ?_⟩
    generalize a.eval x = v at *
    cases v <;> first | rfl | (exfalso; revert h2; simp [Value.oneCell'])
  · rename_i l' he
    simp only [Option.some.injEq] at h
    subst h
    have h1 := evGet_ok hT he
    simp only [AV.inst, TV.inst, Option.map_eq_some_iff] at h1
    obtain ⟨vs, hb, hv⟩ := h1
    exact ⟨vs, (seqO_iff _ _).1 hb, by rw [← hv]; rfl⟩
  · cases h
end
def span (H : List Blk) (i o n : Nat) : Option (List SV) :=
  match H[i]? with
  | some k =>
    let l := (k.cells.drop o).take n
    if l.length = n then some l else none
  | none => none
def Sees (ρ : Env) (ms : List Nat) (H : List Blk) (w : World) (i : Nat) : Prop :=
  ∀ (b : Nat) (k : Blk), ms[i]? = some b → H[i]? = some k → ∀ (j : Nat) (s : SV), k.cells[j]? = some s → ∃ v, s.inst ρ ms = some v ∧ w.cell? ⟨b, j, none⟩ = some v
theorem Holds.sees {ρ : Env} {ms : List Nat} {H : List Blk} {B : Nat} {w : World} (h : Holds ρ ms H B w) (i : Nat) : Sees ρ ms H w i := fun b k hb hk j s hs => by
  obtain ⟨v, h1, h2, _⟩ := h.cell i b k hb hk j s hs
  exact ⟨v, h1, h2⟩
def SeesAt (ρ : Env) (ms : List Nat) (H : List Blk) (w : World) (i o n : Nat) : Prop :=
  ∀ (b : Nat) (k : Blk), ms[i]? = some b → H[i]? = some k → ∀ (j : Nat) (s : SV), o ≤ j → j < o + n → k.cells[j]? = some s → ∃ v, s.inst ρ ms = some v ∧ w.cell? ⟨b, j, none⟩ = some v
theorem Sees.at {ρ : Env} {ms : List Nat} {H : List Blk} {w : World} {i : Nat} (h : Sees ρ ms H w i) (o n : Nat) : SeesAt ρ ms H w i o n := fun b k hb hk j s _ _ hs => h b k hb hk j s hs
theorem span_ok {ρ : Env} {ms : List Nat} {H : List Blk} {w : World} {i o n b : Nat} (hH : SeesAt ρ ms H w i o n) {l : List SV} (hb : ms[i]? = some b) (h : span H i o n = some l) :
    ∃ vs : List Value, l.map (SV.inst ρ ms) = vs.map some ∧ vs.length = n ∧ w.rangeAt b o vs := by
  unfold span at h
  split at h
  case h_2 => cases h
  rename_i k hk
  dsimp only at h
  split at h
  case isFalse => cases h
  rename_i hle0
  have hle : n ≤ k.cells.length - o := by
    rw [List.length_take, List.length_drop] at hle0
    omega
  simp only [Option.some.injEq] at h
  have key : ∀ j, j < n → ∃ s v, l[j]? = some s ∧ s.inst ρ ms = some v ∧ w.cell? ⟨b, o + j, none⟩ = some v := fun j hj => by
    have hj2 : o + j < k.cells.length := by omega
    obtain ⟨v, h1, h2⟩ := hH b k hb hk (o + j) _ (by omega) (by omega) (List.getElem?_eq_getElem hj2)
    refine ⟨_, v, ?_, h1, h2⟩
    rw [← h, List.getElem?_take, if_pos hj, List.getElem?_drop, List.getElem?_eq_getElem hj2]
  have hl : l.length = n := by rw [← h]; simp; omega
  have hall : ∀ s ∈ l, ∃ v, s.inst ρ ms = some v := fun s hs => by
    obtain ⟨j, hj, rfl⟩ := List.getElem_of_mem hs
    obtain ⟨s', v, h1, h2, _⟩ := key j (by omega)
    rw [List.getElem?_eq_getElem hj] at h1
    cases h1
    exact ⟨v, h2⟩
  refine ⟨l.map fun s => (s.inst ρ ms).getD default, ?_, by simp [hl], ?_⟩
  · rw [List.map_map]
    refine List.map_congr_left fun s hs => ?_
    obtain ⟨v, hv⟩ := hall s hs
    simp [hv]
  · intro j v hv
    rw [List.getElem?_map, Option.map_eq_some_iff] at hv
    obtain ⟨s, h1, h2⟩ := hv
    have hj : j < n := by rw [← hl]; exact (List.getElem?_eq_some_iff.1 h1).1
    obtain ⟨s', v', h3, h4, h5⟩ := key j hj
    rw [h3] at h1
    cases h1
    rw [h4] at h2
    simp only [Option.getD_some] at h2
    rw [← h2]; exact h5
def rowOf (P : Program) (T : TypeId) : Option (Bool × Nat) :=
  match P.underlying T, P.info? T with
  | some d, some i => some (d.isRow, i.size)
  | _, _ => none
theorem rowOf_ok {P : Program} {T : TypeId} {r : Bool} {n : Nat} (h : rowOf P T = some (r, n)) : ∃ d i, P.underlying T = some d ∧ P.info? T = some i ∧ d.isRow = r ∧ i.size = n := by
  unfold rowOf at h
  split at h
  · rename_i d i h1 h2
    simp only [Option.some.injEq, Prod.mk.injEq] at h
    exact ⟨d, i, h1, h2, h.1, h.2⟩
  · cases h
def loadLen (P : Program) (T : TypeId) : Nat := match rowOf P T with | some (true, s) => s | _ => 1
def evLoad (P : Program) (t : Tm) (H : List Blk) (T : TypeId) (x : Operand) : Option AV :=
  match gPtr t x, rowOf P T with
  | some (n, o), some (true, s) => (span H n o s).map fun l => .tv (.agg l)
  | some (n, o), some (false, _) =>
    match span H n o 1 with
    | some [s] => some (.tv (.sc s))
    | _ => none
  | _, _ => none
theorem isAgg_run {P : Program} {T : TypeId} {d : TypeDesc} (h : P.underlying T = some d) (w : World) : (isAgg T).run P w = .ok d.isRow w := by
  unfold isAgg
  rw [Sem.run_bind, run_underlying h w]
  cases d <;> simp
theorem evLoad_ok {P : Program} {ρ : Env} {ms : List Nat} {t : Tm} {H : List Blk} {w : World} {a : Act} {T : TypeId} {x : Operand} {v : AV}
    (hT : RelT ρ ms t a.tmps) (hH : ∀ n o, gPtr t x = some (n, o) → SeesAt ρ ms H w n o (loadLen P T)) (h : evLoad P t H T x = some v) : ∃ u, v.inst ρ ms = some u ∧ (Instr.loadAt T (a.eval x)).run P w = .ok u w := by
  unfold evLoad at h
  split at h
  · rename_i n o s h1 h2
    obtain ⟨b, hb, he⟩ := gPtr_ok hT h1
    obtain ⟨d, i, hu, hi, hd, hs⟩ := rowOf_ok h2
    rw [Option.map_eq_some_iff] at h
    obtain ⟨l, hl, rfl⟩ := h
    have hS := hH n o h1
    simp only [loadLen, h2] at hS
    obtain ⟨vs, e1, e2, e3⟩ := span_ok hS hb hl
    refine ⟨.agg vs.toArray, ?_, ?_⟩
    · simp only [AV.inst, TV.inst, (seqO_iff _ _).2 e1, Option.map_some]
    · rw [he]
      exact run_loadAt_mid w b o T vs d e3 hu hd (by simp [hi, hs, e2])
  · rename_i n o s h1 h2
    obtain ⟨b, hb, he⟩ := gPtr_ok hT h1
    obtain ⟨d, i, hu, hi, hd, hs⟩ := rowOf_ok h2
    split at h
    case h_2 => cases h
    rename_i s1 hsp
    simp only [Option.some.injEq] at h
    subst h
    have hS := hH n o h1
    simp only [loadLen, h2] at hS
    obtain ⟨vs, e1, e2, e3⟩ := span_ok hS hb hsp
    match vs, e2 with
    | [u], _ =>
      simp only [List.map_cons, List.map_nil, List.cons.injEq, and_true] at e1
      refine ⟨u, e1, ?_⟩
      rw [he]
      have hc := e3 0 u rfl
      simp only [Nat.add_zero] at hc
      have hag := isAgg_run hu w
      rw [hd] at hag
      simp [Instr.loadAt, Instr.sureAddr, loadVar, hag, load, Sem.run, hc]
  · cases h
def over : List SV → Nat → List SV → List SV
  | [], _, _ => []
  | c :: cs, 0, ns => match ns with | [] => c :: cs | n :: ns => n :: over cs 0 ns
  | c :: cs, o + 1, ns => c :: over cs o ns
def evStore (P : Program) (t : Tm) (H : List Blk) (T : TypeId) (x y : Operand) : Option (List Blk) :=
  match gPtr t x, gCells t y, rowOf P T with
  | some (n, o), some l, some (_, s) =>
    match H[n]? with
    | some k => if k.ro = false ∧ l.length = s ∧ 0 < s ∧ ((k.cells.drop o).take s).length = s then some (H.set n ⟨false, k.pl && l.all SV.plain, 0, over k.cells o l⟩) else none
    | none => none
  | _, _, _ => none
theorem over_get : ∀ (l : List SV) (o : Nat) (n : List SV), o + n.length ≤ l.length → ∀ j, (over l o n)[j]? = if o ≤ j ∧ j < o + n.length then n[j - o]? else l[j]?
  | [], o, n, h, j => by
    have : n = [] := List.length_eq_zero_iff.1 (by simp only [List.length_nil] at h; omega)
    subst this
    simp [over]
  | c :: cs, 0, [], _, j => by simp [over]
  | c :: cs, 0, n :: ns, h, j => by
    simp only [over]
    cases j with
    | zero => simp
    | succ j =>
      rw [List.getElem?_cons_succ, over_get cs 0 ns (by simp at h; omega) j]
      simp only [Nat.zero_le, true_and, Nat.zero_add, Nat.sub_zero, List.length_cons, List.getElem?_cons_succ]
      by_cases hj : j < ns.length
      · rw [if_pos hj, if_pos (by omega)]
      · rw [if_neg hj, if_neg (by omega)]
  | c :: cs, o + 1, ns, h, j => by
    simp only [over]
    cases j with
    | zero => simp
    | succ j =>
      rw [List.getElem?_cons_succ, over_get cs o ns (by simp at h; omega) j, List.getElem?_cons_succ]
      by_cases hj : o ≤ j ∧ j < o + ns.length
      · rw [if_pos hj, if_pos (by omega), show j + 1 - (o + 1) = j - o by omega]
      · rw [if_neg hj, if_neg (by omega)]
theorem over_all {p : SV → Bool} : ∀ (l : List SV) (o : Nat) (n : List SV), l.all p = true → n.all p = true → (over l o n).all p = true
  | [], _, _, _, _ => rfl
  | c :: cs, 0, [], h, _ => h
  | c :: cs, 0, n :: ns, h, h2 => by
    simp only [List.all_cons, Bool.and_eq_true] at h h2
    simp only [over, List.all_cons, Bool.and_eq_true]
    exact ⟨h2.1, over_all cs 0 ns h.2 h2.2⟩
  | c :: cs, o + 1, ns, h, h2 => by
    simp only [List.all_cons, Bool.and_eq_true] at h
    simp only [over, List.all_cons, Bool.and_eq_true]
    exact ⟨h.1, over_all cs o ns h.2 h2⟩
theorem cell_setCells_isSome (b : Nat) (vs : List Value) (o : Nat) (w : World) (x : Addr) (hth : w.there b o vs.length) (h : (w.cell? x).isSome = true) : ((w.setCells b o vs).cell? x).isSome = true := by
  by_cases hx : x.block = b → x.spot = none → x.off < o ∨ o + vs.length ≤ x.off
  · rw [World.cell?_setCells_out b vs o w x hx]; exact h
  · obtain ⟨xb, xo, xs⟩ := x
    have e1 : xb = b := by
      by_cases e : xb = b
      · exact e
      · exact absurd (fun e2 => absurd e2 e) hx
    have e2 : xs = none := by
      by_cases e : xs = none
      · exact e
      · exact absurd (fun _ e2 => absurd e2 e) hx
    subst e1 e2
    have e3 : ¬ (xo < o ∨ o + vs.length ≤ xo) := fun e => hx (fun _ _ => e)
    have hj : xo - o < vs.length := by omega
    have := World.rangeAt_setCells_same w xb o vs hth (xo - o) (vs[xo - o]) (List.getElem?_eq_getElem hj)
    rw [show o + (xo - o) = xo by omega] at this
    rw [this]; rfl
theorem Holds.store {ρ : Env} {ms : List Nat} {H : List Blk} {B : Nat} {w : World} (hH : Holds ρ ms H B w) {n b o : Nat} {k : Blk} {l : List SV} {vs : List Value}
    (hb : ms[n]? = some b) (hk : H[n]? = some k) (hl : l.map (SV.inst ρ ms) = vs.map some) (ho : o + l.length ≤ k.cells.length) (hl0 : 0 < l.length) (hr : k.ro = false) :
    Holds ρ ms (H.set n ⟨false, k.pl && l.all SV.plain, 0, over k.cells o l⟩) B (w.setCells b o vs) := by
  have hlen : l.length = vs.length := by have := congrArg List.length hl; simpa using this
  have hsz : ∀ (vs : List Value) (o : Nat) (w : World), (w.setCells b o vs).heap.size = w.heap.size := by
    intro vs
    induction vs with
    | nil => intro o w; rfl
    | cons v r ih => intro o w; rw [World.setCells, ih]; simp
  have hth : w.there b o vs.length := fun j hj => by
    have hj2 : o + j < k.cells.length := by omega
    obtain ⟨v, _, h2, h3⟩ := hH.cell n b k hb hk (o + j) _ (List.getElem?_eq_getElem hj2)
    exact ⟨by rw [h2]; rfl, h3 hr⟩
  have hkn : k.cells ≠ [] := fun e => by rw [e, List.length_nil] at ho; omega
  have key : ∀ (i : Nat) (k' : Blk), (H.set n ⟨false, k.pl && l.all SV.plain, 0, over k.cells o l⟩)[i]? = some k' → k'.cells ≠ [] → ∃ k2, H[i]? = some k2 ∧ k2.cells ≠ [] := fun i k' hk' hne => by
    rw [List.getElem?_set] at hk'
    by_cases e : n = i
    · subst e; exact ⟨k, hk, hkn⟩
    · rw [if_neg e] at hk'; exact ⟨k', hk', hne⟩
  refine ⟨by rw [List.length_set]; exact hH.len, hH.gl, ?_, ?_, ?_, ?_, ?_, ?_, ?_⟩
  · intro i j b' k1 k2 hi hj hk1 hk2 hn1 hn2
    obtain ⟨k3, h3, h4⟩ := key i k1 hk1 hn1
    obtain ⟨k5, h5, h6⟩ := key j k2 hk2 hn2
    exact hH.inj i j b' k3 k5 hi hj h3 h5 h4 h6
  · intro i b' k' hi hk' hr'
    rw [List.getElem?_set] at hk'
    by_cases e : n = i
    · subst e
      rw [hb] at hi
      cases hi
      exact hH.low n b k hb hk hr
    · rw [if_neg e] at hk'; exact hH.low i b' k' hi hk' hr'
  · intro i b' k' hi hk' hne
    obtain ⟨k3, h3, h4⟩ := key i k' hk' hne
    rw [hsz]; exact hH.bnd i b' k3 hi h3 h4
  · rw [hsz]; exact hH.big
  · intro i k' hk' hp
    rw [List.getElem?_set] at hk'
    by_cases e : n = i
    · subst e
      rw [if_pos rfl] at hk'
      split at hk'
      case isFalse => cases hk'
      simp only [Option.some.injEq] at hk'
      subst hk'
      simp only [Bool.and_eq_true] at hp
      have h1 := hH.plain n k hk hp.1
      exact over_all _ _ _ h1 hp.2
    · rw [if_neg e] at hk'; exact hH.plain i k' hk' hp
  · intro i b' k' hi hk' j s hs
    rw [World.frozen?_setCells]
    rw [List.getElem?_set] at hk'
    by_cases e : n = i
    · subst e
      rw [hb] at hi
      cases hi
      rw [if_pos rfl] at hk'
      split at hk'
      case isFalse => cases hk'
      simp only [Option.some.injEq] at hk'
      subst hk'
      simp only at hs
      rw [over_get _ _ _ ho] at hs
      by_cases hin : o ≤ j ∧ j < o + l.length
      · rw [if_pos hin] at hs
        have e1 : (l.map (SV.inst ρ ms))[j - o]? = (vs.map some)[j - o]? := by rw [hl]
        simp only [List.getElem?_map, hs] at e1
        cases hv : vs[j - o]? with
        | none => rw [hv] at e1; simp at e1
        | some v =>
          rw [hv] at e1
          simp only [Option.map_some, Option.some.injEq] at e1
          refine ⟨v, e1, ?_, ?_⟩
          · have := World.rangeAt_setCells_same w b o vs hth (j - o) v hv
            rw [show o + (j - o) = j by omega] at this
            exact this
          · intro _
            have := (hth (j - o) (by omega)).2
            rw [show o + (j - o) = j by omega] at this
            exact this
      · rw [if_neg hin] at hs
        obtain ⟨v, h1, h2, h3⟩ := hH.cell n b k hb hk j s hs
        refine ⟨v, h1, ?_, fun _ => h3 hr⟩
        rw [World.cell?_setCells_out b vs o w ⟨b, j, none⟩ (fun _ _ => by show j < o ∨ o + vs.length ≤ j; omega)]
        exact h2
    · rw [if_neg e] at hk'
      obtain ⟨v, h1, h2, h3⟩ := hH.cell i b' k' hi hk' j s hs
      refine ⟨v, h1, ?_, h3⟩
      rw [World.cell?_setCells_out b vs o w ⟨b', j, none⟩ (fun hbb _ => by
        simp only at hbb
        subst hbb
        exact absurd (hH.inj n i b' k k' hb hi hk hk' hkn (mem_nil_of_get hs)) e)]
      exact h2
  · intro i b' c k0 k' hi hc hk0 hr0 hn0 hk' hcap j hj
    rw [World.frozen?_setCells]
    rw [List.getElem?_set] at hk'
    have hk2 : H[i + 1]? = some k' := by
      by_cases e : n = i + 1
      · rw [if_pos e] at hk'
        split at hk'
        · simp only [Option.some.injEq] at hk'; subst hk'; simp at hcap
        · cases hk'
      · rw [if_neg e] at hk'; exact hk'
    obtain ⟨k3, h3, h4, h5⟩ : ∃ k3, H[i]? = some k3 ∧ k3.ro = false ∧ k3.cells ≠ [] := by
      rw [List.getElem?_set] at hk0
      by_cases e : n = i
      · subst e; exact ⟨k, hk, hr, hkn⟩
      · rw [if_neg e] at hk0; exact ⟨k0, hk0, hr0, hn0⟩
    obtain ⟨q1, q2⟩ := hH.room i b' c k3 k' hi hc h3 h4 h5 hk2 hcap j hj
    exact ⟨cell_setCells_isSome b vs o w _ hth q1, q2⟩
theorem below_setCells {B b : Nat} (hb : B ≤ b) : ∀ (vs : List Value) (o : Nat) (a w : World), Bel B a w → Bel B a (w.setCells b o vs)
  | [], _, _, _, h => h
  | v :: r, o, a, w, h => by rw [World.setCells]; exact below_setCells hb r (o + 1) a _ (h.setCell hb v)
theorem evStore_ok {P : Program} {ρ : Env} {ms : List Nat} {t : Tm} {H H' : List Blk} {B : Nat} {w : World} {a : Act} {T : TypeId} {x y : Operand}
    (hT : RelT ρ ms t a.tmps) (hH : Holds ρ ms H B w) (h : evStore P t H T x y = some H') : ∃ w', (Instr.storeAt T (a.eval x) (a.eval y)).run P w = .ok () w' ∧ Holds ρ ms H' B w' ∧ Bel B w w' := by
  unfold evStore at h
  split at h
  case h_2 => cases h
  rename_i n o l r s h1 h2 h3
  split at h
  case h_2 => cases h
  rename_i k hk
  split at h
  case isFalse => cases h
  rename_i hc
  obtain ⟨hro, hls, hs0, hle0⟩ := hc
  have hle : o + s ≤ k.cells.length := by
    rw [List.length_take, List.length_drop] at hle0
    omega
  simp only [Option.some.injEq] at h
  subst h
  obtain ⟨b, hb, he⟩ := gPtr_ok hT h1
  obtain ⟨vs, hv, hcs⟩ := gCells_ok hT h2
  obtain ⟨d, i, hu, hi, hd, hs⟩ := rowOf_ok h3
  have hlen : l.length = vs.length := by have := congrArg List.length hv; simpa using this
  refine ⟨w.setCells b o vs, ?_, hH.store hb hk hv (by omega) (by omega) hro, below_setCells (hH.low n b k hb hk hro) vs o w w (Bel.refl _ _)⟩
  have hth : w.there b o vs.length := fun j hj => by
    have hj2 : o + j < k.cells.length := by omega
    obtain ⟨v, _, h2, h3⟩ := hH.cell n b k hb hk (o + j) _ (List.getElem?_eq_getElem hj2)
    exact ⟨by rw [h2]; rfl, h3 hro⟩
  have hone : ∀ v ∈ vs, v.oneCell' = true := fun v hvv => by
    obtain ⟨j, hj, rfl⟩ := List.getElem_of_mem hvv
    have e1 : (l.map (SV.inst ρ ms))[j]? = (vs.map some)[j]? := by rw [hv]
    simp only [List.getElem?_map, List.getElem?_eq_getElem hj, List.getElem?_eq_getElem (show j < l.length by omega), Option.map_some, Option.some.injEq] at e1
    exact SV.inst_one e1
  have := run_storeCells_cells (P := P) b o vs 0 w (fun j hj => by simpa using (hth j hj).1) (fun j hj => by simpa using (hth j hj).2) hone
  simp only [Nat.add_zero] at this
  rw [he]
  have hsz : vs.length = i.size := by omega
  simp [Instr.storeAt, Instr.sureAddr, storeVar, sizeOf, typeInfo, hi, hcs, hsz, this]
end Go.Proofs.Ytnifnoadfepegaa.Ev
namespace Go.Proofs.Ytnifnoadfepegaa.Ev
open Go Go.RowKit
def mkBit (op : BinOp) (k : IntKind) : Ex → Ex → Ex
  | .lit a, .lit b => .lit (bitsOf op k a b)
  | a, b => .bit op k a b
def mkAri (op : BinOp) (k : IntKind) : Ex → Ex → Ex
  | .lit a, .lit b => .lit (ariOf op k a b)
  | a, b => .ari op k a b
def mkShl (k : IntKind) (n : Nat) : Ex → Ex
  | .lit a => .lit (k.wrap (a * 2 ^ n))
  | a => .shl k a n
def mkShr (n : Nat) : Ex → Ex
  | .lit a => .lit (a.fdiv (2 ^ n))
  | .shr a m => .shr a (m + n)
  | a => if n = 0 then a else .shr a n
def mkCon (k : IntKind) : Ex → Ex
  | .lit a => .lit (k.wrap a)
  | a => .con k a
theorem mkBit_den (ρ : Env) (op : BinOp) (k : IntKind) (a b : Ex) : (mkBit op k a b).den ρ = bitsOf op k (a.den ρ) (b.den ρ) := by unfold mkBit; split <;> rfl
theorem mkAri_den (ρ : Env) (op : BinOp) (k : IntKind) (a b : Ex) : (mkAri op k a b).den ρ = ariOf op k (a.den ρ) (b.den ρ) := by unfold mkAri; split <;> rfl
theorem mkShl_den (ρ : Env) (k : IntKind) (n : Nat) (a : Ex) : (mkShl k n a).den ρ = k.wrap (a.den ρ * 2 ^ n) := by unfold mkShl; split <;> rfl
theorem mkShr_den (ρ : Env) (n : Nat) (a : Ex) : (mkShr n a).den ρ = (a.den ρ).fdiv (2 ^ n) := by
  have pos : ∀ n : Nat, (0 : Int) ≤ 2 ^ n := fun n => Int.le_of_lt (Int.pow_pos (by decide))
  unfold mkShr
  split
  · rfl
  · rename_i a m
    simp only [Ex.den]
    rw [Int.fdiv_eq_ediv_of_nonneg _ (pos _), Int.fdiv_eq_ediv_of_nonneg _ (pos _), Int.fdiv_eq_ediv_of_nonneg _ (pos _), Int.pow_add, Int.ediv_ediv_of_nonneg (pos m)]
  · split
    · rename_i h
      subst h
      rw [Int.pow_zero, Int.fdiv_eq_ediv_of_nonneg _ (by decide), Int.ediv_one]
    · rfl
theorem mkCon_den (ρ : Env) (k : IntKind) (a : Ex) : (mkCon k a).den ρ = k.wrap (a.den ρ) := by unfold mkCon; split <;> rfl
def cmpOf (op : BinOp) (x y : Int) : Option Bool :=
  match op with
  | .eql => some (x == y)
  | .neq => some (x != y)
  | .lss => some (decide (x < y))
  | .leq => some (decide (x ≤ y))
  | .gtr => some (decide (x > y))
  | .geq => some (decide (x ≥ y))
  | _ => none
def eqv : Value → Value → Bool
  | .int k a, .int k' b => k == k' && a == b
  | .bool a, .bool b => a == b
  | _, _ => false
def alike : Value → Value → Bool
  | .int k _, .int k' _ => k == k'
  | _, _ => false
def all2 {α β : Type} (f : α → β → Bool) : List α → List β → Bool
  | [], [] => true
  | x :: xs, y :: ys => f x y && all2 f xs ys
  | _, _ => false
structure LoreOk (ρ : Env) (L : Lore) : Prop where
  fact : ∀ op a b r, L.fact op a b = some r → cmpOf op (a.den ρ) (b.den ρ) = some r
  nm : ∀ e, (L.nm e).den ρ = e.den ρ
  factA : ∀ l l' r, L.factA l l' = some r → ∀ (ms : List Nat) (vs us : List Value), l.map (SV.inst ρ ms) = vs.map some → l'.map (SV.inst ρ ms) = us.map some → all2 alike vs us = true ∧ all2 eqv vs us = r
def nmOf (L : Lore) : Ex → Ex
  | .lit n => .lit n
  | e => L.nm e
theorem nmOf_den {ρ : Env} {L : Lore} (hL : LoreOk ρ L) (e : Ex) : (nmOf L e).den ρ = e.den ρ := by
  cases e <;> first | rfl | exact hL.nm _
def evCmp (L : Lore) (op : BinOp) (a b : Ex) : Option SV :=
  match a, b with
  | .lit x, .lit y => (cmpOf op x y).map .bool
  | a, b => if a = b then (match op with | .eql => some (.bool true) | .neq => some (.bool false) | _ => (L.fact op a b).map .bool) else (L.fact op a b).map .bool
def evInt (L : Lore) (op : BinOp) (k : IntKind) (a : Ex) (k' : IntKind) (b : Ex) : Option SV :=
  match op with
  | .shl => match b with | .lit n => if n < 0 then none else some (.int k (mkShl k (min n.toNat k.bits) a)) | _ => none
  | .shr => match b with | .lit n => if n < 0 then none else some (.int k (mkShr (min n.toNat k.bits) a)) | _ => none
  | .add | .sub | .mul => if k = k' then some (.int k (mkAri op k a b)) else none
  | .and | .or | .xor | .andNot => if k = k' then some (.int k (nmOf L (mkBit op k a b))) else none
  | .quo => match b with | .lit y => if k = k' ∧ y ≠ 0 then some (.int k (nmOf L (mkAri .quo k a (.lit y)))) else none | b => if k = k' ∧ L.fact .neq b (.lit 0) = some true then some (.int k (nmOf L (mkAri .quo k a b))) else none
  | .rem => match b with | .lit y => if k = k' ∧ y ≠ 0 then some (.int k (nmOf L (mkAri .rem k a (.lit y)))) else none | b => if k = k' ∧ L.fact .neq b (.lit 0) = some true then some (.int k (nmOf L (mkAri .rem k a b))) else none
  | op => if k = k' then evCmp L op a b else none
theorem evCmp_ok {ρ : Env} {ms : List Nat} {L : Lore} (hL : LoreOk ρ L) {op : BinOp} {a b : Ex} {s : SV} (h : evCmp L op a b = some s) : ∃ r, s.inst ρ ms = some (.bool r) ∧ cmpOf op (a.den ρ) (b.den ρ) = some r := by
  unfold evCmp at h
  have fin : ∀ a b : Ex, (L.fact op a b).map SV.bool = some s → ∃ r, s.inst ρ ms = some (.bool r) ∧ cmpOf op (a.den ρ) (b.den ρ) = some r := fun a b h => by
    rw [Option.map_eq_some_iff] at h
    obtain ⟨r, h1, rfl⟩ := h
    exact ⟨r, rfl, hL.fact op a b r h1⟩
  split at h
  · rw [Option.map_eq_some_iff] at h
    obtain ⟨r, h1, rfl⟩ := h
    exact ⟨r, rfl, h1⟩
  · split at h
    · rename_i e
      subst e
      split at h
      · cases h; exact ⟨true, rfl, by simp [cmpOf]⟩
      · cases h; exact ⟨false, rfl, by simp [cmpOf]⟩
      · exact fin _ _ h
    · exact fin _ _ h
theorem intCmp_run {P : Program} {op : BinOp} {x y : Int} {r : Bool} (h : cmpOf op x y = some r) (w : World) : (Op.intCmp op x y).run P w = .ok (.bool r) w := by
  cases op <;> simp only [cmpOf, Option.some.injEq] at h <;> first | (cases h; done) | (subst h; simp only [Op.intCmp, Sem.run_pure]; rfl) | (subst h; simp only [Op.intCmp, Sem.run_pure])
theorem evInt_ok {P : Program} {ρ : Env} {ms : List Nat} {L : Lore} (hL : LoreOk ρ L) {op : BinOp} {k k' : IntKind} {a b : Ex} {s : SV} (h : evInt L op k a k' b = some s) (T : TypeId) (w : World) :
    ∃ v, s.inst ρ ms = some v ∧ (binOp op T (.int k (a.den ρ)) (.int k' (b.den ρ))).run P w = .ok v w := by
  cases op <;> simp only [evInt] at h
  case shl =>
    split at h
    · rename_i n
      split at h
      · cases h
      · rename_i hn
        simp only [Option.some.injEq] at h
        subst h
        exact ⟨_, rfl, by simp [binOp, Op.shift, Ex.den, hn, mkShl_den]⟩
    · cases h
  case shr =>
    split at h
    · rename_i n
      split at h
      · cases h
      · rename_i hn
        simp only [Option.some.injEq] at h
        subst h
        exact ⟨_, rfl, by simp [binOp, Op.shift, Ex.den, hn, mkShr_den]⟩
    · cases h
  case add => split at h <;> cases h; rename_i e; subst e; exact ⟨_, rfl, by simp [binOp, Op.intArith, mkAri_den, ariOf]⟩
  case sub => split at h <;> cases h; rename_i e; subst e; exact ⟨_, rfl, by simp [binOp, Op.intArith, mkAri_den, ariOf]⟩
  case mul => split at h <;> cases h; rename_i e; subst e; exact ⟨_, rfl, by simp [binOp, Op.intArith, mkAri_den, ariOf]⟩
  case and => split at h <;> cases h; rename_i e; subst e; exact ⟨_, rfl, by simp [binOp, Op.intBits, nmOf_den hL, mkBit_den, bitsOf]⟩
  case or => split at h <;> cases h; rename_i e; subst e; exact ⟨_, rfl, by simp [binOp, Op.intBits, nmOf_den hL, mkBit_den, bitsOf]⟩
  case xor => split at h <;> cases h; rename_i e; subst e; exact ⟨_, rfl, by simp [binOp, Op.intBits, nmOf_den hL, mkBit_den, bitsOf]⟩
  case andNot => split at h <;> cases h; rename_i e; subst e; exact ⟨_, rfl, by simp [binOp, Op.intBits, nmOf_den hL, mkBit_den, bitsOf]⟩
  case quo =>
    split at h
    · split at h <;> cases h
      rename_i e
      obtain ⟨rfl, e2⟩ := e
      exact ⟨_, rfl, by simp [binOp, Op.intDiv, Ex.den, e2, nmOf_den hL, mkAri_den, ariOf]⟩
    · split at h <;> cases h
      rename_i e
      obtain ⟨rfl, e2⟩ := e
      have e3 := hL.fact _ _ _ _ e2
      simp only [cmpOf, Ex.den, Option.some.injEq, bne_iff_ne, ne_eq] at e3
      exact ⟨_, rfl, by simp [binOp, Op.intDiv, e3, nmOf_den hL, mkAri_den, ariOf]⟩
  case rem =>
    split at h
    · split at h <;> cases h
      rename_i e
      obtain ⟨rfl, e2⟩ := e
      exact ⟨_, rfl, by simp [binOp, Op.intDiv, Ex.den, e2, nmOf_den hL, mkAri_den, ariOf]⟩
    · split at h <;> cases h
      rename_i e
      obtain ⟨rfl, e2⟩ := e
      have e3 := hL.fact _ _ _ _ e2
      simp only [cmpOf, Ex.den, Option.some.injEq, bne_iff_ne, ne_eq] at e3
      exact ⟨_, rfl, by simp [binOp, Op.intDiv, e3, nmOf_den hL, mkAri_den, ariOf]⟩
  all_goals
    split at h
    · rename_i e
      subst e
      obtain ⟨r, h1, h2⟩ := evCmp_ok (ms := ms) hL h
      refine ⟨_, h1, ?_⟩
      have h3 := intCmp_run (P := P) h2 w
      simpa [binOp] using h3
    · cases h
def flatF (P : Program) (g : TypeId → Option Nat) : Nat → List Field → Option Nat
  | o, [] => some o
  | o, f :: r => if f.name ≠ "_" ∧ f.offset = o ∧ rowOf P f.type = some (false, 1) ∧ g f.type = some 1 then flatF P g (o + 1) r else none
def flatN (P : Program) : Nat → TypeId → Option Nat
  | 0, _ => none
  | d + 1, T =>
    match P.underlying T with
    | some (.int _) => some 1
    | some (.array n e) =>
      match rowOf P e, flatN P d e with
      | some (_, s), some m => if s = m then some (n * m) else none
      | _, _ => none
    | some (.struct fs) => if P.stoodInHeld T = true then none else flatF P (flatN P d) 0 fs.toList
    | _ => none
theorem forIn_all {P : Program} (w : World) (body : Nat → Option Bool × Unit → Sem (ForInStep (Option Bool × Unit))) (g : Nat → Bool) : ∀ (m k : Nat),
    (∀ i s, k ≤ i → i < k + m → (body i s).run P w = .ok (if g i then .yield (none, ()) else .done (some false, ())) w) →
    (forIn (List.range' k m 1) ((none : Option Bool), ()) body).run P w = .ok (if (List.range' k m 1).all g then (none, ()) else (some false, ())) w
  | 0, k, h => by simp
  | m + 1, k, h => by
    rw [List.range'_succ, List.forIn_cons, Sem.run_bind, h k _ (Nat.le_refl _) (by omega), Result.andThen_ok]
    cases hg : g k with
    | true =>
      rw [if_pos rfl]
      simp only [List.all_cons, hg, Bool.true_and]
      exact forIn_all w body g m (k + 1) (fun i s h1 h2 => h i s (by omega) (by omega))
    | false => simp [hg]
theorem forIn_fields {P : Program} (w : World) (body : Field → Option Bool × Unit → Sem (ForInStep (Option Bool × Unit))) (g : Field → Bool) : ∀ (l : List Field),
    (∀ f ∈ l, ∀ s, (body f s).run P w = .ok (if g f then .yield (none, ()) else .done (some false, ())) w) →
    (forIn l ((none : Option Bool), ()) body).run P w = .ok (if l.all g then (none, ()) else (some false, ())) w
  | [], h => by simp
  | f :: l, h => by
    rw [List.forIn_cons, Sem.run_bind, h f (by simp) _, Result.andThen_ok]
    cases hg : g f with
    | true =>
      rw [if_pos rfl]
      simp only [List.all_cons, hg, Bool.true_and]
      exact forIn_fields w body g l (fun f hf s => h f (by simp [hf]) s)
    | false => simp [hg]
theorem all2_append {α β : Type} (f : α → β → Bool) : ∀ (a : List α) (c : List β), a.length = c.length → ∀ (b : List α) (d : List β), all2 f (a ++ b) (c ++ d) = (all2 f a c && all2 f b d)
  | [], [], _, b, d => by simp [all2]
  | [], _ :: _, h, _, _ => by simp at h
  | _ :: _, [], h, _, _ => by simp at h
  | x :: a, y :: c, h, b, d => by simp [all2, all2_append f a c (by simpa using h) b d, Bool.and_assoc]
theorem all2_mono {α β : Type} {f : α → β → Bool} : ∀ (a : List α) (c : List β) (i : Nat), all2 f a c = true → ∀ x y, a[i]? = some x → c[i]? = some y → f x y = true
  | [], [], i, _, _, _, h, _ => by simp at h
  | x :: a, y :: c, 0, h, _, _, h1, h2 => by simp at h1 h2; subst h1 h2; simp [all2] at h; exact h.1
  | x :: a, y :: c, i + 1, h, _, _, h1, h2 => by simp [all2] at h h1 h2; exact all2_mono a c i h.2 _ _ h1 h2
  | [], _ :: _, _, h, _, _, _, _ => by simp [all2] at h
  | _ :: _, [], _, h, _, _, _, _ => by simp [all2] at h
theorem all2_length {α β : Type} {f : α → β → Bool} : ∀ (a : List α) (c : List β), all2 f a c = true → a.length = c.length
  | [], [], _ => rfl
  | x :: a, y :: c, h => by simp [all2] at h; simp [all2_length a c h.2]
  | [], _ :: _, h => by simp [all2] at h
  | _ :: _, [], h => by simp [all2] at h
theorem all2_sub {α β : Type} {f : α → β → Bool} (a : List α) (c : List β) (h : all2 f a c = true) (o n : Nat) : all2 f ((a.drop o).take n) ((c.drop o).take n) = true := by
  have hl := all2_length a c h
  have e1 : a = a.take o ++ a.drop o := (List.take_append_drop o a).symm
  have e2 : c = c.take o ++ c.drop o := (List.take_append_drop o c).symm
  rw [e1, e2, all2_append f _ _ (by simp [hl])] at h
  simp only [Bool.and_eq_true] at h
  have h2 := h.2
  rw [← List.take_append_drop n (a.drop o), ← List.take_append_drop n (c.drop o), all2_append f _ _ (by simp [hl])] at h2
  simp only [Bool.and_eq_true] at h2
  exact h2.1
theorem all2_rounds {α β : Type} (f : α → β → Bool) (m : Nat) : ∀ (n : Nat) (a : List α) (c : List β), a.length = n * m → c.length = n * m →
    all2 f a c = (List.range' 0 n 1).all fun i => all2 f ((a.drop (i * m)).take m) ((c.drop (i * m)).take m)
  | 0, a, c, ha, hc => by
    have : a = [] := List.length_eq_zero_iff.1 (by omega)
    have : c = [] := List.length_eq_zero_iff.1 (by omega)
    subst a c; simp [all2]
  | n + 1, a, c, ha, hc => by
    rw [Nat.succ_mul] at ha hc
    have hm : ∀ i, i < n → i * m + m ≤ n * m := fun i hi => by rw [← Nat.succ_mul]; exact Nat.mul_le_mul_right m hi
    conv => lhs; rw [← List.take_append_drop (n * m) a, ← List.take_append_drop (n * m) c]
    rw [all2_append f _ _ (by simp; omega), all2_rounds f m n _ _ (by simp; omega) (by simp; omega)]
    rw [show List.range' 0 (n + 1) 1 = List.range' 0 n 1 ++ [n] by rw [List.range'_concat]; simp, List.all_append]
    congr 1
    · rw [Bool.eq_iff_iff, List.all_eq_true, List.all_eq_true]
      refine forall_congr' fun i => forall_congr' fun hi => ?_
      have hi2 : i < n := by simpa using hi
      have := hm i hi2
      have q : ∀ {γ : Type} (l : List γ), ((l.take (n * m)).drop (i * m)).take m = (l.drop (i * m)).take m := fun l => by
        rw [List.drop_take, List.take_take, Nat.min_eq_left (by omega)]
      rw [q, q]
    · simp only [List.all_cons, List.all_nil, Bool.and_true]
      rw [List.take_of_length_le (by simp; omega), List.take_of_length_le (by simp; omega)]
theorem flatF_le {P : Program} {g : TypeId → Option Nat} : ∀ (l : List Field) (o m : Nat), flatF P g o l = some m → m = o + l.length
  | [], o, m, h => by simp [flatF] at h; simp [h]
  | f :: r, o, m, h => by
    simp only [flatF] at h
    split at h
    · have := flatF_le r (o + 1) m h; simp; omega
    · cases h
theorem flatF_mem {P : Program} {g : TypeId → Option Nat} : ∀ (l : List Field) (o m : Nat), flatF P g o l = some m → ∀ f ∈ l, f.name ≠ "_" ∧ f.offset < m ∧ rowOf P f.type = some (false, 1) ∧ g f.type = some 1
  | [], o, m, h, f, hf => by simp at hf
  | f :: r, o, m, h, q, hq => by
    simp only [flatF] at h
    split at h
    · rename_i hc
      have hm := flatF_le r (o + 1) m h
      rcases List.mem_cons.1 hq with rfl | hq
      · exact ⟨hc.1, by omega, hc.2.2.1, hc.2.2.2⟩
      · exact flatF_mem r (o + 1) m h q hq
    · cases h
theorem flatF_all {P : Program} {g : TypeId → Option Nat} (e : Value → Value → Bool) (vs us : List Value) : ∀ (l : List Field) (o m : Nat), flatF P g o l = some m → vs.length = m → us.length = m →
    (l.all fun f => all2 e ((vs.drop f.offset).take 1) ((us.drop f.offset).take 1)) = all2 e (vs.drop o) (us.drop o)
  | [], o, m, h, hv, hu => by
    simp [flatF] at h
    subst h
    simp [List.drop_of_length_le (Nat.le_of_eq hv), List.drop_of_length_le (Nat.le_of_eq hu), all2]
  | f :: r, o, m, h, hv, hu => by
    simp only [flatF] at h
    split at h
    · rename_i hc
      have hm := flatF_le r (o + 1) m h
      rw [List.all_cons, flatF_all e vs us r (o + 1) m h hv hu, hc.2.1]
      have q1 : o < vs.length := by omega
      have q2 : o < us.length := by omega
      rw [List.drop_eq_getElem_cons q1, List.drop_eq_getElem_cons q2]
      simp only [all2, List.take_succ_cons, List.take_zero, Bool.and_true]
    · cases h
def valOf (r : Bool) (vs : List Value) : Value := if r then .agg vs.toArray else vs.headD default
theorem part_run {P : Program} {T : TypeId} {r : Bool} {s : Nat} (h : rowOf P T = some (r, s)) (w : World) (vs : List Value) (o : Nat) (hs : r = false → s = 1) (ho : o + s ≤ vs.length) :
    (part T vs.toArray o).run P w = .ok (valOf r ((vs.drop o).take s)) w := by
  obtain ⟨d, i, hu, hi, hd, hsz⟩ := rowOf_ok h
  have hag := isAgg_run hu w
  rw [hd] at hag
  cases r with
  | true =>
    simp only [part, Sem.run_bind, hag, Result.andThen_ok, if_true, sizeOf, typeInfo, Sem.run_pure, valOf]
    simp only [program, Sem.run, hi, Result.andThen_ok, Sem.run_pure, hsz, List.extract_toArray, List.extract_eq_take_drop]
    simp
  | false =>
    have hs1 := hs rfl
    subst hs1
    have ho2 : o < vs.length := by omega
    simp only [part, Sem.run_bind, hag, Result.andThen_ok, valOf]
    simp [List.getElem?_eq_getElem ho2, List.take_one, List.head?_drop]
theorem run_equalIn_flat {P : Program} (w : World) : ∀ (d D : Nat) (T : TypeId) (m : Nat), flatN P d T = some m → d ≤ D → ∀ (r : Bool) (s : Nat), rowOf P T = some (r, s) → ∀ (vs us : List Value), vs.length = m → us.length = m → all2 alike vs us = true →
    (Op.equalIn D T (valOf r vs) (valOf r us)).run P w = .ok (all2 eqv vs us) w
  | 0, _, _, _, h, _, _, _, _, _, _, _, _, _ => by simp [flatN] at h
  | d + 1, 0, _, _, _, h, _, _, _, _, _, _, _, _ => by omega
  | d + 1, D + 1, T, m, h, hD, r, s, hr, vs, us, hv, hu, hal => by
    obtain ⟨ds, i, hun, hi, hd, hsz⟩ := rowOf_ok hr
    simp only [flatN, hun] at h
    split at h
    · -- an integer
      rename_i k hk
      simp only [Option.some.injEq] at hk
      subst hk
      simp only [Option.some.injEq] at h
      subst h
      simp only [TypeDesc.isRow] at hd
      subst hd
      match vs, hv, us, hu, hal with
      | [v], _, [u], _, hal =>
        simp only [all2, Bool.and_true] at hal
        cases v <;> cases u <;> simp only [alike, Bool.false_eq_true, beq_iff_eq] at hal
        subst hal
        simp [valOf, Op.equalIn, run_underlying hun, all2, eqv]
    · -- a row
      rename_i n e hk
      simp only [Option.some.injEq] at hk
      subst hk
      split at h
      case h_2 => cases h
      rename_i re me me2 h1 h2
      split at h
      case isFalse => cases h
      rename_i hse
      subst hse
      simp only [Option.some.injEq] at h
      subst h
      simp only [TypeDesc.isRow] at hd
      subst hd
      obtain ⟨de, ie, hune, hie, hde, hsze⟩ := rowOf_ok h1
      have hs1 : re = false → me = 1 := fun hre => by
        cases d with
        | zero => simp [flatN] at h2
        | succ d =>
          subst hre
          simp only [flatN, hune] at h2
          split at h2
          · simpa using h2.symm
          · rename_i hk; simp only [Option.some.injEq] at hk; subst hk; simp [TypeDesc.isRow] at hde
          · rename_i hk; simp only [Option.some.injEq] at hk; subst hk; simp [TypeDesc.isRow] at hde
          · cases h2
      rw [show valOf true vs = .agg vs.toArray from rfl, show valOf true us = .agg us.toArray from rfl, Op.equalIn]
      have hsizeOf : (sizeOf e).run P w = .ok me w := by simp [sizeOf, typeInfo, hie, hsze]
      simp only [Sem.run_bind, run_underlying hun, Result.andThen_ok, hsizeOf]
      have hm : ∀ i, i < n → i * me + me ≤ n * me := fun i hi => by rw [← Nat.succ_mul]; exact Nat.mul_le_mul_right me hi
      have hr := forIn_all (P := P) w (fun i (_ : Option Bool × Unit) => do
          let a ← part e vs.toArray (i * me)
          let b ← part e us.toArray (i * me)
          let c ← Op.equalIn D e a b
          if (!c) = true then pure (ForInStep.done (some false, ())) else pure (ForInStep.yield (none, ())))
        (fun i => all2 eqv ((vs.drop (i * me)).take me) ((us.drop (i * me)).take me)) n 0 (fun i s _ hi => by
          have hi2 : i < n := by omega
          have hb := hm i hi2
          simp only [Sem.run_bind, part_run h1 w vs (i * me) hs1 (by omega), part_run h1 w us (i * me) hs1 (by omega), Result.andThen_ok]
          rw [run_equalIn_flat w d D e me h2 (by omega) re me h1 _ _ (by simp; omega) (by simp; omega) (all2_sub vs us hal _ _)]
          simp only [Result.andThen_ok]
          cases all2 eqv ((vs.drop (i * me)).take me) ((us.drop (i * me)).take me) <;> simp)
      rw [all2_rounds eqv me n vs us hv hu]
      have ee : (forIn (m := Sem) [:n] ((none : Option Bool), ()) (fun i (_ : Option Bool × Unit) => do
          let a ← part e vs.toArray (i * me)
          let b ← part e us.toArray (i * me)
          let c ← Op.equalIn D e a b
          if (!c) = true then pure (ForInStep.done (some false, ())) else pure (ForInStep.yield (none, ())))) = forIn (List.range' 0 n 1) ((none : Option Bool), ()) (fun i (_ : Option Bool × Unit) => do
          let a ← part e vs.toArray (i * me)
          let b ← part e us.toArray (i * me)
          let c ← Op.equalIn D e a b
          if (!c) = true then pure (ForInStep.done (some false, ())) else pure (ForInStep.yield (none, ()))) := by
        rw [Std.Legacy.Range.forIn_eq_forIn_range']
        simp [Std.Legacy.Range.size]
      rw [← ee] at hr
      refine (congrArg (fun r => Result.andThen r _) hr).trans ?_
      cases ((List.range' 0 n 1).all fun i => all2 eqv ((vs.drop (i * me)).take me) ((us.drop (i * me)).take me)) <;> simp
    · -- a struct
      rename_i fs hk
      simp only [Option.some.injEq] at hk
      subst hk
      split at h
      · cases h
      rename_i hst
      simp only [TypeDesc.isRow] at hd
      subst hd
      have hst' : P.stoodInHeld T = false := by simpa using hst
      rw [show valOf true vs = .agg vs.toArray from rfl, show valOf true us = .agg us.toArray from rfl, Op.equalIn]
      have hpr : (program).run P w = .ok P w := rfl
      simp only [Sem.run_bind, run_underlying hun, Result.andThen_ok, hpr, hst', Bool.false_eq_true, if_false]
      rw [← Array.forIn_toList]
      refine (congrArg (fun r => Result.andThen r _) (forIn_fields w _ (fun f => all2 eqv ((vs.drop f.offset).take 1) ((us.drop f.offset).take 1)) fs.toList fun f hf st => ?_)).trans ?_
      · obtain ⟨q1, q2, q3, q4⟩ := flatF_mem _ _ _ h f hf
        simp only [if_pos q1, Sem.run_bind, part_run q3 w vs f.offset (fun _ => rfl) (by omega), part_run q3 w us f.offset (fun _ => rfl) (by omega), Result.andThen_ok]
        rw [run_equalIn_flat w d D f.type 1 q4 (by omega) false 1 q3 _ _ (by simp; omega) (by simp; omega) (all2_sub vs us hal _ _)]
        simp only [Result.andThen_ok]
        cases all2 eqv ((vs.drop f.offset).take 1) ((us.drop f.offset).take 1) <;> simp
      · rw [flatF_all eqv vs us fs.toList 0 m h hv hu]
        simp only [List.drop_zero]
        cases all2 eqv vs us <;> simp
    · cases h
def eqS : SV → SV → Option Bool
  | .int k a, .int k' b => if k = k' then (match a, b with | .lit x, .lit y => some (x == y) | _, _ => if a = b then some true else none) else none
  | _, _ => none
def eqL : List SV → List SV → Option Bool
  | [], [] => some true
  | x :: xs, y :: ys => match eqS x y, eqL xs ys with | some b, some c => some (b && c) | _, _ => none
  | _, _ => none
theorem eqS_ok {ρ : Env} {ms : List Nat} {x y : SV} {b : Bool} (h : eqS x y = some b) {u v : Value} (hu : x.inst ρ ms = some u) (hv : y.inst ρ ms = some v) : alike u v = true ∧ eqv u v = b := by
  cases x <;> cases y <;> simp only [eqS] at h <;> try cases h
  rename_i k a k' c
  simp only [SV.inst, Option.some.injEq] at hu hv
  subst hu hv
  split at h
  case isFalse => cases h
  rename_i e
  subst e
  refine ⟨by simp [alike], ?_⟩
  split at h
  · simp only [Option.some.injEq] at h; subst h; simp [eqv, Ex.den]
  · split at h <;> cases h
    rename_i e; subst e; simp [eqv]
theorem eqL_ok {ρ : Env} {ms : List Nat} : ∀ (l l' : List SV) (b : Bool), eqL l l' = some b → ∀ vs us : List Value, l.map (SV.inst ρ ms) = vs.map some → l'.map (SV.inst ρ ms) = us.map some → all2 alike vs us = true ∧ all2 eqv vs us = b
  | [], [], b, h, vs, us, hv, hu => by
    cases vs <;> cases us <;> simp at hv hu
    simp only [eqL, Option.some.injEq] at h; subst h; exact ⟨rfl, rfl⟩
  | x :: l, y :: l', b, h, vs, us, hv, hu => by
    simp only [eqL] at h
    split at h
    case h_2 => cases h
    rename_i b1 b2 h1 h2
    simp only [Option.some.injEq] at h
    subst h
    match vs, us, hv, hu with
    | v :: vs, u :: us, hv, hu =>
      simp only [List.map_cons, List.cons.injEq] at hv hu
      obtain ⟨e1, e2⟩ := eqS_ok h1 hv.1 hu.1
      obtain ⟨e3, e4⟩ := eqL_ok l l' b2 h2 vs us hv.2 hu.2
      simp [all2, e1, e2, e3, e4]
  | [], _ :: _, _, h, _, _, _, _ => by simp [eqL] at h
  | _ :: _, [], _, h, _, _, _, _ => by simp [eqL] at h
def eqA (L : Lore) (l l' : List SV) : Option Bool := match L.factA l l' with | some r => some r | none => eqL l l'
def evEq (P : Program) (L : Lore) (T : TypeId) (x y : AV) : Option Bool :=
  match x, y with
  | .tv (.agg l), .tv (.agg l') =>
    match rowOf P T, flatN P 6 T with
    | some (true, _), some m => if m = l.length ∧ l.length = l'.length ∧ P.eqGuardType P.depth T = false then eqA L l l' else none
    | _, _ => none
  | .tv (.sc x), .tv (.sc y) =>
    match P.underlying T, x, y with
    | some .bool, .bool a, .bool b => some (a == b)
    | some (.pointer _), .nilp, .nilp => some true
    | some (.pointer _), .nilp, .ptr _ _ => some false
    | some (.pointer _), .ptr _ _, .nilp => some false
    | some (.slice _), .nils _ _, .nils _ _ => some true
    | some (.slice _), .nils _ _, .sl _ _ _ _ => some false
    | some (.slice _), .sl _ _ _ _, .nils _ _ => some false
    | some (.slice _), .nils _ _, .slg _ _ _ _ => some false
    | some (.slice _), .slg _ _ _ _, .nils _ _ => some false
    | some (.func _ _ _), .nilf, .nilf => some true
    | some (.func _ _ _), .nilf, .clo _ _ => some false
    | some (.func _ _ _), .clo _ _, .nilf => some false
    | some (.interface _), .nili, .ifp _ _ _ => some false
    | some (.interface _), .ifp _ _ _, .nili => some false
    | some (.interface _), .nili, .ife _ => some false
    | some (.interface _), .ife _, .nili => some false
    | _, _, _ => none
  | _, _ => none
theorem evEq_ok {P : Program} {ρ : Env} {ms : List Nat} {L : Lore} (hL : LoreOk ρ L) {T : TypeId} {x y : AV} {r : Bool} (h : evEq P L T x y = some r) {u v : Value} (hu : x.inst ρ ms = some u) (hv : y.inst ρ ms = some v) (w : World) :
    (Op.equal T u v).run P w = .ok r w ∧ (∀ (op : BinOp) (p q : Operand), (eqGuard op T p q u v).run P w = .ok () w) ∧ (binOp .eql T u v).run P w = .ok (.bool r) w ∧ (binOp .neq T u v).run P w = .ok (.bool (!r)) w := by
  match x, y, h with
  | .tv (.agg l), .tv (.agg l'), h =>
    simp only [evEq] at h
    split at h
    case h_2 => cases h
    rename_i s m h1 h2
    split at h
    case isFalse => cases h
    rename_i hc
    obtain ⟨hm, hll, hg⟩ := hc
    simp only [AV.inst, TV.inst, Option.map_eq_some_iff] at hu hv
    obtain ⟨vs, h3, rfl⟩ := hu
    obtain ⟨us, h4, rfl⟩ := hv
    rw [seqO_iff] at h3 h4
    have hlv : l.length = vs.length := by have := congrArg List.length h3; simpa using this
    have hlu : l'.length = us.length := by have := congrArg List.length h4; simpa using this
    obtain ⟨e1, e2⟩ : all2 alike vs us = true ∧ all2 eqv vs us = r := by
      unfold eqA at h
      split at h
      · rename_i hf
        simp only [Option.some.injEq] at h
        subst h
        exact hL.factA l l' _ hf ms vs us h3 h4
      · exact eqL_ok l l' r h vs us h3 h4
    have key := run_equalIn_flat w 6 10000 T m h2 (by decide) true s h1 vs us (by omega) (by omega) e1
    rw [e2] at key
    have ke : (Op.equal T (.agg vs.toArray) (.agg us.toArray)).run P w = .ok r w := key
    refine ⟨ke, ?_, ?_, ?_⟩
    · intro op p q
      unfold eqGuard
      cases op <;> simp [program, Sem.run, hg]
    · simp only [binOp, Sem.run_bind, ke, Result.andThen_ok, Sem.run_pure]
    · simp only [binOp, Sem.run_bind, ke, Result.andThen_ok, Sem.run_pure]
  | .tv (.sc x), .tv (.sc y), h =>
    simp only [evEq] at h
    simp only [AV.inst, TV.inst] at hu hv
    split at h <;> first | (cases h; done) | skip
    all_goals
      rename_i hun
      have key0 : ∀ D, (Op.equalIn (D + 1) T u v).run P w = .ok r w := fun D => by
        simp only [Option.some.injEq] at h
        subst h
        simp only [SV.inst, addr, grown_iff, Option.some.injEq, Option.map_eq_some_iff] at hu hv
        first | subst hu | (obtain ⟨_, _, rfl⟩ := hu) | (obtain ⟨_, _, _, _, _, rfl⟩ := hu)
        first | subst hv | (obtain ⟨_, _, rfl⟩ := hv) | (obtain ⟨_, _, _, _, _, rfl⟩ := hv)
        simp only [Op.equalIn, Sem.run_bind, run_underlying hun, Result.andThen_ok, Sem.run_pure]
        try rfl
      have key : (Op.equal T u v).run P w = .ok r w := key0 9999
      clear key0
      simp only [SV.inst, addr, grown_iff, Option.some.injEq, Option.map_eq_some_iff] at hu hv
      first | subst hu | (obtain ⟨_, _, rfl⟩ := hu) | (obtain ⟨_, _, _, _, _, rfl⟩ := hu)
      first | subst hv | (obtain ⟨_, _, rfl⟩ := hv) | (obtain ⟨_, _, _, _, _, rfl⟩ := hv)
      refine ⟨key, ?_, by simp only [binOp, Sem.run_bind, key, Result.andThen_ok, Sem.run_pure], by simp only [binOp, Sem.run_bind, key, Result.andThen_ok, Sem.run_pure]⟩
      intro op p q
      unfold eqGuard
      cases op <;> simp
  | .tup _, _, h => simp [evEq] at h
  | .tv (.agg _), .tup _, h => simp [evEq] at h
  | .tv (.agg _), .tv (.sc _), h => simp [evEq] at h
  | .tv (.sc _), .tup _, h => simp [evEq] at h
  | .tv (.sc _), .tv (.agg _), h => simp [evEq] at h
def lessN : List Nat → List Nat → Bool
  | _, [] => false
  | [], _ :: _ => true
  | a :: x, b :: y => decide (a < b) || (a == b && lessN x y)
def low8 (l : List Nat) : List Nat := l.map (· % 256)
def evStr (op : BinOp) (a b : List Nat) : Option SV :=
  let x := low8 a
  let y := low8 b
  match op with
  | .add => if a.length + b.length ≤ 1000000 then some (.str (a ++ b)) else none
  | .eql => some (.bool (x == y))
  | .neq => some (.bool !(x == y))
  | .lss => some (.bool (lessN x y))
  | .leq => some (.bool (lessN x y || x == y))
  | .gtr => some (.bool !(lessN x y || x == y))
  | .geq => some (.bool !(lessN x y))
  | _ => none
theorem bytesOf_toList (l : List Nat) : (bytesOf l).toList = l.map UInt8.ofNat := by
  rw [ByteArray.toList_eq]; rfl
theorem ofNat_beq (a b : Nat) : (UInt8.ofNat a == UInt8.ofNat b) = (a % 256 == b % 256) := by
  rw [Bool.eq_iff_iff, beq_iff_eq, beq_iff_eq, ← UInt8.toNat_inj]
  simp
theorem map_beq : ∀ (a b : List Nat), (a.map UInt8.ofNat == b.map UInt8.ofNat) = (low8 a == low8 b)
  | [], [] => rfl
  | [], _ :: _ => rfl
  | _ :: _, [] => rfl
  | x :: a, y :: b => by
    simp only [low8, List.map_cons]
    show (UInt8.ofNat x == UInt8.ofNat y && a.map UInt8.ofNat == b.map UInt8.ofNat) = (x % 256 == y % 256 && low8 a == low8 b)
    rw [ofNat_beq, map_beq a b]
theorem map_less : ∀ (a b : List Nat), Op.bytesLess (a.map UInt8.ofNat) (b.map UInt8.ofNat) = lessN (low8 a) (low8 b)
  | _, [] => by simp [Op.bytesLess, low8, lessN]
  | [], _ :: _ => by simp [Op.bytesLess, low8, lessN]
  | x :: a, y :: b => by
    simp only [low8, List.map_cons, Op.bytesLess, lessN]
    have e := map_less a b
    simp only [low8] at e
    rw [ofNat_beq, e]
    congr 1
theorem evStr_ok {P : Program} {ρ : Env} {ms : List Nat} {op : BinOp} {a b : List Nat} {z : SV} (h : evStr op a b = some z) (w : World) : ∃ r, z.inst ρ ms = some r ∧ (Op.stringOp op (bytesOf a) (bytesOf b)).run P w = .ok r w := by
  have e1 : ((bytesOf a).toList == (bytesOf b).toList) = (low8 a == low8 b) := by rw [bytesOf_toList, bytesOf_toList, map_beq]
  have e2 : Op.bytesLess (bytesOf a).toList (bytesOf b).toList = lessN (low8 a) (low8 b) := by rw [bytesOf_toList, bytesOf_toList, map_less]
  unfold evStr at h
  cases op <;> simp only [Option.some.injEq] at h <;> try (cases h; done)
  case add =>
    split at h <;> cases h
    refine ⟨_, rfl, ?_⟩
    rw [run_string_add_sum w _ _ (by simp [bytesOf, ByteArray.size]; omega)]
    simp only [bytesOf, List.map_append]
    rw [ByteArray.mk_append_mk]
  all_goals
    subst h
    refine ⟨_, rfl, ?_⟩
    simp only [Op.stringOp, e1, e2]
    rfl
def evBin (P : Program) (L : Lore) (op : BinOp) (T : TypeId) (x y : AV) : Option AV :=
  match x, y with
  | .tv (.sc (.int k a)), .tv (.sc (.int k' b)) => (evInt L op k a k' b).map fun s => .tv (.sc s)
  | .tv (.sc (.str a)), .tv (.sc (.str b)) => (evStr op a b).map fun s => .tv (.sc s)
  | x, y =>
    match op with
    | .eql => (evEq P L T x y).map fun b => .tv (.sc (.bool b))
    | .neq => (evEq P L T x y).map fun b => .tv (.sc (.bool !b))
    | _ => none
theorem evBin_ok {P : Program} {ρ : Env} {ms : List Nat} {L : Lore} (hL : LoreOk ρ L) {op : BinOp} {T : TypeId} {x y z : AV} (h : evBin P L op T x y = some z) {u v : Value} (hu : x.inst ρ ms = some u) (hv : y.inst ρ ms = some v) (p q : Operand) (w : World) :
    ∃ r, z.inst ρ ms = some r ∧ (do eqGuard op T p q u v; binOp op T u v : Sem Value).run P w = .ok r w := by
  unfold evBin at h
  split at h
  · rw [Option.map_eq_some_iff] at h
    obtain ⟨s, h1, rfl⟩ := h
    simp only [AV.inst, TV.inst, SV.inst, Option.some.injEq] at hu hv
    subst hu hv
    obtain ⟨r, h2, h3⟩ := evInt_ok (P := P) (ρ := ρ) (ms := ms) hL h1 T w
    refine ⟨r, h2, ?_⟩
    have : ∀ (k k' : IntKind) (m n : Int), (eqGuard op T p q (.int k m) (.int k' n)).run P w = .ok () w := fun k k' m n => by unfold eqGuard; cases op <;> simp
    rw [Sem.run_bind, this, Result.andThen_ok, h3]
  · rw [Option.map_eq_some_iff] at h
    obtain ⟨s, h1, rfl⟩ := h
    simp only [AV.inst, TV.inst, SV.inst, Option.some.injEq] at hu hv
    subst hu hv
    obtain ⟨r, h2, h3⟩ := evStr_ok (P := P) (ρ := ρ) (ms := ms) h1 w
    refine ⟨r, h2, ?_⟩
    have : ∀ (x y : ByteArray), (eqGuard op T p q (.string x) (.string y)).run P w = .ok () w := fun x y => by unfold eqGuard; cases op <;> simp
    rw [Sem.run_bind, this, Result.andThen_ok]
    have e : ∀ x y : ByteArray, binOp op T (.string x) (.string y) = Op.stringOp op x y := fun x y => by cases op <;> rfl
    rw [e, h3]
  · split at h
    · rw [Option.map_eq_some_iff] at h
      obtain ⟨s, h1, rfl⟩ := h
      obtain ⟨_, h2, h3, _⟩ := evEq_ok hL h1 hu hv w
      exact ⟨_, rfl, by rw [Sem.run_bind, h2, Result.andThen_ok, h3]⟩
    · rw [Option.map_eq_some_iff] at h
      obtain ⟨s, h1, rfl⟩ := h
      obtain ⟨_, h2, _, h3⟩ := evEq_ok hL h1 hu hv w
      exact ⟨_, rfl, by rw [Sem.run_bind, h2, Result.andThen_ok, h3]⟩
    · cases h
def evUn (op : UnOp) : AV → Option AV
  | .tv (.sc (.bool b)) => match op with | .not => some (.tv (.sc (.bool !b))) | _ => none
  | .tv (.sc (.int k a)) =>
    match op with
    | .neg => some (.tv (.sc (.int k (mkAri .sub k (.lit 0) a))))
    | .xor => some (.tv (.sc (.int k (mkBit .xor k (.lit (if k.signed then -1 else k.max)) a))))
    | _ => none
  | _ => none
theorem evUn_ok {P : Program} {ρ : Env} {ms : List Nat} {op : UnOp} {x z : AV} (h : evUn op x = some z) {u : Value} (hu : x.inst ρ ms = some u) (w : World) : ∃ r, z.inst ρ ms = some r ∧ (Op.unary op u).run P w = .ok r w := by
  unfold evUn at h
  split at h
  · split at h <;> cases h
    simp only [AV.inst, TV.inst, SV.inst, Option.some.injEq] at hu
    subst hu
    exact ⟨_, rfl, by simp [Op.unary]⟩
  · split at h <;> cases h
    · simp only [AV.inst, TV.inst, SV.inst, Option.some.injEq] at hu
      subst hu
      exact ⟨_, rfl, by simp [Op.unary, Op.intArith, mkAri_den, ariOf, Ex.den]⟩
    · simp only [AV.inst, TV.inst, SV.inst, Option.some.injEq] at hu
      subst hu
      exact ⟨_, rfl, by simp [Op.unary, Op.intBits, mkBit_den, bitsOf, Ex.den]⟩
  · cases h
def evConv (P : Program) (src dst : TypeId) (x : AV) : Option AV :=
  match P.underlying src, P.underlying dst, x with
  | some _, some (.int k), .tv (.sc (.int _ e)) => some (.tv (.sc (.int k (mkCon k e))))
  | some _, some .string, .tv (.sc (.str l)) => some (.tv (.sc (.str l)))
  | _, _, _ => none
theorem evConv_ok {P : Program} {ρ : Env} {ms : List Nat} {src dst : TypeId} {x z : AV} (h : evConv P src dst x = some z) {u : Value} (hu : x.inst ρ ms = some u) (w : World) : ∃ r, z.inst ρ ms = some r ∧ (convert src dst u).run P w = .ok r w := by
  unfold evConv at h
  split at h
  · rename_i d k k' e h1 h2
    simp only [Option.some.injEq] at h
    subst h
    simp only [AV.inst, TV.inst, SV.inst, Option.some.injEq] at hu
    subst hu
    exact ⟨_, rfl, by simp [convert, run_underlying h1, run_underlying h2, Conv.intToInt, mkCon_den]⟩
  · rename_i d l h1 h2
    simp only [Option.some.injEq] at h
    subst h
    simp only [AV.inst, TV.inst, SV.inst, Option.some.injEq] at hu
    subst hu
    refine ⟨_, rfl, ?_⟩
    cases d <;> simp [convert, run_underlying h1, run_underlying h2]
  · cases h
def optInt (t : Tm) : Option Operand → Option (Option Int)
  | none => some none
  | some x => (gInt t x).map fun p => some p.2
def bounds (len cap : Nat) (lo hi : Option Int) : Option (Nat × Nat) :=
  let h := hi.getD len
  let l := lo.getD 0
  if 0 ≤ h ∧ h ≤ cap ∧ 0 ≤ l ∧ l ≤ h then some (l.toNat, h.toNat) else none
theorem bounds_ok {P : Program} {ρ : Env} {ms : List Nat} {t : Tm} {a : Act} (hT : RelT ρ ms t a.tmps) {lo hi : Option Operand} {x y : Option Int} {len cap l h : Nat} (hl : optInt t lo = some x) (hh : optInt t hi = some y)
    (hb : bounds len cap x y = some (l, h)) (isS : Bool) (w : World) : (Instr.sliceBounds isS len cap (lo.map a.eval) (hi.map a.eval) none).run P w = .ok (l, h, cap) w ∧ l ≤ h ∧ h ≤ cap := by
  have one : ∀ (o : Option Operand) (z : Option Int), optInt t o = some z → (o = none ∧ z = none) ∨ ∃ q k n, o = some q ∧ z = some n ∧ a.eval q = .int k n := by
    intro o z ho
    cases o with
    | none => simp [optInt] at ho; exact .inl ⟨rfl, ho.symm⟩
    | some q =>
      simp only [optInt, Option.map_eq_some_iff] at ho
      obtain ⟨⟨k, n⟩, h1, h2⟩ := ho
      exact .inr ⟨q, k, n, rfl, h2.symm, gInt_ok hT h1⟩
  simp only [bounds] at hb
  split at hb
  case isFalse => cases hb
  rename_i hc
  simp only [Option.some.injEq, Prod.mk.injEq] at hb
  obtain ⟨rfl, rfl⟩ := hb
  refine ⟨?_, by omega, by omega⟩
  have sb : ∀ (k : IntKind) (n : Int) (y : Nat) (c : BoundsCode), 0 ≤ n → n ≤ y → (Instr.sliceBound (.int k n) y c).run P w = .ok n.toNat w := fun k n y c h1 h2 => by
    simp only [Instr.sliceBound, asIntOf, Sem.run_bind, Sem.run_pure, Result.andThen_ok]
    rw [if_pos ⟨h1, h2⟩]; rfl
  rcases one lo x hl with ⟨rfl, rfl⟩ | ⟨q, k, n, rfl, rfl, e1⟩ <;> rcases one hi y hh with ⟨rfl, rfl⟩ | ⟨q', k', n', rfl, rfl, e2⟩ <;> simp only [Option.getD_some, Option.getD_none] at hc ⊢
  · simp only [Instr.sliceBounds, Option.map_none, Sem.run_bind, Sem.run_pure, Result.andThen_ok]
    rfl
  · simp only [Instr.sliceBounds, Option.map_none, Option.map_some, e2, Sem.run_bind, Sem.run_pure, Result.andThen_ok, sb k' n' cap _ (by omega) (by omega)]
    rfl
  · simp only [Instr.sliceBounds, Option.map_none, Option.map_some, e1, Sem.run_bind, Sem.run_pure, Result.andThen_ok, sb k n len _ (by omega) (by omega)]
    rfl
  · simp only [Instr.sliceBounds, Option.map_some, e1, e2, Sem.run_bind, Sem.run_pure, Result.andThen_ok, sb k' n' cap _ (by omega) (by omega), sb k n n'.toNat _ (by omega) (by omega)]
def evSlice (P : Program) (t : Tm) (T : TypeId) (x : Operand) (lo hi mx : Option Operand) : Option AV :=
  match mx, optInt t lo, optInt t hi, P.underlying T, evGet t x with
  | none, some l, some h, some (.array n e), some (.tv (.sc (.ptr m o))) =>
    match bounds n n l h, rowOf P e with
    | some (l, h), some (_, s) => some (.tv (.sc (.sl m (if n = l then o else o + l * s) (h - l) (n - l))))
    | _, _ => none
  | none, some l, some h, some (.slice e), some (.tv (.sc (.sl m o len cap))) =>
    if len ≤ cap then
      match bounds len cap l h, rowOf P e with
      | some (l, h), some (_, s) => some (.tv (.sc (.sl m (if cap = l then o else o + l * s) (h - l) (cap - l))))
      | _, _ => none
    else none
  | none, some l, some h, some (.slice e), some (.tv (.sc (.slg m o e0 len))) =>
    match bounds len len l h, rowOf P e with
    | some (l, h), some (_, s) => if l < len ∨ l = 0 then some (.tv (.sc (.slg m (o + l * s) (e0 + l) (h - l)))) else none
    | _, _ => none
  | none, some l, some h, some .string, some (.tv (.sc (.str b))) =>
    match bounds b.length b.length l h with
    | some (l, h) => some (.tv (.sc (.str ((b.drop l).take (h - l)))))
    | _ => none
  | none, some l, some h, some (.slice e), some (.tv (.sc (.nils len cap))) =>
    if len ≤ cap then
      match bounds len cap l h, rowOf P e with
      | some (l, h), some (_, _) => some (.tv (.sc (.nils (h - l) (cap - l))))
      | _, _ => none
    else none
  | some q, some l, some (some h), some (.slice e), some (.tv (.sc (.sl m o _ cap))) =>
    match gInt t q with
    | some (_, n) =>
      if 0 ≤ n ∧ n ≤ cap then
        match bounds n.toNat n.toNat l (some h), rowOf P e with
        | some (l, h), some (_, s) => some (.tv (.sc (.sl m (if n.toNat = l then o else o + l * s) (h - l) (n.toNat - l))))
        | _, _ => none
      else none
    | none => none
  | _, _, _, _, _ => none
theorem bounds3_ok {P : Program} {ρ : Env} {ms : List Nat} {t : Tm} {a : Act} (hT : RelT ρ ms t a.tmps) {lo hi : Option Operand} {q : Operand} {x : Option Int} {y n : Int} {kk : IntKind} {len cap l h : Nat} (hl : optInt t lo = some x) (hh : optInt t hi = some (some y))
    (hq : gInt t q = some (kk, n)) (h0 : 0 ≤ n) (hn : n ≤ cap) (hb : bounds n.toNat n.toNat x (some y) = some (l, h)) (w : World) : (Instr.sliceBounds true len cap (lo.map a.eval) (hi.map a.eval) (some (a.eval q))).run P w = .ok (l, h, n.toNat) w ∧ l ≤ h ∧ h ≤ n.toNat := by
  have one : ∀ (o : Option Operand) (z : Option Int), optInt t o = some z → (o = none ∧ z = none) ∨ ∃ q k n, o = some q ∧ z = some n ∧ a.eval q = .int k n := by
    intro o z ho
    cases o with
    | none => simp [optInt] at ho; exact .inl ⟨rfl, ho.symm⟩
    | some q =>
      simp only [optInt, Option.map_eq_some_iff] at ho
      obtain ⟨⟨k, n⟩, h1, h2⟩ := ho
      exact .inr ⟨q, k, n, rfl, h2.symm, gInt_ok hT h1⟩
  have e0 := gInt_ok hT hq
  simp only [bounds] at hb
  split at hb
  case isFalse => cases hb
  rename_i hc
  simp only [Option.some.injEq, Prod.mk.injEq] at hb
  obtain ⟨rfl, rfl⟩ := hb
  refine ⟨?_, by omega, by omega⟩
  have sb : ∀ (k : IntKind) (n : Int) (y : Nat) (c : BoundsCode), 0 ≤ n → n ≤ y → (Instr.sliceBound (.int k n) y c).run P w = .ok n.toNat w := fun k n y c h1 h2 => by
    simp only [Instr.sliceBound, asIntOf, Sem.run_bind, Sem.run_pure, Result.andThen_ok]
    rw [if_pos ⟨h1, h2⟩]; rfl
  rcases one hi (some y) hh with ⟨_, e⟩ | ⟨q', k', n', rfl, e, e2⟩
  · cases e
  · cases e
    simp only [Option.getD_some] at hc ⊢
    rcases one lo x hl with ⟨rfl, rfl⟩ | ⟨q2, k2, n2, rfl, rfl, e1⟩ <;> simp only [Option.getD_some, Option.getD_none] at hc ⊢
    · simp only [Instr.sliceBounds, Option.map_none, Option.map_some, e0, e2, Sem.run_bind, Sem.run_pure, Result.andThen_ok, sb kk n cap _ h0 hn, sb k' y n.toNat _ (by omega) (by omega)]
      rfl
    · simp only [Instr.sliceBounds, Option.map_some, e0, e1, e2, Sem.run_bind, Sem.run_pure, Result.andThen_ok, sb kk n cap _ h0 hn, sb k' y n.toNat _ (by omega) (by omega), sb k2 n2 y.toNat _ (by omega) (by omega)]
theorem sizeOf_run {P : Program} {T : TypeId} {r : Bool} {s : Nat} (h : rowOf P T = some (r, s)) (w : World) : (sizeOf T).run P w = .ok s w := by
  obtain ⟨d, i, hu, hi, hd, hsz⟩ := rowOf_ok h
  simp [sizeOf, typeInfo, hi, hsz]
theorem evSlice_ok {P : Program} {ρ : Env} {ms : List Nat} {t : Tm} {a : Act} (hT : RelT ρ ms t a.tmps) {T : TypeId} {x : Operand} {lo hi mx : Option Operand} {z : AV} (h : evSlice P t T x lo hi mx = some z) (w : World) :
    ∃ r, z.inst ρ ms = some r ∧ (Instr.sliceAt T (a.eval x) (lo.map a.eval) (hi.map a.eval) (mx.map a.eval)).run P w = .ok r w := by
  unfold evSlice at h
  split at h
  · rename_i l h' n e m o h1 h2 h3 h4
    have hx := evGet_ok hT h4
    simp only [AV.inst, TV.inst, SV.inst, addr, Option.map_eq_some_iff] at hx
    obtain ⟨b, hb, hx⟩ := hx
    split at h
    case h_2 => cases h
    rename_i lw hg r s h5 h6
    simp only [Option.some.injEq] at h
    subst h
    obtain ⟨q1, q2, q3⟩ := bounds_ok (P := P) hT h1 h2 h5 false w
    refine ⟨_, (by simp only [AV.inst, TV.inst, SV.inst, hb, Option.map_some]; rfl), ?_⟩
    rw [← hx]
    simp [Instr.sliceAt, run_underlying h3, Instr.sureAddr, q1, sizeOf_run h6, Addr.add_mid]
    split <;> rfl
  · rename_i l h' e m o len cap h1 h2 h3 h4
    have hx := evGet_ok hT h4
    simp only [AV.inst, TV.inst, SV.inst, Option.map_eq_some_iff] at hx
    obtain ⟨b, hb, hx⟩ := hx
    split at h
    case isFalse => cases h
    rename_i hlc
    split at h
    case h_2 => cases h
    rename_i lw hg r s h5 h6
    simp only [Option.some.injEq] at h
    subst h
    obtain ⟨q1, q2, q3⟩ := bounds_ok (P := P) hT h1 h2 h5 true w
    refine ⟨_, (by simp only [AV.inst, TV.inst, SV.inst, hb, Option.map_some]; rfl), ?_⟩
    rw [← hx]
    simp [Instr.sliceAt, run_underlying h3, Instr.slice, q1, sizeOf_run h6, Addr.add_mid]
    split <;> rfl
  · rename_i l h' e m o e0 len h1 h2 h3 h4
    have hx := evGet_ok hT h4
    simp only [AV.inst, TV.inst, SV.inst] at hx
    obtain ⟨b, c, hb, hc, hle, hx⟩ := grown_iff.1 hx
    split at h
    case h_2 => cases h
    rename_i lw hg r s h5 h6
    split at h <;> cases h
    rename_i hlw
    have q23 := (bounds_ok (P := P) hT h1 h2 h5 true w).2
    obtain ⟨q2, q3⟩ := q23
    have h5' : bounds len (c - e0) l h' = some (lw, hg) := by
      unfold bounds at h5 ⊢
      simp only at h5 ⊢
      split at h5
      case isFalse => cases h5
      rename_i hcc
      rw [← h5, if_pos ⟨hcc.1, by omega, hcc.2.2⟩]
    obtain ⟨q1, _, _⟩ := bounds_ok (P := P) hT h1 h2 h5' true w
    refine ⟨.slice (some ⟨b, o + lw * s, none⟩) (hg - lw) (c - (e0 + lw)), ?_, ?_⟩
    · simp only [AV.inst, TV.inst, SV.inst]
      exact grown_iff.2 ⟨b, c, hb, hc, by omega, rfl⟩
    · rw [hx]
      simp [Instr.sliceAt, run_underlying h3, Instr.slice, q1, sizeOf_run h6, Addr.add_mid]
      first
      | (refine ⟨?_, by omega⟩; intro e1; have : lw = 0 := (by omega); subst this; simp)
      | skip
  · rename_i l h' bs h1 h2 h3 h4
    have hx := evGet_ok hT h4
    simp only [AV.inst, TV.inst, SV.inst, Option.some.injEq] at hx
    split at h
    case h_2 => cases h
    rename_i lw hg h5
    simp only [Option.some.injEq] at h
    subst h
    have hsz : (bytesOf bs).size = bs.length := by simp [bytesOf, ByteArray.size]
    obtain ⟨q1, q2, q3⟩ := bounds_ok (P := P) hT h1 h2 h5 false w
    refine ⟨_, rfl, ?_⟩
    rw [← hx]
    have e0 : (bytesOf bs).extract lw hg = bytesOf ((bs.drop lw).take (hg - lw)) := by
      apply ByteArray.ext
      simp [bytesOf, List.map_take, List.map_drop]
    simp only [Instr.sliceAt, Instr.slice, Sem.run_bind, run_underlying h3, Result.andThen_ok, hsz, Option.map_none, Option.isSome_none, Bool.false_eq_true, if_false, Sem.run_pure]
    rw [q1]
    simp [e0]
  · rename_i l h' e len cap h1 h2 h3 h4
    have hx := evGet_ok hT h4
    simp only [AV.inst, TV.inst, SV.inst, Option.some.injEq] at hx
    split at h
    case isFalse => cases h
    rename_i hlc
    split at h
    case h_2 => cases h
    rename_i lw hg r s h5 h6
    simp only [Option.some.injEq] at h
    subst h
    obtain ⟨q1, q2, q3⟩ := bounds_ok (P := P) hT h1 h2 h5 true w
    refine ⟨_, rfl, ?_⟩
    rw [← hx]
    simp [Instr.sliceAt, run_underlying h3, Instr.slice, q1, sizeOf_run h6]
  · rename_i q l h' e m o len cap h1 h2 h3 h4
    have hx := evGet_ok hT h4
    simp only [AV.inst, TV.inst, SV.inst, Option.map_eq_some_iff] at hx
    obtain ⟨b, hb, hx⟩ := hx
    split at h
    case h_2 => cases h
    rename_i kk n hq
    split at h
    case isFalse => cases h
    rename_i hn
    split at h
    case h_2 => cases h
    rename_i lw hg r s h5 h6
    simp only [Option.some.injEq] at h
    subst h
    obtain ⟨q1, q2, q3⟩ := bounds3_ok (P := P) (len := len) (cap := cap) hT h1 h2 hq hn.1 hn.2 h5 w
    refine ⟨_, (by simp only [AV.inst, TV.inst, SV.inst, hb, Option.map_some]; rfl), ?_⟩
    rw [← hx]
    simp only [Option.map_some]
    simp [Instr.sliceAt, run_underlying h3, Instr.slice, q1, sizeOf_run h6, Addr.add_mid]
    split <;> rfl
  · cases h
def evArr (P : Program) (T : TypeId) (x : AV) : Option AV :=
  match P.underlying T, x with
  | some (.array n _), .tv (.sc (.sl m o len _)) => if n ≤ len then some (.tv (.sc (.ptr m o))) else none
  | some (.array n _), .tv (.sc (.slg m o _ len)) => if n ≤ len then some (.tv (.sc (.ptr m o))) else none
  | _, _ => none
theorem evArr_ok {P : Program} {ρ : Env} {ms : List Nat} {T : TypeId} {x z : AV} (h : evArr P T x = some z) {u : Value} (hu : x.inst ρ ms = some u) (w : World) : ∃ r, z.inst ρ ms = some r ∧ (Instr.arrayAt T u).run P w = .ok r w := by
  unfold evArr at h
  split at h
  · rename_i n e m o len cap h1
    split at h <;> cases h
    rename_i hle
    simp only [AV.inst, TV.inst, SV.inst, Option.map_eq_some_iff] at hu
    obtain ⟨b, hb, rfl⟩ := hu
    refine ⟨_, (by simp only [AV.inst, TV.inst, SV.inst, addr, hb, Option.map_some]; rfl), ?_⟩
    simp [Instr.arrayAt, run_underlying h1]
    intro hlt; omega
  · rename_i n e m o e0 len h1
    split at h <;> cases h
    rename_i hle
    simp only [AV.inst, TV.inst, SV.inst] at hu
    obtain ⟨b, c, hb, hc, hl, rfl⟩ := grown_iff.1 hu
    refine ⟨_, (by simp only [AV.inst, TV.inst, SV.inst, addr, hb, Option.map_some]; rfl), ?_⟩
    simp [Instr.arrayAt, run_underlying h1]
    intro hlt; omega
  · cases h
def evFieldAddr (P : Program) (S : TypeId) (x : AV) (f : Nat) : Option AV :=
  match P.underlying S, x with
  | some (.struct fs), .tv (.sc (.ptr m o)) =>
    match fs[f]? with
    | some fd => match rowOf P fd.type with
      | some (_, s) => if s = 0 then none else some (.tv (.sc (.ptr m (o + fd.offset))))
      | none => none
    | none => none
  | _, _ => none
theorem evFieldAddr_ok {P : Program} {ρ : Env} {ms : List Nat} {S : TypeId} {f : Nat} {x z : AV} (h : evFieldAddr P S x f = some z) {u : Value} (hu : x.inst ρ ms = some u) (w : World) : ∃ r, z.inst ρ ms = some r ∧ (Instr.fieldAt S u f).run P w = .ok r w := by
  unfold evFieldAddr at h
  split at h
  · rename_i fs m o h1
    split at h
    case h_2 => cases h
    rename_i fd h2
    split at h
    case h_2 => cases h
    rename_i r s h3
    split at h
    · cases h
    rename_i hs
    simp only [Option.some.injEq] at h
    subst h
    simp only [AV.inst, TV.inst, SV.inst, addr, Option.map_eq_some_iff] at hu
    obtain ⟨b, hb, rfl⟩ := hu
    refine ⟨_, (by simp only [AV.inst, TV.inst, SV.inst, addr, hb, Option.map_some]; rfl), ?_⟩
    simp [Instr.fieldAt, run_underlying h1, h2, Instr.sureAddr, fieldPlace, sizeOf_run h3, hs, Addr.add_mid]
  · cases h
def evPart (P : Program) (T : TypeId) (l : List SV) (o : Nat) : Option AV :=
  match rowOf P T with
  | some (true, s) => if o + s ≤ l.length then some (.tv (.agg ((l.drop o).take s))) else none
  | some (false, _) => (l[o]?).map fun s => .tv (.sc s)
  | none => none
theorem evPart_ok {P : Program} {ρ : Env} {ms : List Nat} {T : TypeId} {l : List SV} {o : Nat} {z : AV} (h : evPart P T l o = some z) {vs : List Value} (hv : l.map (SV.inst ρ ms) = vs.map some) (w : World) :
    ∃ r, z.inst ρ ms = some r ∧ (part T vs.toArray o).run P w = .ok r w := by
  have hlen : l.length = vs.length := by have := congrArg List.length hv; simpa using this
  unfold evPart at h
  split at h
  · rename_i s h1
    split at h <;> cases h
    rename_i hle
    refine ⟨.agg ((vs.drop o).take s).toArray, ?_, part_run h1 w vs o (by simp) (by omega)⟩
    simp only [AV.inst, TV.inst]
    rw [(seqO_iff _ ((vs.drop o).take s)).2 (by rw [List.map_take, List.map_drop, hv, ← List.map_drop, ← List.map_take]), Option.map_some]
  · rename_i s h1
    rw [Option.map_eq_some_iff] at h
    obtain ⟨sv, h2, rfl⟩ := h
    have ho : o < vs.length := by rw [← hlen]; exact (List.getElem?_eq_some_iff.1 h2).1
    have e1 : (l.map (SV.inst ρ ms))[o]? = (vs.map some)[o]? := by rw [hv]
    simp only [List.getElem?_map, h2, List.getElem?_eq_getElem ho, Option.map_some, Option.some.injEq] at e1
    refine ⟨_, e1, ?_⟩
    obtain ⟨d, i, hu, hi, hd, hsz⟩ := rowOf_ok h1
    have hag := isAgg_run hu w
    rw [hd] at hag
    simp [part, hag, List.getElem?_eq_getElem ho]
  · cases h
def evField (P : Program) (S : TypeId) (x : AV) (f : Nat) : Option AV :=
  match P.underlying S, x with
  | some (.struct fs), .tv (.agg l) =>
    match fs[f]? with
    | some fd => evPart P fd.type l fd.offset
    | none => none
  | _, _ => none
theorem evField_ok {P : Program} {ρ : Env} {ms : List Nat} {S : TypeId} {f : Nat} {x z : AV} (h : evField P S x f = some z) {u : Value} (hu : x.inst ρ ms = some u) (w : World) : ∃ r, z.inst ρ ms = some r ∧ (Instr.field S u f).run P w = .ok r w := by
  unfold evField at h
  split at h
  · rename_i fs l h1
    split at h
    case h_2 => cases h
    rename_i fd h2
    simp only [AV.inst, TV.inst, Option.map_eq_some_iff] at hu
    obtain ⟨vs, h3, rfl⟩ := hu
    obtain ⟨r, h4, h5⟩ := evPart_ok h ((seqO_iff _ _).1 h3) w
    exact ⟨r, h4, by simp [Instr.field, run_underlying h1, h2, asAgg, h5]⟩
  · cases h
def evIndexAddr (P : Program) (T : TypeId) (x i : AV) : Option AV :=
  match P.underlying T, x, i with
  | some (.array n e), .tv (.sc (.ptr m o)), .tv (.sc (.int _ (.lit j))) =>
    match rowOf P e with
    | some (_, s) => if 0 ≤ j ∧ j < n then some (.tv (.sc (.ptr m (o + j.toNat * s)))) else none
    | none => none
  | some (.slice e), .tv (.sc (.sl m o n _)), .tv (.sc (.int _ (.lit j))) =>
    match rowOf P e with
    | some (_, s) => if 0 ≤ j ∧ j < n then some (.tv (.sc (.ptr m (o + j.toNat * s)))) else none
    | none => none
  | some (.slice e), .tv (.sc (.slg m o _ n)), .tv (.sc (.int _ (.lit j))) =>
    match rowOf P e with
    | some (_, s) => if 0 ≤ j ∧ j < n then some (.tv (.sc (.ptr m (o + j.toNat * s)))) else none
    | none => none
  | _, _, _ => none
theorem evIndexAddr_ok {P : Program} {ρ : Env} {ms : List Nat} {T : TypeId} {x i z : AV} (h : evIndexAddr P T x i = some z) {u v : Value} (hu : x.inst ρ ms = some u) (hv : i.inst ρ ms = some v) (w : World) :
    ∃ r, z.inst ρ ms = some r ∧ (Instr.indexAt T u v).run P w = .ok r w := by
  unfold evIndexAddr at h
  split at h
  · rename_i n e m o k j h1
    split at h
    case h_2 => cases h
    rename_i r s h2
    split at h <;> cases h
    rename_i hj
    simp only [AV.inst, TV.inst, SV.inst, addr, Ex.den, Option.map_eq_some_iff, Option.some.injEq] at hu hv
    obtain ⟨b, hb, rfl⟩ := hu
    subst hv
    refine ⟨_, (by simp only [AV.inst, TV.inst, SV.inst, addr, hb, Option.map_some]; rfl), ?_⟩
    simp [Instr.indexAt, asIntOf, run_underlying h1, Instr.sureAddr, hj, sizeOf_run h2, Addr.add_mid]
  · rename_i e m o n c k j h1
    split at h
    case h_2 => cases h
    rename_i r s h2
    split at h <;> cases h
    rename_i hj
    simp only [AV.inst, TV.inst, SV.inst, Ex.den, Option.map_eq_some_iff, Option.some.injEq] at hu hv
    obtain ⟨b, hb, rfl⟩ := hu
    subst hv
    refine ⟨_, (by simp only [AV.inst, TV.inst, SV.inst, addr, hb, Option.map_some]; rfl), ?_⟩
    simp [Instr.indexAt, asIntOf, run_underlying h1, hj, sizeOf_run h2, Addr.add_mid]
  · rename_i e m o e0 n k j h1
    split at h
    case h_2 => cases h
    rename_i r s h2
    split at h <;> cases h
    rename_i hj
    simp only [AV.inst, TV.inst, SV.inst, Ex.den, Option.some.injEq] at hu hv
    obtain ⟨b, c, hb, hc, hl, rfl⟩ := grown_iff.1 hu
    subst hv
    refine ⟨_, (by simp only [AV.inst, TV.inst, SV.inst, addr, hb, Option.map_some]; rfl), ?_⟩
    simp [Instr.indexAt, asIntOf, run_underlying h1, hj, sizeOf_run h2, Addr.add_mid]
  · cases h
def evIndex (P : Program) (T : TypeId) (x i : AV) : Option AV :=
  match P.underlying T, x, i with
  | some (.array n e), .tv (.agg l), .tv (.sc (.int _ (.lit j))) =>
    match rowOf P e with
    | some (_, s) => if 0 ≤ j ∧ j < n then evPart P e l (j.toNat * s) else none
    | none => none
  | some .string, .tv (.sc (.str l)), .tv (.sc (.int _ (.lit j))) =>
    if 0 ≤ j then (l[j.toNat]?).map fun x => .tv (.sc (.int .u8 (.lit ((x % 256 : Nat) : Int)))) else none
  | _, _, _ => none
theorem evIndex_ok {P : Program} {ρ : Env} {ms : List Nat} {T : TypeId} {x i z : AV} (h : evIndex P T x i = some z) {u v : Value} (hu : x.inst ρ ms = some u) (hv : i.inst ρ ms = some v) (w : World) :
    ∃ r, z.inst ρ ms = some r ∧ (Instr.index T u v).run P w = .ok r w := by
  unfold evIndex at h
  split at h
  · rename_i n e l k j h1
    split at h
    case h_2 => cases h
    rename_i r s h2
    split at h
    case isFalse => cases h
    rename_i hj
    simp only [AV.inst, TV.inst, SV.inst, Ex.den, Option.map_eq_some_iff, Option.some.injEq] at hu hv
    obtain ⟨vs, h3, rfl⟩ := hu
    subst hv
    obtain ⟨r, h4, h5⟩ := evPart_ok h ((seqO_iff _ _).1 h3) w
    exact ⟨r, h4, by simp [Instr.index, asIntOf, run_underlying h1, hj, sizeOf_run h2, h5]⟩
  · rename_i l k j h1
    split at h
    case isFalse => cases h
    rename_i hj
    rw [Option.map_eq_some_iff] at h
    obtain ⟨x, h2, rfl⟩ := h
    simp only [AV.inst, TV.inst, SV.inst, Ex.den, Option.some.injEq] at hu hv
    subst hu hv
    refine ⟨_, rfl, ?_⟩
    have hlt := (List.getElem?_eq_some_iff.1 h2).1
    have hx := (List.getElem?_eq_some_iff.1 h2).2
    have e1 : (bytesOf l)[j.toNat]? = some (UInt8.ofNat x) := by
      have hs : j.toNat < (bytesOf l).size := by simpa [bytesOf, ByteArray.size] using hlt
      rw [getElem?_pos (bytesOf l) j.toNat hs]
      congr 1
      show (bytesOf l).data[j.toNat] = _
      simp [bytesOf, hx]
    simp [Instr.index, asIntOf, run_underlying h1, hj, e1, Ex.den]
  · cases h
def evZero (P : Program) (T : TypeId) : Option (List SV) :=
  match P.info? T with
  | some i => match i.zero with | some z => seqO (z.cells.toList.map ofScalar) | none => none
  | none => none
theorem evZero_ok {P : Program} {T : TypeId} {l : List SV} (h : evZero P T = some l) : ∃ i z, P.info? T = some i ∧ i.zero = some z ∧ ∀ (ρ : Env) (ms : List Nat), l.map (SV.inst ρ ms) = z.cells.toList.map some := by
  unfold evZero at h
  split at h
  case h_2 => cases h
  rename_i i hi
  split at h
  case h_2 => cases h
  rename_i z hz
  refine ⟨i, z, hi, hz, fun ρ ms => ?_⟩
  rw [seqO_iff] at h
  have key : ∀ (vs : List Value) (l : List SV), vs.map ofScalar = l.map some → l.map (SV.inst ρ ms) = vs.map some := by
    intro vs
    induction vs with
    | nil => intro l hl; cases l <;> simp at hl ⊢
    | cons v vs ih =>
      intro l hl
      cases l with
      | nil => simp at hl
      | cons s l =>
        simp only [List.map_cons, List.cons.injEq] at hl ⊢
        exact ⟨ofScalar_inst hl.1, ih l hl.2⟩
  exact key _ _ h
theorem zeroValue_run {P : Program} {T : TypeId} {i : TypeInfo} {z : Value} (hi : P.info? T = some i) (hz : i.zero = some z) (w : World) : (zeroValue T).run P w = .ok z w := by
  simp [zeroValue, typeInfo, hi, hz]
def fillA (place : Nat → Option (Nat × Nat)) : List SV → List (Nat × List SV) → Option (List SV)
  | cells, [] => some cells
  | cells, (i, l) :: rest =>
    match place i with
    | none => none
    | some (off, size) => if l.length = size ∧ off + l.length ≤ cells.length then fillA place (over cells off l) rest else none
theorem foldl_set (off : Nat) : ∀ (l : List Value) (k : Nat) (c : Array Value) (j : Nat), off + k + l.length ≤ c.size →
    ((l.zipIdx k).foldl (fun cs (p : Value × Nat) => cs.setIfInBounds (off + p.2) p.1) c)[j]? = if off + k ≤ j ∧ j < off + k + l.length then l[j - (off + k)]? else c[j]?
  | [], k, c, j, _ => by simp; intro h1 h2; omega
  | v :: l, k, c, j, h => by
    simp only [List.length_cons] at h
    rw [List.zipIdx_cons, List.foldl_cons, foldl_set off l (k + 1) _ j (by simp; omega)]
    simp only [List.length_cons]
    by_cases h1 : off + (k + 1) ≤ j ∧ j < off + (k + 1) + l.length
    · rw [if_pos h1, if_pos (by omega), show j - (off + k) = (j - (off + (k + 1))) + 1 by omega, List.getElem?_cons_succ]
    · rw [if_neg h1, Array.getElem?_setIfInBounds]
      by_cases h2 : off + k = j
      · rw [if_pos h2, if_pos (by omega), if_pos (by omega), show j - (off + k) = 0 by omega, List.getElem?_cons_zero]
      · rw [if_neg h2, if_neg (by omega)]
theorem fill_ok {ρ : Env} {ms : List Nat} (place : Nat → Option (Nat × Nat)) : ∀ (parts : List (Nat × List SV)) (vparts : List (Nat × Value)) (cells l : List SV) (vs : List Value), cells.map (SV.inst ρ ms) = vs.map some →
    parts.map (fun p => (p.1, p.2.map (SV.inst ρ ms))) = vparts.map (fun p => (p.1, p.2.cells.toList.map some)) → fillA place cells parts = some l →
    ∃ us : List Value, l.map (SV.inst ρ ms) = us.map some ∧ Instr.fill place vs.toArray vparts = some us.toArray
  | [], vparts, cells, l, vs, hc, hp, h => by
    cases vparts <;> simp at hp
    simp only [fillA, Option.some.injEq] at h
    subst h
    exact ⟨vs, hc, rfl⟩
  | (i, p) :: parts, vparts, cells, l, vs, hc, hp, h => by
    cases vparts with
    | nil => simp at hp
    | cons q vparts =>
      obtain ⟨i', v⟩ := q
      simp only [List.map_cons, List.cons.injEq, Prod.mk.injEq] at hp
      obtain ⟨⟨rfl, hv⟩, hp⟩ := hp
      simp only [fillA] at h
      split at h
      case h_1 => cases h
      rename_i off size hpl
      split at h
      case isFalse => cases h
      rename_i hcond
      have hlen : p.length = v.cells.size := by have := congrArg List.length hv; simpa using this
      have hlc : cells.length = vs.length := by have := congrArg List.length hc; simpa using this
      have hov : (over cells off p).map (SV.inst ρ ms) = ((v.cells.zipIdx.foldl (fun cs (c : Value × Nat) => cs.setIfInBounds (off + c.2) c.1) vs.toArray)).toList.map some := by
        apply List.ext_getElem?
        intro j
        have fs := foldl_set off v.cells.toList 0 vs.toArray j (by simp; omega)
        rw [← Array.toList_zipIdx, Array.foldl_toList] at fs
        simp only [Nat.add_zero] at fs
        rw [← Array.getElem?_toList] at fs
        rw [List.getElem?_map, over_get _ _ _ hcond.2, List.getElem?_map, fs]
        have e1 : ∀ j, (p[j]?).map (SV.inst ρ ms) = (v.cells.toList[j]?).map some := fun j => by rw [← List.getElem?_map, ← List.getElem?_map, hv]
        have e2 : ∀ j, (cells[j]?).map (SV.inst ρ ms) = (vs[j]?).map some := fun j => by rw [← List.getElem?_map, ← List.getElem?_map, hc]
        by_cases hin : off ≤ j ∧ j < off + p.length
        · rw [if_pos hin, if_pos (by simp; omega), e1]
        · rw [if_neg hin, if_neg (by simp; omega), e2]; simp
      obtain ⟨us, h1, h2⟩ := fill_ok place parts vparts _ l _ hov hp h
      refine ⟨us, h1, ?_⟩
      simp only [Instr.fill, hpl]
      rw [if_neg (by simp; omega)]
      rw [Array.toArray_toList] at h2
      exact h2
def partsOf (t : Tm) (parts : List (Nat × Operand)) : Option (List (Nat × List SV)) := seqO (parts.map fun p => (gCells t p.2).map fun l => (p.1, l))
theorem partsOf_ok {ρ : Env} {ms : List Nat} {t : Tm} {a : Act} (hT : RelT ρ ms t a.tmps) : ∀ (parts : List (Nat × Operand)) (ps : List (Nat × List SV)), partsOf t parts = some ps →
    ps.map (fun p => (p.1, p.2.map (SV.inst ρ ms))) = (parts.map fun p => (p.1, a.eval p.2)).map (fun p => (p.1, p.2.cells.toList.map some))
  | [], ps, h => by simp [partsOf, seqO] at h; subst h; rfl
  | (i, x) :: parts, ps, h => by
    unfold partsOf at h
    rw [seqO_iff] at h
    cases ps with
    | nil => simp at h
    | cons p ps =>
      simp only [List.map_cons, List.cons.injEq, Option.map_eq_some_iff] at h
      obtain ⟨⟨l, h1, rfl⟩, h2⟩ := h
      obtain ⟨vs, h3, h4⟩ := gCells_ok hT h1
      simp only [List.map_cons, List.cons.injEq, h4, h3, true_and]
      exact partsOf_ok hT parts ps (by unfold partsOf; rw [seqO_iff]; exact h2)
def placesOf (P : Program) (fs : List Field) : Option (List (Nat × Nat)) := seqO (fs.map fun f => (rowOf P f.type).map fun r => (f.offset, r.2))
theorem mapM_run {α β : Type} {P : Program} (w : World) (f : α → Sem β) : ∀ (l : List α) (r : List β), l.length = r.length → (∀ (i : Nat) (x : α) (y : β), l[i]? = some x → r[i]? = some y → (f x).run P w = .ok y w) → (l.mapM f).run P w = .ok r w
  | [], [], _, _ => rfl
  | [], _ :: _, h, _ => by simp at h
  | _ :: _, [], h, _ => by simp at h
  | x :: l, y :: r, h, hf => by
    rw [List.mapM_cons, Sem.run_bind, hf 0 x y rfl rfl, Result.andThen_ok, Sem.run_bind, mapM_run w f l r (by simpa using h) (fun i a b h1 h2 => hf (i + 1) a b (by simpa using h1) (by simpa using h2)), Result.andThen_ok, Sem.run_pure]
def evBuild (P : Program) (t : Tm) (T : TypeId) (parts : List (Nat × Operand)) : Option AV :=
  match evZero P T, partsOf t parts, P.underlying T with
  | some z, some ps, some (.array _ e) =>
    match rowOf P e with
    | some (_, s) => (fillA (fun i => some (i * s, s)) z ps).map fun l => .tv (.agg l)
    | none => none
  | some z, some ps, some (.struct fs) =>
    match placesOf P fs.toList with
    | some pl => (fillA (fun i => pl[i]?) z ps).map fun l => .tv (.agg l)
    | none => none
  | _, _, _ => none
theorem evBuild_ok {P : Program} {ρ : Env} {ms : List Nat} {t : Tm} {a : Act} (hT : RelT ρ ms t a.tmps) {T : TypeId} {parts : Array (Nat × Operand)} {z : AV} (h : evBuild P t T parts.toList = some z) (w : World) :
    ∃ r, z.inst ρ ms = some r ∧ (Instr.build T (parts.map fun p => (p.1, a.eval p.2))).run P w = .ok r w := by
  unfold evBuild at h
  split at h
  · rename_i zl ps n e h1 h2 h3
    obtain ⟨i, z0, hi, hz, hzl⟩ := evZero_ok h1
    split at h
    case h_2 => cases h
    rename_i r s h4
    rw [Option.map_eq_some_iff] at h
    obtain ⟨l, h5, rfl⟩ := h
    obtain ⟨us, h6, h7⟩ := fill_ok (ρ := ρ) (ms := ms) _ ps _ zl l z0.cells.toList (hzl ρ ms) (partsOf_ok hT _ _ h2) h5
    refine ⟨.agg us.toArray, by simp only [AV.inst, TV.inst, (seqO_iff _ _).2 h6, Option.map_some], ?_⟩
    rw [Array.toArray_toList] at h7
    simp only [Instr.build, Sem.run_bind, zeroValue_run hi hz, Result.andThen_ok, run_underlying h3, sizeOf_run h4, Array.toList_map, h7]
    rfl
  · rename_i zl ps fs h1 h2 h3
    obtain ⟨i, z0, hi, hz, hzl⟩ := evZero_ok h1
    split at h
    case h_2 => cases h
    rename_i pl h4
    rw [Option.map_eq_some_iff] at h
    obtain ⟨l, h5, rfl⟩ := h
    obtain ⟨us, h6, h7⟩ := fill_ok (ρ := ρ) (ms := ms) _ ps _ zl l z0.cells.toList (hzl ρ ms) (partsOf_ok hT _ _ h2) h5
    refine ⟨.agg us.toArray, by simp only [AV.inst, TV.inst, (seqO_iff _ _).2 h6, Option.map_some], ?_⟩
    rw [Array.toArray_toList] at h7
    unfold placesOf at h4
    rw [seqO_iff] at h4
    have hpl : (fs.mapM fun f => do pure (f.offset, ← sizeOf f.type) : Sem (Array (Nat × Nat))).run P w = .ok pl.toArray w := by
      rw [Array.mapM_eq_mapM_toList, Sem.run_map, mapM_run w _ fs.toList pl (by have := congrArg List.length h4; simpa using this) (fun i x y hx hy => by
        have e : (fs.toList.map fun f => (rowOf P f.type).map fun r => (f.offset, r.2))[i]? = (pl.map some)[i]? := by rw [h4]
        rw [List.getElem?_map, List.getElem?_map, hx, hy] at e
        simp only [Option.map_some, Option.some.injEq, Option.map_eq_some_iff] at e
        obtain ⟨⟨r, s⟩, e1, e2⟩ := e
        subst e2
        simp [sizeOf_run e1])]
      rfl
    simp only [Instr.build, Sem.run_bind, zeroValue_run hi hz, Result.andThen_ok, run_underlying h3, hpl, Array.toList_map]
    have e9 : (fun x : Nat => pl.toArray[x]?) = (fun i : Nat => pl[i]?) := by funext x; simp
    rw [e9, h7]
    rfl
  · cases h
def ptrs (l : List (Nat × Nat)) : List AV := l.map fun p => .tv (.sc (.ptr p.1 p.2))
def evMth (nm : String) : AV → Option AV
  | .tv (.sc (.ifp t n o)) => some (.tv (.sc (.mtp nm t n o)))
  | .tv (.sc (.ife t)) => some (.tv (.sc (.mte nm t)))
  | _ => none
theorem evMth_ok {ρ : Env} {ms : List Nat} {nm : String} {a v : AV} (h : evMth nm a = some v) {u : Value} (hu : a.inst ρ ms = some u) : v.inst ρ ms = some (.func (.method nm) #[u] #[]) := by
  unfold evMth at h
  split at h
  · simp only [Option.some.injEq] at h
    subst h
    simp only [AV.inst, TV.inst, SV.inst, Option.map_eq_some_iff] at hu ⊢
    obtain ⟨x, hx, rfl⟩ := hu
    exact ⟨x, hx, rfl⟩
  · simp only [Option.some.injEq] at h
    subst h
    simp only [AV.inst, TV.inst, SV.inst, Option.some.injEq] at hu
    subst hu
    rfl
  · cases h
def nilF (P : Program) (ty : TypeId) (name : String) : Bool :=
  match P.info? ty with
  | some i =>
    match i.methods.find? (·.name == name) with
    | some m => m.path.isEmpty && (match m.func, P.underlying ty with
      | some (_, true), _ => true
      | some (_, false), some (.struct _) => true
      | _, _ => false)
    | none => false
  | none => false
theorem nilF_ok {P : Program} {ty : TypeId} {name : String} (h : nilF P ty name = true) (v : Value) (k : Nat) (w : World) : (nilAhead (k + 1) ty v name).run P w = .ok (some false) w := by
  unfold nilF at h
  split at h
  case h_2 => cases h
  rename_i i hi
  split at h
  case h_2 => cases h
  rename_i m hm
  rw [Bool.and_eq_true] at h
  have hp2 : m.path.toList = [] := by simpa using h.1
  have h2 := h.2
  split at h2
  · rename_i g _ h3
    simp [nilAhead, typeInfo, hi, hm, hp2, followBlind, h3]
  · rename_i g e h3 h4
    simp [nilAhead, typeInfo, hi, hm, hp2, followBlind, h3, run_underlying h4]
  · cases h2
def evMthNil (P : Program) : AV → Option AV
  | .tv (.sc (.mtp nm t n o)) => if nilF P t nm then some (.tv (.sc (.mtp nm t n o))) else none
  | .tv (.sc (.mte nm t)) => if nilF P t nm then some (.tv (.sc (.mte nm t))) else none
  | _ => none
theorem evMthNil_ok {P : Program} {ρ : Env} {ms : List Nat} {a v : AV} (h : evMthNil P a = some v) {u : Value} (hu : a.inst ρ ms = some u) : v = a ∧ ∃ nm t x, u = .func (.method nm) #[.iface t x] #[] ∧ nilF P t nm = true := by
  unfold evMthNil at h
  split at h
  · split at h <;> cases h
    rename_i hn
    simp only [AV.inst, TV.inst, SV.inst, Option.map_eq_some_iff] at hu
    obtain ⟨x, hx, rfl⟩ := hu
    exact ⟨rfl, _, _, _, rfl, hn⟩
  · split at h <;> cases h
    rename_i hn
    simp only [AV.inst, TV.inst, SV.inst, Option.some.injEq] at hu
    exact ⟨rfl, _, _, _, hu.symm, hn⟩
  · cases h
def evIface (P : Program) (T : TypeId) (a : AV) : Option AV :=
  match P.underlying T with
  | some (.pointer _) => match a with | .tv (.sc (.ptr n o)) => some (.tv (.sc (.ifp T n o))) | _ => none
  | some (.struct _) => match a with | .tv (.agg []) => some (.tv (.sc (.ife T))) | _ => none
  | _ => none
theorem evIface_ok {P : Program} {ρ : Env} {ms : List Nat} {T : TypeId} {a v : AV} (h : evIface P T a = some v) {u : Value} (hu : a.inst ρ ms = some u) (w : World) : v.inst ρ ms = some (.iface T u) ∧ (Instr.makeInterface T u).run P w = .ok (.iface T u) w := by
  unfold evIface at h
  split at h
  · rename_i e hT
    split at h
    · simp only [Option.some.injEq] at h
      subst h
      refine ⟨?_, by simp [Instr.makeInterface, run_underlying hT]⟩
      simp only [AV.inst, TV.inst, SV.inst] at hu ⊢
      rw [hu]; rfl
    · cases h
  · rename_i e hT
    split at h
    · simp only [Option.some.injEq] at h
      subst h
      refine ⟨?_, by simp [Instr.makeInterface, run_underlying hT]⟩
      simp only [AV.inst, TV.inst, List.map_nil, seqO, Option.map_some, Option.some.injEq] at hu
      subst hu
      rfl
    · cases h
  · cases h
def isNilLit : Operand → Bool
  | .const .nilIface => true
  | _ => false
def evNil (P : Program) (op : BinOp) (T : TypeId) (x y : Operand) (a b : AV) : Option AV :=
  match P.underlying T, a, b with
  | some (.interface _), .tv (.sc .nili), .tv (.sc .nili) =>
    if isNilLit x || isNilLit y then
      match op with
      | .eql => some (.tv (.sc (.bool true)))
      | .neq => some (.tv (.sc (.bool false)))
      | _ => none
    else none
  | _, _, _ => none
theorem evNil_ok {P : Program} {ρ : Env} {ms : List Nat} {op : BinOp} {T : TypeId} {x y : Operand} {a b z : AV} (h : evNil P op T x y a b = some z) {u v : Value} (hu : a.inst ρ ms = some u) (hv : b.inst ρ ms = some v) (w : World) :
    ∃ r, z.inst ρ ms = some r ∧ (do eqGuard op T x y u v; binOp op T u v : Sem Value).run P w = .ok r w := by
  unfold evNil at h
  split at h
  case h_2 => cases h
  rename_i e hT
  split at h
  case isFalse => cases h
  rename_i hl
  simp only [AV.inst, TV.inst, SV.inst, Option.some.injEq] at hu hv
  subst hu hv
  have hn : ∀ z : Operand, isNilLit z = true → z = .const .nilIface := fun z hz => by
    unfold isNilLit at hz
    split at hz
    · rfl
    · cases hz
  have hg : ∀ op, (eqGuard op T x y .nilIface .nilIface).run P w = .ok () w := fun op => by
    rw [Bool.or_eq_true] at hl
    rcases hl with h1 | h1
    · rw [hn _ h1]
      unfold eqGuard
      cases op <;> simp
    · rw [hn _ h1]
      unfold eqGuard
      cases op <;> simp
  have ke0 : ∀ D, (Op.equalIn (D + 1) T .nilIface .nilIface).run P w = .ok true w := fun D => by
    simp only [Op.equalIn, Sem.run_bind, run_underlying hT, Result.andThen_ok, Sem.run_pure]
  have ke : (Op.equal T .nilIface .nilIface).run P w = .ok true w := ke0 9999
  split at h
  · simp only [Option.some.injEq] at h
    subst h
    exact ⟨.bool true, rfl, by simp only [Sem.run_bind, hg, Result.andThen_ok, binOp, ke, Sem.run_pure]⟩
  · simp only [Option.some.injEq] at h
    subst h
    exact ⟨.bool false, rfl, by simp only [Sem.run_bind, hg, Result.andThen_ok, binOp, ke, Sem.run_pure]; rfl⟩
  · cases h
def evBinO (P : Program) (L : Lore) (op : BinOp) (T : TypeId) (x y : Operand) (a b : AV) : Option AV :=
  match evBin P L op T a b with
  | some r => some r
  | none => evNil P op T x y a b
def evReadX : Op → Program → Lore → Tm → List Blk → Option AV
  | .move x => fun P L t H => evGet t x
  | .assign x => fun P L t H => evGet t x
  | .pick c a b => fun P L t H =>
    match evGet t c with
    | some (.tv (.sc (.bool true))) => evGet t a
    | some (.tv (.sc (.bool false))) => evGet t b
    | _ => none
  | .load T x => fun P L t H => evLoad P t H T x
  | .nilCheck x => fun P L t H =>
    match evGet t x with
    | some (.tv (.sc (.ptr n o))) => some (.tv (.sc (.ptr n o)))
    | some (.tv (.sc (.clo f c))) => some (.tv (.sc (.clo f c)))
    | some v => evMthNil P v
    | _ => none
  | .binOp op T x y _ => fun P L t H => match evGet t x, evGet t y with | some a, some b => evBinO P L op T x y a b | _, _ => none
  | .unOp op _ x => fun P L t H => match evGet t x with | some a => evUn op a | none => none
  | .convert s d x => fun P L t H => match evGet t x with | some a => evConv P s d a | none => none
  | .sliceToArrayPointer T x => fun P L t H => match evGet t x with | some a => evArr P T a | none => none
  | .slice T x lo hi mx => fun P L t H => evSlice P t T x lo hi mx
  | .fieldAddr S x f => fun P L t H => match evGet t x with | some a => evFieldAddr P S a f | none => none
  | .field S x f => fun P L t H => match evGet t x with | some a => evField P S a f | none => none
  | .indexAddr T x i => fun P L t H => match evGet t x, evGet t i with | some a, some b => evIndexAddr P T a b | _, _ => none
  | .index T x i => fun P L t H => match evGet t x, evGet t i with | some a, some b => evIndex P T a b | _, _ => none
  | .makeFunc (.func f) first caps => fun P L t H =>
    if first.size = 0 then (seqO (caps.toList.map (gPtr t))).map fun l => .tv (.sc (.clo f l)) else none
  | .makeFunc (.method nm) first caps => fun P L t H =>
    match first.toList, caps.toList with
    | [x], [] => (evGet t x).bind (evMth nm)
    | _, _ => none
  | .extract x i => fun P L t H =>
    match evGet t x with
    | some (.tup l) => (l[i]?).map .tv
    | _ => none
  | .build T parts => fun P L t H => evBuild P t T parts.toList
  | .makeInterface T x => fun P L t H => match evGet t x with | some a => evIface P T a | none => none
  | _ => fun _ _ _ _ => none
def evRead (P : Program) (L : Lore) (t : Tm) (H : List Blk) (op : Op) : Option AV := evReadX op P L t H
theorem evRead_ok {P : Program} {ρ : Env} {ms : List Nat} {L : Lore} (hL : LoreOk ρ L) {t : Tm} {H : List Blk} {a : Act} {o : Oper} {v : AV} (hT : RelT ρ ms t a.tmps) (h : evRead P L t H o.op = some v) (w : World) (hH : ∀ T x n c, o.op = .load T x → gPtr t x = some (n, c) → SeesAt ρ ms H w n c (loadLen P T)) :
    ∃ u, v.inst ρ ms = some u ∧ (execOp a.eval o).run P w = .ok (.value u) w := by
  cases hop : o.op <;> rw [hop] at h <;> simp only [evRead, evReadX] at h <;> try (cases h; done)
  case move x => exact ⟨_, evGet_ok hT h, by simp [execOp, hop]⟩
  case assign x => exact ⟨_, evGet_ok hT h, by simp [execOp, hop]⟩
  case pick c x y =>
    split at h
    · rename_i hc
      have := evGet_ok hT hc
      simp only [AV.inst, TV.inst, SV.inst, Option.some.injEq] at this
      exact ⟨_, evGet_ok hT h, by simp [execOp, hop, ← this, asBool]⟩
    · rename_i hc
      have := evGet_ok hT hc
      simp only [AV.inst, TV.inst, SV.inst, Option.some.injEq] at this
      exact ⟨_, evGet_ok hT h, by simp [execOp, hop, ← this, asBool]⟩
    · cases h
  case load T x =>
    obtain ⟨u, h1, h2⟩ := evLoad_ok hT (fun n c => hH T x n c hop) h
    exact ⟨u, h1, by simp [execOp, hop, h2]⟩
  case nilCheck x =>
    split at h
    · rename_i n o2 hc
      simp only [Option.some.injEq] at h
      subst h
      have h1 := evGet_ok hT hc
      refine ⟨_, h1, ?_⟩
      simp only [AV.inst, TV.inst, SV.inst, addr, Option.map_eq_some_iff] at h1
      obtain ⟨b, _, h1⟩ := h1
      simp [execOp, hop, ← h1]
    · rename_i f c hc
      simp only [Option.some.injEq] at h
      subst h
      have h1 := evGet_ok hT hc
      refine ⟨_, h1, ?_⟩
      simp only [AV.inst, TV.inst, SV.inst, Option.map_eq_some_iff] at h1
      obtain ⟨b, _, h1⟩ := h1
      simp [execOp, hop, ← h1]
    · rename_i hc
      obtain ⟨rfl, nm, ty, x', hu, hn⟩ := evMthNil_ok h (evGet_ok hT hc)
      refine ⟨_, evGet_ok hT hc, ?_⟩
      have hd : P.types.size + Made.depth = (P.types.size + (Made.depth - 1)) + 1 := rfl
      have hm := nilF_ok hn x' (P.types.size + (Made.depth - 1)) w
      rw [← hd] at hm
      simp only [execOp, hop, hu]
      simp only [List.getElem?_toArray, List.getElem?_cons_zero, program, Sem.run_bind, Sem.run, hm, Result.andThen_ok]
      rfl
    · cases h
  case binOp op T x y T' =>
    split at h
    case h_2 => cases h
    rename_i p q h1 h2
    obtain ⟨r, h3, h4⟩ : ∃ r, v.inst ρ ms = some r ∧ (do eqGuard op T x y (a.eval x) (a.eval y); Go.binOp op T (a.eval x) (a.eval y) : Sem Value).run P w = .ok r w := by
      unfold evBinO at h
      split at h
      · rename_i hb
        simp only [Option.some.injEq] at h
        subst h
        exact evBin_ok hL hb (evGet_ok hT h1) (evGet_ok hT h2) x y w
      · exact evNil_ok h (evGet_ok hT h1) (evGet_ok hT h2) w
    refine ⟨r, h3, ?_⟩
    simp only [execOp, hop]
    rw [Sem.run_bind, h4]; rfl
  case makeInterface T x =>
    split at h
    case h_2 => cases h
    rename_i p h1
    obtain ⟨h3, h4⟩ := evIface_ok (P := P) h (evGet_ok hT h1) w
    exact ⟨_, h3, by simp [execOp, hop, h4]⟩
  case unOp op T x =>
    split at h
    case h_2 => cases h
    rename_i p h1
    obtain ⟨r, h3, h4⟩ := evUn_ok (P := P) h (evGet_ok hT h1) w
    exact ⟨r, h3, by simp [execOp, hop, h4]⟩
  case convert s d x =>
    split at h
    case h_2 => cases h
    rename_i p h1
    obtain ⟨r, h3, h4⟩ := evConv_ok h (evGet_ok hT h1) w
    exact ⟨r, h3, by simp [execOp, hop, h4]⟩
  case sliceToArrayPointer T x =>
    split at h
    case h_2 => cases h
    rename_i p h1
    obtain ⟨r, h3, h4⟩ := evArr_ok h (evGet_ok hT h1) w
    exact ⟨r, h3, by simp [execOp, hop, h4]⟩
  case slice T x lo hi mx =>
    obtain ⟨r, h3, h4⟩ := evSlice_ok hT h w
    exact ⟨r, h3, by simp [execOp, hop, h4]⟩
  case fieldAddr S x f =>
    split at h
    case h_2 => cases h
    rename_i p h1
    obtain ⟨r, h3, h4⟩ := evFieldAddr_ok h (evGet_ok hT h1) w
    exact ⟨r, h3, by simp [execOp, hop, h4]⟩
  case field S x f =>
    split at h
    case h_2 => cases h
    rename_i p h1
    obtain ⟨r, h3, h4⟩ := evField_ok h (evGet_ok hT h1) w
    exact ⟨r, h3, by simp [execOp, hop, h4]⟩
  case indexAddr T x i =>
    split at h
    case h_2 => cases h
    rename_i p q h1 h2
    obtain ⟨r, h3, h4⟩ := evIndexAddr_ok h (evGet_ok hT h1) (evGet_ok hT h2) w
    exact ⟨r, h3, by simp [execOp, hop, h4]⟩
  case index T x i =>
    split at h
    case h_2 => cases h
    rename_i p q h1 h2
    obtain ⟨r, h3, h4⟩ := evIndex_ok h (evGet_ok hT h1) (evGet_ok hT h2) w
    exact ⟨r, h3, by simp [execOp, hop, h4]⟩
  case makeFunc fn first caps =>
    cases fn <;> simp only at h <;> try (cases h; done)
    case method nm =>
      split at h
      case h_2 => cases h
      rename_i x hf hcp
      rw [Option.bind_eq_some_iff] at h
      obtain ⟨p, h1, h2⟩ := h
      have e1 : first = #[x] := by rw [← Array.toArray_toList (xs := first), hf]
      have e2 : caps = #[] := by rw [← Array.toArray_toList (xs := caps), hcp]
      exact ⟨_, evMth_ok h2 (evGet_ok hT h1), by simp [execOp, hop, Instr.makeFunc, e1, e2]⟩
    rename_i f
    split at h
    case isFalse => cases h
    rename_i hf
    rw [Option.map_eq_some_iff] at h
    obtain ⟨l, h1, rfl⟩ := h
    rw [seqO_iff] at h1
    have hcap : (l.map (addr ms)) = (caps.toList.map a.eval).map some := by
      have key : ∀ (xs : List Operand) (l : List (Nat × Nat)), xs.map (gPtr t) = l.map some → l.map (addr ms) = (xs.map a.eval).map some := by
        intro xs
        induction xs with
        | nil => intro l hl; cases l <;> simp at hl ⊢
        | cons x xs ih =>
          intro l hl
          cases l with
          | nil => simp at hl
          | cons p l =>
            simp only [List.map_cons, List.cons.injEq] at hl ⊢
            obtain ⟨n, o3⟩ := p
            obtain ⟨b, hb, he⟩ := gPtr_ok hT hl.1
            exact ⟨by rw [he]; simp [addr, hb], ih l hl.2⟩
      exact key _ _ h1
    refine ⟨.func (.func f) #[] (caps.toList.map a.eval).toArray, ?_, ?_⟩
    · simp only [AV.inst, TV.inst, SV.inst]
      rw [(seqO_iff _ _).2 hcap]; rfl
    · have e : first.map a.eval = #[] := by simpa using hf
      have e2 : caps.map a.eval = (caps.toList.map a.eval).toArray := by rw [← Array.toList_map, Array.toArray_toList]
      simp [execOp, hop, Instr.makeFunc, e, e2]
  case extract x i =>
    split at h
    case h_2 => cases h
    rename_i l h1
    have h2 := evGet_ok hT h1
    rw [Option.map_eq_some_iff] at h
    obtain ⟨tv, h3, rfl⟩ := h
    simp only [AV.inst, Option.map_eq_some_iff] at h2
    obtain ⟨vs, h4, h5⟩ := h2
    rw [seqO_iff] at h4
    have e : (l.map (TV.inst ρ ms))[i]? = (vs.map some)[i]? := by rw [h4]
    rw [List.getElem?_map, List.getElem?_map, h3] at e
    cases hv : vs[i]? with
    | none => rw [hv] at e; simp at e
    | some u =>
      rw [hv] at e
      simp only [Option.map_some, Option.some.injEq] at e
      exact ⟨u, e, by simp [execOp, hop, ← h5, Instr.extract, hv]⟩
  case build T parts =>
    obtain ⟨r, h3, h4⟩ := evBuild_ok hT h w
    exact ⟨r, h3, by simp [execOp, hop, h4]⟩
end Go.Proofs.Ytnifnoadfepegaa.Ev
