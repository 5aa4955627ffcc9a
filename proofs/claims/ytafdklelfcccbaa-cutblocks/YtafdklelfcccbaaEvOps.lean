/- The evaluator's operations: what each makes of its operands; and that the model makes the same. -/
import Derived.Test.YtafdklelfcccbaaEv
import Derived.Laws.Entries
namespace Go.Proofs.Ytafdklelfcccbaa.Ev
open Go Go.RowKit

def ofScalar : Value → Option SV
  | .int k n => some (.int k (.lit n))
  | .bool b => some (.bool b)
  | .pointer none => some .nilp
  | .slice none l c => some (.nils l c)
  | .nilFunc => some .nilf
  | .map none => some .nilm
  | .nilIface => some .nili
  | .string s => some (.str (s.data.toList.map UInt8.toNat))
  | _ => none
def evGet (t : Tm) : Operand → Option AV
  | .tmp i => t.get i
  | .const v => (ofScalar v).map fun s => .tv (.sc s)
  | .func f => some (.tv (.sc (.clo f [])))
  | .global g => if g < nGl then some (.tv (.sc (.ptr g 0))) else none
theorem bytesOf_self (s : ByteArray) : bytesOf (s.data.toList.map UInt8.toNat) = s := by
  unfold bytesOf
  obtain ⟨⟨l⟩⟩ := s
  simp only [List.map_map]
  congr 2
  conv => rhs; rw [← List.map_id l]
  refine List.map_congr_left fun x _ => ?_
  simp
theorem ofScalar_inst {ρ : Env} {ms : List Nat} {v : Value} {s : SV} (h : ofScalar v = some s) : s.inst ρ ms = some v := by
  cases v <;> simp [ofScalar] at h
  case int => subst h; rfl
  case bool => subst h; rfl
  case pointer a => cases a <;> simp at h; subst h; rfl
  case slice a l c => cases a <;> simp at h; subst h; rfl
  case map a => cases a <;> simp at h; subst h; rfl
  case nilFunc => subst h; rfl
  case nilIface => subst h; rfl
  case string s => subst h; simp only [SV.inst, bytesOf_self]
theorem evGet_ok {ρ : Env} {ms : List Nat} {t : Tm} {a : Act} (hT : RelT ρ ms t a.tmps) {x : Operand} {v : AV} (h : evGet t x = some v) : v.inst ρ ms = some (a.eval x) := by
  cases x with
  | tmp i =>
    obtain ⟨u, h1, h2⟩ := hT.get h
    rw [h2]
    simp [Act.eval, Array.getD_eq_getD_getElem?, h1]
  | const c =>
    simp only [evGet, Option.map_eq_some_iff] at h
    obtain ⟨s, h1, rfl⟩ := h
    exact ofScalar_inst h1
  | func f =>
    simp only [evGet, Option.some.injEq] at h
    subst h
    rfl
  | global g =>
    simp only [evGet] at h
    split at h <;> cases h
    rename_i hg
    simp only [AV.inst, TV.inst, SV.inst, addr, hT.gl g hg, Option.map_some]
    rfl

def gPtr (t : Tm) (x : Operand) : Option (Nat × Nat) :=
  match evGet t x with
  | some (.tv (.sc (.ptr n o))) => some (n, o)
  | _ => none
def gInt (t : Tm) (x : Operand) : Option (IntKind × Int) :=
  match evGet t x with
  | some (.tv (.sc (.int k (.lit n)))) => some (k, n)
  | _ => none
def gCells (t : Tm) (x : Operand) : Option (List SV) :=
  match evGet t x with
  | some (.tv (.sc s)) => some [s]
  | some (.tv (.agg l)) => some l
  | _ => none
def gAgg (t : Tm) (x : Operand) : Option (List SV) :=
  match evGet t x with
  | some (.tv (.agg l)) => some l
  | _ => none

section
variable {ρ : Env} {ms : List Nat} {t : Tm} {a : Act}
theorem gPtr_ok (hT : RelT ρ ms t a.tmps) {x : Operand} {n o : Nat} (h : gPtr t x = some (n, o)) : ∃ b, ms[n]? = some b ∧ a.eval x = .pointer (some ⟨b, o, none⟩) := by
  unfold gPtr at h
  split at h
  · rename_i n' o' he
    simp only [Option.some.injEq, Prod.mk.injEq] at h
    obtain ⟨rfl, rfl⟩ := h
    have h1 := evGet_ok hT he
    simp only [AV.inst, TV.inst, SV.inst, addr, Option.map_eq_some_iff] at h1
    obtain ⟨b, hb, hv⟩ := h1
    exact ⟨b, hb, hv.symm⟩
  · cases h
theorem gInt_ok (hT : RelT ρ ms t a.tmps) {x : Operand} {k : IntKind} {n : Int} (h : gInt t x = some (k, n)) : a.eval x = .int k n := by
  unfold gInt at h
  split at h
  · rename_i k' n' he
    simp only [Option.some.injEq, Prod.mk.injEq] at h
    obtain ⟨rfl, rfl⟩ := h
    have h1 := evGet_ok hT he
    simp only [AV.inst, TV.inst, SV.inst, Ex.den, Option.some.injEq] at h1
    exact h1.symm
  · cases h
theorem gAgg_ok (hT : RelT ρ ms t a.tmps) {x : Operand} {l : List SV} (h : gAgg t x = some l) : ∃ vs : List Value, l.map (SV.inst ρ ms) = vs.map some ∧ a.eval x = .agg vs.toArray := by
  unfold gAgg at h
  split at h
  · rename_i l' he
    simp only [Option.some.injEq] at h
    subst h
    have h1 := evGet_ok hT he
    simp only [AV.inst, TV.inst, Option.map_eq_some_iff] at h1
    obtain ⟨vs, hb, hv⟩ := h1
    exact ⟨vs, (seqO_iff _ _).1 hb, hv.symm⟩
  · cases h
theorem gCells_ok (hT : RelT ρ ms t a.tmps) {x : Operand} {l : List SV} (h : gCells t x = some l) : ∃ vs : List Value, l.map (SV.inst ρ ms) = vs.map some ∧ (a.eval x).cells = vs.toArray := by
  unfold gCells at h
  split at h
  · rename_i s he
    simp only [Option.some.injEq] at h
    subst h
    have h1 := evGet_ok hT he
    simp only [AV.inst, TV.inst] at h1
    have h2 := SV.inst_one h1
    refine ⟨[a.eval x], by simp [h1], ?_⟩
    generalize a.eval x = v at *
    cases v <;> first | rfl | (exfalso; revert h2; simp [Value.oneCell'])
  · rename_i l' he
    simp only [Option.some.injEq] at h
    subst h
    have h1 := evGet_ok hT he
    simp only [AV.inst, TV.inst, Option.map_eq_some_iff] at h1
    obtain ⟨vs, hb, hv⟩ := h1
    exact ⟨vs, (seqO_iff _ _).1 hb, by rw [← hv]; rfl⟩
  · cases h
end

/-- n cells of the block number i, from o on. -/
def span (H : List Blk) (i o n : Nat) : Option (List SV) :=
  match H[i]? with
  | some k =>
    let l := (k.cells.drop o).take n
    if l.length = n then some l else none
  | none => none
/-- The world holds the block number i as told. -/
def Sees (ρ : Env) (ms : List Nat) (H : List Blk) (w : World) (i : Nat) : Prop :=
  ∀ (b : Nat) (k : Blk), ms[i]? = some b → H[i]? = some k → ∀ (j : Nat) (s : SV), k.cells[j]? = some s → ∃ v, s.inst ρ ms = some v ∧ w.cell? ⟨b, j, none⟩ = some v
theorem Holds.sees {ρ : Env} {ms : List Nat} {H : List Blk} {B : Nat} {w : World} (h : Holds ρ ms H B w) (i : Nat) : Sees ρ ms H w i := fun b k hb hk j s hs => by
  obtain ⟨v, h1, h2, _⟩ := h.cell i b k hb hk j s hs
  exact ⟨v, h1, h2⟩
/-- The world holds n cells of the block number i, from o on, as told. -/
def SeesAt (ρ : Env) (ms : List Nat) (H : List Blk) (w : World) (i o n : Nat) : Prop :=
  ∀ (b : Nat) (k : Blk), ms[i]? = some b → H[i]? = some k → ∀ (j : Nat) (s : SV), o ≤ j → j < o + n → k.cells[j]? = some s → ∃ v, s.inst ρ ms = some v ∧ w.cell? ⟨b, j, none⟩ = some v
theorem Sees.at {ρ : Env} {ms : List Nat} {H : List Blk} {w : World} {i : Nat} (h : Sees ρ ms H w i) (o n : Nat) : SeesAt ρ ms H w i o n := fun b k hb hk j s _ _ hs => h b k hb hk j s hs
theorem span_ok {ρ : Env} {ms : List Nat} {H : List Blk} {w : World} {i o n b : Nat} (hH : SeesAt ρ ms H w i o n) {l : List SV} (hb : ms[i]? = some b) (h : span H i o n = some l) :
    ∃ vs : List Value, l.map (SV.inst ρ ms) = vs.map some ∧ vs.length = n ∧ w.rangeAt b o vs := by
  unfold span at h
  split at h
  case h_2 => cases h
  rename_i k hk
  dsimp only at h
  split at h
  case isFalse => cases h
  rename_i hle0
  have hle : n ≤ k.cells.length - o := by
    rw [List.length_take, List.length_drop] at hle0
    omega
  simp only [Option.some.injEq] at h
  have key : ∀ j, j < n → ∃ s v, l[j]? = some s ∧ s.inst ρ ms = some v ∧ w.cell? ⟨b, o + j, none⟩ = some v := fun j hj => by
    have hj2 : o + j < k.cells.length := by omega
    obtain ⟨v, h1, h2⟩ := hH b k hb hk (o + j) _ (by omega) (by omega) (List.getElem?_eq_getElem hj2)
    refine ⟨_, v, ?_, h1, h2⟩
    rw [← h, List.getElem?_take, if_pos hj, List.getElem?_drop, List.getElem?_eq_getElem hj2]
  have hl : l.length = n := by rw [← h]; simp; omega
  have hall : ∀ s ∈ l, ∃ v, s.inst ρ ms = some v := fun s hs => by
    obtain ⟨j, hj, rfl⟩ := List.getElem_of_mem hs
    obtain ⟨s', v, h1, h2, _⟩ := key j (by omega)
    rw [List.getElem?_eq_getElem hj] at h1
    cases h1
    exact ⟨v, h2⟩
  refine ⟨l.map fun s => (s.inst ρ ms).getD default, ?_, by simp [hl], ?_⟩
  · rw [List.map_map]
    refine List.map_congr_left fun s hs => ?_
    obtain ⟨v, hv⟩ := hall s hs
    simp [hv]
  · intro j v hv
    rw [List.getElem?_map, Option.map_eq_some_iff] at hv
    obtain ⟨s, h1, h2⟩ := hv
    have hj : j < n := by rw [← hl]; exact (List.getElem?_eq_some_iff.1 h1).1
    obtain ⟨s', v', h3, h4, h5⟩ := key j hj
    rw [h3] at h1
    cases h1
    rw [h4] at h2
    simp only [Option.getD_some] at h2
    rw [← h2]; exact h5

/-- The size in cells of a type, and whether it is a row. -/
def rowOf (P : Program) (T : TypeId) : Option (Bool × Nat) :=
  match P.underlying T, P.info? T with
  | some d, some i => some (d.isRow, i.size)
  | _, _ => none
theorem rowOf_ok {P : Program} {T : TypeId} {r : Bool} {n : Nat} (h : rowOf P T = some (r, n)) : ∃ d i, P.underlying T = some d ∧ P.info? T = some i ∧ d.isRow = r ∧ i.size = n := by
  unfold rowOf at h
  split at h
  · rename_i d i h1 h2
    simp only [Option.some.injEq, Prod.mk.injEq] at h
    exact ⟨d, i, h1, h2, h.1, h.2⟩
  · cases h

/-- How many cells a load reads. -/
def loadLen (P : Program) (T : TypeId) : Nat := match rowOf P T with | some (true, s) => s | _ => 1
def evLoad (P : Program) (t : Tm) (H : List Blk) (T : TypeId) (x : Operand) : Option AV :=
  match gPtr t x, rowOf P T with
  | some (n, o), some (true, s) => (span H n o s).map fun l => .tv (.agg l)
  | some (n, o), some (false, _) =>
    match span H n o 1 with
    | some [s] => some (.tv (.sc s))
    | _ => none
  | _, _ => none

theorem isAgg_run {P : Program} {T : TypeId} {d : TypeDesc} (h : P.underlying T = some d) (w : World) : (isAgg T).run P w = .ok d.isRow w := by
  unfold isAgg
  rw [Sem.run_bind, run_underlying h w]
  cases d <;> simp

theorem evLoad_ok {P : Program} {ρ : Env} {ms : List Nat} {t : Tm} {H : List Blk} {w : World} {a : Act} {T : TypeId} {x : Operand} {v : AV}
    (hT : RelT ρ ms t a.tmps) (hH : ∀ n o, gPtr t x = some (n, o) → SeesAt ρ ms H w n o (loadLen P T)) (h : evLoad P t H T x = some v) : ∃ u, v.inst ρ ms = some u ∧ (Instr.loadAt T (a.eval x)).run P w = .ok u w := by
  unfold evLoad at h
  split at h
  · rename_i n o s h1 h2
    obtain ⟨b, hb, he⟩ := gPtr_ok hT h1
    obtain ⟨d, i, hu, hi, hd, hs⟩ := rowOf_ok h2
    rw [Option.map_eq_some_iff] at h
    obtain ⟨l, hl, rfl⟩ := h
    have hS := hH n o h1
    simp only [loadLen, h2] at hS
    obtain ⟨vs, e1, e2, e3⟩ := span_ok hS hb hl
    refine ⟨.agg vs.toArray, ?_, ?_⟩
    · simp only [AV.inst, TV.inst, (seqO_iff _ _).2 e1, Option.map_some]
    · rw [he]
      exact run_loadAt_mid w b o T vs d e3 hu hd (by simp [hi, hs, e2])
  · rename_i n o s h1 h2
    obtain ⟨b, hb, he⟩ := gPtr_ok hT h1
    obtain ⟨d, i, hu, hi, hd, hs⟩ := rowOf_ok h2
    split at h
    case h_2 => cases h
    rename_i s1 hsp
    simp only [Option.some.injEq] at h
    subst h
    have hS := hH n o h1
    simp only [loadLen, h2] at hS
    obtain ⟨vs, e1, e2, e3⟩ := span_ok hS hb hsp
    match vs, e2 with
    | [u], _ =>
      simp only [List.map_cons, List.map_nil, List.cons.injEq, and_true] at e1
      refine ⟨u, e1, ?_⟩
      rw [he]
      have hc := e3 0 u rfl
      simp only [Nat.add_zero] at hc
      have hag := isAgg_run hu w
      rw [hd] at hag
      simp [Instr.loadAt, Instr.sureAddr, loadVar, hag, load, Sem.run, hc]
  · cases h

/-- The cells from o on are written over. -/
def over : List SV → Nat → List SV → List SV
  | [], _, _ => []
  | c :: cs, 0, ns => match ns with | [] => c :: cs | n :: ns => n :: over cs 0 ns
  | c :: cs, o + 1, ns => c :: over cs o ns
def evStore (P : Program) (t : Tm) (H : List Blk) (T : TypeId) (x y : Operand) : Option (List Blk) :=
  match gPtr t x, gCells t y, rowOf P T with
  | some (n, o), some l, some (_, s) =>
    match H[n]? with
    | some k => if k.ro = false ∧ l.length = s ∧ 0 < s ∧ ((k.cells.drop o).take s).length = s then some (H.set n ⟨false, k.pl && l.all SV.plain, 0, over k.cells o l⟩) else none
    | none => none
  | _, _, _ => none
theorem over_get : ∀ (l : List SV) (o : Nat) (n : List SV), o + n.length ≤ l.length → ∀ j, (over l o n)[j]? = if o ≤ j ∧ j < o + n.length then n[j - o]? else l[j]?
  | [], o, n, h, j => by
    have : n = [] := List.length_eq_zero_iff.1 (by simp only [List.length_nil] at h; omega)
    subst this
    simp [over]
  | c :: cs, 0, [], _, j => by simp [over]
  | c :: cs, 0, n :: ns, h, j => by
    simp only [over]
    cases j with
    | zero => simp
    | succ j =>
      rw [List.getElem?_cons_succ, over_get cs 0 ns (by simp at h; omega) j]
      simp only [Nat.zero_le, true_and, Nat.zero_add, Nat.sub_zero, List.length_cons, List.getElem?_cons_succ]
      by_cases hj : j < ns.length
      · rw [if_pos hj, if_pos (by omega)]
      · rw [if_neg hj, if_neg (by omega)]
  | c :: cs, o + 1, ns, h, j => by
    simp only [over]
    cases j with
    | zero => simp
    | succ j =>
      rw [List.getElem?_cons_succ, over_get cs o ns (by simp at h; omega) j, List.getElem?_cons_succ]
      by_cases hj : o ≤ j ∧ j < o + ns.length
      · rw [if_pos hj, if_pos (by omega), show j + 1 - (o + 1) = j - o by omega]
      · rw [if_neg hj, if_neg (by omega)]
theorem over_all {p : SV → Bool} : ∀ (l : List SV) (o : Nat) (n : List SV), l.all p = true → n.all p = true → (over l o n).all p = true
  | [], _, _, _, _ => rfl
  | c :: cs, 0, [], h, _ => h
  | c :: cs, 0, n :: ns, h, h2 => by
    simp only [List.all_cons, Bool.and_eq_true] at h h2
    simp only [over, List.all_cons, Bool.and_eq_true]
    exact ⟨h2.1, over_all cs 0 ns h.2 h2.2⟩
  | c :: cs, o + 1, ns, h, h2 => by
    simp only [List.all_cons, Bool.and_eq_true] at h
    simp only [over, List.all_cons, Bool.and_eq_true]
    exact ⟨h.1, over_all cs o ns h.2 h2⟩

theorem cell_setCells_isSome (b : Nat) (vs : List Value) (o : Nat) (w : World) (x : Addr) (hth : w.there b o vs.length) (h : (w.cell? x).isSome = true) : ((w.setCells b o vs).cell? x).isSome = true := by
  by_cases hx : x.block = b → x.spot = none → x.off < o ∨ o + vs.length ≤ x.off
  · rw [World.cell?_setCells_out b vs o w x hx]; exact h
  · obtain ⟨xb, xo, xs⟩ := x
    have e1 : xb = b := by
      by_cases e : xb = b
      · exact e
      · exact absurd (fun e2 => absurd e2 e) hx
    have e2 : xs = none := by
      by_cases e : xs = none
      · exact e
      · exact absurd (fun _ e2 => absurd e2 e) hx
    subst e1 e2
    have e3 : ¬ (xo < o ∨ o + vs.length ≤ xo) := fun e => hx (fun _ _ => e)
    have hj : xo - o < vs.length := by omega
    have := World.rangeAt_setCells_same w xb o vs hth (xo - o) (vs[xo - o]) (List.getElem?_eq_getElem hj)
    rw [show o + (xo - o) = xo by omega] at this
    rw [this]; rfl
theorem Holds.store {ρ : Env} {ms : List Nat} {H : List Blk} {B : Nat} {w : World} (hH : Holds ρ ms H B w) {n b o : Nat} {k : Blk} {l : List SV} {vs : List Value}
    (hb : ms[n]? = some b) (hk : H[n]? = some k) (hl : l.map (SV.inst ρ ms) = vs.map some) (ho : o + l.length ≤ k.cells.length) (hl0 : 0 < l.length) (hr : k.ro = false) :
    Holds ρ ms (H.set n ⟨false, k.pl && l.all SV.plain, 0, over k.cells o l⟩) B (w.setCells b o vs) := by
  have hlen : l.length = vs.length := by have := congrArg List.length hl; simpa using this
  have hsz : ∀ (vs : List Value) (o : Nat) (w : World), (w.setCells b o vs).heap.size = w.heap.size := by
    intro vs
    induction vs with
    | nil => intro o w; rfl
    | cons v r ih => intro o w; rw [World.setCells, ih]; simp
  have hth : w.there b o vs.length := fun j hj => by
    have hj2 : o + j < k.cells.length := by omega
    obtain ⟨v, _, h2, h3⟩ := hH.cell n b k hb hk (o + j) _ (List.getElem?_eq_getElem hj2)
    exact ⟨by rw [h2]; rfl, h3 hr⟩
  have hkn : k.cells ≠ [] := fun e => by rw [e, List.length_nil] at ho; omega
  have key : ∀ (i : Nat) (k' : Blk), (H.set n ⟨false, k.pl && l.all SV.plain, 0, over k.cells o l⟩)[i]? = some k' → k'.cells ≠ [] → ∃ k2, H[i]? = some k2 ∧ k2.cells ≠ [] := fun i k' hk' hne => by
    rw [List.getElem?_set] at hk'
    by_cases e : n = i
    · subst e; exact ⟨k, hk, hkn⟩
    · rw [if_neg e] at hk'; exact ⟨k', hk', hne⟩
  refine ⟨by rw [List.length_set]; exact hH.len, hH.gl, ?_, ?_, ?_, ?_, ?_, ?_, ?_⟩
  · intro i j b' k1 k2 hi hj hk1 hk2 hn1 hn2
    obtain ⟨k3, h3, h4⟩ := key i k1 hk1 hn1
    obtain ⟨k5, h5, h6⟩ := key j k2 hk2 hn2
    exact hH.inj i j b' k3 k5 hi hj h3 h5 h4 h6
  · intro i b' k' hi hk' hr'
    rw [List.getElem?_set] at hk'
    by_cases e : n = i
    · subst e
      rw [hb] at hi
      cases hi
      exact hH.low n b k hb hk hr
    · rw [if_neg e] at hk'; exact hH.low i b' k' hi hk' hr'
  · intro i b' k' hi hk' hne
    obtain ⟨k3, h3, h4⟩ := key i k' hk' hne
    rw [hsz]; exact hH.bnd i b' k3 hi h3 h4
  · rw [hsz]; exact hH.big
  · intro i k' hk' hp
    rw [List.getElem?_set] at hk'
    by_cases e : n = i
    · subst e
      rw [if_pos rfl] at hk'
      split at hk'
      case isFalse => cases hk'
      simp only [Option.some.injEq] at hk'
      subst hk'
      simp only [Bool.and_eq_true] at hp
      have h1 := hH.plain n k hk hp.1
      exact over_all _ _ _ h1 hp.2
    · rw [if_neg e] at hk'; exact hH.plain i k' hk' hp
  · intro i b' k' hi hk' j s hs
    rw [World.frozen?_setCells]
    rw [List.getElem?_set] at hk'
    by_cases e : n = i
    · subst e
      rw [hb] at hi
      cases hi
      rw [if_pos rfl] at hk'
      split at hk'
      case isFalse => cases hk'
      simp only [Option.some.injEq] at hk'
      subst hk'
      simp only at hs
      rw [over_get _ _ _ ho] at hs
      by_cases hin : o ≤ j ∧ j < o + l.length
      · rw [if_pos hin] at hs
        have e1 : (l.map (SV.inst ρ ms))[j - o]? = (vs.map some)[j - o]? := by rw [hl]
        simp only [List.getElem?_map, hs] at e1
        cases hv : vs[j - o]? with
        | none => rw [hv] at e1; simp at e1
        | some v =>
          rw [hv] at e1
          simp only [Option.map_some, Option.some.injEq] at e1
          refine ⟨v, e1, ?_, ?_⟩
          · have := World.rangeAt_setCells_same w b o vs hth (j - o) v hv
            rw [show o + (j - o) = j by omega] at this
            exact this
          · intro _
            have := (hth (j - o) (by omega)).2
            rw [show o + (j - o) = j by omega] at this
            exact this
      · rw [if_neg hin] at hs
        obtain ⟨v, h1, h2, h3⟩ := hH.cell n b k hb hk j s hs
        refine ⟨v, h1, ?_, fun _ => h3 hr⟩
        rw [World.cell?_setCells_out b vs o w ⟨b, j, none⟩ (fun _ _ => by show j < o ∨ o + vs.length ≤ j; omega)]
        exact h2
    · rw [if_neg e] at hk'
      obtain ⟨v, h1, h2, h3⟩ := hH.cell i b' k' hi hk' j s hs
      refine ⟨v, h1, ?_, h3⟩
      rw [World.cell?_setCells_out b vs o w ⟨b', j, none⟩ (fun hbb _ => by
        simp only at hbb
        subst hbb
        exact absurd (hH.inj n i b' k k' hb hi hk hk' hkn (mem_nil_of_get hs)) e)]
      exact h2
  · intro i b' c k0 k' hi hc hk0 hr0 hn0 hk' hcap j hj
    rw [World.frozen?_setCells]
    rw [List.getElem?_set] at hk'
    have hk2 : H[i + 1]? = some k' := by
      by_cases e : n = i + 1
      · rw [if_pos e] at hk'
        split at hk'
        · simp only [Option.some.injEq] at hk'; subst hk'; simp at hcap
        · cases hk'
      · rw [if_neg e] at hk'; exact hk'
    obtain ⟨k3, h3, h4, h5⟩ : ∃ k3, H[i]? = some k3 ∧ k3.ro = false ∧ k3.cells ≠ [] := by
      rw [List.getElem?_set] at hk0
      by_cases e : n = i
      · subst e; exact ⟨k, hk, hr, hkn⟩
      · rw [if_neg e] at hk0; exact ⟨k0, hk0, hr0, hn0⟩
    obtain ⟨q1, q2⟩ := hH.room i b' c k3 k' hi hc h3 h4 h5 hk2 hcap j hj
    exact ⟨cell_setCells_isSome b vs o w _ hth q1, q2⟩

theorem below_setCells {B b : Nat} (hb : B ≤ b) : ∀ (vs : List Value) (o : Nat) (a w : World), Bel B a w → Bel B a (w.setCells b o vs)
  | [], _, _, _, h => h
  | v :: r, o, a, w, h => by rw [World.setCells]; exact below_setCells hb r (o + 1) a _ (h.setCell hb v)

theorem evStore_ok {P : Program} {ρ : Env} {ms : List Nat} {t : Tm} {H H' : List Blk} {B : Nat} {w : World} {a : Act} {T : TypeId} {x y : Operand}
    (hT : RelT ρ ms t a.tmps) (hH : Holds ρ ms H B w) (h : evStore P t H T x y = some H') : ∃ w', (Instr.storeAt T (a.eval x) (a.eval y)).run P w = .ok () w' ∧ Holds ρ ms H' B w' ∧ Bel B w w' := by
  unfold evStore at h
  split at h
  case h_2 => cases h
  rename_i n o l r s h1 h2 h3
  split at h
  case h_2 => cases h
  rename_i k hk
  split at h
  case isFalse => cases h
  rename_i hc
  obtain ⟨hro, hls, hs0, hle0⟩ := hc
  have hle : o + s ≤ k.cells.length := by
    rw [List.length_take, List.length_drop] at hle0
    omega
  simp only [Option.some.injEq] at h
  subst h
  obtain ⟨b, hb, he⟩ := gPtr_ok hT h1
  obtain ⟨vs, hv, hcs⟩ := gCells_ok hT h2
  obtain ⟨d, i, hu, hi, hd, hs⟩ := rowOf_ok h3
  have hlen : l.length = vs.length := by have := congrArg List.length hv; simpa using this
  refine ⟨w.setCells b o vs, ?_, hH.store hb hk hv (by omega) (by omega) hro, below_setCells (hH.low n b k hb hk hro) vs o w w (Bel.refl _ _)⟩
  have hth : w.there b o vs.length := fun j hj => by
    have hj2 : o + j < k.cells.length := by omega
    obtain ⟨v, _, h2, h3⟩ := hH.cell n b k hb hk (o + j) _ (List.getElem?_eq_getElem hj2)
    exact ⟨by rw [h2]; rfl, h3 hro⟩
  have hone : ∀ v ∈ vs, v.oneCell' = true := fun v hvv => by
    obtain ⟨j, hj, rfl⟩ := List.getElem_of_mem hvv
    have e1 : (l.map (SV.inst ρ ms))[j]? = (vs.map some)[j]? := by rw [hv]
    simp only [List.getElem?_map, List.getElem?_eq_getElem hj, List.getElem?_eq_getElem (show j < l.length by omega), Option.map_some, Option.some.injEq] at e1
    exact SV.inst_one e1
  have := run_storeCells_cells (P := P) b o vs 0 w (fun j hj => by simpa using (hth j hj).1) (fun j hj => by simpa using (hth j hj).2) hone
  simp only [Nat.add_zero] at this
  rw [he]
  have hsz : vs.length = i.size := by omega
  simp [Instr.storeAt, Instr.sureAddr, storeVar, sizeOf, typeInfo, hi, hcs, hsz, this]
end Go.Proofs.Ytafdklelfcccbaa.Ev
