/- Of the road to uebReadCard_holds: UbCheck, BsNumM, U8, BsStr, UbM, Owns, UbRow, BsShelfD, BsIdx. -/
import Derived.Test.YtklklldmhoofnaaDoorG00
import Derived.Test.YtklklldmhoofnaaDoorChecked
import Derived.Lib.AtoiAll
import Derived.Lib.ItoaNum
import Derived.Laws.IdiomStrings
import Derived.Laws.Strings
import Derived.Laws.Strings2
import Derived.Laws.Concat
import Derived.Lib.Strings
import Derived.Lib.Bytealg
import Derived.Lib.Bytes
import Derived.Laws.AppendOwnNone
import Derived.Laws.AppendOwn
import Derived.Deep.MidRow
import Derived.Shelf.Small.Strs
import Derived.Shelf.Strconv.Atoi
import Derived.Shelf.Strconv.Itoa0
import Derived.Shelf.Strconv.Itoa1
import Derived.Shelf.LaysM
import Derived.Shelf.Strconv.Itoa2
import Derived.Shelf.Strconv.Itoa3
import Derived.Shelf.Strconv.AtoiErrFast
import Derived.Shelf.Strconv.ParseIntEmpty
import Derived.Shelf.Strconv.AtoiFail
import Derived.Shelf.Strconv.Clone
import Derived.Shelf.Strconv.SyntaxError
import Derived.Shelf.LaysC
import Derived.Shelf.Strconv.ToError
import Derived.Shelf.Strconv.Lower
import Derived.Shelf.Strconv.ParseUint10
import Derived.Shelf.Strconv.ParseUint10Empty
import Derived.Shelf.Strconv.ParseUint10Any
import Derived.Shelf.Strconv.ParseInt10
import Derived.Shelf.Strconv.AtoiLong
import Derived.Shelf.Strconv.AtoiInnerAll
import Derived.Shelf.Strconv.RangeError
import Derived.Shelf.Strconv.ToErrorRange
import Derived.Shelf.Strconv.AtoiAll
import Derived.Shelf.Strconv.ErrVarAll
import Derived.Shelf.Strings.Search1
import Derived.Shelf.Bytes.SlIndexAt
import Derived.Shelf.Bytes.SlSearch0
import Derived.Shelf.Bytes.IndexByte
import Derived.WalkKit
set_option linter.unusedVariables false
set_option linter.unusedSimpArgs false
namespace Go.Proofs.YtklklldmhoofnaaDoor
open Go Go.RowKit
theorem results_cellT {P : Program} {fn : Func} {p u : Tmp} {ty : TypeId} (h : fn.results = #[.cell p ty, .tmp u]) (tmps : Array Value) (w : World) (g : Nat) (t : TypeId) (cs : Array Value) (fr : Nat × Nat) (d : TypeDesc)
    (hp : tmps.getD p undef = .pointer (some ⟨g, 0, none⟩)) (hg : w.heap[g]? = some (.cells cs t fr))
    (hu : P.underlying ty = some d) (hd : (match d with | .struct _ | .array _ _ => true | _ => false) = true) (hi : (P.info? ty).map (·.size) = some cs.size) (x : Value) (hx : tmps.getD u undef = x) :
    (results fn tmps).run P w = .ok (.tuple #[.agg cs, x]) w := by
  have hp' : tmps[p]?.getD undef = .pointer (some ⟨g, 0, none⟩) := by simpa using hp
  have hx' : tmps[u]?.getD undef = x := by simpa using hx
  simp [results, h, hp', hx', asAddr, run_loadVar_row w g t ty cs fr d hg hu hd hi]
theorem sh0_one : (shA sh0).all (·.oneCell') = true := by simp [shA, sh0, Value.oneCell']
set_option maxRecDepth 100000 in
set_option maxHeartbeats 8000000 in
theorem again_hand (w : World) (k n g z : Int) : Calls Tryd.prog 24 #[.int .i64 k, .int .i64 n, .int .i64 g, .int .i64 z] w fun e w' => ∃ cs, e = .returned (.tuple #[.agg cs, .int .i64 (agE k n g z)]) ∧ cs.size = 8 ∧ cs.all (·.oneCell') = true ∧ Below w.heap.size w w' := by
  have CN := hid fun w => counts_any w k n
  have CS := hid fun w => shared_any w z
  have HBAD : Hid (¬ OkS k n g z → agE k n g z = 92) := hid fun h => by unfold agE; rw [if_neg h]
  by_cases hc : 1 ≤ k ∧ k ≤ n ∧ n ≤ 255
  · have hb : cntB k n = true := decide_eq_true hc
    rw [hb] at CN
    obtain ⟨hc1, hc2, hc3⟩ := hc
    have CM := hid fun w => most_any w k hc1 (by omega)
    obtain ⟨m1, m2⟩ := most_lt hc1 (by omega : k ≤ 255)
    obtain ⟨M, HM⟩ : ∃ x, Hid (k * upI 65536 k = x) := ⟨_, rfl⟩
    rw [HM.out] at CM m1 m2
    clear hb
    by_cases h1 : g < 1
    · have F := hid (HBAD.out fun h => by have := h.2.2.2.1; omega)
      go_enter Tryd.func24, Tryd.ntmps24
      go_wp2_with fail
      refine (CN.out _).mono ?_
      rintro e w' ⟨rfl, hw⟩
      rw [hw]
      clear hw
      go_wp2
      refine bodyPost_ret (v := .tuple #[.agg (shA sh0), .int .i64 92]) (results_cellT (p := 8) (u := 9) (ty := 51) rfl _ _ w.heap.size 51 (shA sh0) (0, 0) _ rfl (heap_alloc_new w _) Tryd.underlying51 rfl size_shape _ rfl) rfl ?_
      exact ⟨shA sh0, by rw [F.out], rfl, sh0_one, below_alloc _ _⟩
    · by_cases h2 : M < g
      · have F := hid (HBAD.out fun h => by have := h.2.2.2.2.1; rw [HM.out] at this; omega)
        go_enter Tryd.func24, Tryd.ntmps24
        go_wp2_with fail
        refine (CN.out _).mono ?_
        rintro e w' ⟨rfl, hw⟩
        rw [hw]
        clear hw
        go_wp2_with fail
        refine (CM.out _).mono ?_
        rintro e w' ⟨rfl, hw⟩
        rw [hw]
        clear hw
        go_wp2
        refine bodyPost_ret (v := .tuple #[.agg (shA sh0), .int .i64 92]) (results_cellT (p := 8) (u := 9) (ty := 51) rfl _ _ w.heap.size 51 (shA sh0) (0, 0) _ rfl (heap_alloc_new w _) Tryd.underlying51 rfl size_shape _ rfl) rfl ?_
        exact ⟨shA sh0, by rw [F.out], rfl, sh0_one, below_alloc _ _⟩
      · have hk0 : ¬ k = 0 := by omega
        have ht : g.tmod k = g % k := Int.tmod_eq_emod_of_nonneg (by omega)
        have hm1 := Int.emod_nonneg g hk0
        have hm2 := Int.emod_lt_of_pos g (by omega : 0 < k)
        obtain ⟨R, HR⟩ : ∃ x, Hid (g % k = x) := ⟨_, rfl⟩
        rw [HR.out] at ht hm1 hm2
        have kR : IntKind.i64.wrap R = R := by rw [IntKind.wrap_i64]; omega
        by_cases h3 : R = 0
        · by_cases h4 : 33 ≤ z ∧ z ≤ 16777216
          · have hb : szB z = true := decide_eq_true h4
            rw [hb] at CS
            have CP := hid fun w => shapedH_any w k n g z hc1 (by omega) (by omega) (by omega) (by omega) h4.2
            have u1 := upI_pos (x := z) (y := g) (by omega) (by omega)
            have u2 := upI_le (x := z) (y := g) (by omega) (by omega)
            clear hb
            subst h3
            by_cases h5 : upI z g ≤ 512
            · have F : Hid (agE k n g z = 0) := by
                refine hid ?_
                unfold agE
                rw [if_pos ⟨hc1, hc2, hc3, by omega, by rw [HM.out]; omega, HR.out, h4.1, h4.2, h5⟩]
              obtain ⟨U, HU⟩ : ∃ x, Hid (upI z g = x) := ⟨_, rfl⟩
              have e8 : shA (shR k n g z) = #[.int .i64 k, .int .i64 n, .int .i64 g, .int .i64 z, .int .i64 (upI z g), .int .i64 (tlI z g), .int .i64 (g / k), .int .i64 (upI (tlI z g) k)] := rfl
              rw [e8] at CP
              obtain ⟨T, HT⟩ : ∃ x, Hid (tlI z g = x) := ⟨_, rfl⟩
              rw [HT.out] at CP
              obtain ⟨V, HV⟩ : ∃ x, Hid (upI T k = x) := ⟨_, rfl⟩
              obtain ⟨D, HD⟩ : ∃ x, Hid (g / k = x) := ⟨_, rfl⟩
              rw [HU.out, HV.out, HD.out] at CP
              clear e8
              rw [HU.out] at h5 u1 u2
              go_enter Tryd.func24, Tryd.ntmps24
              go_wp2_with fail
              refine (CN.out _).mono ?_
              rintro e w' ⟨rfl, hw⟩
              rw [hw]
              clear hw w'
              go_wp2_with fail
              refine (CM.out _).mono ?_
              rintro e w' ⟨rfl, hw⟩
              rw [hw]
              clear hw w'
              go_wp2_with fail
              refine (CS.out _).mono ?_
              rintro e w' ⟨rfl, hw⟩
              rw [hw]
              clear hw w'
              go_wp2_with fail
              refine (CP.out _).mono ?_
              rintro e w3 ⟨rfl, hb3⟩
              have B3 := hid (((Below.refl _ w).alloc (Nat.le_refl _) _).trans (hb3.mono (by simp)))
              have H8 := hid ((hb3.block w.heap.size (by simp)).trans (heap_alloc_new w _))
              have hs3 : w.heap.size < w3.heap.size := by have := hb3.size; simp at this; omega
              clear hb3
              go_wp2_with (first | (refine wpList_store_row rfl 51 _ _ rfl w.heap.size #[.int .i64 k, .int .i64 n, .int .i64 g, .int .i64 z, .int .i64 U, .int .i64 T, .int .i64 D, .int .i64 V] rfl rfl 51 (shA sh0) (by rw [heap_alloc_old _ _ hs3]; exact H8.out) size_shape rfl (by simp [Value.oneCell']) ?_))
              refine bodyPost_ret (v := .tuple #[.agg #[.int .i64 k, .int .i64 n, .int .i64 g, .int .i64 z, .int .i64 U, .int .i64 T, .int .i64 D, .int .i64 V], .int .i64 0]) (results_cellT (p := 8) (u := 9) (ty := 51) rfl _ _ w.heap.size 51 #[.int .i64 k, .int .i64 n, .int .i64 g, .int .i64 z, .int .i64 U, .int .i64 T, .int .i64 D, .int .i64 V] (0, 0) _ rfl (setRow_heap _ _ _ _ _ _ (by rw [heap_alloc_old _ _ hs3]; exact H8.out)) Tryd.underlying51 rfl size_shape _ rfl) rfl ?_
              exact ⟨#[.int .i64 k, .int .i64 n, .int .i64 g, .int .i64 z, .int .i64 U, .int .i64 T, .int .i64 D, .int .i64 V], by rw [F.out], rfl, (by simp [Value.oneCell']), bel_setRow (B3.out.alloc (by omega) _) (Nat.le_refl _) _⟩
            · have F := hid (HBAD.out fun h => h5 h.2.2.2.2.2.2.2.2)
              obtain ⟨U, HU⟩ : ∃ x, Hid (upI z g = x) := ⟨_, rfl⟩
              have e8 : shA (shR k n g z) = #[.int .i64 k, .int .i64 n, .int .i64 g, .int .i64 z, .int .i64 (upI z g), .int .i64 (tlI z g), .int .i64 (g / k), .int .i64 (upI (tlI z g) k)] := rfl
              rw [e8] at CP
              obtain ⟨T, HT⟩ : ∃ x, Hid (tlI z g = x) := ⟨_, rfl⟩
              rw [HT.out] at CP
              obtain ⟨V, HV⟩ : ∃ x, Hid (upI T k = x) := ⟨_, rfl⟩
              obtain ⟨D, HD⟩ : ∃ x, Hid (g / k = x) := ⟨_, rfl⟩
              rw [HU.out, HV.out, HD.out] at CP
              clear e8
              rw [HU.out] at h5 u1 u2
              go_enter Tryd.func24, Tryd.ntmps24
              go_wp2_with fail
              refine (CN.out _).mono ?_
              rintro e w' ⟨rfl, hw⟩
              rw [hw]
              clear hw w'
              go_wp2_with fail
              refine (CM.out _).mono ?_
              rintro e w' ⟨rfl, hw⟩
              rw [hw]
              clear hw w'
              go_wp2_with fail
              refine (CS.out _).mono ?_
              rintro e w' ⟨rfl, hw⟩
              rw [hw]
              clear hw w'
              go_wp2_with fail
              refine (CP.out _).mono ?_
              rintro e w3 ⟨rfl, hb3⟩
              have B3 := hid (((Below.refl _ w).alloc (Nat.le_refl _) _).trans (hb3.mono (by simp)))
              have H8 := hid ((hb3.block w.heap.size (by simp)).trans (heap_alloc_new w _))
              have hs3 : w.heap.size < w3.heap.size := by have := hb3.size; simp at this; omega
              clear hb3
              go_wp2_with (first | (refine wpList_store_row rfl 51 _ _ rfl w.heap.size (shA sh0) rfl rfl 51 (shA sh0) (by rw [heap_alloc_old _ _ hs3]; exact H8.out) size_shape rfl sh0_one ?_))
              refine bodyPost_ret (v := .tuple #[.agg (shA sh0), .int .i64 92]) (results_cellT (p := 8) (u := 9) (ty := 51) rfl _ _ w.heap.size 51 (shA sh0) (0, 0) _ rfl (setRow_heap _ _ _ _ _ _ (by rw [heap_alloc_old _ _ hs3]; exact H8.out)) Tryd.underlying51 rfl size_shape _ rfl) rfl ?_
              exact ⟨(shA sh0), by rw [F.out], rfl, sh0_one, bel_setRow (B3.out.alloc (by omega) _) (Nat.le_refl _) _⟩
          · have hb : szB z = false := decide_eq_false h4
            rw [hb] at CS
            clear hb
            subst h3
            have F := hid (HBAD.out fun h => h4 ⟨h.2.2.2.2.2.2.1, h.2.2.2.2.2.2.2.1⟩)
            clear h4
            go_enter Tryd.func24, Tryd.ntmps24
            go_wp2_with fail
            refine (CN.out _).mono ?_
            rintro e w' ⟨rfl, hw⟩
            rw [hw]
            clear hw
            go_wp2_with fail
            refine (CM.out _).mono ?_
            rintro e w' ⟨rfl, hw⟩
            rw [hw]
            clear hw
            go_wp2_with fail
            refine (CS.out _).mono ?_
            rintro e w' ⟨rfl, hw⟩
            rw [hw]
            clear hw
            go_wp2
            refine bodyPost_ret (v := .tuple #[.agg (shA sh0), .int .i64 92]) (results_cellT (p := 8) (u := 9) (ty := 51) rfl _ _ w.heap.size 51 (shA sh0) (0, 0) _ rfl (heap_alloc_new w _) Tryd.underlying51 rfl size_shape _ rfl) rfl ?_
            exact ⟨shA sh0, by rw [F.out], rfl, sh0_one, below_alloc _ _⟩
        · have F := hid (HBAD.out fun h => by have := h.2.2.2.2.2.1; rw [HR.out] at this; exact h3 this)
          go_enter Tryd.func24, Tryd.ntmps24
          go_wp2_with fail
          refine (CN.out _).mono ?_
          rintro e w' ⟨rfl, hw⟩
          rw [hw]
          clear hw
          go_wp2_with fail
          refine (CM.out _).mono ?_
          rintro e w' ⟨rfl, hw⟩
          rw [hw]
          clear hw
          go_wp2
          refine bodyPost_ret (v := .tuple #[.agg (shA sh0), .int .i64 92]) (results_cellT (p := 8) (u := 9) (ty := 51) rfl _ _ w.heap.size 51 (shA sh0) (0, 0) _ rfl (heap_alloc_new w _) Tryd.underlying51 rfl size_shape _ rfl) rfl ?_
          exact ⟨shA sh0, by rw [F.out], rfl, sh0_one, below_alloc _ _⟩
  · have hb : cntB k n = false := decide_eq_false hc
    rw [hb] at CN
    have F := hid (HBAD.out fun h => hc ⟨h.1, h.2.1, h.2.2.1⟩)
    clear hb hc
    go_enter Tryd.func24, Tryd.ntmps24
    go_wp2_with fail
    refine (CN.out _).mono ?_
    rintro e w' ⟨rfl, hw⟩
    rw [hw]
    clear hw
    go_wp2
    refine bodyPost_ret (v := .tuple #[.agg (shA sh0), .int .i64 92]) (results_cellT (p := 8) (u := 9) (ty := 51) rfl _ _ w.heap.size 51 (shA sh0) (0, 0) _ rfl (heap_alloc_new w _) Tryd.underlying51 rfl size_shape _ rfl) rfl ?_
    exact ⟨shA sh0, by rw [F.out], rfl, sh0_one, below_alloc _ _⟩
end Go.Proofs.YtklklldmhoofnaaDoor
namespace Go.Proofs.YtklklldmhoofnaaDoor
open Go
def dig (c : UInt8) : Prop := 48 ≤ c.toNat ∧ c.toNat ≤ 57
instance (c : UInt8) : Decidable (dig c) := by unfold dig; infer_instance
def stp (a : Nat) (c : UInt8) : Nat := a * 10 + (c.toNat - 48)
def fD (a : Nat) (l : List UInt8) : Nat := l.foldl stp a
def valD (l : List UInt8) : Nat := fD 0 l
theorem fD_cons (a : Nat) (c : UInt8) (r : List UInt8) : fD a (c :: r) = fD (a * 10 + (c.toNat - 48)) r := by
  unfold fD
  rw [List.foldl_cons]
  unfold stp
  rfl
theorem fD_nil (a : Nat) : fD a [] = a := by unfold fD; rw [List.foldl_nil]
theorem fD_append (l m : List UInt8) (a : Nat) : fD a (l ++ m) = fD (fD a l) m := by
  induction l generalizing a with
  | nil => rw [List.nil_append, fD_nil]
  | cons c r ih => rw [List.cons_append, fD_cons, fD_cons, ih]
theorem fD_snoc (l : List UInt8) (a : Nat) (c : UInt8) : fD a (l ++ [c]) = fD a l * 10 + (c.toNat - 48) := by rw [fD_append, fD_cons, fD_nil]
theorem pow10_cons (c : UInt8) (r : List UInt8) : (10 : Nat) ^ (c :: r).length = 10 * 10 ^ r.length := by rw [List.length_cons, Nat.pow_succ, Nat.mul_comm]
theorem fD_ge (l : List UInt8) : ∀ (a : Nat), a * 10 ^ l.length ≤ fD a l := by
  induction l with
  | nil => intro a; rw [List.length_nil, Nat.pow_zero, Nat.mul_one]; exact Nat.le_refl _
  | cons c r ih =>
    intro a
    have h := ih (a * 10 + (c.toNat - 48))
    rw [fD_cons, pow10_cons, ← Nat.mul_assoc]
    generalize (10 : Nat) ^ r.length = P at *
    exact Nat.le_trans (Nat.mul_le_mul_right P (Nat.le_add_right _ _)) h
theorem fD_le (l : List UInt8) (a : Nat) : a ≤ fD a l := by
  have := fD_ge l a
  have h2 : a * 1 ≤ a * 10 ^ l.length := Nat.mul_le_mul_left _ (Nat.pow_pos (by decide))
  rw [Nat.mul_one] at h2
  exact Nat.le_trans h2 this
theorem fD_lt (l : List UInt8) (hd : ∀ c ∈ l, dig c) : ∀ (a : Nat), fD a l < (a + 1) * 10 ^ l.length := by
  induction l with
  | nil => intro a; rw [List.length_nil, Nat.pow_zero, Nat.mul_one]; exact Nat.lt_succ_self _
  | cons c r ih =>
    intro a
    have hc := hd c (List.mem_cons_self ..)
    have h := ih (fun x hx => hd x (List.mem_cons_of_mem _ hx)) (a * 10 + (c.toNat - 48))
    unfold dig at hc
    rw [fD_cons, pow10_cons, ← Nat.mul_assoc]
    generalize (10 : Nat) ^ r.length = P at *
    exact Nat.lt_of_lt_of_le h (Nat.mul_le_mul_right P (by omega))
def Canon (l : List UInt8) : Prop := l ≠ [] ∧ (∀ c ∈ l, dig c) ∧ (1 < l.length → l.head? ≠ some 48)
instance (l : List UInt8) : Decidable (Canon l) := by unfold Canon; infer_instance
theorem ofNat_dig {d : Nat} (h : d < 10) : (UInt8.ofNat (48 + d)).toNat = 48 + d := by
  rw [UInt8.toNat_ofNat']; omega
theorem dec_canon (n : Nat) : Canon (Lib.decDigits n) ∧ valD (Lib.decDigits n) = n ∧ (0 < n → (Lib.decDigits n).head? ≠ some 48) := by
  induction n using Nat.strongRecOn with
  | ind n ih =>
    by_cases h : n < 10
    · rw [Lib.decDigits, dif_pos h]
      refine ⟨⟨by simp, fun c hc => ?_, by simp⟩, ?_, fun h0 => ?_⟩
      · have hc := List.mem_singleton.1 hc
        subst hc
        unfold dig
        rw [ofNat_dig h]
        omega
      · unfold valD
        rw [fD_cons, fD_nil, ofNat_dig h]
        omega
      · simp only [List.head?_cons, ne_eq, Option.some.injEq]
        intro e
        have := congrArg UInt8.toNat e
        rw [ofNat_dig h] at this
        have h48 : (48 : UInt8).toNat = 48 := rfl
        omega
    · obtain ⟨⟨h1, h2, h3⟩, h4, h5⟩ := ih (n / 10) (by omega)
      rw [Lib.decDigits, dif_neg h]
      have hh : (Lib.decDigits (n / 10) ++ [UInt8.ofNat (48 + n % 10)]).head? = (Lib.decDigits (n / 10)).head? := by
        cases hl : Lib.decDigits (n / 10) with
        | nil => exact absurd hl h1
        | cons a b => rfl
      have hne := h5 (by omega)
      refine ⟨⟨by simp, fun c hc => ?_, fun _ => by rw [hh]; exact hne⟩, ?_, fun _ => by rw [hh]; exact hne⟩
      · rcases List.mem_append.1 hc with hc | hc
        · exact h2 c hc
        · have hc := List.mem_singleton.1 hc
          subst hc
          unfold dig
          rw [ofNat_dig (by omega)]
          omega
      · unfold valD at *
        rw [fD_snoc, h4, ofNat_dig (by omega)]
        omega
theorem snoc_cases (l : List UInt8) (h : l ≠ []) : ∃ m c, l = m ++ [c] := ⟨l.dropLast, l.getLast h, (List.dropLast_concat_getLast h).symm⟩
theorem valD_pos {l : List UInt8} (h : Canon l) (hl : 1 < l.length ∨ l.head? ≠ some 48) : 10 ^ (l.length - 1) ≤ valD l := by
  obtain ⟨h1, h2, h3⟩ := h
  have hne : l.head? ≠ some 48 := by rcases hl with hl | hl; exact h3 hl; exact hl
  cases l with
  | nil => exact absurd rfl h1
  | cons c r =>
    have hc := h2 c (List.mem_cons_self ..)
    have hc2 : c.toNat ≠ 48 := fun e => hne (by
      have : c = 48 := UInt8.toNat_inj.1 (by rw [e]; rfl)
      rw [this]; rfl)
    unfold dig at hc
    have := fD_ge r (0 * 10 + (c.toNat - 48))
    have h4 : 1 * 10 ^ r.length ≤ (0 * 10 + (c.toNat - 48)) * 10 ^ r.length := Nat.mul_le_mul_right _ (by omega)
    unfold valD
    rw [fD_cons, List.length_cons, Nat.add_sub_cancel]
    rw [Nat.one_mul] at h4
    exact Nat.le_trans h4 this
theorem canon_dec : ∀ (n : Nat) (l : List UInt8), l.length = n → Canon l → Lib.decDigits (valD l) = l := by
  intro n
  induction n with
  | zero => intro l hl h; exact absurd (List.length_eq_zero_iff.1 hl) h.1
  | succ n ih =>
    intro l hl h
    obtain ⟨m, c, rfl⟩ := snoc_cases l h.1
    have hc := h.2.1 c (by simp)
    have hc' : UInt8.ofNat (48 + (c.toNat - 48)) = c := by
      apply UInt8.toNat_inj.1
      unfold dig at hc
      rw [ofNat_dig (by omega)]
      omega
    have hv : valD (m ++ [c]) = valD m * 10 + (c.toNat - 48) := fD_snoc m 0 c
    have hd : c.toNat - 48 < 10 := by unfold dig at hc; omega
    by_cases hm : m = []
    · subst hm
      have hv0 : valD [] = 0 := by unfold valD; rw [fD_nil]
      rw [hv, hv0, Nat.zero_mul, Nat.zero_add, Lib.decDigits, dif_pos hd, hc']
      rfl
    · have hh : (m ++ [c]).head? = m.head? := by cases m with | nil => exact absurd rfl hm | cons a b => rfl
      have hlm : 1 ≤ m.length := by cases m with | nil => exact absurd rfl hm | cons a b => simp
      have hne := h.2.2 (by simp; omega)
      rw [hh] at hne
      have hcm : Canon m := ⟨hm, fun x hx => h.2.1 x (by simp [hx]), fun _ => hne⟩
      have hp := valD_pos hcm (Or.inr hne)
      have hp1 : 1 ≤ valD m := Nat.le_trans (Nat.pow_pos (by decide)) hp
      rw [hv, Lib.decDigits, dif_neg (by omega), show (valD m * 10 + (c.toNat - 48)) / 10 = valD m by omega, show (valD m * 10 + (c.toNat - 48)) % 10 = c.toNat - 48 by omega, ih m (by simp at hl; exact hl) hcm, hc']
theorem parse_ok (l : List UInt8) (a : Nat) (hd : ∀ c ∈ l, dig c) (h : fD a l < 18446744073709551616) : Lib.parseUint10 a l = .ok (fD a l) := by
  induction l generalizing a with
  | nil => rw [fD_nil]; unfold Lib.parseUint10; rfl
  | cons c r ih =>
    have hc := hd c (List.mem_cons_self ..)
    have h2 := fD_le r (a * 10 + (c.toNat - 48))
    have h3 := fD_cons a c r
    unfold Lib.parseUint10
    unfold dig at hc
    rw [if_pos hc, if_neg (by omega), if_neg (by omega), h3]
    exact ih _ (fun x hx => hd x (List.mem_cons_of_mem _ hx)) (by omega)
theorem atoi_canon (l : List UInt8) (h : Canon l) (hv : valD l < 9223372036854775808) : Lib.atoiAll l = .ok (valD l) := by
  obtain ⟨h1, h2, _⟩ := h
  cases l with
  | nil => exact absurd rfl h1
  | cons c r =>
    have hc := h2 c (List.mem_cons_self ..)
    unfold dig at hc
    have hp : Lib.parseMag (c :: r) = .ok (valD (c :: r)) := by
      unfold Lib.parseMag
      rw [if_neg (by simp)]
      exact parse_ok _ 0 h2 (by unfold valD at hv; omega)
    unfold Lib.atoiAll
    simp only []
    rw [if_neg (by omega), hp]
    simp only []
    rw [if_neg (by omega), if_neg (by omega), if_neg (by omega)]
def rdOk (l : List UInt8) (most : Int) : Prop := Canon l ∧ (valD l : Int) ≤ most
instance (l : List UInt8) (m : Int) : Decidable (rdOk l m) := by unfold rdOk; infer_instance
def rdV (l : List UInt8) (most : Int) : Int := if rdOk l most then valD l else 0
def rdE (l : List UInt8) (most : Int) : Int := if rdOk l most then 0 else 102
theorem rd_ok {l : List UInt8} {most : Int} (h : rdOk l most) : rdV l most = valD l ∧ rdE l most = 0 := by unfold rdV rdE; rw [if_pos h, if_pos h]; exact ⟨rfl, rfl⟩
theorem rd_no {l : List UInt8} {most : Int} (h : ¬ rdOk l most) : rdV l most = 0 ∧ rdE l most = 102 := by unfold rdV rdE; rw [if_neg h, if_neg h]; exact ⟨rfl, rfl⟩
end Go.Proofs.YtklklldmhoofnaaDoor
namespace Go.Proofs.YtklklldmhoofnaaDoor
open Go.RowKit
theorem info_u8 : (Tryd.prog.info? 5).map (fun i => (i.zero, i.size, i.bytes)) = some (some (.int .u8 0), 1, 1) := by kernel_rfl
theorem size_u8 : ∀ w, Sem.run Tryd.prog (Go.sizeOf 5) w = .ok 1 w := fun w => by
  obtain ⟨i0, hi, hz0, hz1, hz2⟩ := info_parts info_u8
  simp [Go.sizeOf, typeInfo, hi, hz1]
theorem eql_nil_bytes : ∀ (w : World) (a : Option Addr) (n c n' c' : Nat), (binOp .eql 26 (.slice a n c) (.slice none n' c')).run Tryd.prog w = .ok (.bool a.isNone) w :=
  fun w a n c n' c' => Lib.run_eql_slice_nil w _ _ a n c n' c' Tryd.underlying26
def bS (l : List Int) : ByteArray := ⟨(l.map fun x => UInt8.ofNat x.toNat).toArray⟩
def sB (s : ByteArray) : List Int := s.data.toList.map fun b => (b.toNat : Int)
def Byt8 (l : List Int) : Prop := ∀ x ∈ l, 0 ≤ x ∧ x < 256
theorem sB_bS {l : List Int} (h : Byt8 l) : sB (bS l) = l := by
  unfold sB bS
  simp only [List.map_map]
  have : ∀ x ∈ l, ((fun b : UInt8 => (b.toNat : Int)) ∘ fun x : Int => UInt8.ofNat x.toNat) x = x := by
    intro x hx
    have := h x hx
    simp only [Function.comp, UInt8.toNat_ofNat']
    omega
  rw [List.map_congr_left this, List.map_id']
theorem bS_sB (s : ByteArray) : bS (sB s) = s := by
  unfold sB bS
  simp only [List.map_map]
  have : ∀ x ∈ s.data.toList, ((fun x : Int => UInt8.ofNat x.toNat) ∘ fun b : UInt8 => (b.toNat : Int)) x = x := by
    intro x hx
    simp
  rw [List.map_congr_left this, List.map_id']
theorem sB_byt (s : ByteArray) : Byt8 (sB s) := by
  intro x hx
  obtain ⟨b, _, rfl⟩ := List.mem_map.1 hx
  have := b.toNat_lt
  omega
theorem sB_length (s : ByteArray) : (sB s).length = s.size := by
  unfold sB
  rw [List.length_map]
  exact (Lib.size_eq s).symm
theorem bS_size (l : List Int) : (bS l).size = l.length := by
  simp [bS, ByteArray.size]
theorem sB_inj {a b : ByteArray} (h : sB a = sB b) : a = b := by rw [← bS_sB a, h, bS_sB]
theorem sB_get (s : ByteArray) (i : Nat) (h : i < s.size) : (s[i].toNat : Int) = (sB s).getD i 0 := by
  have h2 : i < (sB s).length := by rw [sB_length]; exact h
  rw [getD_of_lt h2]
  simp [sB]
  rfl
theorem sB_cut (s : ByteArray) (a b : Nat) : sB (s.extract a b) = ((sB s).drop a).take (b - a) := by
  unfold sB
  rw [Lib.extract_data, List.map_take, List.map_drop]
theorem sB_app (a b : ByteArray) : sB (a ++ b) = sB a ++ sB b := by
  unfold sB
  rw [← List.map_append]
  congr 1
theorem eq_iff_sB (a b : ByteArray) : (a.toList == b.toList) = decide (sB a = sB b) := by
  rw [ByteArray.toList_eq, ByteArray.toList_eq]
  by_cases h : a = b
  · subst h; simp
  · have h2 : ¬ sB a = sB b := fun e => h (sB_inj e)
    have h3 : ¬ a.data.toList = b.data.toList := by
      intro e
      apply h2
      unfold sB
      rw [e]
    simp [h2, h3]
    intro e
    exact h3 (by rw [e])
end Go.Proofs.YtklklldmhoofnaaDoor
namespace Go.Proofs.YtklklldmhoofnaaDoor
open Go
abbrev Rw := ByteArray × List Int
def leS (a b : ByteArray) : Bool := Op.bytesLess a.toList b.toList || a.toList == b.toList
def dgL (n : Nat) : List Int := (Lib.decDigits n).map fun b => (b.toNat : Int)
def fld (l : List Int) : List Int := dgL l.length ++ 58 :: (l ++ [44])
def rowL (r : Rw) : List Int := fld (sB r.1) ++ fld r.2
def packL : List Rw → List Int
  | [] => []
  | r :: t => rowL r ++ packL t
def RwB (r : Rw) : Prop := Byt8 r.2
theorem dgL_dig (n : Nat) : ∀ x ∈ dgL n, 48 ≤ x ∧ x ≤ 57 := by
  intro x hx
  obtain ⟨b, hb, rfl⟩ := List.mem_map.1 hx
  have := (dec_canon n).1.2.1 b hb
  unfold dig at this
  omega
theorem dgL_no (n : Nat) : (58 : Int) ∉ dgL n := fun h => by have := dgL_dig n _ h; omega
theorem dgL_byt (n : Nat) : Byt8 (dgL n) := fun x hx => by have := dgL_dig n x hx; omega
theorem bytesOf_dgL (n : Nat) : Lib.bytesOf (dgL n) = Lib.decDigits n := by
  unfold Lib.bytesOf dgL
  rw [List.map_map]
  have : ∀ x ∈ Lib.decDigits n, ((fun x : Int => UInt8.ofNat x.toNat) ∘ fun b : UInt8 => (b.toNat : Int)) x = x := by
    intro x hx
    simp
  rw [List.map_congr_left this, List.map_id']
theorem dgL_inj {m n : Nat} (h : dgL m = dgL n) : m = n := by
  have h2 : Lib.decDigits m = Lib.decDigits n := by rw [← bytesOf_dgL, h, bytesOf_dgL]
  rw [← (dec_canon m).2.1, h2, (dec_canon n).2.1]
theorem dgL_length (n : Nat) : (dgL n).length = (Lib.decDigits n).length := by unfold dgL; rw [List.length_map]
theorem split58 : ∀ {a b x y : List Int}, (58 : Int) ∉ a → (58 : Int) ∉ b → a ++ 58 :: x = b ++ 58 :: y → a = b ∧ x = y
  | [], [], x, y, _, _, h => ⟨rfl, by simpa using h⟩
  | [], c :: b, x, y, _, hb, h => by
    simp only [List.nil_append, List.cons_append, List.cons.injEq] at h
    exact absurd (h.1 ▸ List.mem_cons_self ..) hb
  | c :: a, [], x, y, ha, _, h => by
    simp only [List.nil_append, List.cons_append, List.cons.injEq] at h
    exact absurd (h.1 ▸ List.mem_cons_self ..) ha
  | c :: a, d :: b, x, y, ha, hb, h => by
    simp only [List.cons_append, List.cons.injEq] at h
    obtain ⟨h1, h2⟩ := split58 (fun q => ha (List.mem_cons_of_mem _ q)) (fun q => hb (List.mem_cons_of_mem _ q)) h.2
    exact ⟨by rw [h.1, h1], h2⟩
theorem fld_app (f x : List Int) : fld f ++ x = dgL f.length ++ 58 :: (f ++ 44 :: x) := by unfold fld; simp
theorem fld_inj {f g x y : List Int} (h : fld f ++ x = fld g ++ y) : f = g ∧ x = y := by
  rw [fld_app, fld_app] at h
  obtain ⟨h1, h2⟩ := split58 (dgL_no _) (dgL_no _) h
  obtain ⟨h3, h4⟩ := List.append_inj h2 (dgL_inj h1)
  exact ⟨h3, by simpa using h4⟩
theorem row_inj {r s : Rw} {x y : List Int} (h : rowL r ++ x = rowL s ++ y) : r = s ∧ x = y := by
  unfold rowL at h
  rw [List.append_assoc, List.append_assoc] at h
  obtain ⟨h1, h2⟩ := fld_inj h
  obtain ⟨h3, h4⟩ := fld_inj h2
  exact ⟨Prod.ext (sB_inj h1) h3, h4⟩
theorem fld_len (f : List Int) : (fld f).length = (dgL f.length).length + f.length + 2 := by unfold fld; simp; omega
theorem dgL_pos (n : Nat) : 1 ≤ (dgL n).length := by
  rw [dgL_length]
  have := (dec_canon n).1.1
  cases h : Lib.decDigits n with
  | nil => exact absurd h this
  | cons a b => simp
theorem row_len (r : Rw) : 6 ≤ (rowL r).length := by
  unfold rowL
  rw [List.length_append, fld_len, fld_len]
  have := dgL_pos (sB r.1).length
  have := dgL_pos r.2.length
  omega
theorem packL_app (a b : List Rw) : packL (a ++ b) = packL a ++ packL b := by
  induction a with
  | nil => rfl
  | cons r t ih => rw [List.cons_append, packL, packL, ih, List.append_assoc]
theorem packL_snoc (a : List Rw) (r : Rw) : packL (a ++ [r]) = packL a ++ rowL r := by rw [packL_app, packL, packL, List.append_nil]
theorem pack_split : ∀ (rs rows : List Rw) (x : List Int), packL rs ++ x = packL rows → ∃ t, rows = rs ++ t ∧ x = packL t
  | [], rows, x, h => ⟨rows, rfl, h⟩
  | r :: rs, [], x, h => by
    have := congrArg List.length h
    rw [packL, packL, List.length_append, List.length_append, List.length_nil] at this
    have := row_len r
    omega
  | r :: rs, s :: rows, x, h => by
    rw [packL, packL, List.append_assoc] at h
    obtain ⟨rfl, h2⟩ := row_inj h
    obtain ⟨t, rfl, rfl⟩ := pack_split rs rows x h2
    exact ⟨t, rfl, rfl⟩
theorem pack_inj {a b : List Rw} (h : packL a = packL b) : a = b := by
  obtain ⟨t, rfl, h2⟩ := pack_split a b [] (by rw [List.append_nil]; exact h)
  cases t with
  | nil => rw [List.append_nil]
  | cons r t =>
    have := congrArg List.length h2
    rw [packL, List.length_append, List.length_nil] at this
    have := row_len r
    omega
def okRow (last : ByteArray) (r : Rw) : Prop := leS r.1 last = false ∧ r.1.size ≤ 64 ∧ r.2.length ≤ 65536
instance (last : ByteArray) (r : Rw) : Decidable (okRow last r) := by unfold okRow; infer_instance
def okRows : ByteArray → List Rw → Prop
  | _, [] => True
  | last, r :: t => okRow last r ∧ okRows r.1 t
instance : ∀ (l : List Rw) (last : ByteArray), Decidable (okRows last l)
  | [], _ => by unfold okRows; infer_instance
  | r :: t, last => by
    unfold okRows
    have := instDecidableOkRows t r.1
    infer_instance
def lastN : ByteArray → List Rw → ByteArray
  | last, [] => last
  | _, r :: t => lastN r.1 t
def noS : ByteArray := ⟨#[]⟩
def mayT (l : List Rw) : Prop := l.length ≤ 64 ∧ okRows noS l
instance (l : List Rw) : Decidable (mayT l) := by unfold mayT; infer_instance
theorem okRows_app : ∀ (a b : List Rw) (last : ByteArray), okRows last (a ++ b) ↔ okRows last a ∧ okRows (lastN last a) b
  | [], b, last => by simp [okRows, lastN]
  | r :: a, b, last => by
    rw [List.cons_append, okRows, okRows, okRows_app a b r.1, lastN, and_assoc]
theorem okRows_snoc (a : List Rw) (r : Rw) (last : ByteArray) : okRows last (a ++ [r]) ↔ okRows last a ∧ okRow (lastN last a) r := by
  rw [okRows_app, okRows, okRows, and_true]
theorem lastN_app : ∀ (a b : List Rw) (last : ByteArray), lastN last (a ++ b) = lastN (lastN last a) b
  | [], b, last => rfl
  | r :: a, b, last => by rw [List.cons_append, lastN, lastN, lastN_app a b r.1]
theorem lastN_snoc (a : List Rw) (r : Rw) (last : ByteArray) : lastN last (a ++ [r]) = r.1 := by rw [lastN_app, lastN, lastN]
theorem okRows_take {a : List Rw} {last : ByteArray} (h : okRows last a) (i : Nat) : okRows last (a.take i) := by
  rw [← List.take_append_drop i a, okRows_app] at h
  exact h.1
theorem mayT_take {a : List Rw} (h : mayT a) (i : Nat) : mayT (a.take i) := ⟨by have := h.1; rw [List.length_take]; omega, okRows_take h.2 i⟩
def UnpQ (l : List Int) (rows : List Rw) (at_ : Nat) (e : Int) : Prop :=
  (e = 0 ∧ at_ = 0 ∧ mayT rows ∧ packL rows = l) ∨
  (e = 131 ∧ rows = [] ∧ at_ < l.length ∧ ∃ rs, mayT rs ∧ packL rs = l.take at_ ∧ ∀ r x, rs.length < 64 → okRow (lastN noS rs) r → l.drop at_ ≠ rowL r ++ x)
theorem UnpQ.of_pack {rows t : List Rw} {a : Nat} {e : Int} (hm : mayT rows) (h : UnpQ (packL rows) t a e) : e = 0 ∧ a = 0 ∧ t = rows := by
  rcases h with ⟨h1, h2, h3, h4⟩ | ⟨h1, h2, h3, rs, h4, h5, h6⟩
  · exact ⟨h1, h2, pack_inj h4⟩
  · exfalso
    obtain ⟨u, hu, hx⟩ := pack_split rs rows ((packL rows).drop a) (by rw [h5, List.take_append_drop])
    cases u with
    | nil =>
      have := congrArg List.length hx
      rw [packL, List.length_nil, List.length_drop] at this
      omega
    | cons r u =>
      have h7 := hm.2
      rw [hu, okRows_app, okRows] at h7
      have h8 := hm.1
      rw [hu, List.length_append, List.length_cons] at h8
      exact h6 r (packL u) (by omega) h7.2.1 (by rw [hx, packL])
theorem UnpQ.one {l : List Int} {r s : List Rw} {a b : Nat} {e f : Int} (h : UnpQ l r a e) (g : UnpQ l s b f) (he : e = 0) : f = 0 ∧ b = 0 ∧ s = r := by
  rcases h with ⟨_, _, h3, h4⟩ | ⟨h1, _⟩
  · rw [← h4] at g
    exact g.of_pack h3
  · omega
theorem pack_take_lt (rows : List Rw) (i : Nat) (h : i < rows.length) : (packL (rows.take i)).length < (packL (rows.take (i + 1))).length := by
  rw [List.take_succ_eq_append_getElem h, packL_snoc, List.length_append]
  have := row_len rows[i]
  omega
theorem pack_take_le (rows : List Rw) (i j : Nat) (h : i ≤ j) : (packL (rows.take i)).length ≤ (packL (rows.take j)).length := by
  have : rows.take i = (rows.take j).take i := by rw [List.take_take, Nat.min_eq_left h]
  rw [this]
  conv => rhs; rw [← List.take_append_drop i (rows.take j), packL_app, List.length_append]
  omega
theorem pack_take_pre (rows : List Rw) (i : Nat) : packL (rows.take i) = (packL rows).take (packL (rows.take i)).length := by
  conv => rhs; rw [← List.take_append_drop i rows]
  rw [packL_app, List.take_append_drop, List.take_left']
  rfl
theorem cut_hit {rows t : List Rw} {a : Nat} {e : Int} {k i : Nat} (hm : mayT rows) (h : UnpQ ((packL rows).take k) t a e) (hi : (packL (rows.take i)).length = k) : e = 0 ∧ a = 0 ∧ t = rows.take i := by
  rw [← hi, ← pack_take_pre] at h
  exact h.of_pack (mayT_take hm i)
theorem cut_miss {rows t : List Rw} {a : Nat} {e : Int} {k : Nat} (hk : k ≤ (packL rows).length) (h : UnpQ ((packL rows).take k) t a e) (hi : ∀ i, i ≤ rows.length → (packL (rows.take i)).length ≠ k) : e = 131 ∧ t = [] ∧ a < k := by
  rcases h with ⟨h1, h2, h3, h4⟩ | ⟨h1, h2, h3, _⟩
  · exfalso
    obtain ⟨u, hu, _⟩ := pack_split t rows ((packL rows).drop k) (by rw [h4, List.take_append_drop])
    refine hi t.length (by rw [hu]; simp) ?_
    rw [hu, List.take_left', h4, List.length_take]
    · omega
    · rfl
  · rw [List.length_take] at h3
    exact ⟨h1, h2, by omega⟩
theorem idx58 : ∀ (xs : List Int), Byt8 xs → (Lib.indexByte (Lib.bytesOf xs) 58 = -1 ∧ (58 : Int) ∉ xs) ∨ ∃ pre suf, xs = pre ++ 58 :: suf ∧ (58 : Int) ∉ pre ∧ Lib.indexByte (Lib.bytesOf xs) 58 = pre.length
  | [], _ => Or.inl ⟨rfl, by simp⟩
  | x :: xs, h => by
    have hx := h x (List.mem_cons_self ..)
    have he : Lib.bytesOf (x :: xs) = UInt8.ofNat x.toNat :: Lib.bytesOf xs := rfl
    by_cases hc : x = 58
    · subst hc
      refine Or.inr ⟨[], xs, rfl, by simp, ?_⟩
      rw [he, Lib.indexByte]
      rfl
    · have hb : (UInt8.ofNat x.toNat == 58) = false := by
        rw [beq_eq_false_iff_ne]
        intro e
        have := congrArg UInt8.toNat e
        rw [UInt8.toNat_ofNat'] at this
        have h58 : (58 : UInt8).toNat = 58 := rfl
        omega
      rcases idx58 xs (fun y hy => h y (List.mem_cons_of_mem _ hy)) with ⟨h1, h2⟩ | ⟨pre, suf, h1, h2, h3⟩
      · refine Or.inl ⟨?_, fun hm => ?_⟩
        · rw [he, Lib.indexByte, hb, h1]; rfl
        · rcases List.mem_cons.1 hm with hm | hm
          · exact hc hm.symm
          · exact h2 hm
      · refine Or.inr ⟨x :: pre, suf, by rw [h1, List.cons_append], fun hm => ?_, ?_⟩
        · rcases List.mem_cons.1 hm with hm | hm
          · exact hc hm.symm
          · exact h2 hm
        · rw [he, Lib.indexByte, hb, h3]
          have : ((pre.length : Int) == -1) = false := by rw [beq_eq_false_iff_ne]; omega
          rw [this]
          simp
theorem dec_len_mono : ∀ (n m : Nat), m ≤ n → (Lib.decDigits m).length ≤ (Lib.decDigits n).length := by
  intro n
  induction n using Nat.strongRecOn with
  | ind n ih =>
    intro m hm
    by_cases h : n < 10
    · rw [Lib.decDigits, dif_pos (by omega), Lib.decDigits, dif_pos h]
      simp
    · by_cases h2 : m < 10
      · rw [Lib.decDigits, dif_pos h2]
        conv => rhs; rw [Lib.decDigits, dif_neg h]
        simp
      · rw [Lib.decDigits, dif_neg h2]
        conv => rhs; rw [Lib.decDigits, dif_neg h]
        have := ih (n / 10) (by omega) (m / 10) (by omega)
        simp only [List.length_append, List.length_singleton]
        omega
theorem fld_none {l : List Int} {most : Nat} (h : (58 : Int) ∉ l.take ((dgL most).length + 1)) (f x : List Int) (hf : f.length ≤ most) : l ≠ fld f ++ x := by
  intro e
  apply h
  rw [e, fld_app]
  have h1 := dec_len_mono most f.length hf
  rw [← dgL_length, ← dgL_length] at h1
  rw [List.take_append]
  apply List.mem_append.2
  right
  rw [show (dgL most).length + 1 - (dgL f.length).length = ((dgL most).length - (dgL f.length).length) + 1 by omega, List.take_succ_cons]
  exact List.mem_cons_self ..
theorem take_colon {l pre suf : List Int} {n : Nat} (h : l.take n = pre ++ 58 :: suf) : ∃ l', l = pre ++ 58 :: l' ∧ pre.length < n := by
  refine ⟨suf ++ l.drop n, ?_, ?_⟩
  · conv => lhs; rw [← List.take_append_drop n l, h]
    simp
  · have := congrArg List.length h
    rw [List.length_take, List.length_append, List.length_cons] at this
    omega
theorem fld_bad {l pre l' : List Int} {most : Nat} (h : l = pre ++ 58 :: l') (hn : (58 : Int) ∉ pre) (hr : ¬ rdOk (Lib.bytesOf pre) (most : Int)) (f x : List Int) (hf : f.length ≤ most) : l ≠ fld f ++ x := by
  intro e
  rw [h, fld_app] at e
  obtain ⟨h1, _⟩ := split58 hn (dgL_no _) e
  apply hr
  rw [h1, bytesOf_dgL]
  obtain ⟨h2, h3, _⟩ := dec_canon f.length
  exact ⟨h2, by rw [h3]; omega⟩
theorem pre_dgL {pre : List Int} {most : Int} (hb : Byt8 pre) (hr : rdOk (Lib.bytesOf pre) most) : pre = dgL (valD (Lib.bytesOf pre)) := by
  have h := canon_dec _ _ rfl hr.1
  unfold dgL
  rw [h]
  unfold Lib.bytesOf
  rw [List.map_map]
  have : ∀ x ∈ pre, ((fun b : UInt8 => (b.toNat : Int)) ∘ fun x : Int => UInt8.ofNat x.toNat) x = x := by
    intro x hx
    have := hb x hx
    simp only [Function.comp, UInt8.toNat_ofNat']
    omega
  rw [List.map_congr_left this, List.map_id']
theorem fld_short {l l' : List Int} {v most : Nat} (h : l = dgL v ++ 58 :: l') (hs : l'.length ≤ v ∨ l'.getD v 0 ≠ 44) (f x : List Int) (hf : f.length ≤ most) : l ≠ fld f ++ x := by
  intro e
  rw [h, fld_app] at e
  obtain ⟨h1, h2⟩ := split58 (dgL_no _) (dgL_no _) e
  have h3 := dgL_inj h1
  subst h3
  rcases hs with hs | hs
  · rw [h2, List.length_append, List.length_cons] at hs
    omega
  · apply hs
    rw [h2]
    simp
theorem fld_hit {l l' : List Int} {v : Nat} (h : l = dgL v ++ 58 :: l') (hs : v < l'.length) (hc : l'.getD v 0 = 44) : l = fld (l'.take v) ++ l'.drop (v + 1) ∧ (l'.take v).length = v := by
  have hl : (l'.take v).length = v := by rw [List.length_take]; omega
  refine ⟨?_, hl⟩
  rw [fld_app, hl, h]
  congr 2
  conv => lhs; rw [← List.take_append_drop v l']
  rw [List.drop_eq_getElem_cons hs]
  congr 2
  rw [← hc]
  simp [List.getD, List.getElem?_eq_getElem hs]
end Go.Proofs.YtklklldmhoofnaaDoor
namespace Go.Proofs.YtklklldmhoofnaaDoor
open Go.RowKit
theorem own_mono {w : World} {B B' e n : Nat} {v : Value} {xs : List Value} (h : w.ownsRow B e 1 v n xs) (hb : B' ≤ B) : w.ownsRow B' e 1 v n xs := by
  refine ⟨h.1, ?_⟩
  rcases h.2 with h2 | ⟨g, cap, cur, h1, h2, h3⟩
  · exact .inl h2
  · exact .inr ⟨g, cap, cur, h1, Nat.le_trans hb h2, h3⟩
theorem own_slc {w : World} {B n : Nat} {e : TypeId} {v : Value} {xs : List Value} (h : w.ownsRow B e 1 v n xs) : ∃ p c, v = .slice p n c := by
  rcases h.2 with ⟨rfl, rfl⟩ | ⟨g, cap, cur, rfl, _⟩
  · exact ⟨none, 0, rfl⟩
  · exact ⟨_, _, rfl⟩
theorem none_or (z : Option Nat) : z = none ∨ z ≠ none := by cases z <;> simp
theorem own_below {w w' : World} {B n : Nat} {e : TypeId} {v : Value} {xs : List Value} (h : w.ownsRow B e 1 v n xs) (hb : Below w.heap.size w w') : w'.ownsRow B e 1 v n xs :=
  h.kept ⟨hb.os, hb.tape, hb.output, hb.size, fun k hk _ => hb.block k hk⟩ (none_or _)
theorem own_ne {w w' : World} {B B' n n' : Nat} {e e' : TypeId} {v v' : Value} {xs xs' : List Value} (h : w.ownsRow B e 1 v n xs) (h' : w'.ownsRow B' e' 1 v' n' xs') (hb : w.heap.size ≤ B') :
    (v.ownBlock = none ∨ v.ownBlock ≠ v'.ownBlock) ∧ (v'.ownBlock = none ∨ v'.ownBlock ≠ v.ownBlock) := by
  constructor
  · rcases none_or v.ownBlock with q | q
    · exact .inl q
    · refine .inr fun e => ?_
      obtain ⟨k, hk⟩ := Option.ne_none_iff_exists'.1 q
      have h1 := h.lt k hk
      have h2 := h'.lt k (e ▸ hk)
      omega
  · rcases none_or v'.ownBlock with q | q
    · exact .inl q
    · refine .inr fun e => ?_
      obtain ⟨k, hk⟩ := Option.ne_none_iff_exists'.1 q
      have h1 := h'.lt k hk
      have h2 := h.lt k (e ▸ hk)
      omega
def rw0 : Rw := (noS, [])
theorem range_below2 {w w' : World} {b o : Nat} {cs : List Value} (h : w.rangeAt b o cs) (hB : Below w.heap.size w w') (hb : b < w.heap.size) : w'.rangeAt b o cs := fun j u hj => (hB.cell hb).trans (h j u hj)
def HRw (w : World) (v : Value) (rs : List Rw) : Prop :=
  ∃ (p : Option Addr) (c : Nat), v = .slice p rs.length c ∧ rs.length ≤ c ∧ c ≤ maxLen ∧
    (rs ≠ [] → ∃ b off, p = some ⟨b, off, none⟩ ∧ ∀ i, i < rs.length → ∃ u, w.rangeAt b (off + i * 2) [.string (rs.getD i rw0).1, u] ∧ HB w u (rs.getD i rw0).2)
theorem HRw.open {w : World} {v : Value} {rs : List Rw} (h : HRw w v rs) : ∃ (p : Option Addr) (c : Nat), v = .slice p rs.length c ∧ rs.length ≤ c ∧ c ≤ maxLen ∧
    (0 < rs.length → ∃ b off, p = some ⟨b, off, none⟩ ∧ b < w.heap.size ∧ ∀ i, i < rs.length → ∃ u, w.rangeAt b (off + i * 2) [.string (rs.getD i rw0).1, u] ∧ HB w u (rs.getD i rw0).2) := by
  obtain ⟨p, c, h1, h2, h3, h4⟩ := h
  refine ⟨p, c, h1, h2, h3, fun h0 => ?_⟩
  obtain ⟨b, off, q1, q2⟩ := h4 (fun e => by rw [e] at h0; cases h0)
  refine ⟨b, off, q1, ?_, q2⟩
  obtain ⟨u, hu, _⟩ := q2 0 h0
  exact World.block_lt_of_cell? w _ (hu 0 _ rfl)
theorem HRw.below {w w' : World} {v : Value} {rs : List Rw} (h : HRw w v rs) (hB : Below w.heap.size w w') : HRw w' v rs := by
  obtain ⟨p, c, h1, h2, h3, h4⟩ := h.open
  refine ⟨p, c, h1, h2, h3, fun hne => ?_⟩
  obtain ⟨b, off, q1, q2, q3⟩ := h4 (List.length_pos_iff.2 hne)
  refine ⟨b, off, q1, fun i hi => ?_⟩
  obtain ⟨u, hu, hv⟩ := q3 i hi
  exact ⟨u, range_below2 hu hB q2, hv.below hB⟩
theorem HRw.nil (w : World) : HRw w (.slice none 0 0) [] := ⟨none, 0, rfl, Nat.le_refl _, Nat.zero_le _, fun h => absurd rfl h⟩
theorem HRw.byt {w : World} {v : Value} {rs : List Rw} (h : HRw w v rs) : ∀ r ∈ rs, Byt8 r.2 := by
  intro r hr
  obtain ⟨p, c, h1, h2, h3, h4⟩ := h
  obtain ⟨b, off, _, q⟩ := h4 (fun e => by rw [e] at hr; cases hr)
  obtain ⟨i, hi, rfl⟩ := List.getElem_of_mem hr
  obtain ⟨u, _, hv⟩ := q i hi
  have e : rs.getD i rw0 = rs[i] := by simp [List.getD, List.getElem?_eq_getElem hi]
  rw [e] at hv
  exact hv.2
theorem HRw.pre {w : World} {p : Option Addr} {n c k : Nat} {rs : List Rw} (h : HRw w (.slice p n c) rs) (hk : k ≤ rs.length) : HRw w (.slice p k c) (rs.take k) := by
  obtain ⟨p', c', h1, h2, h3, h4⟩ := h
  injection h1 with e1 e2 e3
  subst e1 e2 e3
  have hl : (rs.take k).length = k := by rw [List.length_take]; omega
  refine ⟨p, c, by rw [hl], by rw [hl]; omega, h3, fun hne => ?_⟩
  obtain ⟨b, off, q1, q2⟩ := h4 (fun e => hne (by rw [e]; simp))
  refine ⟨b, off, q1, fun i hi => ?_⟩
  rw [hl] at hi
  obtain ⟨u, hu, hv⟩ := q2 i (by omega)
  have e : (rs.take k).getD i rw0 = rs.getD i rw0 := by simp [List.getD, List.getElem?_take, hi]
  rw [e]
  exact ⟨u, hu, hv⟩
def rcs : List Rw → List Value → List Value
  | r :: rs, v :: vs => .string r.1 :: v :: rcs rs vs
  | _, _ => []
theorem rcs_app : ∀ (a : List Rw) (x : List Value) (b : List Rw) (y : List Value), a.length = x.length → rcs (a ++ b) (x ++ y) = rcs a x ++ rcs b y
  | [], [], b, y, _ => rfl
  | [], v :: x, b, y, h => by cases h
  | r :: a, [], b, y, h => by cases h
  | r :: a, v :: x, b, y, h => by
    simp only [List.cons_append, rcs]
    rw [rcs_app a x b y (by simpa using h)]
theorem rcs_length : ∀ (a : List Rw) (x : List Value), a.length = x.length → (rcs a x).length = a.length * 2
  | [], [], _ => rfl
  | [], v :: x, h => by cases h
  | r :: a, [], h => by cases h
  | r :: a, v :: x, h => by
    simp only [rcs, List.length_cons]
    rw [rcs_length a x (by simpa using h)]
    omega
theorem rcs_get : ∀ (a : List Rw) (x : List Value) (i : Nat), a.length = x.length → i < a.length → (rcs a x)[i * 2]? = some (.string (a.getD i rw0).1) ∧ (rcs a x)[i * 2 + 1]? = some (x.getD i (.bool false))
  | [], _, i, _, h => by cases h
  | r :: a, [], i, h, _ => by cases h
  | r :: a, v :: x, 0, _, _ => ⟨rfl, rfl⟩
  | r :: a, v :: x, i + 1, h, hi => by
    have := rcs_get a x i (by simpa using h) (by simpa using hi)
    rw [show (i + 1) * 2 = i * 2 + 2 by omega, show i * 2 + 2 + 1 = (i * 2 + 1) + 2 by omega]
    simp only [rcs, List.getElem?_cons_succ, List.getD_cons_succ]
    exact this
theorem HRw.of_own {w : World} {base : Nat} {e : TypeId} {v : Value} {rs : List Rw} {vs : List Value} (h : w.ownsRow base e 2 v rs.length (rcs rs vs)) (hl : rs.length = vs.length) (hv : ∀ i, i < rs.length → HB w (vs.getD i (.bool false)) (rs.getD i rw0).2) : HRw w v rs := by
  have h0 := h
  rcases h.2 with ⟨rfl, hn⟩ | ⟨g, cap, cur, rfl, hbg, hg, hnc, hcm, hcs, htake⟩
  · exact ⟨none, 0, by rw [hn], by rw [hn]; exact Nat.le_refl _, Nat.zero_le _, fun hne => absurd (List.length_eq_zero_iff.1 hn) hne⟩
  · refine ⟨_, cap, rfl, hnc, hcm, fun _ => ⟨g, 0, rfl, fun i hi => ⟨vs.getD i (.bool false), fun j u hj => ?_, hv i hi⟩⟩⟩
    obtain ⟨q1, q2⟩ := rcs_get rs vs i hl hi
    have hc := fun k u hk => h0.cells (g := g) rfl k u hk
    simp only [Go.WideShapes.add_plain] at hc
    match j, hj with
    | 0, hj =>
      simp only [List.getElem?_cons_zero, Option.some.injEq] at hj
      subst hj
      have := hc _ _ q1
      rw [show (0 : Nat) + i * 2 + 0 = 0 + i * 2 by omega]
      exact this
    | 1, hj =>
      simp only [List.getElem?_cons_succ, List.getElem?_cons_zero, Option.some.injEq] at hj
      subst hj
      have := hc _ _ q2
      rw [show (0 : Nat) + i * 2 + 1 = 0 + (i * 2 + 1) by omega]
      exact this
    | j + 2, hj => simp at hj
end Go.Proofs.YtklklldmhoofnaaDoor
namespace Go.Proofs
open Go.Shelf
def Tryd.laysM171_ren : Go.Shelf.Ren := ⟨fun | 171 => 51 | 243 => 69 | 246 => 78 | 283 => 87 | 284 => 88 | 285 => 89 | 286 => 90 | 129 => 105 | 317 => 104 | 318 => 106 | 319 => 107 | 320 => 108 | 337 => 119 | 338 => 120 | n => n, fun | 3 => 3 | 9 => 9 | 2 => 2 | 4 => 4 | 171 => 125 | 0 => 0 | 53 => 95 | 37 => 26 | 5 => 5 | 173 => 128 | 212 => 145 | 51 => 100 | 20 => 20 | 213 => 146 | 46 => 105 | 232 => 22 | 233 => 103 | n => n, fun | 17 => 1 | 18 => 5 | 19 => 6 | n => n⟩
theorem Tryd.laysM171 : Go.Proofs.LaysM.n171 Tryd.prog Tryd.laysM171_ren := {
  mixed := by kernel_rfl
  f129 := Tryd.func105.trans (congrArg some (by kernel_rfl))
  f171 := Tryd.func51.trans (congrArg some (by kernel_rfl))
  f243 := Tryd.func69.trans (congrArg some (by kernel_rfl))
  f246 := Tryd.func78.trans (congrArg some (by kernel_rfl))
  f283 := Tryd.func87.trans (congrArg some (by kernel_rfl))
  f284 := Tryd.func88.trans (congrArg some (by kernel_rfl))
  f285 := Tryd.func89.trans (congrArg some (by kernel_rfl))
  f286 := Tryd.func90.trans (congrArg some (by kernel_rfl))
  f317 := Tryd.func104.trans (congrArg some (by kernel_rfl))
  f318 := Tryd.func106.trans (congrArg some (by kernel_rfl))
  f319 := Tryd.func107.trans (congrArg some (by kernel_rfl))
  f320 := Tryd.func108.trans (congrArg some (by kernel_rfl))
  f337 := Tryd.func119.trans (congrArg some (by kernel_rfl))
  f338 := Tryd.func120.trans (congrArg some (by kernel_rfl))
  t0 := Tryd.underlying0
  a0 := Tryd.isAgg0
  z0 := Tryd.sizeOf0
  v0 := Tryd.zeroValue0
  t2 := Tryd.underlying2
  a2 := Tryd.isAgg2
  z2 := Tryd.sizeOf2
  v2 := Tryd.zeroValue2
  t3 := Tryd.underlying3
  a3 := Tryd.isAgg3
  z3 := Tryd.sizeOf3
  v3 := Tryd.zeroValue3
  t4 := Tryd.underlying4
  a4 := Tryd.isAgg4
  z4 := Tryd.sizeOf4
  v4 := Tryd.zeroValue4
  t5 := Tryd.underlying5
  a5 := Tryd.isAgg5
  z5 := Tryd.sizeOf5
  v5 := Tryd.zeroValue5
  t9 := Tryd.underlying9
  a9 := Tryd.isAgg9
  z9 := Tryd.sizeOf9
  v9 := Tryd.zeroValue9
  t20 := Tryd.underlying20
  a20 := Tryd.isAgg20
  z20 := Tryd.sizeOf20
  v20 := Tryd.zeroValue20
  t37 := Tryd.underlying26
  a37 := Tryd.isAgg26
  z37 := Tryd.sizeOf26
  v37 := Tryd.zeroValue26
  t46 := Tryd.underlying105
  a46 := Tryd.isAgg105
  z46 := Tryd.sizeOf105
  v46 := Tryd.zeroValue105
  t51 := Tryd.underlying100
  a51 := Tryd.isAgg100
  z51 := Tryd.sizeOf100
  v51 := Tryd.zeroValue100
  t53 := Tryd.underlying95
  a53 := Tryd.isAgg95
  z53 := Tryd.sizeOf95
  v53 := Tryd.zeroValue95
  t171 := Tryd.underlying125
  a171 := Tryd.isAgg125
  z171 := Tryd.sizeOf125
  v171 := Tryd.zeroValue125
  t173 := Tryd.underlying128
  a173 := Tryd.isAgg128
  z173 := Tryd.sizeOf128
  v173 := Tryd.zeroValue128
  t212 := Tryd.underlying145
  a212 := Tryd.isAgg145
  z212 := Tryd.sizeOf145
  v212 := Tryd.zeroValue145
  t213 := Tryd.underlying146
  a213 := Tryd.isAgg146
  z213 := Tryd.sizeOf146
  t232 := Tryd.underlying22
  a232 := Tryd.isAgg22
  z232 := Tryd.sizeOf22
  v232 := Tryd.zeroValue22
  t233 := Tryd.underlying103
  a233 := Tryd.isAgg103
  z233 := Tryd.sizeOf103
  v233 := Tryd.zeroValue103
  g17 := by kernel_rfl
  g18 := by kernel_rfl
  g19 := by kernel_rfl
  i0 := by kernel_rfl
  i2 := by kernel_rfl
  i3 := by kernel_rfl
  i4 := by kernel_rfl
  i5 := by kernel_rfl
  i9 := by kernel_rfl
  i20 := by kernel_rfl
  i37 := by kernel_rfl
  i46 := by kernel_rfl
  i51 := by kernel_rfl
  i53 := by kernel_rfl
  i171 := by kernel_rfl
  i173 := by kernel_rfl
  i212 := by kernel_rfl
  i232 := by kernel_rfl
  i233 := by kernel_rfl
  m17 := by kernel_rfl
  m18 := by kernel_rfl
  m19 := by kernel_rfl }
open Go.RowKit Go.Sort Go.Lib in
theorem Tryd.strconv_Itoa (n : Int) (h0 : -9223372036854775808 ≤ n) (h1 : n ≤ 9223372036854775807) (w : World) (htab : Lib.TabIs Tryd.prog w "internal/strconv.uint64pow10" .u64 Lib.pow10Tab) :
    Calls Tryd.prog 51 #[.int .i64 n] w fun e w' => e = .returned (.string ⟨(Lib.itoa n).toArray⟩) ∧ ∃ k os, w' = grow (w.drewN k) os := Any.strconv_Itoa Tryd.laysM171 n h0 h1 w htab
def Tryd.laysC172_ren : Go.Shelf.Ren := ⟨fun | 172 => 73 | 244 => 85 | 245 => 86 | 247 => 99 | 279 => 100 | 280 => 101 | 281 => 102 | 282 => 103 | 287 => 116 | 316 => 117 | 171 => 51 | 205 => 118 | 321 => 125 | 322 => 126 | 243 => 69 | 246 => 78 | 283 => 87 | 284 => 88 | 285 => 89 | 286 => 90 | 129 => 105 | 317 => 104 | 318 => 106 | 319 => 107 | 320 => 108 | 337 => 119 | 338 => 120 | n => n, fun | 9 => 9 | 3 => 3 | 75 => 109 | 76 => 110 | 4 => 4 | 5 => 5 | 167 => 138 | 37 => 26 | 0 => 0 | 85 => 139 | 2 => 2 | 168 => 141 | 53 => 95 | 175 => 152 | 46 => 105 | 210 => 156 | 127 => 161 | 145 => 164 | 143 => 162 | 21 => 21 | 171 => 125 | 173 => 128 | 212 => 145 | 51 => 100 | 20 => 20 | 213 => 146 | 232 => 22 | 233 => 103 | 80 => 165 | n => n, fun | 15 => 3 | 16 => 4 | 17 => 1 | 18 => 5 | 19 => 6 | n => n⟩
theorem Tryd.laysC172 : Go.Proofs.LaysC.n172 Tryd.prog Tryd.laysC172_ren := {
  mixed := by kernel_rfl
  f129 := Tryd.func105.trans (congrArg some (by kernel_rfl))
  f171 := Tryd.func51.trans (congrArg some (by kernel_rfl))
  f172 := Tryd.func73.trans (congrArg some (by kernel_rfl))
  f205 := Tryd.func118.trans (congrArg some (by kernel_rfl))
  f243 := Tryd.func69.trans (congrArg some (by kernel_rfl))
  f244 := Tryd.func85.trans (congrArg some (by kernel_rfl))
  f245 := Tryd.func86.trans (congrArg some (by kernel_rfl))
  f246 := Tryd.func78.trans (congrArg some (by kernel_rfl))
  f247 := Tryd.func99.trans (congrArg some (by kernel_rfl))
  f279 := Tryd.func100.trans (congrArg some (by kernel_rfl))
  f280 := Tryd.func101.trans (congrArg some (by kernel_rfl))
  f281 := Tryd.func102.trans (congrArg some (by kernel_rfl))
  f282 := Tryd.func103.trans (congrArg some (by kernel_rfl))
  f283 := Tryd.func87.trans (congrArg some (by kernel_rfl))
  f284 := Tryd.func88.trans (congrArg some (by kernel_rfl))
  f285 := Tryd.func89.trans (congrArg some (by kernel_rfl))
  f286 := Tryd.func90.trans (congrArg some (by kernel_rfl))
  f287 := Tryd.func116.trans (congrArg some (by kernel_rfl))
  f316 := Tryd.func117.trans (congrArg some (by kernel_rfl))
  f317 := Tryd.func104.trans (congrArg some (by kernel_rfl))
  f318 := Tryd.func106.trans (congrArg some (by kernel_rfl))
  f319 := Tryd.func107.trans (congrArg some (by kernel_rfl))
  f320 := Tryd.func108.trans (congrArg some (by kernel_rfl))
  f321 := Tryd.func125.trans (congrArg some (by kernel_rfl))
  f322 := Tryd.func126.trans (congrArg some (by kernel_rfl))
  f337 := Tryd.func119.trans (congrArg some (by kernel_rfl))
  f338 := Tryd.func120.trans (congrArg some (by kernel_rfl))
  t0 := Tryd.underlying0
  a0 := Tryd.isAgg0
  z0 := Tryd.sizeOf0
  v0 := Tryd.zeroValue0
  t2 := Tryd.underlying2
  a2 := Tryd.isAgg2
  z2 := Tryd.sizeOf2
  v2 := Tryd.zeroValue2
  t3 := Tryd.underlying3
  a3 := Tryd.isAgg3
  z3 := Tryd.sizeOf3
  v3 := Tryd.zeroValue3
  t4 := Tryd.underlying4
  a4 := Tryd.isAgg4
  z4 := Tryd.sizeOf4
  v4 := Tryd.zeroValue4
  t5 := Tryd.underlying5
  a5 := Tryd.isAgg5
  z5 := Tryd.sizeOf5
  v5 := Tryd.zeroValue5
  t9 := Tryd.underlying9
  a9 := Tryd.isAgg9
  z9 := Tryd.sizeOf9
  v9 := Tryd.zeroValue9
  t20 := Tryd.underlying20
  a20 := Tryd.isAgg20
  z20 := Tryd.sizeOf20
  v20 := Tryd.zeroValue20
  t21 := Tryd.underlying21
  a21 := Tryd.isAgg21
  z21 := Tryd.sizeOf21
  v21 := Tryd.zeroValue21
  t37 := Tryd.underlying26
  a37 := Tryd.isAgg26
  z37 := Tryd.sizeOf26
  v37 := Tryd.zeroValue26
  t46 := Tryd.underlying105
  a46 := Tryd.isAgg105
  z46 := Tryd.sizeOf105
  v46 := Tryd.zeroValue105
  t51 := Tryd.underlying100
  a51 := Tryd.isAgg100
  z51 := Tryd.sizeOf100
  v51 := Tryd.zeroValue100
  t53 := Tryd.underlying95
  a53 := Tryd.isAgg95
  z53 := Tryd.sizeOf95
  v53 := Tryd.zeroValue95
  t75 := Tryd.underlying109
  a75 := Tryd.isAgg109
  z75 := Tryd.sizeOf109
  v75 := Tryd.zeroValue109
  t76 := Tryd.underlying110
  a76 := Tryd.isAgg110
  z76 := Tryd.sizeOf110
  v76 := Tryd.zeroValue110
  t85 := Tryd.underlying139
  a85 := Tryd.isAgg139
  z85 := Tryd.sizeOf139
  v85 := Tryd.zeroValue139
  t127 := Tryd.underlying161
  a127 := Tryd.isAgg161
  z127 := Tryd.sizeOf161
  v127 := Tryd.zeroValue161
  t143 := Tryd.underlying162
  a143 := Tryd.isAgg162
  z143 := Tryd.sizeOf162
  v143 := Tryd.zeroValue162
  t145 := Tryd.underlying164
  a145 := Tryd.isAgg164
  z145 := Tryd.sizeOf164
  v145 := Tryd.zeroValue164
  t167 := Tryd.underlying138
  a167 := Tryd.isAgg138
  z167 := Tryd.sizeOf138
  v167 := Tryd.zeroValue138
  t168 := Tryd.underlying141
  a168 := Tryd.isAgg141
  z168 := Tryd.sizeOf141
  v168 := Tryd.zeroValue141
  t171 := Tryd.underlying125
  a171 := Tryd.isAgg125
  z171 := Tryd.sizeOf125
  v171 := Tryd.zeroValue125
  t173 := Tryd.underlying128
  a173 := Tryd.isAgg128
  z173 := Tryd.sizeOf128
  v173 := Tryd.zeroValue128
  t175 := Tryd.underlying152
  a175 := Tryd.isAgg152
  z175 := Tryd.sizeOf152
  v175 := Tryd.zeroValue152
  t210 := Tryd.underlying156
  a210 := Tryd.isAgg156
  z210 := Tryd.sizeOf156
  v210 := Tryd.zeroValue156
  t212 := Tryd.underlying145
  a212 := Tryd.isAgg145
  z212 := Tryd.sizeOf145
  v212 := Tryd.zeroValue145
  t213 := Tryd.underlying146
  a213 := Tryd.isAgg146
  z213 := Tryd.sizeOf146
  t232 := Tryd.underlying22
  a232 := Tryd.isAgg22
  z232 := Tryd.sizeOf22
  v232 := Tryd.zeroValue22
  t233 := Tryd.underlying103
  a233 := Tryd.isAgg103
  z233 := Tryd.sizeOf103
  v233 := Tryd.zeroValue103
  g15 := by kernel_rfl
  g16 := by kernel_rfl
  g17 := by kernel_rfl
  g18 := by kernel_rfl
  g19 := by kernel_rfl
  t80 := Tryd.underlying165
  a80 := Tryd.isAgg165
  z80 := Tryd.sizeOf165
  v80 := Tryd.zeroValue165
  i0 := by kernel_rfl
  i2 := by kernel_rfl
  i3 := by kernel_rfl
  i4 := by kernel_rfl
  i5 := by kernel_rfl
  i9 := by kernel_rfl
  i20 := by kernel_rfl
  i21 := by kernel_rfl
  i37 := by kernel_rfl
  i46 := by kernel_rfl
  i51 := by kernel_rfl
  i53 := by kernel_rfl
  i75 := by kernel_rfl
  i76 := by kernel_rfl
  i80 := by kernel_rfl
  i85 := by kernel_rfl
  i127 := by kernel_rfl
  i143 := by kernel_rfl
  i145 := by kernel_rfl
  i167 := by kernel_rfl
  i168 := by kernel_rfl
  i171 := by kernel_rfl
  i173 := by kernel_rfl
  i175 := by kernel_rfl
  i210 := by kernel_rfl
  i212 := by kernel_rfl
  i232 := by kernel_rfl
  i233 := by kernel_rfl
  m15 := by kernel_rfl
  m16 := by kernel_rfl
  m17 := by kernel_rfl
  m18 := by kernel_rfl
  m19 := by kernel_rfl
  c0 := by kernel_rfl
  c2 := by kernel_rfl
  c3 := by kernel_rfl
  c4 := by kernel_rfl
  c5 := by kernel_rfl
  c9 := by kernel_rfl
  c20 := by kernel_rfl
  c21 := by kernel_rfl
  c37 := by kernel_rfl
  c46 := by kernel_rfl
  c51 := by kernel_rfl
  c53 := by kernel_rfl
  c75 := by kernel_rfl
  c76 := by kernel_rfl
  c80 := by kernel_rfl
  c85 := by kernel_rfl
  c127 := by kernel_rfl
  c143 := by kernel_rfl
  c145 := by kernel_rfl
  c167 := by kernel_rfl
  c168 := by kernel_rfl
  c171 := by kernel_rfl
  c173 := by kernel_rfl
  c175 := by kernel_rfl
  c210 := by kernel_rfl
  c212 := by kernel_rfl
  c213 := by kernel_rfl
  c232 := by kernel_rfl
  c233 := by kernel_rfl }
open Go.RowKit in
theorem Tryd.strconv_Atoi_ok (s : ByteArray) (hmax : s.size ≤ 9223372036854775806) (v : Int) (h : Lib.atoiAll s.data.toList = .ok v) (w : World) :
    Calls Tryd.prog 73 #[.string s] w fun e w' => e = .returned (.tuple #[.int .i64 v, .nilIface]) ∧ (w' = w ∨ ∃ t, w' = Lib.bytesWorld w 5 t) := Any.strconv_Atoi_ok Tryd.laysC172 s hmax v h w
open Go.RowKit in
theorem Tryd.strconv_Atoi_syntax (s : ByteArray) (hlim : s.size ≤ 281474976710656) (h : Lib.atoiAll s.data.toList = .«syntax») (ev : Value) (w : World) (hv : w.cell? ⟨3, 0, none⟩ = some ev) (hev : ev = .nilIface ∨ ∃ te pe, ev = .iface te pe) :
    Calls Tryd.prog 73 #[.string s] w fun e w' => ∃ N, e = .returned (.tuple #[.int .i64 (0), .iface 141 (.pointer (some ⟨N, 0, none⟩))]) ∧ w.heap.size ≤ N ∧ w'.heap[N]? = some (.cells #[.string ⟨#[65, 116, 111, 105]⟩, .string s, ev] 156 (0, 0)) ∧ Below w.heap.size w w' := Any.strconv_Atoi_syntax Tryd.laysC172 s hlim h ev w hv hev
open Go.RowKit in
theorem Tryd.strconv_Atoi_range (s : ByteArray) (hlim : s.size ≤ 281474976710656) (h : Lib.atoiAll s.data.toList = .range) (ev : Value) (w : World) (hv : w.cell? ⟨4, 0, none⟩ = some ev) (hev : ev = .nilIface ∨ ∃ te pe, ev = .iface te pe) :
    Calls Tryd.prog 73 #[.string s] w fun e w' => ∃ N, e = .returned (.tuple #[.int .i64 (Lib.atoiSat s.data.toList), .iface 141 (.pointer (some ⟨N, 0, none⟩))]) ∧ w.heap.size ≤ N ∧ w'.heap[N]? = some (.cells #[.string ⟨#[65, 116, 111, 105]⟩, .string s, ev] 156 (0, 0)) ∧ Below w.heap.size w w' := Any.strconv_Atoi_range Tryd.laysC172 s hlim h ev w hv hev
end Go.Proofs
namespace Go.Proofs.YtklklldmhoofnaaDoor
open Go Go.RowKit
theorem idx_str (w : World) (s : ByteArray) (i : Nat) (h : i < s.size) : (Instr.index 9 (.string s) (.int .i64 (i : Int))).run Tryd.prog w = .ok (.int .u8 ((sB s).getD i 0)) w := by
  rw [run_index_string w 9 s .i64 i Tryd.underlying9, dif_pos (by omega)]
  congr 2
  rw [← sB_get s i h]
  congr
theorem cut_str (w : World) (s : ByteArray) (i j : Nat) (h : i ≤ j) (hj : j ≤ s.size) : (Instr.slice 9 (.string s) (some (.int .i64 (i : Int))) (some (.int .i64 (j : Int))) none).run Tryd.prog w = .ok (.string (bS (((sB s).drop i).take (j - i)))) w := by
  rw [run_slice_string w 9 s .i64 .i64 i j Tryd.underlying9 (by omega) (by omega) (by omega), ← sB_cut, bS_sB]
  congr
theorem cut_str_end (w : World) (s : ByteArray) (i : Nat) (h : i ≤ s.size) : (Instr.slice 9 (.string s) (some (.int .i64 (i : Int))) none none).run Tryd.prog w = .ok (.string (bS ((sB s).drop i))) w := by
  have e : bS ((sB s).drop i) = s.extract i s.size := by
    apply sB_inj
    rw [sB_cut, sB_bS (fun x hx => sB_byt s x (List.mem_of_mem_drop hx)), List.take_of_length_le (by rw [List.length_drop, sB_length]; exact Nat.le_refl _)]
  rw [e]
  simp [Instr.slice, Instr.sliceBounds, Instr.sliceBound, asIntOf, run_underlying Tryd.underlying9, h]
theorem conv_str {w : World} {v : Value} {l : List Int} (h : HB w v l) : (convert 26 9 v).run Tryd.prog w = .ok (.string (bS l)) w := by
  have hby : Byt8 l := h.2
  by_cases h0 : 0 < l.length
  · obtain ⟨b, off, c, rfl, _, _, hc⟩ := h.ne h0
    obtain ⟨u, Hu⟩ : ∃ u : List UInt8, l.map (fun x => UInt8.ofNat x.toNat) = u := ⟨_, rfl⟩
    have hul : u.length = l.length := by rw [← Hu]; simp
    have := run_convert_bytes_back (P := Tryd.prog) w 26 9 5 ⟨b, off, none⟩ c u Tryd.underlying26 Tryd.underlying5 Tryd.underlying9 (by
      intro j hj
      rw [Go.WideShapes.add_plain, hc j (by omega)]
      subst Hu
      simp only [List.getElem_map, UInt8.toNat_ofNat']
      rw [getD_of_lt (by omega)]
      have := hby _ (List.getElem_mem (by omega : j < l.length))
      congr 2
      omega)
    rw [hul] at this
    rw [this]
    unfold bS
    rw [Hu]
  · have e : l = [] := List.length_eq_zero_iff.1 (by omega)
    subst e
    obtain ⟨p, c, rfl, _, _⟩ := h.open
    cases p with
    | none =>
      rw [List.length_nil, run_convert_bytes_string w 26 9 5 none 0 c Tryd.underlying26 Tryd.underlying5 Tryd.underlying9]
      simp [Conv.bytesToString, loadCells, bS]
      rfl
    | some a =>
      exact run_convert_bytes_back (P := Tryd.prog) w 26 9 5 a c [] Tryd.underlying26 Tryd.underlying5 Tryd.underlying9 (by intro j hj; simp at hj)
end Go.Proofs.YtklklldmhoofnaaDoor
