/- HeapLies returns true and leaves its arguments as they were, for all arguments. -/
import Derived.Test.YtcgkcappfjhikaaOpens
import Derived.Test.YtcgkcappfjhikaaHmB
import Derived.Deep.Grids
namespace Go.Proofs.Ytcgkcappfjhikaa
open Go.ChangeShapes Go.WideShapes Go.ChangeAt Go.RowKit
variable {H : Type} {enc : TypeId × Value → H} {W : World}
theorem cells_bool17 : Try.prog.cellsOf 4 = 1 := by kernel_rfl
theorem bytes_bool17 : Try.prog.bytesOf 4 = 1 := by kernel_rfl
theorem bytes_int17 : Try.prog.bytesOf 3 = 8 := by kernel_rfl
/-- What a reading of a slice of bools gives, with the reach's bound on its length. -/
theorem open_HBoR {ts : List TypeId} {ds : List (DataW H)} {j base : Nat} {v : Value} {d : DataW H} {p : List MemPlace} (hsz : (DataW.weightsEach Try.prog ts ds).all (· ≤ reachBytes) = true) (ht : ts[j]? = some 68) (hd : ds[j]? = some d)
    (h : DataW.Trod enc Try.prog W base (fun _ => true) true 68 v d p) (hv : ∃ a n c, v = .slice a n c) : ∃ n f, HBo W v n f ∧ n ≤ 140737488355328 := by
  obtain ⟨a, n, c, rfl⟩ := hv
  obtain ⟨fuel, hf⟩ := h
  rcases Go.Deep.open_bools Try.underlying68 Try.underlying4 cells_bool17 hf with ⟨hcs, hx⟩ | ⟨x, len, cap, B, hcs, _, hl, hm, hx, hcell⟩
  · simp only [Value.cells, List.cons.injEq, and_true] at hcs
    rw [hcs]
    exact ⟨0, fun _ => false, ⟨none, 0, rfl, fun h => absurd h (by simp)⟩, by omega⟩
  · simp only [Value.cells, List.cons.injEq, and_true] at hcs
    rw [hcs]
    simp only [Prod.mk.injEq] at hx
    obtain ⟨rfl, _⟩ := hx
    have hz := sized_slice (elems := (List.range len).map fun i => .lit (.bool (B i))) (spare := (List.range (cap - len)).map fun j => .lit (.bool (B (len + j)))) hsz ht hd Try.underlying68
    rw [bytes_bool17] at hz
    simp only [List.length_map, List.length_range, reachBytes] at hz
    refine ⟨len, B, ⟨some x, cap, rfl, fun h0 => ?_⟩, by omega⟩
    obtain ⟨b, off, sp⟩ := x
    have hsp : sp = none := by simpa [Addr.add] using World.cell?_spot (hcell 0 (by omega))
    subst hsp
    refine ⟨b, off, rfl, fun j hj => ?_⟩
    have := hcell j (by omega)
    rw [Go.WideShapes.add_plain] at this
    exact this
/-- The same for a slice of ints. -/
theorem open_IHB {ts : List TypeId} {ds : List (DataW H)} {j base : Nat} {v : Value} {d : DataW H} {p : List MemPlace} (hsz : (DataW.weightsEach Try.prog ts ds).all (· ≤ reachBytes) = true) (ht : ts[j]? = some 42) (hd : ds[j]? = some d)
    (h : DataW.Trod enc Try.prog W base (fun _ => true) true 42 v d p) (hv : ∃ a n c, v = .slice a n c) : ∃ l, I.HB W v l ∧ l.length ≤ 17592186043904 := by
  obtain ⟨a, n, c, rfl⟩ := hv
  obtain ⟨fuel, hf⟩ := h
  have hf2 := hf
  obtain ⟨q, c', l, hcs, k1, k2, k3, k4, k5, k6⟩ := open_row Try.underlying42 Try.underlying3 Opn.cells_int hf
  simp only [Value.cells, List.cons.injEq, and_true] at hcs
  refine ⟨l, ⟨⟨q, c', hcs, k1, k2, k3, k4⟩, fun x hx => by have := bounds_i64 (k5 x hx); omega⟩, ?_⟩
  rcases open_ints Try.underlying42 Try.underlying3 Opn.cells_int hf2 with ⟨hcs2, _⟩ | ⟨x, len, cap, zs, hcs2, _, hl, hm, hz, hx, _, _⟩
  · simp only [Value.cells, List.cons.injEq, and_true] at hcs2
    rw [hcs2] at hcs
    simp only [Value.slice.injEq] at hcs
    omega
  · simp only [Value.cells, List.cons.injEq, and_true] at hcs2
    rw [hcs2] at hcs
    simp only [Value.slice.injEq] at hcs
    simp only [Prod.mk.injEq] at hx
    obtain ⟨rfl, _⟩ := hx
    have := sized_slice hsz ht hd Try.underlying42
    rw [bytes_int17] at this
    simp only [lits, List.length_map, List.length_take, List.length_drop, reachBytes, if_true] at this hz
    omega
end Go.Proofs.Ytcgkcappfjhikaa
namespace Go.Proofs.Ytcgkcappfjhikaa.heapLies
open Go.ChangeShapes Go.WideShapes Go.ChangeAt Go.RowKit
open Go.Proofs.Ytcgkcappfjhikaa

set_option maxRecDepth 100000 in
theorem contract (H : Type) (enc : TypeId × Value → H) (W : World) (base : Nat) (args : Array Value) (ds gs : List (DataW H)) (before : List MemPlace)
    (hval : ∀ (j : Nat) t v, Try.f6.params[j]? = some t → args[j]? = some v → Value.okWide Try.prog W .any base t v)
    (hW : DataW.Whole enc Try.prog Try.f6.params.toList Rows.heapLiesSpec.vars false W args.toList ds gs before) (hsz0 : (DataW.weightsEach Try.prog (Try.f6.params.toList ++ Rows.heapLiesSpec.plain.varTypes Try.prog) (ds ++ gs)).all (· ≤ reachBytes) = true) :
    Calls Try.prog 6 args W fun e W' => ∃ v, e = .returned v ∧ Rows.heapLiesSpec.post enc Try.prog Try.f6 false true false false W args v W' := by
  have hW' := hW
  obtain ⟨p, q, hA0, hV, rfl, hfz, hnd⟩ := hW
  have hA : DataW.TrodAll enc Try.prog W 0 (fun _ => true) true Try.f6.params.toList args.toList ds p := hA0
  rw [Try.params6] at hA hval
  obtain ⟨v0, vs0, d0, ds0, p0, q0, hargs, rfl, rfl, h0, r0⟩ := trodAll_cons hA
  obtain ⟨v1, vs1, d1, ds1, p1, q1, rfl, rfl, rfl, h1, r1⟩ := trodAll_cons r0
  obtain ⟨v2, vs2, d2, ds2, p2, q2, rfl, rfl, rfl, h2, r2⟩ := trodAll_cons r1
  obtain ⟨rfl, rfl, rfl⟩ := trodAll_nil r2
  obtain rfl : args = #[v0, v1, v2] := by cases args; simp_all
  obtain ⟨rfl, rfl⟩ := trodVars_none hV
  have hsz := hsz0
  rw [Try.params6, List.append_nil] at hsz
  have s0 := okWide_slice Try.underlying42 (hval 0 42 v0 rfl rfl)
  have lt0 : ∀ x ∈ p0, x.block < W.heap.size := by obtain ⟨m, hm⟩ := h0; exact DataW.trod_lt m _ _ _ hm
  obtain ⟨l0, g0, b0⟩ := open_IHB (j := 0) hsz rfl rfl h0 s0
  have s1 := okWide_slice Try.underlying68 (hval 1 68 v1 rfl rfl)
  have lt1 : ∀ x ∈ p1, x.block < W.heap.size := by obtain ⟨m, hm⟩ := h1; exact DataW.trod_lt m _ _ _ hm
  obtain ⟨n1, f1, g1, b1⟩ := open_HBoR (j := 1) hsz rfl rfl h1 s1
  have s2 := okWide_slice Try.underlying42 (hval 2 42 v2 rfl rfl)
  have lt2 : ∀ x ∈ p2, x.block < W.heap.size := by obtain ⟨m, hm⟩ := h2; exact DataW.trod_lt m _ _ _ hm
  obtain ⟨l2, g2, b2⟩ := open_IHB (j := 2) hsz rfl rfl h2 s2
  clear hA0
  refine (hlies_walk W v0 l0 v1 n1 f1 v2 l2 g0 g1 g2 b0 b1 b2).mono fun e W' ⟨he, bel⟩ => ?_
  subst he
  exact ⟨_, rfl, _, _, _, [], _, [], hW', trodAll_mk1 (shut_bool Try.underlying4 _), (trodAll_cons_mk (Below.trod Opn.laidOut (by kernel_rfl) (of_decide_eq_true (by kernel_rfl)) h0 bel lt0) (trodAll_cons_mk (Below.trod Opn.laidOut (by kernel_rfl) (of_decide_eq_true (by kernel_rfl)) h1 bel lt1) (trodAll_cons_mk (Below.trod Opn.laidOut (by kernel_rfl) (of_decide_eq_true (by kernel_rfl)) h2 bel lt2) trodAll_mk0))), rfl, bel.frame _, fun h => by cases h⟩

set_option maxRecDepth 100000 in
theorem lifted (os : Os) (started : os.Started) (H : Type) (enc : TypeId × Value → H) :
    ReturnsInHanded {} Try.checked os 6 .any (Rows.heapLiesSpec.pre6 enc Try.prog Try.f6 Rows.heapLiesRow.domain false) (Rows.heapLiesSpec.post enc Try.prog Try.f6 false true false false) := by
  refine returnsInHanded_of_change_sized (C := Try.checked) Opn.own started (by kernel_rfl) Try.func6
    (ChangeSpec.witness6 (enc := enc) (C := Try.checked) false ⟨#[], #[.slice none 0 0, .slice none 0 0, .slice none 0 0], []⟩ 8 (by kernel_rfl) (by kernel_rfl) (by kernel_rfl) (by kernel_rfl)) ?_
  intro W base args ds gs before hval hW _ hsz _
  exact contract H enc W base args ds gs before hval hW hsz

theorem proved : Rows.HeapLiesSaid :=
  OpenClaim.holds_of_wide 6 Try.f6 rfl rfl rfl rfl rfl rfl rfl ⟨rfl, rfl, rfl, rfl, rfl⟩ rfl rfl rfl rfl rfl (by kernel_rfl) Try.func6 (by kernel_rfl)
    (of_decide_eq_true (by kernel_rfl)) (by unfold Func.isWrapper; first | (rw [if_pos (by decide +kernel)]; kernel_rfl) | (rw [if_neg (by decide +kernel)]; exact ⟨rfl, rfl⟩))
    (fun os started H enc _ => lifted os started H enc)
end Go.Proofs.Ytcgkcappfjhikaa.heapLies

namespace Go.Proofs.Ytcgkcappfjhikaa
theorem heapLies_holds : Rows.HeapLiesSaid := heapLies.proved
end Go.Proofs.Ytcgkcappfjhikaa
