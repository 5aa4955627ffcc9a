/- Again of cut and Check of ueb, walked. -/
import Derived.Test.YtfaojnnpekpomaaDoorUbAgain
set_option linter.unusedSimpArgs false
set_option linter.unusedVariables false
namespace Go.Proofs.YtfaojnnpekpomaaDoor
open Go Go.RowKit

theorem results_cellT {P : Program} {fn : Func} {p u : Tmp} {ty : TypeId} (h : fn.results = #[.cell p ty, .tmp u]) (tmps : Array Value) (w : World) (g : Nat) (t : TypeId) (cs : Array Value) (fr : Nat × Nat) (d : TypeDesc)
    (hp : tmps.getD p undef = .pointer (some ⟨g, 0, none⟩)) (hg : w.heap[g]? = some (.cells cs t fr))
    (hu : P.underlying ty = some d) (hd : (match d with | .struct _ | .array _ _ => true | _ => false) = true) (hi : (P.info? ty).map (·.size) = some cs.size) (x : Value) (hx : tmps.getD u undef = x) :
    (results fn tmps).run P w = .ok (.tuple #[.agg cs, x]) w := by
  have hp' : tmps[p]?.getD undef = .pointer (some ⟨g, 0, none⟩) := by simpa using hp
  have hx' : tmps[u]?.getD undef = x := by simpa using hx
  simp [results, h, hp', hx', asAddr, run_loadVar_row w g t ty cs fr d hg hu hd hi]
theorem sh0_one : (shA sh0).all (·.oneCell') = true := by simp [shA, sh0, Value.oneCell']
set_option maxRecDepth 100000 in
set_option maxHeartbeats 8000000 in
theorem again_hand (w : World) (k n g z : Int) : Calls Tryd.prog 28 #[.int .i64 k, .int .i64 n, .int .i64 g, .int .i64 z] w fun e w' => ∃ cs, e = .returned (.tuple #[.agg cs, .int .i64 (agE k n g z)]) ∧ cs.size = 8 ∧ cs.all (·.oneCell') = true ∧ Below w.heap.size w w' := by
  have CN := hid fun w => counts_any w k n
  have CS := hid fun w => shared_any w z
  have HBAD : Hid (¬ OkS k n g z → agE k n g z = 92) := hid fun h => by unfold agE; rw [if_neg h]
  by_cases hc : 1 ≤ k ∧ k ≤ n ∧ n ≤ 255
  · have hb : cntB k n = true := decide_eq_true hc
    rw [hb] at CN
    obtain ⟨hc1, hc2, hc3⟩ := hc
    have CM := hid fun w => most_any w k hc1 (by omega)
    obtain ⟨m1, m2⟩ := most_lt hc1 (by omega : k ≤ 255)
    obtain ⟨M, HM⟩ : ∃ x, Hid (k * upI 65536 k = x) := ⟨_, rfl⟩
    rw [HM.out] at CM m1 m2
    clear hb
    by_cases h1 : g < 1
    · have F := hid (HBAD.out fun h => by have := h.2.2.2.1; omega)
      go_enter Tryd.func28, Tryd.ntmps28
      go_wp2_with fail
      refine (CN.out _).mono ?_
      rintro e w' ⟨rfl, hw⟩
      rw [hw]
      clear hw
      go_wp2
      refine bodyPost_ret (v := .tuple #[.agg (shA sh0), .int .i64 92]) (results_cellT (p := 8) (u := 9) (ty := 24) rfl _ _ w.heap.size 24 (shA sh0) (0, 0) _ rfl (heap_alloc_new w _) Tryd.underlying24 rfl size_shape _ rfl) rfl ?_
      exact ⟨shA sh0, by rw [F.out], rfl, sh0_one, below_alloc _ _⟩
    · by_cases h2 : M < g
      · have F := hid (HBAD.out fun h => by have := h.2.2.2.2.1; rw [HM.out] at this; omega)
        go_enter Tryd.func28, Tryd.ntmps28
        go_wp2_with fail
        refine (CN.out _).mono ?_
        rintro e w' ⟨rfl, hw⟩
        rw [hw]
        clear hw
        go_wp2_with fail
        refine (CM.out _).mono ?_
        rintro e w' ⟨rfl, hw⟩
        rw [hw]
        clear hw
        go_wp2
        refine bodyPost_ret (v := .tuple #[.agg (shA sh0), .int .i64 92]) (results_cellT (p := 8) (u := 9) (ty := 24) rfl _ _ w.heap.size 24 (shA sh0) (0, 0) _ rfl (heap_alloc_new w _) Tryd.underlying24 rfl size_shape _ rfl) rfl ?_
        exact ⟨shA sh0, by rw [F.out], rfl, sh0_one, below_alloc _ _⟩
      · have hk0 : ¬ k = 0 := by omega
        have ht : g.tmod k = g % k := Int.tmod_eq_emod_of_nonneg (by omega)
        have hm1 := Int.emod_nonneg g hk0
        have hm2 := Int.emod_lt_of_pos g (by omega : 0 < k)
        obtain ⟨R, HR⟩ : ∃ x, Hid (g % k = x) := ⟨_, rfl⟩
        rw [HR.out] at ht hm1 hm2
        have kR : IntKind.i64.wrap R = R := by rw [IntKind.wrap_i64]; omega
        by_cases h3 : R = 0
        · by_cases h4 : 33 ≤ z ∧ z ≤ 16777216
          · have hb : szB z = true := decide_eq_true h4
            rw [hb] at CS
            have CP := hid fun w => shapedH_any w k n g z hc1 (by omega) (by omega) (by omega) (by omega) h4.2
            have u1 := upI_pos (x := z) (y := g) (by omega) (by omega)
            have u2 := upI_le (x := z) (y := g) (by omega) (by omega)
            clear hb
            subst h3
            by_cases h5 : upI z g ≤ 512
            · have F : Hid (agE k n g z = 0) := by
                refine hid ?_
                unfold agE
                rw [if_pos ⟨hc1, hc2, hc3, by omega, by rw [HM.out]; omega, HR.out, h4.1, h4.2, h5⟩]
              obtain ⟨U, HU⟩ : ∃ x, Hid (upI z g = x) := ⟨_, rfl⟩
              have e8 : shA (shR k n g z) = #[.int .i64 k, .int .i64 n, .int .i64 g, .int .i64 z, .int .i64 (upI z g), .int .i64 (tlI z g), .int .i64 (g / k), .int .i64 (upI (tlI z g) k)] := rfl
              rw [e8] at CP
              obtain ⟨T, HT⟩ : ∃ x, Hid (tlI z g = x) := ⟨_, rfl⟩
              rw [HT.out] at CP
              obtain ⟨V, HV⟩ : ∃ x, Hid (upI T k = x) := ⟨_, rfl⟩
              obtain ⟨D, HD⟩ : ∃ x, Hid (g / k = x) := ⟨_, rfl⟩
              rw [HU.out, HV.out, HD.out] at CP
              clear e8
              rw [HU.out] at h5 u1 u2
              go_enter Tryd.func28, Tryd.ntmps28
              go_wp2_with fail
              refine (CN.out _).mono ?_
              rintro e w' ⟨rfl, hw⟩
              rw [hw]
              clear hw w'
              go_wp2_with fail
              refine (CM.out _).mono ?_
              rintro e w' ⟨rfl, hw⟩
              rw [hw]
              clear hw w'
              go_wp2_with fail
              refine (CS.out _).mono ?_
              rintro e w' ⟨rfl, hw⟩
              rw [hw]
              clear hw w'
              go_wp2_with fail
              refine (CP.out _).mono ?_
              rintro e w3 ⟨rfl, hb3⟩
              have B3 := hid (((Below.refl _ w).alloc (Nat.le_refl _) _).trans (hb3.mono (by simp)))
              have H8 := hid ((hb3.block w.heap.size (by simp)).trans (heap_alloc_new w _))
              have hs3 : w.heap.size < w3.heap.size := by have := hb3.size; simp at this; omega
              clear hb3
              go_wp2_with (first | (refine wpList_store_row rfl 24 _ _ rfl w.heap.size #[.int .i64 k, .int .i64 n, .int .i64 g, .int .i64 z, .int .i64 U, .int .i64 T, .int .i64 D, .int .i64 V] rfl rfl 24 (shA sh0) (by rw [heap_alloc_old _ _ hs3]; exact H8.out) size_shape rfl (by simp [Value.oneCell']) ?_))
              refine bodyPost_ret (v := .tuple #[.agg #[.int .i64 k, .int .i64 n, .int .i64 g, .int .i64 z, .int .i64 U, .int .i64 T, .int .i64 D, .int .i64 V], .int .i64 0]) (results_cellT (p := 8) (u := 9) (ty := 24) rfl _ _ w.heap.size 24 #[.int .i64 k, .int .i64 n, .int .i64 g, .int .i64 z, .int .i64 U, .int .i64 T, .int .i64 D, .int .i64 V] (0, 0) _ rfl (setRow_heap _ _ _ _ _ _ (by rw [heap_alloc_old _ _ hs3]; exact H8.out)) Tryd.underlying24 rfl size_shape _ rfl) rfl ?_
              exact ⟨#[.int .i64 k, .int .i64 n, .int .i64 g, .int .i64 z, .int .i64 U, .int .i64 T, .int .i64 D, .int .i64 V], by rw [F.out], rfl, (by simp [Value.oneCell']), bel_setRow (B3.out.alloc (by omega) _) (Nat.le_refl _) _⟩
            · have F := hid (HBAD.out fun h => h5 h.2.2.2.2.2.2.2.2)
              obtain ⟨U, HU⟩ : ∃ x, Hid (upI z g = x) := ⟨_, rfl⟩
              have e8 : shA (shR k n g z) = #[.int .i64 k, .int .i64 n, .int .i64 g, .int .i64 z, .int .i64 (upI z g), .int .i64 (tlI z g), .int .i64 (g / k), .int .i64 (upI (tlI z g) k)] := rfl
              rw [e8] at CP
              obtain ⟨T, HT⟩ : ∃ x, Hid (tlI z g = x) := ⟨_, rfl⟩
              rw [HT.out] at CP
              obtain ⟨V, HV⟩ : ∃ x, Hid (upI T k = x) := ⟨_, rfl⟩
              obtain ⟨D, HD⟩ : ∃ x, Hid (g / k = x) := ⟨_, rfl⟩
              rw [HU.out, HV.out, HD.out] at CP
              clear e8
              rw [HU.out] at h5 u1 u2
              go_enter Tryd.func28, Tryd.ntmps28
              go_wp2_with fail
              refine (CN.out _).mono ?_
              rintro e w' ⟨rfl, hw⟩
              rw [hw]
              clear hw w'
              go_wp2_with fail
              refine (CM.out _).mono ?_
              rintro e w' ⟨rfl, hw⟩
              rw [hw]
              clear hw w'
              go_wp2_with fail
              refine (CS.out _).mono ?_
              rintro e w' ⟨rfl, hw⟩
              rw [hw]
              clear hw w'
              go_wp2_with fail
              refine (CP.out _).mono ?_
              rintro e w3 ⟨rfl, hb3⟩
              have B3 := hid (((Below.refl _ w).alloc (Nat.le_refl _) _).trans (hb3.mono (by simp)))
              have H8 := hid ((hb3.block w.heap.size (by simp)).trans (heap_alloc_new w _))
              have hs3 : w.heap.size < w3.heap.size := by have := hb3.size; simp at this; omega
              clear hb3
              go_wp2_with (first | (refine wpList_store_row rfl 24 _ _ rfl w.heap.size (shA sh0) rfl rfl 24 (shA sh0) (by rw [heap_alloc_old _ _ hs3]; exact H8.out) size_shape rfl sh0_one ?_))
              refine bodyPost_ret (v := .tuple #[.agg (shA sh0), .int .i64 92]) (results_cellT (p := 8) (u := 9) (ty := 24) rfl _ _ w.heap.size 24 (shA sh0) (0, 0) _ rfl (setRow_heap _ _ _ _ _ _ (by rw [heap_alloc_old _ _ hs3]; exact H8.out)) Tryd.underlying24 rfl size_shape _ rfl) rfl ?_
              exact ⟨(shA sh0), by rw [F.out], rfl, sh0_one, bel_setRow (B3.out.alloc (by omega) _) (Nat.le_refl _) _⟩
          · have hb : szB z = false := decide_eq_false h4
            rw [hb] at CS
            clear hb
            subst h3
            have F := hid (HBAD.out fun h => h4 ⟨h.2.2.2.2.2.2.1, h.2.2.2.2.2.2.2.1⟩)
            clear h4
            go_enter Tryd.func28, Tryd.ntmps28
            go_wp2_with fail
            refine (CN.out _).mono ?_
            rintro e w' ⟨rfl, hw⟩
            rw [hw]
            clear hw
            go_wp2_with fail
            refine (CM.out _).mono ?_
            rintro e w' ⟨rfl, hw⟩
            rw [hw]
            clear hw
            go_wp2_with fail
            refine (CS.out _).mono ?_
            rintro e w' ⟨rfl, hw⟩
            rw [hw]
            clear hw
            go_wp2
            refine bodyPost_ret (v := .tuple #[.agg (shA sh0), .int .i64 92]) (results_cellT (p := 8) (u := 9) (ty := 24) rfl _ _ w.heap.size 24 (shA sh0) (0, 0) _ rfl (heap_alloc_new w _) Tryd.underlying24 rfl size_shape _ rfl) rfl ?_
            exact ⟨shA sh0, by rw [F.out], rfl, sh0_one, below_alloc _ _⟩
        · have F := hid (HBAD.out fun h => by have := h.2.2.2.2.2.1; rw [HR.out] at this; exact h3 this)
          go_enter Tryd.func28, Tryd.ntmps28
          go_wp2_with fail
          refine (CN.out _).mono ?_
          rintro e w' ⟨rfl, hw⟩
          rw [hw]
          clear hw
          go_wp2_with fail
          refine (CM.out _).mono ?_
          rintro e w' ⟨rfl, hw⟩
          rw [hw]
          clear hw
          go_wp2
          refine bodyPost_ret (v := .tuple #[.agg (shA sh0), .int .i64 92]) (results_cellT (p := 8) (u := 9) (ty := 24) rfl _ _ w.heap.size 24 (shA sh0) (0, 0) _ rfl (heap_alloc_new w _) Tryd.underlying24 rfl size_shape _ rfl) rfl ?_
          exact ⟨shA sh0, by rw [F.out], rfl, sh0_one, below_alloc _ _⟩
  · have hb : cntB k n = false := decide_eq_false hc
    rw [hb] at CN
    have F := hid (HBAD.out fun h => hc ⟨h.1, h.2.1, h.2.2.1⟩)
    clear hb hc
    go_enter Tryd.func28, Tryd.ntmps28
    go_wp2_with fail
    refine (CN.out _).mono ?_
    rintro e w' ⟨rfl, hw⟩
    rw [hw]
    clear hw
    go_wp2
    refine bodyPost_ret (v := .tuple #[.agg (shA sh0), .int .i64 92]) (results_cellT (p := 8) (u := 9) (ty := 24) rfl _ _ w.heap.size 24 (shA sh0) (0, 0) _ rfl (heap_alloc_new w _) Tryd.underlying24 rfl size_shape _ rfl) rfl ?_
    exact ⟨shA sh0, by rw [F.out], rfl, sh0_one, below_alloc _ _⟩
end Go.Proofs.YtfaojnnpekpomaaDoor
