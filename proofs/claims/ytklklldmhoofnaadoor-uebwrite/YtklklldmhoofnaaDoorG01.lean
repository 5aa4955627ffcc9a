/- Of the road to uebWriteCard_holds: UbCheck, BsShelfD, BsIdx, BsNum, AppB, UbApp, UbShelf, Slices. -/
import Derived.Test.YtklklldmhoofnaaDoorG00
import Derived.Shelf.Small.Strs
import Derived.Shelf.Strconv.Atoi
import Derived.Shelf.Strconv.Itoa0
import Derived.Shelf.Strconv.Itoa1
import Derived.Shelf.LaysM
import Derived.Shelf.Strconv.Itoa2
import Derived.Shelf.Strconv.Itoa3
import Derived.Shelf.Strconv.AtoiErrFast
import Derived.Shelf.Strconv.ParseIntEmpty
import Derived.Shelf.Strconv.AtoiFail
import Derived.Shelf.Strconv.Clone
import Derived.Shelf.Strconv.SyntaxError
import Derived.Shelf.LaysC
import Derived.Shelf.Strconv.ToError
import Derived.Shelf.Strconv.Lower
import Derived.Shelf.Strconv.ParseUint10
import Derived.Shelf.Strconv.ParseUint10Empty
import Derived.Shelf.Strconv.ParseUint10Any
import Derived.Shelf.Strconv.ParseInt10
import Derived.Shelf.Strconv.AtoiLong
import Derived.Shelf.Strconv.AtoiInnerAll
import Derived.Shelf.Strconv.RangeError
import Derived.Shelf.Strconv.ToErrorRange
import Derived.Shelf.Strconv.AtoiAll
import Derived.Shelf.Strconv.ErrVarAll
import Derived.Shelf.Strings.Search1
import Derived.Shelf.Bytes.SlIndexAt
import Derived.Shelf.Bytes.SlSearch0
import Derived.Shelf.Bytes.IndexByte
import Derived.Test.YtklklldmhoofnaaDoorChecked
import Derived.WalkKit
import Derived.Lib.AppendIntMem
import Derived.Lib.SmallJoins
import Derived.Lib.AtoiBound
import Derived.Lib.AtoiAllMem
import Derived.Laws.AppendOwn
import Derived.Lib.AppendStr
import Derived.Laws.AppendOwnNone
set_option linter.unusedVariables false
set_option linter.unusedSimpArgs false
namespace Go.Proofs.YtklklldmhoofnaaDoor
open Go Go.RowKit
theorem results_cellT {P : Program} {fn : Func} {p u : Tmp} {ty : TypeId} (h : fn.results = #[.cell p ty, .tmp u]) (tmps : Array Value) (w : World) (g : Nat) (t : TypeId) (cs : Array Value) (fr : Nat × Nat) (d : TypeDesc)
    (hp : tmps.getD p undef = .pointer (some ⟨g, 0, none⟩)) (hg : w.heap[g]? = some (.cells cs t fr))
    (hu : P.underlying ty = some d) (hd : (match d with | .struct _ | .array _ _ => true | _ => false) = true) (hi : (P.info? ty).map (·.size) = some cs.size) (x : Value) (hx : tmps.getD u undef = x) :
    (results fn tmps).run P w = .ok (.tuple #[.agg cs, x]) w := by
  have hp' : tmps[p]?.getD undef = .pointer (some ⟨g, 0, none⟩) := by simpa using hp
  have hx' : tmps[u]?.getD undef = x := by simpa using hx
  simp [results, h, hp', hx', asAddr, run_loadVar_row w g t ty cs fr d hg hu hd hi]
theorem sh0_one : (shA sh0).all (·.oneCell') = true := by simp [shA, sh0, Value.oneCell']
set_option maxRecDepth 100000 in
set_option maxHeartbeats 8000000 in
theorem again_hand (w : World) (k n g z : Int) : Calls Tryd.prog 24 #[.int .i64 k, .int .i64 n, .int .i64 g, .int .i64 z] w fun e w' => ∃ cs, e = .returned (.tuple #[.agg cs, .int .i64 (agE k n g z)]) ∧ cs.size = 8 ∧ cs.all (·.oneCell') = true ∧ Below w.heap.size w w' := by
  have CN := hid fun w => counts_any w k n
  have CS := hid fun w => shared_any w z
  have HBAD : Hid (¬ OkS k n g z → agE k n g z = 92) := hid fun h => by unfold agE; rw [if_neg h]
  by_cases hc : 1 ≤ k ∧ k ≤ n ∧ n ≤ 255
  · have hb : cntB k n = true := decide_eq_true hc
    rw [hb] at CN
    obtain ⟨hc1, hc2, hc3⟩ := hc
    have CM := hid fun w => most_any w k hc1 (by omega)
    obtain ⟨m1, m2⟩ := most_lt hc1 (by omega : k ≤ 255)
    obtain ⟨M, HM⟩ : ∃ x, Hid (k * upI 65536 k = x) := ⟨_, rfl⟩
    rw [HM.out] at CM m1 m2
    clear hb
    by_cases h1 : g < 1
    · have F := hid (HBAD.out fun h => by have := h.2.2.2.1; omega)
      go_enter Tryd.func24, Tryd.ntmps24
      go_wp2_with fail
      refine (CN.out _).mono ?_
      rintro e w' ⟨rfl, hw⟩
      rw [hw]
      clear hw
      go_wp2
      refine bodyPost_ret (v := .tuple #[.agg (shA sh0), .int .i64 92]) (results_cellT (p := 8) (u := 9) (ty := 51) rfl _ _ w.heap.size 51 (shA sh0) (0, 0) _ rfl (heap_alloc_new w _) Tryd.underlying51 rfl size_shape _ rfl) rfl ?_
      exact ⟨shA sh0, by rw [F.out], rfl, sh0_one, below_alloc _ _⟩
    · by_cases h2 : M < g
      · have F := hid (HBAD.out fun h => by have := h.2.2.2.2.1; rw [HM.out] at this; omega)
        go_enter Tryd.func24, Tryd.ntmps24
        go_wp2_with fail
        refine (CN.out _).mono ?_
        rintro e w' ⟨rfl, hw⟩
        rw [hw]
        clear hw
        go_wp2_with fail
        refine (CM.out _).mono ?_
        rintro e w' ⟨rfl, hw⟩
        rw [hw]
        clear hw
        go_wp2
        refine bodyPost_ret (v := .tuple #[.agg (shA sh0), .int .i64 92]) (results_cellT (p := 8) (u := 9) (ty := 51) rfl _ _ w.heap.size 51 (shA sh0) (0, 0) _ rfl (heap_alloc_new w _) Tryd.underlying51 rfl size_shape _ rfl) rfl ?_
        exact ⟨shA sh0, by rw [F.out], rfl, sh0_one, below_alloc _ _⟩
      · have hk0 : ¬ k = 0 := by omega
        have ht : g.tmod k = g % k := Int.tmod_eq_emod_of_nonneg (by omega)
        have hm1 := Int.emod_nonneg g hk0
        have hm2 := Int.emod_lt_of_pos g (by omega : 0 < k)
        obtain ⟨R, HR⟩ : ∃ x, Hid (g % k = x) := ⟨_, rfl⟩
        rw [HR.out] at ht hm1 hm2
        have kR : IntKind.i64.wrap R = R := by rw [IntKind.wrap_i64]; omega
        by_cases h3 : R = 0
        · by_cases h4 : 33 ≤ z ∧ z ≤ 16777216
          · have hb : szB z = true := decide_eq_true h4
            rw [hb] at CS
            have CP := hid fun w => shapedH_any w k n g z hc1 (by omega) (by omega) (by omega) (by omega) h4.2
            have u1 := upI_pos (x := z) (y := g) (by omega) (by omega)
            have u2 := upI_le (x := z) (y := g) (by omega) (by omega)
            clear hb
            subst h3
            by_cases h5 : upI z g ≤ 512
            · have F : Hid (agE k n g z = 0) := by
                refine hid ?_
                unfold agE
                rw [if_pos ⟨hc1, hc2, hc3, by omega, by rw [HM.out]; omega, HR.out, h4.1, h4.2, h5⟩]
              obtain ⟨U, HU⟩ : ∃ x, Hid (upI z g = x) := ⟨_, rfl⟩
              have e8 : shA (shR k n g z) = #[.int .i64 k, .int .i64 n, .int .i64 g, .int .i64 z, .int .i64 (upI z g), .int .i64 (tlI z g), .int .i64 (g / k), .int .i64 (upI (tlI z g) k)] := rfl
              rw [e8] at CP
              obtain ⟨T, HT⟩ : ∃ x, Hid (tlI z g = x) := ⟨_, rfl⟩
              rw [HT.out] at CP
              obtain ⟨V, HV⟩ : ∃ x, Hid (upI T k = x) := ⟨_, rfl⟩
              obtain ⟨D, HD⟩ : ∃ x, Hid (g / k = x) := ⟨_, rfl⟩
              rw [HU.out, HV.out, HD.out] at CP
              clear e8
              rw [HU.out] at h5 u1 u2
              go_enter Tryd.func24, Tryd.ntmps24
              go_wp2_with fail
              refine (CN.out _).mono ?_
              rintro e w' ⟨rfl, hw⟩
              rw [hw]
              clear hw w'
              go_wp2_with fail
              refine (CM.out _).mono ?_
              rintro e w' ⟨rfl, hw⟩
              rw [hw]
              clear hw w'
              go_wp2_with fail
              refine (CS.out _).mono ?_
              rintro e w' ⟨rfl, hw⟩
              rw [hw]
              clear hw w'
              go_wp2_with fail
              refine (CP.out _).mono ?_
              rintro e w3 ⟨rfl, hb3⟩
              have B3 := hid (((Below.refl _ w).alloc (Nat.le_refl _) _).trans (hb3.mono (by simp)))
              have H8 := hid ((hb3.block w.heap.size (by simp)).trans (heap_alloc_new w _))
              have hs3 : w.heap.size < w3.heap.size := by have := hb3.size; simp at this; omega
              clear hb3
              go_wp2_with (first | (refine wpList_store_row rfl 51 _ _ rfl w.heap.size #[.int .i64 k, .int .i64 n, .int .i64 g, .int .i64 z, .int .i64 U, .int .i64 T, .int .i64 D, .int .i64 V] rfl rfl 51 (shA sh0) (by rw [heap_alloc_old _ _ hs3]; exact H8.out) size_shape rfl (by simp [Value.oneCell']) ?_))
              refine bodyPost_ret (v := .tuple #[.agg #[.int .i64 k, .int .i64 n, .int .i64 g, .int .i64 z, .int .i64 U, .int .i64 T, .int .i64 D, .int .i64 V], .int .i64 0]) (results_cellT (p := 8) (u := 9) (ty := 51) rfl _ _ w.heap.size 51 #[.int .i64 k, .int .i64 n, .int .i64 g, .int .i64 z, .int .i64 U, .int .i64 T, .int .i64 D, .int .i64 V] (0, 0) _ rfl (setRow_heap _ _ _ _ _ _ (by rw [heap_alloc_old _ _ hs3]; exact H8.out)) Tryd.underlying51 rfl size_shape _ rfl) rfl ?_
              exact ⟨#[.int .i64 k, .int .i64 n, .int .i64 g, .int .i64 z, .int .i64 U, .int .i64 T, .int .i64 D, .int .i64 V], by rw [F.out], rfl, (by simp [Value.oneCell']), bel_setRow (B3.out.alloc (by omega) _) (Nat.le_refl _) _⟩
            · have F := hid (HBAD.out fun h => h5 h.2.2.2.2.2.2.2.2)
              obtain ⟨U, HU⟩ : ∃ x, Hid (upI z g = x) := ⟨_, rfl⟩
              have e8 : shA (shR k n g z) = #[.int .i64 k, .int .i64 n, .int .i64 g, .int .i64 z, .int .i64 (upI z g), .int .i64 (tlI z g), .int .i64 (g / k), .int .i64 (upI (tlI z g) k)] := rfl
              rw [e8] at CP
              obtain ⟨T, HT⟩ : ∃ x, Hid (tlI z g = x) := ⟨_, rfl⟩
              rw [HT.out] at CP
              obtain ⟨V, HV⟩ : ∃ x, Hid (upI T k = x) := ⟨_, rfl⟩
              obtain ⟨D, HD⟩ : ∃ x, Hid (g / k = x) := ⟨_, rfl⟩
              rw [HU.out, HV.out, HD.out] at CP
              clear e8
              rw [HU.out] at h5 u1 u2
              go_enter Tryd.func24, Tryd.ntmps24
              go_wp2_with fail
              refine (CN.out _).mono ?_
              rintro e w' ⟨rfl, hw⟩
              rw [hw]
              clear hw w'
              go_wp2_with fail
              refine (CM.out _).mono ?_
              rintro e w' ⟨rfl, hw⟩
              rw [hw]
              clear hw w'
              go_wp2_with fail
              refine (CS.out _).mono ?_
              rintro e w' ⟨rfl, hw⟩
              rw [hw]
              clear hw w'
              go_wp2_with fail
              refine (CP.out _).mono ?_
              rintro e w3 ⟨rfl, hb3⟩
              have B3 := hid (((Below.refl _ w).alloc (Nat.le_refl _) _).trans (hb3.mono (by simp)))
              have H8 := hid ((hb3.block w.heap.size (by simp)).trans (heap_alloc_new w _))
              have hs3 : w.heap.size < w3.heap.size := by have := hb3.size; simp at this; omega
              clear hb3
              go_wp2_with (first | (refine wpList_store_row rfl 51 _ _ rfl w.heap.size (shA sh0) rfl rfl 51 (shA sh0) (by rw [heap_alloc_old _ _ hs3]; exact H8.out) size_shape rfl sh0_one ?_))
              refine bodyPost_ret (v := .tuple #[.agg (shA sh0), .int .i64 92]) (results_cellT (p := 8) (u := 9) (ty := 51) rfl _ _ w.heap.size 51 (shA sh0) (0, 0) _ rfl (setRow_heap _ _ _ _ _ _ (by rw [heap_alloc_old _ _ hs3]; exact H8.out)) Tryd.underlying51 rfl size_shape _ rfl) rfl ?_
              exact ⟨(shA sh0), by rw [F.out], rfl, sh0_one, bel_setRow (B3.out.alloc (by omega) _) (Nat.le_refl _) _⟩
          · have hb : szB z = false := decide_eq_false h4
            rw [hb] at CS
            clear hb
            subst h3
            have F := hid (HBAD.out fun h => h4 ⟨h.2.2.2.2.2.2.1, h.2.2.2.2.2.2.2.1⟩)
            clear h4
            go_enter Tryd.func24, Tryd.ntmps24
            go_wp2_with fail
            refine (CN.out _).mono ?_
            rintro e w' ⟨rfl, hw⟩
            rw [hw]
            clear hw
            go_wp2_with fail
            refine (CM.out _).mono ?_
            rintro e w' ⟨rfl, hw⟩
            rw [hw]
            clear hw
            go_wp2_with fail
            refine (CS.out _).mono ?_
            rintro e w' ⟨rfl, hw⟩
            rw [hw]
            clear hw
            go_wp2
            refine bodyPost_ret (v := .tuple #[.agg (shA sh0), .int .i64 92]) (results_cellT (p := 8) (u := 9) (ty := 51) rfl _ _ w.heap.size 51 (shA sh0) (0, 0) _ rfl (heap_alloc_new w _) Tryd.underlying51 rfl size_shape _ rfl) rfl ?_
            exact ⟨shA sh0, by rw [F.out], rfl, sh0_one, below_alloc _ _⟩
        · have F := hid (HBAD.out fun h => by have := h.2.2.2.2.2.1; rw [HR.out] at this; exact h3 this)
          go_enter Tryd.func24, Tryd.ntmps24
          go_wp2_with fail
          refine (CN.out _).mono ?_
          rintro e w' ⟨rfl, hw⟩
          rw [hw]
          clear hw
          go_wp2_with fail
          refine (CM.out _).mono ?_
          rintro e w' ⟨rfl, hw⟩
          rw [hw]
          clear hw
          go_wp2
          refine bodyPost_ret (v := .tuple #[.agg (shA sh0), .int .i64 92]) (results_cellT (p := 8) (u := 9) (ty := 51) rfl _ _ w.heap.size 51 (shA sh0) (0, 0) _ rfl (heap_alloc_new w _) Tryd.underlying51 rfl size_shape _ rfl) rfl ?_
          exact ⟨shA sh0, by rw [F.out], rfl, sh0_one, below_alloc _ _⟩
  · have hb : cntB k n = false := decide_eq_false hc
    rw [hb] at CN
    have F := hid (HBAD.out fun h => hc ⟨h.1, h.2.1, h.2.2.1⟩)
    clear hb hc
    go_enter Tryd.func24, Tryd.ntmps24
    go_wp2_with fail
    refine (CN.out _).mono ?_
    rintro e w' ⟨rfl, hw⟩
    rw [hw]
    clear hw
    go_wp2
    refine bodyPost_ret (v := .tuple #[.agg (shA sh0), .int .i64 92]) (results_cellT (p := 8) (u := 9) (ty := 51) rfl _ _ w.heap.size 51 (shA sh0) (0, 0) _ rfl (heap_alloc_new w _) Tryd.underlying51 rfl size_shape _ rfl) rfl ?_
    exact ⟨shA sh0, by rw [F.out], rfl, sh0_one, below_alloc _ _⟩
end Go.Proofs.YtklklldmhoofnaaDoor
namespace Go.Proofs
open Go.Shelf
def Tryd.laysM171_ren : Go.Shelf.Ren := ⟨fun | 171 => 51 | 243 => 69 | 246 => 78 | 283 => 87 | 284 => 88 | 285 => 89 | 286 => 90 | 129 => 105 | 317 => 104 | 318 => 106 | 319 => 107 | 320 => 108 | 337 => 119 | 338 => 120 | n => n, fun | 3 => 3 | 9 => 9 | 2 => 2 | 4 => 4 | 171 => 125 | 0 => 0 | 53 => 95 | 37 => 26 | 5 => 5 | 173 => 128 | 212 => 145 | 51 => 100 | 20 => 20 | 213 => 146 | 46 => 105 | 232 => 22 | 233 => 103 | n => n, fun | 17 => 1 | 18 => 5 | 19 => 6 | n => n⟩
theorem Tryd.laysM171 : Go.Proofs.LaysM.n171 Tryd.prog Tryd.laysM171_ren := {
  mixed := by kernel_rfl
  f129 := Tryd.func105.trans (congrArg some (by kernel_rfl))
  f171 := Tryd.func51.trans (congrArg some (by kernel_rfl))
  f243 := Tryd.func69.trans (congrArg some (by kernel_rfl))
  f246 := Tryd.func78.trans (congrArg some (by kernel_rfl))
  f283 := Tryd.func87.trans (congrArg some (by kernel_rfl))
  f284 := Tryd.func88.trans (congrArg some (by kernel_rfl))
  f285 := Tryd.func89.trans (congrArg some (by kernel_rfl))
  f286 := Tryd.func90.trans (congrArg some (by kernel_rfl))
  f317 := Tryd.func104.trans (congrArg some (by kernel_rfl))
  f318 := Tryd.func106.trans (congrArg some (by kernel_rfl))
  f319 := Tryd.func107.trans (congrArg some (by kernel_rfl))
  f320 := Tryd.func108.trans (congrArg some (by kernel_rfl))
  f337 := Tryd.func119.trans (congrArg some (by kernel_rfl))
  f338 := Tryd.func120.trans (congrArg some (by kernel_rfl))
  t0 := Tryd.underlying0
  a0 := Tryd.isAgg0
  z0 := Tryd.sizeOf0
  v0 := Tryd.zeroValue0
  t2 := Tryd.underlying2
  a2 := Tryd.isAgg2
  z2 := Tryd.sizeOf2
  v2 := Tryd.zeroValue2
  t3 := Tryd.underlying3
  a3 := Tryd.isAgg3
  z3 := Tryd.sizeOf3
  v3 := Tryd.zeroValue3
  t4 := Tryd.underlying4
  a4 := Tryd.isAgg4
  z4 := Tryd.sizeOf4
  v4 := Tryd.zeroValue4
  t5 := Tryd.underlying5
  a5 := Tryd.isAgg5
  z5 := Tryd.sizeOf5
  v5 := Tryd.zeroValue5
  t9 := Tryd.underlying9
  a9 := Tryd.isAgg9
  z9 := Tryd.sizeOf9
  v9 := Tryd.zeroValue9
  t20 := Tryd.underlying20
  a20 := Tryd.isAgg20
  z20 := Tryd.sizeOf20
  v20 := Tryd.zeroValue20
  t37 := Tryd.underlying26
  a37 := Tryd.isAgg26
  z37 := Tryd.sizeOf26
  v37 := Tryd.zeroValue26
  t46 := Tryd.underlying105
  a46 := Tryd.isAgg105
  z46 := Tryd.sizeOf105
  v46 := Tryd.zeroValue105
  t51 := Tryd.underlying100
  a51 := Tryd.isAgg100
  z51 := Tryd.sizeOf100
  v51 := Tryd.zeroValue100
  t53 := Tryd.underlying95
  a53 := Tryd.isAgg95
  z53 := Tryd.sizeOf95
  v53 := Tryd.zeroValue95
  t171 := Tryd.underlying125
  a171 := Tryd.isAgg125
  z171 := Tryd.sizeOf125
  v171 := Tryd.zeroValue125
  t173 := Tryd.underlying128
  a173 := Tryd.isAgg128
  z173 := Tryd.sizeOf128
  v173 := Tryd.zeroValue128
  t212 := Tryd.underlying145
  a212 := Tryd.isAgg145
  z212 := Tryd.sizeOf145
  v212 := Tryd.zeroValue145
  t213 := Tryd.underlying146
  a213 := Tryd.isAgg146
  z213 := Tryd.sizeOf146
  t232 := Tryd.underlying22
  a232 := Tryd.isAgg22
  z232 := Tryd.sizeOf22
  v232 := Tryd.zeroValue22
  t233 := Tryd.underlying103
  a233 := Tryd.isAgg103
  z233 := Tryd.sizeOf103
  v233 := Tryd.zeroValue103
  g17 := by kernel_rfl
  g18 := by kernel_rfl
  g19 := by kernel_rfl
  i0 := by kernel_rfl
  i2 := by kernel_rfl
  i3 := by kernel_rfl
  i4 := by kernel_rfl
  i5 := by kernel_rfl
  i9 := by kernel_rfl
  i20 := by kernel_rfl
  i37 := by kernel_rfl
  i46 := by kernel_rfl
  i51 := by kernel_rfl
  i53 := by kernel_rfl
  i171 := by kernel_rfl
  i173 := by kernel_rfl
  i212 := by kernel_rfl
  i232 := by kernel_rfl
  i233 := by kernel_rfl
  m17 := by kernel_rfl
  m18 := by kernel_rfl
  m19 := by kernel_rfl }
open Go.RowKit Go.Sort Go.Lib in
theorem Tryd.strconv_Itoa (n : Int) (h0 : -9223372036854775808 ≤ n) (h1 : n ≤ 9223372036854775807) (w : World) (htab : Lib.TabIs Tryd.prog w "internal/strconv.uint64pow10" .u64 Lib.pow10Tab) :
    Calls Tryd.prog 51 #[.int .i64 n] w fun e w' => e = .returned (.string ⟨(Lib.itoa n).toArray⟩) ∧ ∃ k os, w' = grow (w.drewN k) os := Any.strconv_Itoa Tryd.laysM171 n h0 h1 w htab
def Tryd.laysC172_ren : Go.Shelf.Ren := ⟨fun | 172 => 73 | 244 => 85 | 245 => 86 | 247 => 99 | 279 => 100 | 280 => 101 | 281 => 102 | 282 => 103 | 287 => 116 | 316 => 117 | 171 => 51 | 205 => 118 | 321 => 125 | 322 => 126 | 243 => 69 | 246 => 78 | 283 => 87 | 284 => 88 | 285 => 89 | 286 => 90 | 129 => 105 | 317 => 104 | 318 => 106 | 319 => 107 | 320 => 108 | 337 => 119 | 338 => 120 | n => n, fun | 9 => 9 | 3 => 3 | 75 => 109 | 76 => 110 | 4 => 4 | 5 => 5 | 167 => 138 | 37 => 26 | 0 => 0 | 85 => 139 | 2 => 2 | 168 => 141 | 53 => 95 | 175 => 152 | 46 => 105 | 210 => 156 | 127 => 161 | 145 => 164 | 143 => 162 | 21 => 21 | 171 => 125 | 173 => 128 | 212 => 145 | 51 => 100 | 20 => 20 | 213 => 146 | 232 => 22 | 233 => 103 | 80 => 165 | n => n, fun | 15 => 3 | 16 => 4 | 17 => 1 | 18 => 5 | 19 => 6 | n => n⟩
theorem Tryd.laysC172 : Go.Proofs.LaysC.n172 Tryd.prog Tryd.laysC172_ren := {
  mixed := by kernel_rfl
  f129 := Tryd.func105.trans (congrArg some (by kernel_rfl))
  f171 := Tryd.func51.trans (congrArg some (by kernel_rfl))
  f172 := Tryd.func73.trans (congrArg some (by kernel_rfl))
  f205 := Tryd.func118.trans (congrArg some (by kernel_rfl))
  f243 := Tryd.func69.trans (congrArg some (by kernel_rfl))
  f244 := Tryd.func85.trans (congrArg some (by kernel_rfl))
  f245 := Tryd.func86.trans (congrArg some (by kernel_rfl))
  f246 := Tryd.func78.trans (congrArg some (by kernel_rfl))
  f247 := Tryd.func99.trans (congrArg some (by kernel_rfl))
  f279 := Tryd.func100.trans (congrArg some (by kernel_rfl))
  f280 := Tryd.func101.trans (congrArg some (by kernel_rfl))
  f281 := Tryd.func102.trans (congrArg some (by kernel_rfl))
  f282 := Tryd.func103.trans (congrArg some (by kernel_rfl))
  f283 := Tryd.func87.trans (congrArg some (by kernel_rfl))
  f284 := Tryd.func88.trans (congrArg some (by kernel_rfl))
  f285 := Tryd.func89.trans (congrArg some (by kernel_rfl))
  f286 := Tryd.func90.trans (congrArg some (by kernel_rfl))
  f287 := Tryd.func116.trans (congrArg some (by kernel_rfl))
  f316 := Tryd.func117.trans (congrArg some (by kernel_rfl))
  f317 := Tryd.func104.trans (congrArg some (by kernel_rfl))
  f318 := Tryd.func106.trans (congrArg some (by kernel_rfl))
  f319 := Tryd.func107.trans (congrArg some (by kernel_rfl))
  f320 := Tryd.func108.trans (congrArg some (by kernel_rfl))
  f321 := Tryd.func125.trans (congrArg some (by kernel_rfl))
  f322 := Tryd.func126.trans (congrArg some (by kernel_rfl))
  f337 := Tryd.func119.trans (congrArg some (by kernel_rfl))
  f338 := Tryd.func120.trans (congrArg some (by kernel_rfl))
  t0 := Tryd.underlying0
  a0 := Tryd.isAgg0
  z0 := Tryd.sizeOf0
  v0 := Tryd.zeroValue0
  t2 := Tryd.underlying2
  a2 := Tryd.isAgg2
  z2 := Tryd.sizeOf2
  v2 := Tryd.zeroValue2
  t3 := Tryd.underlying3
  a3 := Tryd.isAgg3
  z3 := Tryd.sizeOf3
  v3 := Tryd.zeroValue3
  t4 := Tryd.underlying4
  a4 := Tryd.isAgg4
  z4 := Tryd.sizeOf4
  v4 := Tryd.zeroValue4
  t5 := Tryd.underlying5
  a5 := Tryd.isAgg5
  z5 := Tryd.sizeOf5
  v5 := Tryd.zeroValue5
  t9 := Tryd.underlying9
  a9 := Tryd.isAgg9
  z9 := Tryd.sizeOf9
  v9 := Tryd.zeroValue9
  t20 := Tryd.underlying20
  a20 := Tryd.isAgg20
  z20 := Tryd.sizeOf20
  v20 := Tryd.zeroValue20
  t21 := Tryd.underlying21
  a21 := Tryd.isAgg21
  z21 := Tryd.sizeOf21
  v21 := Tryd.zeroValue21
  t37 := Tryd.underlying26
  a37 := Tryd.isAgg26
  z37 := Tryd.sizeOf26
  v37 := Tryd.zeroValue26
  t46 := Tryd.underlying105
  a46 := Tryd.isAgg105
  z46 := Tryd.sizeOf105
  v46 := Tryd.zeroValue105
  t51 := Tryd.underlying100
  a51 := Tryd.isAgg100
  z51 := Tryd.sizeOf100
  v51 := Tryd.zeroValue100
  t53 := Tryd.underlying95
  a53 := Tryd.isAgg95
  z53 := Tryd.sizeOf95
  v53 := Tryd.zeroValue95
  t75 := Tryd.underlying109
  a75 := Tryd.isAgg109
  z75 := Tryd.sizeOf109
  v75 := Tryd.zeroValue109
  t76 := Tryd.underlying110
  a76 := Tryd.isAgg110
  z76 := Tryd.sizeOf110
  v76 := Tryd.zeroValue110
  t85 := Tryd.underlying139
  a85 := Tryd.isAgg139
  z85 := Tryd.sizeOf139
  v85 := Tryd.zeroValue139
  t127 := Tryd.underlying161
  a127 := Tryd.isAgg161
  z127 := Tryd.sizeOf161
  v127 := Tryd.zeroValue161
  t143 := Tryd.underlying162
  a143 := Tryd.isAgg162
  z143 := Tryd.sizeOf162
  v143 := Tryd.zeroValue162
  t145 := Tryd.underlying164
  a145 := Tryd.isAgg164
  z145 := Tryd.sizeOf164
  v145 := Tryd.zeroValue164
  t167 := Tryd.underlying138
  a167 := Tryd.isAgg138
  z167 := Tryd.sizeOf138
  v167 := Tryd.zeroValue138
  t168 := Tryd.underlying141
  a168 := Tryd.isAgg141
  z168 := Tryd.sizeOf141
  v168 := Tryd.zeroValue141
  t171 := Tryd.underlying125
  a171 := Tryd.isAgg125
  z171 := Tryd.sizeOf125
  v171 := Tryd.zeroValue125
  t173 := Tryd.underlying128
  a173 := Tryd.isAgg128
  z173 := Tryd.sizeOf128
  v173 := Tryd.zeroValue128
  t175 := Tryd.underlying152
  a175 := Tryd.isAgg152
  z175 := Tryd.sizeOf152
  v175 := Tryd.zeroValue152
  t210 := Tryd.underlying156
  a210 := Tryd.isAgg156
  z210 := Tryd.sizeOf156
  v210 := Tryd.zeroValue156
  t212 := Tryd.underlying145
  a212 := Tryd.isAgg145
  z212 := Tryd.sizeOf145
  v212 := Tryd.zeroValue145
  t213 := Tryd.underlying146
  a213 := Tryd.isAgg146
  z213 := Tryd.sizeOf146
  t232 := Tryd.underlying22
  a232 := Tryd.isAgg22
  z232 := Tryd.sizeOf22
  v232 := Tryd.zeroValue22
  t233 := Tryd.underlying103
  a233 := Tryd.isAgg103
  z233 := Tryd.sizeOf103
  v233 := Tryd.zeroValue103
  g15 := by kernel_rfl
  g16 := by kernel_rfl
  g17 := by kernel_rfl
  g18 := by kernel_rfl
  g19 := by kernel_rfl
  t80 := Tryd.underlying165
  a80 := Tryd.isAgg165
  z80 := Tryd.sizeOf165
  v80 := Tryd.zeroValue165
  i0 := by kernel_rfl
  i2 := by kernel_rfl
  i3 := by kernel_rfl
  i4 := by kernel_rfl
  i5 := by kernel_rfl
  i9 := by kernel_rfl
  i20 := by kernel_rfl
  i21 := by kernel_rfl
  i37 := by kernel_rfl
  i46 := by kernel_rfl
  i51 := by kernel_rfl
  i53 := by kernel_rfl
  i75 := by kernel_rfl
  i76 := by kernel_rfl
  i80 := by kernel_rfl
  i85 := by kernel_rfl
  i127 := by kernel_rfl
  i143 := by kernel_rfl
  i145 := by kernel_rfl
  i167 := by kernel_rfl
  i168 := by kernel_rfl
  i171 := by kernel_rfl
  i173 := by kernel_rfl
  i175 := by kernel_rfl
  i210 := by kernel_rfl
  i212 := by kernel_rfl
  i232 := by kernel_rfl
  i233 := by kernel_rfl
  m15 := by kernel_rfl
  m16 := by kernel_rfl
  m17 := by kernel_rfl
  m18 := by kernel_rfl
  m19 := by kernel_rfl
  c0 := by kernel_rfl
  c2 := by kernel_rfl
  c3 := by kernel_rfl
  c4 := by kernel_rfl
  c5 := by kernel_rfl
  c9 := by kernel_rfl
  c20 := by kernel_rfl
  c21 := by kernel_rfl
  c37 := by kernel_rfl
  c46 := by kernel_rfl
  c51 := by kernel_rfl
  c53 := by kernel_rfl
  c75 := by kernel_rfl
  c76 := by kernel_rfl
  c80 := by kernel_rfl
  c85 := by kernel_rfl
  c127 := by kernel_rfl
  c143 := by kernel_rfl
  c145 := by kernel_rfl
  c167 := by kernel_rfl
  c168 := by kernel_rfl
  c171 := by kernel_rfl
  c173 := by kernel_rfl
  c175 := by kernel_rfl
  c210 := by kernel_rfl
  c212 := by kernel_rfl
  c213 := by kernel_rfl
  c232 := by kernel_rfl
  c233 := by kernel_rfl }
open Go.RowKit in
theorem Tryd.strconv_Atoi_ok (s : ByteArray) (hmax : s.size ≤ 9223372036854775806) (v : Int) (h : Lib.atoiAll s.data.toList = .ok v) (w : World) :
    Calls Tryd.prog 73 #[.string s] w fun e w' => e = .returned (.tuple #[.int .i64 v, .nilIface]) ∧ (w' = w ∨ ∃ t, w' = Lib.bytesWorld w 5 t) := Any.strconv_Atoi_ok Tryd.laysC172 s hmax v h w
open Go.RowKit in
theorem Tryd.strconv_Atoi_syntax (s : ByteArray) (hlim : s.size ≤ 281474976710656) (h : Lib.atoiAll s.data.toList = .«syntax») (ev : Value) (w : World) (hv : w.cell? ⟨3, 0, none⟩ = some ev) (hev : ev = .nilIface ∨ ∃ te pe, ev = .iface te pe) :
    Calls Tryd.prog 73 #[.string s] w fun e w' => ∃ N, e = .returned (.tuple #[.int .i64 (0), .iface 141 (.pointer (some ⟨N, 0, none⟩))]) ∧ w.heap.size ≤ N ∧ w'.heap[N]? = some (.cells #[.string ⟨#[65, 116, 111, 105]⟩, .string s, ev] 156 (0, 0)) ∧ Below w.heap.size w w' := Any.strconv_Atoi_syntax Tryd.laysC172 s hlim h ev w hv hev
open Go.RowKit in
theorem Tryd.strconv_Atoi_range (s : ByteArray) (hlim : s.size ≤ 281474976710656) (h : Lib.atoiAll s.data.toList = .range) (ev : Value) (w : World) (hv : w.cell? ⟨4, 0, none⟩ = some ev) (hev : ev = .nilIface ∨ ∃ te pe, ev = .iface te pe) :
    Calls Tryd.prog 73 #[.string s] w fun e w' => ∃ N, e = .returned (.tuple #[.int .i64 (Lib.atoiSat s.data.toList), .iface 141 (.pointer (some ⟨N, 0, none⟩))]) ∧ w.heap.size ≤ N ∧ w'.heap[N]? = some (.cells #[.string ⟨#[65, 116, 111, 105]⟩, .string s, ev] 156 (0, 0)) ∧ Below w.heap.size w w' := Any.strconv_Atoi_range Tryd.laysC172 s hlim h ev w hv hev
end Go.Proofs
namespace Go.Proofs.YtklklldmhoofnaaDoor
open Go Go.RowKit
theorem idx_str (w : World) (s : ByteArray) (i : Nat) (h : i < s.size) : (Instr.index 9 (.string s) (.int .i64 (i : Int))).run Tryd.prog w = .ok (.int .u8 ((sB s).getD i 0)) w := by
  rw [run_index_string w 9 s .i64 i Tryd.underlying9, dif_pos (by omega)]
  congr 2
  rw [← sB_get s i h]
  congr
theorem cut_str (w : World) (s : ByteArray) (i j : Nat) (h : i ≤ j) (hj : j ≤ s.size) : (Instr.slice 9 (.string s) (some (.int .i64 (i : Int))) (some (.int .i64 (j : Int))) none).run Tryd.prog w = .ok (.string (bS (((sB s).drop i).take (j - i)))) w := by
  rw [run_slice_string w 9 s .i64 .i64 i j Tryd.underlying9 (by omega) (by omega) (by omega), ← sB_cut, bS_sB]
  congr
theorem cut_str_end (w : World) (s : ByteArray) (i : Nat) (h : i ≤ s.size) : (Instr.slice 9 (.string s) (some (.int .i64 (i : Int))) none none).run Tryd.prog w = .ok (.string (bS ((sB s).drop i))) w := by
  have e : bS ((sB s).drop i) = s.extract i s.size := by
    apply sB_inj
    rw [sB_cut, sB_bS (fun x hx => sB_byt s x (List.mem_of_mem_drop hx)), List.take_of_length_le (by rw [List.length_drop, sB_length]; exact Nat.le_refl _)]
  rw [e]
  simp [Instr.slice, Instr.sliceBounds, Instr.sliceBound, asIntOf, run_underlying Tryd.underlying9, h]
theorem conv_str {w : World} {v : Value} {l : List Int} (h : HB w v l) : (convert 26 9 v).run Tryd.prog w = .ok (.string (bS l)) w := by
  have hby : Byt8 l := h.2
  by_cases h0 : 0 < l.length
  · obtain ⟨b, off, c, rfl, _, _, hc⟩ := h.ne h0
    obtain ⟨u, Hu⟩ : ∃ u : List UInt8, l.map (fun x => UInt8.ofNat x.toNat) = u := ⟨_, rfl⟩
    have hul : u.length = l.length := by rw [← Hu]; simp
    have := run_convert_bytes_back (P := Tryd.prog) w 26 9 5 ⟨b, off, none⟩ c u Tryd.underlying26 Tryd.underlying5 Tryd.underlying9 (by
      intro j hj
      rw [Go.WideShapes.add_plain, hc j (by omega)]
      subst Hu
      simp only [List.getElem_map, UInt8.toNat_ofNat']
      rw [getD_of_lt (by omega)]
      have := hby _ (List.getElem_mem (by omega : j < l.length))
      congr 2
      omega)
    rw [hul] at this
    rw [this]
    unfold bS
    rw [Hu]
  · have e : l = [] := List.length_eq_zero_iff.1 (by omega)
    subst e
    obtain ⟨p, c, rfl, _, _⟩ := h.open
    cases p with
    | none =>
      rw [List.length_nil, run_convert_bytes_string w 26 9 5 none 0 c Tryd.underlying26 Tryd.underlying5 Tryd.underlying9]
      simp [Conv.bytesToString, loadCells, bS]
      rfl
    | some a =>
      exact run_convert_bytes_back (P := Tryd.prog) w 26 9 5 a c [] Tryd.underlying26 Tryd.underlying5 Tryd.underlying9 (by intro j hj; simp at hj)
end Go.Proofs.YtklklldmhoofnaaDoor
namespace Go.Proofs.YtklklldmhoofnaaDoor
open Go Go.RowKit Go.Sort Go.Lib
def KD (w : World) : Prop := Lib.TabIs Tryd.prog w "internal/strconv.uint64pow10" .u64 Lib.pow10Tab ∧ (∃ tp p, w.cell? ⟨3, 0, none⟩ = some (.iface tp p)) ∧ ∃ tp p, w.cell? ⟨4, 0, none⟩ = some (.iface tp p)
theorem KD.below {w w' : World} (h : KD w) (hb : Below w.heap.size w w') : KD w' := by
  obtain ⟨h1, ⟨t1, p1, h2⟩, t2, p2, h3⟩ := h
  exact ⟨Lib.tabBelow_of_tabIs h1 w' hb, ⟨t1, p1, (hb.cell (World.block_lt_of_cell? w _ h2)).trans h2⟩, t2, p2, (hb.cell (World.block_lt_of_cell? w _ h3)).trans h3⟩
def nS (x : Int) : ByteArray := if x < 0 then ⟨#[]⟩ else ⟨(Lib.decDigits x.toNat).toArray⟩
def nE (x : Int) : Int := if x < 0 then 102 else 0
def KP (w : World) : Prop := Lib.TabIs Tryd.prog w "internal/strconv.uint64pow10" .u64 Lib.pow10Tab
theorem KP.below {w w' : World} (h : KP w) (hb : Below w.heap.size w w') : KP w' := Lib.tabBelow_of_tabIs h w' hb
theorem KD.kp {w : World} (h : KD w) : KP w := h.1
set_option maxHeartbeats 1000000 in
theorem number_tab (w : World) (x : Int) (h0 : -9223372036854775808 ≤ x) (h1 : x ≤ 9223372036854775807) (hk : KP w) :
    Calls Tryd.prog 36 #[.int .i64 x] w fun e w' => e = .returned (.tuple #[.string (nS x), .int .i64 (nE x)]) ∧ Below w.heap.size w w' := by
  by_cases h : x < 0
  · have e1 := hid (show nS x = ⟨#[]⟩ by unfold nS; rw [if_pos h])
    have e2 := hid (show nE x = 102 by unfold nE; rw [if_pos h])
    go_enter Tryd.func36, Tryd.ntmps36
    go_wp2
    go_ret2
    exact ⟨by rw [e1.out, e2.out]; rfl, Below.refl _ _⟩
  · have e1 := hid (show nS x = ⟨(Lib.decDigits x.toNat).toArray⟩ by unfold nS; rw [if_neg h])
    have e2 := hid (show nE x = 0 by unfold nE; rw [if_neg h])
    have C := Tryd.strconv_Itoa x h0 h1 w hk
    have ei : Lib.itoa x = Lib.decDigits x.toNat := by unfold Lib.itoa; rw [if_neg h]
    rw [ei] at C
    obtain ⟨D, HD⟩ : ∃ D : ByteArray, Hid (⟨(Lib.decDigits x.toNat).toArray⟩ = D) := ⟨_, rfl⟩
    rw [HD.out] at C e1
    have C := hid C
    have hk0 := hid hk
    clear hk ei
    go_enter Tryd.func36, Tryd.ntmps36
    go_wp2_with fail
    refine C.out.mono ?_
    rintro e w' ⟨rfl, k, os, rfl⟩
    clear C
    have B := hid (below_grow w.heap.size w (Nat.le_refl _) k os)
    obtain ⟨w1, hw1⟩ : ∃ w1, grow (w.drewN k) os = w1 := ⟨_, rfl⟩
    rw [hw1] at B
    rw [hw1]
    clear hw1
    go_wp2
    go_ret2
    exact ⟨by rw [e1.out, e2.out]; rfl, B.out⟩
theorem number_any (w : World) (x : Int) (h0 : -9223372036854775808 ≤ x) (h1 : x ≤ 9223372036854775807) (hk : KD w) :
    Calls Tryd.prog 36 #[.int .i64 x] w fun e w' => e = .returned (.tuple #[.string (nS x), .int .i64 (nE x)]) ∧ Below w.heap.size w w' := number_tab w x h0 h1 hk.kp
theorem below_bytesWorld (w : World) (e : TypeId) (t : ByteArray) : Below w.heap.size w (Lib.bytesWorld w e t) := ⟨rfl, rfl, rfl, by rw [Lib.bytesWorld_size]; omega, fun k hk => Lib.bytesWorld_at_old w e t k hk⟩
theorem rd_atoi {l : List UInt8} {most : Int} (h : rdOk l most) (hm : most ≤ 9223372036854775807) : Lib.atoiAll l = .ok (valD l) := atoi_canon l h.1 (by have := h.2; omega)
theorem rd_dec {l : List UInt8} {v : Int} {most : Int} (h0 : 0 ≤ v) (hm : v ≤ most) (h : Lib.decDigits v.toNat = l) : rdV l most = v ∧ rdE l most = 0 := by
  obtain ⟨h1, h2, _⟩ := dec_canon v.toNat
  rw [h] at h1 h2
  have hok : rdOk l most := ⟨h1, by omega⟩
  obtain ⟨e1, e2⟩ := rd_ok hok
  exact ⟨by rw [e1, h2]; omega, e2⟩
theorem mk_eq (l : List UInt8) (s : ByteArray) : ((⟨l.toArray⟩ : ByteArray).toList == s.toList) = decide (l = s.data.toList) := by
  rw [ByteArray.toList_eq, ByteArray.toList_eq]
  by_cases h : l = s.data.toList
  · rw [← h]; simp
  · simp [h]
set_option maxRecDepth 100000 in
set_option maxHeartbeats 2000000 in
theorem read_any (w : World) (s : ByteArray) (most : Int) (hs : s.size ≤ 281474976710656) (hm0 : -9223372036854775808 ≤ most) (hm1 : most ≤ 9223372036854775807) (hk : KD w) :
    Calls Tryd.prog 55 #[.string s, .int .i64 most] w fun e w' => e = .returned (.tuple #[.int .i64 (rdV s.data.toList most), .int .i64 (rdE s.data.toList most)]) ∧ Below w.heap.size w w' := by
  obtain ⟨l, Hl⟩ : ∃ l, Hid (s.data.toList = l) := ⟨_, rfl⟩
  have HQ : Hid (∀ d : List UInt8, (d == s.toList) = decide (d = l)) := by
    refine hid fun d => ?_
    have := mk_eq d s
    rw [Hl.out] at this
    rw [← this]
    simp
  rw [Hl.out]
  have KD0 := hid hk
  have NO : Hid (¬ rdOk l most → rdV l most = 0 ∧ rdE l most = 102) := hid rd_no
  have RA : Hid (rdOk l most → Lib.atoiAll l = .ok (valD l)) := hid fun h => rd_atoi h hm1
  cases ha : Lib.atoiAll l with
  | «syntax» =>
    have hno : ¬ rdOk l most := fun h => by have := RA.out h; rw [ha] at this; cases this
    obtain ⟨e1, e2⟩ := NO.out hno
    have E := hid (And.intro e1 e2)
    obtain ⟨tp, p, hc⟩ := hk.2.1
    have C := hid (Tryd.strconv_Atoi_syntax s hs (by rw [Hl.out]; exact ha) _ w hc (Or.inr ⟨_, _, rfl⟩))
    clear hno e1 e2 hc ha hk
    go_enter Tryd.func55, Tryd.ntmps55
    go_wp2_with fail
    refine C.out.mono ?_
    rintro e w1 ⟨N, rfl, _, _, hB⟩
    have B := hid hB
    clear hB C
    go_wp2
    go_ret2
    exact ⟨by rw [E.out.1, E.out.2]; rfl, B.out⟩
  | range =>
    have hno : ¬ rdOk l most := fun h => by have := RA.out h; rw [ha] at this; cases this
    obtain ⟨e1, e2⟩ := NO.out hno
    have E := hid (And.intro e1 e2)
    obtain ⟨tp, p, hc⟩ := hk.2.2
    have C := Tryd.strconv_Atoi_range s hs (by rw [Hl.out]; exact ha) _ w hc (Or.inr ⟨_, _, rfl⟩)
    obtain ⟨sat, Hsat⟩ : ∃ x, Hid (Lib.atoiSat s.data.toList = x) := ⟨_, rfl⟩
    rw [Hsat.out] at C
    have C := hid C
    clear hno e1 e2 hc ha hk
    go_enter Tryd.func55, Tryd.ntmps55
    go_wp2_with fail
    refine C.out.mono ?_
    rintro e w1 ⟨N, rfl, _, _, hB⟩
    have B := hid hB
    clear hB C
    go_wp2
    go_ret2
    exact ⟨by rw [E.out.1, E.out.2]; rfl, B.out⟩
  | ok v =>
    have hvb := Lib.atoiAll_bounds ha
    have HV : Hid (rdOk l most → v = (valD l : Int) ∧ (valD l : Int) ≤ most ∧ Lib.decDigits (valD l) = l) := by
      refine hid fun h => ?_
      have := RA.out h
      rw [ha] at this
      injection this with this
      exact ⟨this, h.2, canon_dec _ l rfl h.1⟩
    have C := hid (Tryd.strconv_Atoi_ok s (by omega) v (by rw [Hl.out]; exact ha) w)
    clear ha hk
    go_enter Tryd.func55, Tryd.ntmps55
    go_wp2_with fail
    refine C.out.mono ?_
    rintro e w1 ⟨rfl, hw⟩
    have B : Hid (Below w.heap.size w w1) := by
      rcases hw with rfl | ⟨t, rfl⟩
      · exact Below.refl _ _
      · exact below_bytesWorld w _ t
    clear hw C
    by_cases hvm : v > most
    · have E := hid (NO.out fun h => by have := HV.out h; omega)
      go_wp2
      go_ret2
      exact ⟨by rw [E.out.1, E.out.2]; rfl, B.out⟩
    · have CN := hid (number_any w1 v (by omega) (by omega) (KD0.out.below B.out))
      by_cases hv0 : v < 0
      · have E := hid (NO.out fun h => by have := HV.out h; omega)
        have e1 : nE v = 102 := by unfold nE; rw [if_pos hv0]
        rw [e1] at CN
        obtain ⟨S, HS⟩ : ∃ x, Hid (nS v = x) := ⟨_, rfl⟩
        rw [HS.out] at CN
        go_wp2_with fail
        refine CN.out.mono ?_
        rintro e w2 ⟨rfl, hB2⟩
        have B2 := hid (B.out.trans (hB2.mono B.out.size))
        clear hB2 CN
        go_wp2
        go_ret2
        exact ⟨by rw [E.out.1, E.out.2]; rfl, B2.out⟩
      · have e1 : nE v = 0 := by unfold nE; rw [if_neg hv0]
        have e2 : nS v = ⟨(Lib.decDigits v.toNat).toArray⟩ := by unfold nS; rw [if_neg hv0]
        have hq := HQ.out (Lib.decDigits v.toNat)
        rw [e1, e2] at CN
        have HD : Hid (Lib.decDigits v.toNat = l → rdV l most = v ∧ rdE l most = 0) := hid fun h => rd_dec (by omega) (by omega) h
        have HD2 : Hid (Lib.decDigits v.toNat ≠ l → rdV l most = 0 ∧ rdE l most = 102) := by
          refine hid fun h => NO.out fun hr => h ?_
          obtain ⟨q1, q2, q3⟩ := HV.out hr
          rw [← q3]
          congr 1
          omega
        obtain ⟨D, HDD⟩ : ∃ D, Hid (Lib.decDigits v.toNat = D) := ⟨_, rfl⟩
        rw [HDD.out] at hq CN HD HD2
        clear e1 e2
        go_wp2_with fail
        refine CN.out.mono ?_
        rintro e w2 ⟨rfl, hB2⟩
        have B2 := hid (B.out.trans (hB2.mono B.out.size))
        clear hB2 CN
        by_cases hd : D = l
        · have E := hid (HD.out hd)
          rw [decide_eq_true hd] at hq
          clear hd
          go_wp2
          go_ret2
          exact ⟨by rw [E.out.1, E.out.2]; rfl, B2.out⟩
        · have E := hid (HD2.out hd)
          rw [decide_eq_false hd] at hq
          clear hd
          go_wp2
          go_ret2
          exact ⟨by rw [E.out.1, E.out.2]; rfl, B2.out⟩
end Go.Proofs.YtklklldmhoofnaaDoor
namespace Go.Proofs.YtklklldmhoofnaaDoor
open Go.RowKit
theorem run_append_byte (w : World) (base : Nat) (ty : TypeId) (v : Value) (n : Nat) (xs : List Value) (hown : w.ownsRow base 5 1 v n xs) (a : Addr) (c : Nat) (x : Int) (hx : w.cell? a = some (.int .u8 x)) (hn : n + 1 ≤ 140737488355328) (hbase : base ≤ w.heap.size) :
    ∃ v' w', (Builtin.append_ #[26, 26] ty #[v, .slice (some a) 1 c]).run Tryd.prog w = .ok v' w' ∧ w'.ownsRow base 5 1 v' (n + 1) (xs ++ [.int .u8 x]) ∧ w.grownBy w' v.ownBlock ∧
      (v'.ownBlock = v.ownBlock ∨ (v'.ownBlock = some w.heap.size ∧ w.grownBy w' none)) := by
  obtain ⟨i0, hi, hz0, hz1, hz2⟩ := info_parts info_u8
  have hnews : ∀ j u, [Value.int .u8 x][j]? = some u → w.cell? (a.add j) = some u := by
    intro j u hj
    match j, hj with
    | 0, hj => simp at hj; subst hj; simpa [Addr.add] using hx
  have h1 : ∀ u ∈ [Value.int .u8 x], u.oneCell' = true := by intro u hu; simp at hu; subst hu; rfl
  obtain ⟨v', w', hr, h2, h3, _⟩ := run_append_own (P := Tryd.prog) w base 26 ty 5 i0 (.int .u8 0) 1 1 Tryd.underlying26 hi hz0 hz1 hz2 rfl (by decide) v n xs hown a 1 c [.int .u8 x] rfl hnews h1 (by unfold maxLen; omega) (by omega) hbase
  refine ⟨v', w', hr, h2, h3, ?_⟩
  rcases hown.2 with ⟨rfl, rfl⟩ | ⟨g, cap, cur, rfl, hbg, hg, hnc, hcm, hcs, htake⟩
  · have hr2 := run_append_nil (P := Tryd.prog) w 26 ty 5 i0 (.int .u8 0) Tryd.underlying26 hi hz0 a 1 c [.int .u8 x] (by rw [hz1]; rfl) hnews (by omega) (by omega) (by rw [hz2]; omega)
    rw [hr] at hr2
    simp only [Result.ok.injEq] at hr2
    obtain ⟨rfl, rfl⟩ := hr2
    exact .inr ⟨rfl, ⟨rfl, rfl, rfl, by simp, fun k hk _ => heap_alloc_old w.drew _ hk⟩⟩
  · by_cases hroom : n + 1 ≤ cap
    · obtain ⟨w2, hr2, _⟩ := run_append_fits (P := Tryd.prog) w base 26 ty 5 i0 1 Tryd.underlying26 hi hz1 g n cap xs hown a 1 c [.int .u8 x] rfl hnews h1 hroom
      rw [hr] at hr2
      simp only [Result.ok.injEq] at hr2
      obtain ⟨rfl, rfl⟩ := hr2
      exact .inl rfl
    · have hr2 := run_append_grow (P := Tryd.prog) w 26 ty 5 i0 (.int .u8 0) Tryd.underlying26 hi hz0 ⟨g, 0, none⟩ n cap xs (by rw [hz1]; exact hown.1) (hown.cells (g := g) rfl) a 1 c [.int .u8 x] (by rw [hz1]; rfl) hnews (by omega) (by omega) (growslice_fits (by omega) (by rw [hz2]; omega))
      rw [hr] at hr2
      simp only [Result.ok.injEq] at hr2
      obtain ⟨rfl, rfl⟩ := hr2
      exact .inr ⟨rfl, ⟨rfl, rfl, rfl, by simp, fun k hk _ => heap_alloc_old w.drew _ hk⟩⟩
theorem wpList_append_byte {w : World} {ops : Array Oper} {rest : List Oper} {o : Oper} {a : Act} {Q : Exit → Act → World → Prop} (hgd : o.guard = none) (s x : Operand)
    (ho : o.op = .call { callee := .builtin .append, args := #[s, x], argTypes := #[26, 26] })
    (base : Nat) (v : Value) (n : Nat) (xs : List Value) (hs : a.eval s = v) (hown : w.ownsRow base 5 1 v n xs)
    (ad : Addr) (c : Nat) (y : Int) (hx : a.eval x = .slice (some ad) 1 c) (hy : w.cell? ad = some (.int .u8 y)) (hn : n + 1 ≤ 140737488355328) (hbase : base ≤ w.heap.size)
    (h : ∀ v' w', w'.ownsRow base 5 1 v' (n + 1) (xs ++ [.int .u8 y]) → w.grownBy w' v.ownBlock → (v'.ownBlock = v.ownBlock ∨ (v'.ownBlock = some w.heap.size ∧ w.grownBy w' none)) → wpList Tryd.prog ops Q rest (a.put o.dst v') w') : wpList Tryd.prog ops Q (o :: rest) a w := by
  refine wpList_plain hgd fun K hK => ?_
  obtain ⟨v', w', hr, h2, h3, h4⟩ := run_append_byte w base o.type v n xs hown ad c y hy hn hbase
  unfold Oper.wp execOp
  simp only [ho, resolve, invoke, builtin, Sem.run_bind, Sem.run_pure, Result.andThen_ok, List.map_toArray, List.map_cons, List.map_nil, hs, hx, hr]
  exact hK _ _ (h v' w' h2 h3 h4)
end Go.Proofs.YtklklldmhoofnaaDoor
namespace Go.Proofs.YtklklldmhoofnaaDoor
open Go Go.RowKit
theorem HB.grownD {w w' : World} {v : Value} {l : List Int} {ob : Option Nat} (h : HB w v l) (hg : w.grownBy w' ob) (hne : ∀ b o n c, v = .slice (some ⟨b, o, none⟩) n c → 0 < l.length → ob ≠ some b) : HB w' v l := by
  obtain ⟨⟨p, c, h1, h2, h3, h6, h4⟩, h5⟩ := h
  refine ⟨⟨p, c, h1, h2, h3, h6, fun hl => ?_⟩, h5⟩
  obtain ⟨b, off, e, hh⟩ := h4 hl
  exact ⟨b, off, e, fun j hj => hg.cell (hh j hj) (by intro q; subst e; exact hne _ _ _ _ h1 (List.length_pos_iff.2 hl) q.symm)⟩
theorem HB.lt {w : World} {v : Value} {l : List Int} (h : HB w v l) (h0 : 0 < l.length) {b o n c : Nat} (hv : v = .slice (some ⟨b, o, none⟩) n c) : b < w.heap.size := by
  obtain ⟨b', off, c', e, _, _, hc⟩ := h.ne h0
  rw [e] at hv
  injection hv with e1 e2 e3
  injection e1 with e1
  injection e1 with e1 e4
  subst e1
  exact World.block_lt_of_cell? w _ (hc 0 h0)
theorem strCells_nS (n : Nat) : Lib.strCells (nS (n : Int)) = (dgL n).map (Value.int .u8) := by
  unfold nS Lib.strCells dgL
  rw [if_neg (by omega), List.map_map]
  rfl
theorem nS_size (n : Nat) : (nS (n : Int)).size = (dgL n).length := by
  rw [← Lib.strCells_length, strCells_nS, List.length_map]
theorem dec_len_small : ∀ (n : Nat), n ≤ 99999 → (dgL n).length ≤ 5 := by
  intro n hn
  have := dec_len_mono 99999 n hn
  rw [dgL_length]
  have h2 : (Lib.decDigits 99999).length = 5 := by decide +kernel
  omega
theorem run_append_text (w : World) (base : Nat) (ty : TypeId) (v : Value) (n : Nat) (xs : List Value) (hown : w.ownsRow base 5 1 v n xs) (s : ByteArray) (h0 : 0 < s.size) (hn : n + s.size ≤ 140737488355328) (hbase : base ≤ w.heap.size) :
    ∃ v' w', (Builtin.append_ #[26, 9] ty #[v, .string s]).run Tryd.prog w = .ok v' w' ∧ w'.ownsRow base 5 1 v' (n + s.size) (xs ++ Lib.strCells s) ∧ w.grownBy w' v.ownBlock ∧
      (v'.ownBlock = v.ownBlock ∨ v'.ownBlock = some w.heap.size) := by
  obtain ⟨i0, hi, hz0, hz1, hz2⟩ := info_parts info_u8
  obtain ⟨v', w', hr, h2, h3, _⟩ := Lib.run_append_own_string (P := Tryd.prog) w base 26 9 ty 5 i0 Tryd.underlying26 Tryd.underlying9 hi hz0 hz1 hz2 v n xs hown s (by unfold maxLen; omega) hn hbase
  refine ⟨v', w', hr, h2, h3, ?_⟩
  rcases hown.2 with ⟨rfl, rfl⟩ | ⟨g, cap, cur, rfl, hbg, hg, hnc, hcm, hcs, htake⟩
  · have hr2 := run_append_nil_string (P := Tryd.prog) w 26 9 ty 5 i0 (.int .u8 0) Tryd.underlying26 Tryd.underlying9 hi hz0 s h0 (by omega) (by rw [hz2]; omega)
    rw [hr] at hr2
    simp only [Result.ok.injEq] at hr2
    obtain ⟨rfl, rfl⟩ := hr2
    exact .inr rfl
  · by_cases hroom : n + s.size ≤ cap
    · have hr2 := Lib.run_append_room_string (P := Tryd.prog) w 26 9 ty 5 i0 Tryd.underlying26 Tryd.underlying9 hi hz1 g n cap cur hg s hroom (by omega)
      rw [hr] at hr2
      simp only [Result.ok.injEq] at hr2
      obtain ⟨rfl, rfl⟩ := hr2
      exact .inl rfl
    · have hr2 := Lib.run_append_grow_string (P := Tryd.prog) w 26 9 ty 5 i0 (.int .u8 0) Tryd.underlying26 Tryd.underlying9 hi hz0 ⟨g, 0, none⟩ n cap xs (by rw [hz1]; exact hown.1) (hown.cells (g := g) rfl) s (by omega) (by omega) (growslice_fits (by omega) (by rw [hz2]; omega))
      rw [hr] at hr2
      simp only [Result.ok.injEq] at hr2
      obtain ⟨rfl, rfl⟩ := hr2
      exact .inr rfl
theorem wpList_append_text {w : World} {ops : Array Oper} {rest : List Oper} {o : Oper} {a : Act} {Q : Exit → Act → World → Prop} (hgd : o.guard = none) (s x : Operand)
    (ho : o.op = .call { callee := .builtin .append, args := #[s, x], argTypes := #[26, 9] })
    (base : Nat) (v : Value) (n : Nat) (xs : List Value) (hs : a.eval s = v) (hown : w.ownsRow base 5 1 v n xs)
    (t : ByteArray) (hx : a.eval x = .string t) (h0 : 0 < t.size) (hn : n + t.size ≤ 140737488355328) (hbase : base ≤ w.heap.size)
    (h : ∀ v' w', w'.ownsRow base 5 1 v' (n + t.size) (xs ++ Lib.strCells t) → w.grownBy w' v.ownBlock → (v'.ownBlock = v.ownBlock ∨ v'.ownBlock = some w.heap.size) → wpList Tryd.prog ops Q rest (a.put o.dst v') w') : wpList Tryd.prog ops Q (o :: rest) a w := by
  refine wpList_plain hgd fun K hK => ?_
  obtain ⟨v', w', hr, h2, h3, h4⟩ := run_append_text w base o.type v n xs hown t h0 hn hbase
  unfold Oper.wp execOp
  simp only [ho, resolve, invoke, builtin, Sem.run_bind, Sem.run_pure, Result.andThen_ok, List.map_toArray, List.map_cons, List.map_nil, hs, hx, hr]
  exact hK _ _ (h v' w' h2 h3 h4)
theorem run_append_bytesD (w : World) (base : Nat) (ty : TypeId) (v : Value) (n : Nat) (xs : List Value) (hown : w.ownsRow base 5 1 v n xs) (ad : Addr) (c : Nat) (l : List Int) (hnews : ∀ j u, (l.map (Value.int .u8))[j]? = some u → w.cell? (ad.add j) = some u) (hn : n + l.length ≤ 140737488355328) (hbase : base ≤ w.heap.size) :
    ∃ v' w', (Builtin.append_ #[26, 26] ty #[v, .slice (some ad) l.length c]).run Tryd.prog w = .ok v' w' ∧ w'.ownsRow base 5 1 v' (n + l.length) (xs ++ l.map (Value.int .u8)) ∧ w.grownBy w' v.ownBlock ∧
      (v'.ownBlock = v.ownBlock ∨ v'.ownBlock = some w.heap.size) := by
  obtain ⟨i0, hi, hz0, hz1, hz2⟩ := info_parts info_u8
  have h1 : ∀ u ∈ l.map (Value.int .u8), u.oneCell' = true := by intro u hu; obtain ⟨x, _, rfl⟩ := List.mem_map.1 hu; rfl
  have hl : (l.map (Value.int .u8)).length = l.length * 1 := by simp
  obtain ⟨v', w', hr, h2, h3, h4⟩ := run_append_own (P := Tryd.prog) w base 26 ty 5 i0 (.int .u8 0) 1 1 Tryd.underlying26 hi hz0 hz1 hz2 rfl (by decide) v n xs hown ad l.length c (l.map (Value.int .u8)) hl hnews h1 (by unfold maxLen; omega) (by omega) hbase
  refine ⟨v', w', hr, h2, h3, ?_⟩
  rcases hown.2 with ⟨rfl, rfl⟩ | ⟨g, cap, cur, rfl, hbg, hg, hnc, hcm, hcs, htake⟩
  · by_cases h0 : 0 < l.length
    · have hr2 := run_append_nil (P := Tryd.prog) w 26 ty 5 i0 (.int .u8 0) Tryd.underlying26 hi hz0 ad l.length c (l.map (Value.int .u8)) (by rw [hz1]; exact hl) hnews (by omega) (by omega) (by rw [hz2]; omega)
      rw [hr] at hr2
      simp only [Result.ok.injEq] at hr2
      obtain ⟨rfl, rfl⟩ := hr2
      exact .inr rfl
    · have := h4.2 ⟨rfl, by omega⟩
      rw [this]
      exact .inl rfl
  · by_cases hroom : n + l.length ≤ cap
    · obtain ⟨w2, hr2, _⟩ := run_append_fits (P := Tryd.prog) w base 26 ty 5 i0 1 Tryd.underlying26 hi hz1 g n cap xs hown ad l.length c (l.map (Value.int .u8)) hl hnews h1 hroom
      rw [hr] at hr2
      simp only [Result.ok.injEq] at hr2
      obtain ⟨rfl, rfl⟩ := hr2
      exact .inl rfl
    · have hr2 := run_append_grow (P := Tryd.prog) w 26 ty 5 i0 (.int .u8 0) Tryd.underlying26 hi hz0 ⟨g, 0, none⟩ n cap xs (by rw [hz1]; exact hown.1) (hown.cells (g := g) rfl) ad l.length c (l.map (Value.int .u8)) (by rw [hz1]; exact hl) hnews (by omega) (by omega) (growslice_fits (by omega) (by rw [hz2]; omega))
      rw [hr] at hr2
      simp only [Result.ok.injEq] at hr2
      obtain ⟨rfl, rfl⟩ := hr2
      exact .inr rfl
theorem wpList_append_bytes {w : World} {ops : Array Oper} {rest : List Oper} {o : Oper} {a : Act} {Q : Exit → Act → World → Prop} (hgd : o.guard = none) (s x : Operand)
    (ho : o.op = .call { callee := .builtin .append, args := #[s, x], argTypes := #[26, 26] })
    (base : Nat) (v : Value) (n : Nat) (xs : List Value) (hs : a.eval s = v) (hown : w.ownsRow base 5 1 v n xs)
    (u : Value) (l : List Int) (hx : a.eval x = u) (hu : HB w u l) (hn : n + l.length ≤ 140737488355328) (hbase : base ≤ w.heap.size)
    (h : ∀ v' w', w'.ownsRow base 5 1 v' (n + l.length) (xs ++ l.map (Value.int .u8)) → w.grownBy w' v.ownBlock → (v'.ownBlock = v.ownBlock ∨ v'.ownBlock = some w.heap.size) → wpList Tryd.prog ops Q rest (a.put o.dst v') w') : wpList Tryd.prog ops Q (o :: rest) a w := by
  obtain ⟨i0, hi, hz0, hz1, hz2⟩ := info_parts info_u8
  obtain ⟨⟨p, c, rfl, hlc, hm, hpn, hcell⟩, hby⟩ := hu
  cases p with
  | none =>
    have e : l = [] := by
      apply Classical.byContradiction
      intro hne
      obtain ⟨b, off, e, _⟩ := hcell hne
      cases e
    subst e
    have hc0 := hpn rfl
    subst hc0
    exact wpList_append_own_none hgd s x 26 ho base 5 i0 1 Tryd.underlying26 hi v n xs hs hown hx (h v w (by simpa using hown) ⟨rfl, rfl, rfl, Nat.le_refl _, fun _ _ _ => rfl⟩ (.inl rfl))
  | some ad =>
    have hnews : ∀ j u, (l.map (Value.int .u8))[j]? = some u → w.cell? (ad.add j) = some u := by
      intro j q hj
      have hjn : j < l.length := by
        have := (List.getElem?_eq_some_iff.1 hj).1
        simpa using this
      obtain ⟨b, off, e, hc⟩ := hcell (fun e => by rw [e] at hjn; simp at hjn)
      have e := Option.some.inj e
      have e2 : (l.map (Value.int .u8))[j]? = some (Value.int .u8 (l.getD j 0)) := by simp [List.getD, List.getElem?_eq_getElem hjn]
      rw [e2] at hj
      rw [e, Go.WideShapes.add_plain, hc j hjn]
      exact hj
    refine wpList_plain hgd fun K hK => ?_
    obtain ⟨v', w', hr, h2, h3, h4⟩ := run_append_bytesD w base o.type v n xs hown ad c l hnews hn hbase
    unfold Oper.wp execOp
    simp only [ho, resolve, invoke, builtin, Sem.run_bind, Sem.run_pure, Result.andThen_ok, List.map_toArray, List.map_cons, List.map_nil, hs, hx, hr]
    exact hK _ _ (h v' w' h2 h3 h4)
theorem grown_trU {w w1 w2 : World} {ob ob1 : Option Nat} (h1 : w.grownBy w1 ob) (h2 : w1.grownBy w2 ob1) (ho : ∀ k, ob1 = some k → k < w.heap.size → ob = some k) : w.grownBy w2 ob :=
  ⟨h2.os.trans h1.os, h2.tape.trans h1.tape, h2.output.trans h1.output, Nat.le_trans h1.size h2.size, fun k hk hn => (h2.block k (Nat.lt_of_lt_of_le hk h1.size) (fun e => hn (ho k e.symm hk).symm)).trans (h1.block k hk hn)⟩
theorem bel_grown {w w' : World} (h : Below w.heap.size w w') (ob : Option Nat) : w.grownBy w' ob := ⟨h.os, h.tape, h.output, h.size, fun k hk _ => h.block k hk⟩
set_option maxRecDepth 100000 in
set_option maxHeartbeats 2000000 in
theorem appendField_any (w : World) (base : Nat) (vo vf : Value) (lo lf : List Int) (hown : w.ownsRow base 5 1 vo lo.length (lo.map (Value.int .u8))) (hf : HB w vf lf) (hap : ∀ b o n c, vf = .slice (some ⟨b, o, none⟩) n c → 0 < lf.length → vo.ownBlock ≠ some b) (hlf : lf.length ≤ 65536) (hlo : lo.length ≤ 100000000) (hbase : base ≤ w.heap.size) (hk : KP w) :
    Calls Tryd.prog 35 #[vo, vf] w fun e w' => ∃ v', e = .returned v' ∧ w'.ownsRow base 5 1 v' (lo ++ fld lf).length ((lo ++ fld lf).map (Value.int .u8)) ∧ Below base w w' ∧ w.grownBy w' vo.ownBlock := by
  have C := hid (number_tab w lf.length (by omega) (by omega) hk)
  have e2 : nE (lf.length : Int) = 0 := by unfold nE; rw [if_neg (by omega)]
  have hsz := nS_size lf.length
  have hsc := strCells_nS lf.length
  have hd5 := dec_len_small lf.length (by omega)
  have hdp := dgL_pos lf.length
  obtain ⟨D, HD⟩ : ∃ D, Hid (nS (lf.length : Int) = D) := ⟨_, rfl⟩
  obtain ⟨dl, HDL⟩ : ∃ dl, Hid (dgL lf.length = dl) := ⟨_, rfl⟩
  rw [HD.out, e2] at C
  rw [HD.out, HDL.out] at hsz hsc
  rw [HDL.out] at hd5 hdp
  have HF := hid hf
  have HO := hid hown
  have HAP := hid hap
  have HSC := hid hsc
  have HSZ := hid hsz
  obtain ⟨p, c, rfl, hlc, hcm⟩ := hf.open
  clear hf hown hap e2 hsc hsz
  go_enter Tryd.func35, Tryd.ntmps35
  go_wp2_with fail
  refine C.out.mono ?_
  rintro e w1 ⟨rfl, hb1⟩
  have B1 := hid hb1
  have hs1 := hb1.size
  have HO1 := hid (own_below HO.out hb1)
  have HF1 := hid (HF.out.below hb1)
  clear hb1 C
  go_wp2_with (at_builtin; refine wpList_append_text rfl _ _ rfl base _ lo.length _ rfl HO1.out D rfl ?q1 ?q2 ?q3 ?_)
  case q1 => have := HSZ.out; omega
  case q2 => have := HSZ.out; omega
  case q3 => omega
  intro v2 w2 hown2 hg2 hp2
  obtain ⟨l2, Hl2⟩ : ∃ l2, Hid (lo ++ dl = l2) := ⟨_, rfl⟩
  have hlen2 : l2.length = lo.length + dl.length := by rw [← Hl2.out]; exact List.length_append
  have HO2 : Hid (w2.ownsRow base 5 1 v2 l2.length (l2.map (Value.int .u8))) := by
    refine hid ?_
    rw [HSC.out, HSZ.out, ← List.map_append, Hl2.out, ← hlen2] at hown2
    exact hown2
  have B2 := hid (((B1.out.mono hbase).grown hg2 (by omega) (fun k e => (HO1.out.lt k e).1)))
  have HAP2 : Hid (∀ b o n c', Value.slice p lf.length c = .slice (some ⟨b, o, none⟩) n c' → 0 < lf.length → v2.ownBlock ≠ some b) := by
    refine hid fun b o n c' hv h0 he => ?_
    rcases hp2 with q | q
    · exact HAP.out b o n c' hv h0 (by rw [← q]; exact he)
    · rw [q] at he
      have := HF1.out.lt h0 hv
      injection he with he
      omega
  have HF2 := hid (HF1.out.grownD hg2 HAP.out)
  have hs2 : w1.heap.size ≤ w2.heap.size := hg2.size
  have H2 := hid hp2
  have HG2 := hid hg2
  have HS2 := hid hlen2
  clear hown2 hp2 hg2 hlen2
  go_wp2_with (at_builtin; refine wpList_append_byte rfl _ _ rfl base _ l2.length _ rfl (HO2.out.alloc _) ⟨w2.heap.size, 0, none⟩ 1 58 rfl (by simp) ?q1 ?q2 ?_)
  case q1 => have := HS2.out; omega
  case q2 => simp; omega
  intro v3 w3 hown3 hg3 hp3
  obtain ⟨l3, Hl3⟩ : ∃ l3 : List Int, Hid (l2 ++ [58] = l3) := ⟨l2 ++ [58], hid rfl⟩
  have hlen3 : l3.length = l2.length + 1 := by rw [← Hl3.out]; simp
  have HO3 : Hid (w3.ownsRow base 5 1 v3 l3.length (l3.map (Value.int .u8))) := by
    refine hid ?_
    rw [hlen3, ← Hl3.out, List.map_append]
    exact hown3
  have HF3 := hid ((HF2.out.below ((Below.refl _ w2).alloc (Nat.le_refl _) _)).grownD hg3 HAP2.out)
  have B3 := hid ((B2.out.alloc (by omega) _).grown hg3 (by simp; omega) (fun k e => (HO2.out.lt k e).1))
  have G3 : Hid (w.grownBy w3 vo.ownBlock) := by
    refine hid ?_
    have g1 := grown_trU (bel_grown B1.out vo.ownBlock) HG2.out (fun k e _ => e)
    refine grown_trU (grown_trU g1 (bel_grown ((Below.refl w2.heap.size w2).alloc (Nat.le_refl _) _) none) (fun k e _ => by cases e)) hg3 (fun k e hk => ?_)
    rcases H2.out with q | q
    · rw [← q]; exact e
    · rw [q] at e; injection e with e; omega
  have hs3 : w2.heap.size ≤ w3.heap.size := by have := hg3.size; simp at this; omega
  have HP3 : Hid (∀ k, v3.ownBlock = some k → k < w.heap.size → vo.ownBlock = some k) := by
    refine hid fun k e hk => ?_
    rcases hp3 with q | ⟨q, _⟩
    · rw [q] at e
      rcases H2.out with q2 | q2
      · rw [← q2]; exact e
      · rw [q2] at e; injection e with e; omega
    · rw [q] at e; injection e with e; omega
  have HS3 := hid hlen3
  clear hown3 hg3 hp3 HF2 HO2 hlen3 HAP2
  go_wp2_with (at_builtin; refine wpList_append_bytes rfl _ _ rfl base _ l3.length _ rfl HO3.out _ lf rfl HF3.out ?q1 ?q2 ?_)
  case q1 => have := HS2.out; have := HS3.out; omega
  case q2 => omega
  intro v4 w4 hown4 hg4 hp4
  obtain ⟨l4, Hl4⟩ : ∃ l4 : List Int, Hid (l3 ++ lf = l4) := ⟨l3 ++ lf, hid rfl⟩
  have hlen4 : l4.length = l3.length + lf.length := by rw [← Hl4.out]; simp
  have HO4 : Hid (w4.ownsRow base 5 1 v4 l4.length (l4.map (Value.int .u8))) := by
    refine hid ?_
    rw [hlen4, ← Hl4.out, List.map_append]
    exact hown4
  have B4 := hid (B3.out.grown hg4 (by omega) (fun k e => (HO3.out.lt k e).1))
  have hs4 : w3.heap.size ≤ w4.heap.size := hg4.size
  have G4 := hid (grown_trU G3.out hg4 HP3.out)
  have HP4 : Hid (∀ k, v4.ownBlock = some k → k < w.heap.size → vo.ownBlock = some k) := by
    refine hid fun k e hk => ?_
    rcases hp4 with q | q
    · exact HP3.out k (by rw [← q]; exact e) hk
    · rw [q] at e; injection e with e; omega
  have HS4 := hid hlen4
  clear hown4 hg4 hp4 HO3 hlen4 HF3
  go_wp2_with (at_builtin; refine wpList_append_byte rfl _ _ rfl base _ l4.length _ rfl (HO4.out.alloc _) ⟨w4.heap.size, 0, none⟩ 1 44 rfl (by simp) ?q1 ?q2 ?_)
  case q1 => have := HS2.out; have := HS3.out; have := HS4.out; omega
  case q2 => simp; omega
  intro v5 w5 hown5 hg5 hp5
  have B5 := hid ((B4.out.alloc (by omega) _).grown hg5 (by simp; omega) (fun k e => (HO4.out.lt k e).1))
  have G5 := hid (grown_trU (grown_trU G4.out (bel_grown ((Below.refl w4.heap.size w4).alloc (Nat.le_refl _) _) none) (fun k e _ => by cases e)) hg5 HP4.out)
  have HE : Hid (lo ++ fld lf = l4 ++ [44]) := by
    refine hid ?_
    rw [← Hl4.out, ← Hl3.out, ← Hl2.out, ← HDL.out]
    unfold fld
    simp
  have HO5 : Hid (w5.ownsRow base 5 1 v5 (lo ++ fld lf).length ((lo ++ fld lf).map (Value.int .u8))) := by
    refine hid ?_
    rw [HE.out, List.length_append, List.map_append]
    exact hown5
  clear hown5 hg5 hp5
  go_wp2
  go_ret
  exact ⟨_, rfl, HO5.out, B5.out, G5.out⟩
end Go.Proofs.YtklklldmhoofnaaDoor
namespace Go.Proofs
open Go.Shelf
def Tryd.lays187_ren : Go.Shelf.Ren := ⟨fun | 187 => 54 | 255 => 72 | n => n, fun | 37 => 26 | 5 => 5 | 3 => 3 | n => n, fun | n => n⟩
theorem Tryd.lays187 : Go.Proofs.Lays.n187 Tryd.prog Tryd.lays187_ren := {
  mixed := by kernel_rfl
  f187 := Tryd.func54.trans (congrArg some (by kernel_rfl))
  f255 := Tryd.func72.trans (congrArg some (by kernel_rfl))
  t3 := Tryd.underlying3
  a3 := Tryd.isAgg3
  z3 := Tryd.sizeOf3
  v3 := Tryd.zeroValue3
  t5 := Tryd.underlying5
  a5 := Tryd.isAgg5
  z5 := Tryd.sizeOf5
  v5 := Tryd.zeroValue5
  t37 := Tryd.underlying26
  a37 := Tryd.isAgg26
  z37 := Tryd.sizeOf26
  v37 := Tryd.zeroValue26 }
theorem Tryd.bytes_IndexByte (b o n c : Nat) (xs : List Int) (cv : Int) (w : World) (hx : xs.length = n) (hc : ∀ i, i < n → w.cell? ⟨b, o + i, none⟩ = some (.int .u8 (xs.getD i 0))) :
    Calls Tryd.prog 54 #[.slice (some ⟨b, o, none⟩) n c, .int .u8 cv] w fun e w' => e = .returned (.int .i64 (Lib.indexByte (Lib.bytesOf xs) cv.toNat.toUInt8)) ∧ w' = w := Any.bytes_IndexByte Tryd.lays187 b o n c xs cv w hx hc
end Go.Proofs
namespace Go.Proofs.YtklklldmhoofnaaDoor
open Go.RowKit
theorem grown_set (w : World) (g o : Nat) (u : Value) : w.grownBy (w.setCell ⟨g, o, none⟩ u) (some g) :=
  ⟨rfl, rfl, rfl, by simp, fun k _ hk => heap_setCell_other w ⟨g, o, none⟩ k u (fun e => hk (by simp [e]))⟩
theorem grown_trans {a b c : World} {r : Option Nat} (h : a.grownBy b r) (k : b.grownBy c r) : a.grownBy c r :=
  ⟨k.os.trans h.os, k.tape.trans h.tape, k.output.trans h.output, Nat.le_trans h.size k.size, fun i hi hr => (k.block i (Nat.lt_of_lt_of_le hi h.size) hr).trans (h.block i hi hr)⟩
theorem grown_below {a b : World} {r : Option Nat} (h : Below a.heap.size a b) : a.grownBy b r :=
  ⟨h.os, h.tape, h.output, h.size, fun i hi _ => h.block i hi⟩
theorem HB.sliced {w : World} {p : Option Addr} {c : Nat} {l : List Int} (h : HB w (.slice p l.length c) l) (lo hi m : Nat) (h1 : lo ≤ hi) (h2 : hi ≤ l.length) (h3 : hi ≤ m) (h4 : m ≤ c) : HB w (.slice (if m = lo then p else p.map (·.add lo)) (hi - lo) (m - lo)) ((l.take hi).drop lo) := by
  obtain ⟨⟨p', c', e, hc, hm, hpc, hcell⟩, hby⟩ := h
  simp only [Value.slice.injEq, true_and] at e
  obtain ⟨rfl, rfl⟩ := e
  have hlen : ((l.take hi).drop lo).length = hi - lo := by simp; omega
  refine ⟨⟨_, m - lo, by rw [hlen], by omega, by omega, fun e => ?_, fun hne => ?_⟩, fun x hx => hby x (List.mem_of_mem_take (List.mem_of_mem_drop hx))⟩
  · have : p = none := by
      split at e
      · exact e
      · cases p <;> simp_all
    have := hpc this
    omega
  have hlt : lo < hi := by
    apply Classical.byContradiction
    intro hn
    exact hne (List.length_eq_zero_iff.1 (by omega))
  obtain ⟨b, off, rfl, hk⟩ := hcell (by intro e; subst e; simp at h2; omega)
  rw [if_neg (by omega)]
  refine ⟨b, off + lo, by simp [Go.WideShapes.add_plain], fun j hj => ?_⟩
  rw [hlen] at hj
  have := hk (lo + j) (by omega)
  rw [show off + lo + j = off + (lo + j) by omega, this]
  have e1 : ((l.take hi).drop lo).getD j 0 = l.getD (lo + j) 0 := by
    simp only [List.getD, List.getElem?_drop, List.getElem?_take]
    rw [if_pos (by omega)]
  rw [e1]
theorem HB.pre {w : World} {p : Option Addr} {c : Nat} {l : List Int} (h : HB w (.slice p l.length c) l) (n : Nat) (hn : n ≤ l.length) : HB w (.slice p n n) (l.take n) := by
  obtain ⟨p', c', e, hc, _⟩ := h.open
  simp only [Value.slice.injEq, true_and] at e
  obtain ⟨rfl, rfl⟩ := e
  have := h.sliced 0 n n (Nat.zero_le _) hn (Nat.le_refl _) (by omega)
  have e : (if n = 0 then p else p.map (·.add 0)) = p := by
    split
    · rfl
    · cases p <;> simp [Addr.add]
  simpa [e] using this
theorem HB.suf {w : World} {p : Option Addr} {c : Nat} {l : List Int} (h : HB w (.slice p l.length c) l) (n : Nat) (hn : n ≤ l.length) : HB w (.slice (if c = n then p else p.map (·.add n)) (l.length - n) (c - n)) (l.drop n) := by
  obtain ⟨p', c', e, hc, _⟩ := h.open
  simp only [Value.slice.injEq, true_and] at e
  obtain ⟨rfl, rfl⟩ := e
  have := h.sliced n l.length c hn (Nat.le_refl _) hc (Nat.le_refl _)
  rwa [List.take_of_length_le (Nat.le_refl _)] at this
theorem HB.slice_form {w : World} {v : Value} {l : List Int} (h : HB w v l) : ∃ p c, v = .slice p l.length c := by
  obtain ⟨p, c, e, _⟩ := h.open
  exact ⟨p, c, e⟩
end Go.Proofs.YtklklldmhoofnaaDoor
