/- Needs of a proof, walked. -/
import Derived.Test.YtjmlpkemjafifaaDoorPfNew
import Derived.Test.YtjmlpkemjafifaaDoorTrClimb
import Derived.Test.YtjmlpkemjafifaaDoorAppI
import Derived.Test.YtjmlpkemjafifaaDoorOwns
set_option linter.unusedVariables false
set_option linter.unusedSimpArgs false
namespace Go.Proofs.YtjmlpkemjafifaaDoor
open Go.RowKit

/-- The nodes of a way that are wanted. -/
def needF (K : Kn) : List Nat → List Nat
  | [] => []
  | a :: r => if (K (a ^^^ 1)).isSome = true then [] else if (K a).isSome = true then needF K r else a :: needF K r
def ivs (l : List Nat) : List Value := l.map fun x : Nat => Value.int .i64 (x : Int)
theorem ivs_length (l : List Nat) : (ivs l).length = l.length := by simp [ivs]
theorem HNs.of_own {w : World} {base : Nat} {v : Value} {l : List Nat} (h : w.ownsRow base 3 1 v l.length (ivs l)) : HNs w v l := by
  have h0 := h
  rcases h.2 with ⟨rfl, hl⟩ | ⟨g, cap, cur, rfl, hbg, hg, hnc, hcm, hcs, htake⟩
  · exact ⟨none, 0, by rw [hl], fun h1 => absurd h1 (by omega)⟩
  · refine ⟨_, cap, rfl, fun _ => ⟨g, 0, rfl, fun j hj => ?_⟩⟩
    have := h0.cells (g := g) rfl j (.int .i64 ((l.getD j 0 : Nat) : Int)) (by simp [ivs, List.getD, List.getElem?_eq_getElem hj])
    rw [Go.WideShapes.add_plain] at this
    exact this
set_option maxRecDepth 100000 in
set_option maxHeartbeats 4000000 in
theorem ne_bad (w : World) (g b L W : Nat) (K : Kn) (h : HPf w g b L W K) (h1 : 1 ≤ L) (h2 : L ≤ 512) (i : Int) (hi : ¬ (0 ≤ i ∧ i < L)) :
    Calls Tryd.prog 28 #[.pointer (some ⟨g, 0, none⟩), .int .i64 i] w fun e w' => e = .returned (.tuple #[.slice none 0 0, .int .i64 111]) ∧ Below w.heap.size w w' := by
  have CM := hid (pmade_ok w g b L W K h)
  have HP := hid h
  clear h
  go_enter Tryd.func28, Tryd.ntmps28
  go_wp2_with fail
  refine CM.out.mono ?_
  rintro e w1 ⟨rfl, hB1⟩
  have hc := (HP.out.below hB1).c0
  have BL := hid hB1
  have CC := hid (chain_bad w1 (L : Int) i (by omega))
  rw [show nodeE (L : Int) i = 111 from if_pos (by omega)] at CC
  clear hB1 CM hi
  go_wp2_with fail
  refine CC.out.mono ?_
  rintro e w2 ⟨rfl, hB2⟩
  have BL2 := hid (BL.out.trans (hB2.mono BL.out.size))
  clear hB2 CC
  go_wp2
  go_ret2
  exact ⟨rfl, BL2.out⟩
set_option maxRecDepth 100000 in
set_option maxHeartbeats 8000000 in
theorem ne_ok (w : World) (g b L k : Nat) (K : Kn) (h : HPf w g b L (wdN L) K) (h1 : 1 ≤ L) (h2 : L ≤ 512) (hk : wdN L = 2 ^ k) (hk9 : k < 10) (i : Nat) (hi : i < L) :
    Calls Tryd.prog 28 #[.pointer (some ⟨g, 0, none⟩), .int .i64 (i : Int)] w fun e w' => ∃ v, e = .returned (.tuple #[v, .int .i64 0]) ∧ HNs w' v (needF K (chL k (wdN L + i))) ∧ Below w.heap.size w w' := by
  have CM := hid (pmade_ok w g b L (wdN L) K h)
  have HP := hid h
  have HK := hid hk
  clear h hk
  have hWg := wdN_ge L h2
  have hWl := (wdN_le L).1
  obtain ⟨cl, HCL⟩ : ∃ c, Hid (chL k (wdN L + i) = c) := ⟨_, rfl⟩
  rw [HCL.out]
  go_enter Tryd.func28, Tryd.ntmps28
  go_wp2_with fail
  refine CM.out.mono ?_
  rintro e w1 ⟨rfl, hB1⟩
  have hc := (HP.out.below hB1).c0
  have BL := hid hB1
  have HP1 := hid (HP.out.below hB1)
  have CC := hid (chain_ok w1 L i k h1 h2 hi HK.out hk9)
  clear hB1 CM
  go_wp2_with fail
  refine CC.out.mono ?_
  rintro e w2 ⟨v, rfl, hN, _, hB2⟩
  have BL2 := hid (BL.out.trans (hB2.mono BL.out.size))
  have HP2 := hid (HP1.out.below hB2)
  have hx10 : ∀ y ∈ chL k (wdN L + i), y < 1024 := by
    intro y hy
    unfold chL at hy
    obtain ⟨j, _, rfl⟩ := List.mem_map.1 hy
    exact Nat.xor_lt_two_pow (n := 10) (Nat.lt_of_le_of_lt (Nat.div_le_self _ _) (by omega)) (by decide)
  have HX := hid hx10
  have hcl := chL_length k (wdN L + i)
  rw [HCL.out] at hN HX hcl
  have HCLN := hid hcl
  obtain ⟨p, c, ev, hcells⟩ := hN
  rw [HCLN.out] at ev
  have HC := hid hcells
  subst ev
  clear hB2 CC hcl hcells hc hx10
  go_wp2
  go_loopw [8, 28] (fun s q wr => ∃ (j : Nat) (l : List Nat), j ≤ k ∧ q = .int .i64 j ∧ l.length ≤ j ∧ Hid (wr.ownsRow w2.heap.size 3 1 s l.length (ivs l)) ∧ Hid (l ++ needF K (cl.drop j) = needF K cl) ∧ Hid (Below w2.heap.size w2 wr)) (fun _ q _ => k - (intOf q).toNat)
  case atStart => exact ⟨0, [], Nat.zero_le _, rfl, Nat.le_refl _, World.ownsRow_nil _ _ _ _, by rw [List.drop_zero]; exact rfl, Below.refl _ _⟩
  case round =>
    obtain ⟨j, l, hj, rfl, hlj, HO, HE, HB⟩ := hrel
    have HFIN : Hid (∀ (wz : World) (s : Value) (l : List Nat), wz.ownsRow w2.heap.size 3 1 s l.length (ivs l) → Below w2.heap.size w2 wz → l = needF K cl → ∃ v, Ending.returned (.tuple #[s, .int .i64 0]) = .returned (.tuple #[v, .int .i64 0]) ∧ HNs wz v (needF K cl) ∧ Below w.heap.size w wz) := fun wz s l a1 a2 a3 => by
      refine ⟨s, rfl, ?_, BL2.out.trans (a2.mono BL2.out.size)⟩
      rw [← a3]
      exact HNs.of_own a1
    by_cases hlt : j < k
    · obtain ⟨bb, off, rfl, hcell⟩ := HC.out (by rw [HCLN.out]; omega)
      have hjl : j < cl.length := by rw [HCLN.out]; exact hlt
      have hcj := hcell j hjl
      have hcj' : wr.cell? ⟨bb, off + j, none⟩ = some (.int .i64 ((cl.getD j 0 : Nat) : Int)) := (HB.out.cell (World.block_lt_of_cell? w2 _ hcj)).trans hcj
      have hdrop : cl.drop j = cl.getD j 0 :: cl.drop (j + 1) := by
        rw [List.drop_eq_getElem_cons hjl]
        simp [List.getD, List.getElem?_eq_getElem hjl]
      have hy10 : cl.getD j 0 < 1024 := HX.out _ (by
        rw [show cl.getD j 0 = cl[j] by simp [List.getD, List.getElem?_eq_getElem hjl]]
        exact List.getElem_mem hjl)
      have HE1 := hid HE.out
      rw [hdrop] at HE1
      generalize cl.getD j 0 = y at hcj' hy10 HE1
      have hx1 := bits_xor1 y hy10
      have CK1 := hid (knows_nat wr g b L (wdN L) K (HP2.out.below HB.out) (((y ^^^ 1 : Nat) : Int)) (y ^^^ 1) rfl)
      have HNF : Hid (needF K (y :: cl.drop (j + 1)) = if (K (y ^^^ 1)).isSome = true then [] else if (K y).isSome = true then needF K (cl.drop (j + 1)) else y :: needF K (cl.drop (j + 1))) := rfl
      generalize y ^^^ 1 = z at hx1 CK1 HNF
      clear hcj hdrop hcell
      go_wp2_with fail
      refine CK1.out.mono ?_
      rintro e w3 ⟨rfl, hB3⟩
      have HB3 := hid (HB.out.trans (hB3.mono HB.out.size))
      have HO3 := hid (own_below HO.out hB3)
      clear CK1 hB3 hcj'
      obtain ⟨c1, HC1⟩ : ∃ c, Hid ((K z).isSome = c) := ⟨_, rfl⟩
      rw [HC1.out] at HNF
      rw [HC1.out]
      cases c1 with
      | true =>
        have HEE : Hid (l = needF K cl) := by
          have := HE1.out
          rw [HNF.out, if_pos rfl, List.append_nil] at this
          exact this
        go_wp2
        go_ret2
        exact HFIN.out _ _ l HO3.out HB3.out HEE.out
      | false =>
        rw [if_neg (by simp)] at HNF
        have CK2 := hid (knows_nat w3 g b L (wdN L) K (HP2.out.below HB3.out) ((y : Nat) : Int) y rfl)
        go_wp2_with fail
        refine CK2.out.mono ?_
        rintro e w4 ⟨rfl, hB4⟩
        have HB4 := hid (HB3.out.trans (hB4.mono HB3.out.size))
        have HO4 := hid (own_below HO3.out hB4)
        clear CK2 hB4
        obtain ⟨c2, HC2⟩ : ∃ c, Hid ((K y).isSome = c) := ⟨_, rfl⟩
        rw [HC2.out] at HNF
        rw [HC2.out]
        cases c2 with
        | true =>
          rw [if_pos rfl] at HNF
          have HEE : Hid (l ++ needF K (cl.drop (j + 1)) = needF K cl) := by rw [← HE1.out, HNF.out]; exact rfl
          go_wp2
          exact ⟨⟨j + 1, l, by omega, by go_num, by omega, HO4, HEE, HB4⟩, by simp [intOf]; omega⟩
        | false =>
          rw [if_neg (by simp)] at HNF
          have HEE : Hid ((l ++ [y]) ++ needF K (cl.drop (j + 1)) = needF K cl) := by rw [← HE1.out, HNF.out]; refine hid ?_; simp
          have hbase := HB4.out.size
          go_wp2_with (refine wpList_append_int rfl _ _ rfl w2.heap.size _ l.length (ivs l) rfl (HO4.out.alloc _) _ _ (y : Int) rfl (by rw [cell_of_row _ w4.heap.size 0 _ _ _ (heap_alloc_new w4 _)]; rfl) (by omega) (by simp; omega) ?_; intro v' w5 ho5 hg5 hown5)
          have HO5 : Hid (w5.ownsRow w2.heap.size 3 1 v' (l ++ [y]).length (ivs (l ++ [y]))) := by
            have e1 : ivs (l ++ [y]) = ivs l ++ [.int .i64 (y : Int)] := by simp [ivs]
            rw [e1, List.length_append]
            exact ho5
          have HB5 : Hid (Below w2.heap.size w2 w5) := (HB4.out.alloc HB4.out.size _).grown hg5 (by simp; omega) (fun q hq => (HO4.out.lt q hq).1)
          clear ho5 hg5 hown5
          exact ⟨⟨j + 1, l ++ [y], by omega, by go_num, by simp; omega, HO5, HEE, HB5⟩, by simp [intOf]; omega⟩
    · have HEE : Hid (l = needF K cl) := by
        have := HE.out
        rw [List.drop_of_length_le (by rw [HCLN.out]; omega)] at this
        refine hid ?_
        simpa [needF] using this
      go_wp2
      go_ret2
      exact HFIN.out _ _ l HO.out HB.out HEE.out
end Go.Proofs.YtjmlpkemjafifaaDoor
