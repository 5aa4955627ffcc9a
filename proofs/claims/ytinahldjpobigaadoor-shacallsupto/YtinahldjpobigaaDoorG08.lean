/- Of the road to shaCallsUptoCard_holds: RefShaPad, ShaPiecesLaw, ShaMixesLaw, RefShaSum, RefShaJoin, ScSum, ShaLaid, ShaUpto, OpensSa, OpensSc. -/
import Derived.Test.YtinahldjpobigaaDoorG07
import Derived.Test.YtinahldjpobigaaDoorG02
import Derived.Test.YtinahldjpobigaaDoorG01
import Derived.Test.YtinahldjpobigaaDoorG00
import Derived.Test.YtinahldjpobigaaDoorRows
import Derived.ProofKit
import Derived.OpenShut
import Derived.LaidLaws
import Derived.Lay
import Derived.MakeChecks
import Derived.Stop.Joined
import Derived.SevenTiedAt
import Derived.Deep.Grids
import Derived.Deep.Slices
import Derived.ChangeArms
set_option linter.unusedVariables false
set_option linter.unusedSimpArgs false
namespace Go.Proofs.YtinahldjpobigaaDoor
open Go.RowKit
def hiL2 (n m x : Nat) : List Int := (bigL n x).take (n - m)
theorem hiL2_step (n m x : Nat) (h : m < n) : hiL2 n m x = hiL2 n (m + 1) x ++ [((x / 256 ^ m % 256 : Nat) : Int)] := by
  have key : ∀ r j, j < r → (bigL r x)[j]? = some ((x / 256 ^ (r - 1 - j) % 256 : Nat) : Int) := by
    intro r
    induction r with
    | zero => intro j hj; omega
    | succ r ih =>
      intro j hj
      cases j with
      | zero => simp [bigL]
      | succ j =>
        simp only [bigL, List.getElem?_cons_succ]
        rw [ih j (by omega), show r + 1 - 1 - (j + 1) = r - 1 - j by omega]
  unfold hiL2
  have e : n - m = (n - (m + 1)) + 1 := by omega
  rw [e, List.take_add_one, key n _ (by omega), show n - 1 - (n - (m + 1)) = m by omega]
  rfl
theorem lit_HB (w : World) (x : Int) (hx : 0 ≤ x ∧ x < 256) : HB (w.alloc (.cells #[.int .u8 x] 5)) (.slice (some ⟨w.heap.size, 0, none⟩) 1 1) [x] := by
  have h1 : (w.alloc (.cells #[.int .u8 x] 5)).ownsRow w.heap.size 5 1 (.slice (some ⟨w.heap.size, 0, none⟩) 1 1) 1 [.int .u8 x] := World.ownsRow_lit (base := w.heap.size) (e := 5) (size := 1) w #[.int .u8 x] 1 (Nat.le_refl _) (by decide) rfl
  exact HB.of_own (l := [x]) h1 (fun y hy => by have : y = x := (by simpa using hy); omega)
theorem lit_HB2 (w : World) (x y : Int) (e : x = y) (hy : 0 ≤ y ∧ y < 256) : HB (w.alloc (.cells #[.int .u8 x] 5)) (.slice (some ⟨w.heap.size, 0, none⟩) 1 1) [y] := by
  subst e
  exact lit_HB w x hy
set_option maxRecDepth 100000 in
set_option maxHeartbeats 2000000 in
theorem rpad_ok (w : World) (n : Nat) (hn : n ≤ 1152921504606846976) :
    Calls Tryd.prog 11 #[.int .i64 (n : Int)] w fun e w' => ∃ v', e = .returned (.tuple #[v', .int .i64 0]) ∧ w'.ownsRow w.heap.size 5 1 v' (padL n).length ((padL n).map (Value.int .u8)) ∧ Below w.heap.size w w' := by
  obtain ⟨z, HZ⟩ : ∃ z, Hid (padZ n = z) := ⟨_, rfl⟩
  have HZE : Hid (z = (64 - (n + 9) % 64) % 64) := by rw [← HZ.out]; rfl
  have hz64 : z < 64 := by have := HZE.out; omega
  have HO1 : Hid ((w.alloc (.cells #[.int .u8 128] 5)).ownsRow w.heap.size 5 1 (.slice (some ⟨w.heap.size, 0, none⟩) 1 1) (1 + 0) ([.int .u8 128] ++ List.replicate 0 (.int .u8 0))) := World.ownsRow_lit (base := w.heap.size) (e := 5) (size := 1) w #[.int .u8 128] 1 (Nat.le_refl _) (by decide) rfl
  have HB1 : Hid (Below w.heap.size w (w.alloc (.cells #[.int .u8 128] 5))) := (Below.refl _ w).alloc (Nat.le_refl _) _
  go_enter Tryd.func11, Tryd.ntmps11
  go_wp2
  go_loopw [4] (fun v wr => ∃ j : Nat, j ≤ z ∧ Hid (wr.ownsRow w.heap.size 5 1 v (1 + j) ([.int .u8 128] ++ List.replicate j (.int .u8 0))) ∧ Hid (Below w.heap.size w wr)) (fun v _ => 64 - lenV v)
  case atStart => exact ⟨0, Nat.zero_le _, HO1, HB1⟩
  case round =>
    obtain ⟨j, hj, HO, HB⟩ := hrel
    obtain ⟨g, cap, ev, hg0⟩ : ∃ g cap, u4 = .slice (some ⟨g, 0, none⟩) (1 + j) cap ∧ w.heap.size ≤ g := by
      rcases HO.out.2 with ⟨_, h⟩ | ⟨g, cap, _, h, h2, _⟩
      · omega
      · exact ⟨g, cap, h, h2⟩
    subst ev
    have hsz := HB.out.size
    by_cases hlt : j < z
    · have hc : ¬ (((n : Int) + (1 + (j : Int))) % 64 = 56) := by have := HZE.out; omega
      have HO2 : Hid ((wr.alloc (.cells #[.int .u8 0] 5)).ownsRow w.heap.size 5 1 (.slice (some ⟨g, 0, none⟩) (1 + j) cap) (1 + j) ([.int .u8 128] ++ List.replicate j (.int .u8 0))) := HO.out.alloc _
      have HLB := hid (lit_HB wr 0 (by decide))
      have HB2 : Hid (Below w.heap.size w (wr.alloc (.cells #[.int .u8 0] 5))) := HB.out.alloc hsz _
      go_wp2_with (at_builtin; refine wpList_append_HB rfl _ _ rfl w.heap.size _ _ _ rfl HO2.out _ _ rfl HLB.out ?q1 ?q2 ?_)
      case q1 => simp; omega
      case q2 => simp; omega
      intro v4 w4 ho4 hg4
      have HO4 : Hid (w4.ownsRow w.heap.size 5 1 v4 (1 + (j + 1)) ([.int .u8 128] ++ List.replicate (j + 1) (.int .u8 0))) := by
        rw [List.replicate_succ', ← Nat.add_assoc]
        exact ho4
      have HB4 : Hid (Below w.heap.size w w4) := HB2.out.grown hg4 HB2.out.size (fun k e => by
        have : g = k := by simpa [Value.ownBlock] using e
        omega)
      obtain ⟨g4, cap4, ev4⟩ : ∃ g cap, v4 = .slice (some ⟨g, 0, none⟩) (1 + (j + 1)) cap := by
        rcases HO4.out.2 with ⟨_, h⟩ | ⟨g, cap, _, h, h2, _⟩
        · omega
        · exact ⟨g, cap, h⟩
      subst ev4
      clear ho4 hg4 HO2 HLB HB2 hc
      go_wp2
      exact ⟨⟨j + 1, by omega, HO4, HB4⟩, by simp [lenV]; omega⟩
    · have hjz : j = z := by omega
      subst hjz
      have hc : ((n : Int) + (1 + (j : Int))) % 64 = 56 := by have := HZE.out; omega
      obtain ⟨xs, HXS⟩ : ∃ xs : List Value, Hid (([Value.int .u8 128] ++ List.replicate j (Value.int .u8 0)) = xs) := ⟨_, rfl⟩
      have HO0 := hid HO.out
      rw [HXS.out] at HO0
      obtain ⟨x, HX0⟩ : ∃ x, Hid (n * 8 = x) := ⟨_, rfl⟩
      have hnx : (n : Int) * 8 = (x : Int) := by rw [← HX0.out]; omega
      have hxb : x ≤ 9223372036854775808 := by rw [← HX0.out]; omega
      go_wp2
      clear hc HO hlt hnx
      go_loopw [4, 6] (fun o i wq => ∃ m : Nat, m ≤ 8 ∧ i = .int .i64 ((m : Int) - 1) ∧ Hid (wq.ownsRow w.heap.size 5 1 o (1 + j + (8 - m)) (xs ++ (hiL2 8 m x).map (Value.int .u8))) ∧ Hid (Below w.heap.size w wq)) (fun _ i _ => (intOf i + 1).toNat)
      case atStart => exact ⟨8, Nat.le_refl _, rfl, by rw [Nat.sub_self, show hiL2 8 8 x = [] from rfl, List.map_nil, List.append_nil]; exact HO0, HB⟩
      case round =>
        clear HO0 HB hsz
        obtain ⟨m, hm, rfl, HO, HBw⟩ := hrel
        obtain ⟨g2, cap2, ev, hg2⟩ : ∃ g cap, u4 = .slice (some ⟨g, 0, none⟩) (1 + j + (8 - m)) cap ∧ w.heap.size ≤ g := by
          rcases HO.out.2 with ⟨_, h⟩ | ⟨g, cap, _, h, h2, _⟩
          · omega
          · exact ⟨g, cap, h, h2⟩
        cases m with
        | zero =>
          have HPL : Hid ((padL n).map (Value.int .u8) = xs ++ (hiL2 8 0 x).map (Value.int .u8)) := by
            show _ = _
            rw [← HXS.out, show hiL2 8 0 x = bigL 8 x from by unfold hiL2; rw [Nat.sub_zero, List.take_of_length_le (by rw [bigL_length]; exact Nat.le_refl 8)], ← HX0.out]
            unfold padL
            rw [HZ.out]
            simp
          have HLn : Hid ((padL n).length = 1 + j + (8 - 0)) := by show _ = _; rw [padL_length, HZ.out]; omega
          go_wp2
          go_ret2
          refine ⟨_, rfl, ?_, HBw.out⟩
          rw [HPL.out, HLn.out]
          exact HO.out
        | succ m =>
          have HS := hid (hiL2_step 8 m x (by omega))
          have hmc : m = 0 ∨ m = 1 ∨ m = 2 ∨ m = 3 ∨ m = 4 ∨ m = 5 ∨ m = 6 ∨ m = 7 := by omega
          have hxi : (x : Int) ≤ 9223372036854775808 := by omega
          have hsz := HBw.out.size
          obtain ⟨y, HY⟩ : ∃ y, Hid (((x / 256 ^ m % 256 : Nat) : Int) = y) := ⟨_, rfl⟩
          rw [HY.out] at HS
          have hyb : Hid (0 ≤ y ∧ y < 256) := by rw [← HY.out]; refine hid ?_; omega
          obtain ⟨k0, HK⟩ : ∃ k0, Hid (1 + j + (8 - (m + 1)) = k0) := ⟨_, rfl⟩
          have HK2 : Hid (1 + j + (8 - m) = k0 + 1) := by show _ = _; rw [← HK.out]; omega
          have hk0 : k0 ≤ 80 := by rw [← HK.out]; omega
          obtain ⟨lst, HLs⟩ : ∃ lst, Hid (xs ++ (hiL2 8 (m + 1) x).map (Value.int .u8) = lst) := ⟨_, rfl⟩
          have HSX : Hid (xs ++ (hiL2 8 m x).map (Value.int .u8) = lst ++ [.int .u8 y]) := by
            show _ = _
            rw [HS.out, List.map_append, ← List.append_assoc, HLs.out]
            rfl
          have HO' := hid HO.out
          rw [HK.out, HLs.out] at HO'
          rw [HK.out] at ev
          clear HO
          subst ev
          rcases hmc with rfl | rfl | rfl | rfl | rfl | rfl | rfl | rfl
          all_goals
            go_wp2_with (at_builtin; refine wpList_append_HB rfl _ _ rfl w.heap.size _ _ _ rfl (HO'.out.alloc _) _ [y] rfl ?q0 ?q1 ?q2 ?_)
            case q0 => exact lit_HB2 _ _ _ (by rw [← HY.out]; simp; try omega) hyb.out
            case q1 => simp; omega
            case q2 => simp; omega
            intro v' w2 hown2 hgr2
            have HO2 : Hid (w2.ownsRow w.heap.size 5 1 v' (k0 + 1) (lst ++ [.int .u8 y])) := hown2
            have HB2 := hid ((HBw.out.alloc HBw.out.size _).grown hgr2 (by simp; omega) (fun k e => (HO'.out.lt k e).1))
            clear hown2 hgr2
            go_wp2
            exact ⟨⟨_, Nat.le_of_succ_le hm, rfl, by rw [HK2.out, HSX.out]; exact HO2, HB2⟩, by simp [intOf]⟩
theorem rpad_bad (w : World) (n : Int) (hn : n < 0 ∨ 1152921504606846976 < n) : Calls Tryd.prog 11 #[.int .i64 n] w fun e w' => e = .returned (.tuple #[.slice none 0 0, .int .i64 2]) ∧ w' = w := by
  rcases hn with h | h
  · go_enter Tryd.func11, Tryd.ntmps11
    go_wp2
    go_ret2
    exact ⟨rfl, rfl⟩
  · have h0 : ¬ n < 0 := by omega
    go_enter Tryd.func11, Tryd.ntmps11
    go_wp2
    go_ret2
    exact ⟨rfl, rfl⟩
def HO (w : World) (v : Value) (ls : List Bool) : Prop :=
  ∃ (p : Option Addr) (c : Nat), v = .slice p ls.length c ∧ ls.length ≤ c ∧ c ≤ maxLen ∧ (0 < ls.length → ∃ b off, p = some ⟨b, off, none⟩ ∧ ∀ j, j < ls.length → w.cell? ⟨b, off + j, none⟩ = some (.bool (ls.getD j false)))
theorem HM.block {A C : World} {g : Nat} {m : List Int} (h : HM A g m) (hb : C.heap[g]? = A.heap[g]?) : HM C g m := by
  obtain ⟨rest, h1, h2⟩ := h
  exact ⟨rest, h1.block hb, h2⟩
theorem own_later {A C : World} {B e n : Nat} {v : Value} {xs : List Value} (h : A.ownsRow B e 1 v n xs) (hb : Below A.heap.size A C) : C.ownsRow B e 1 v n xs := by
  cases hx : v.ownBlock with
  | none => exact h.kept (row := some 0) (grown_below hb) (.inl hx)
  | some y => exact h.kept (row := some (y + 1)) (grown_below hb) (.inr (by rw [hx]; simp))
theorem sum_dig (w : World) (g : Nat) (m : List Int) (h : HM w g m) (hk : KC w) (hlen : m.length ≤ 576460752303423488) :
    Calls Tryd.prog 21 #[.pointer (some ⟨g, 0, none⟩)] w fun e w' => e = .returned (.agg (cellsB (digL m))) ∧ Below w.heap.size w w' := sum_any w g m h hk hlen
theorem sums_one (w : World) (v : Value) (m : List Int) (h : HB w v m) (hk : KC w) (hlen : m.length ≤ 576460752303423488) :
    Calls Tryd.prog 27 #[.slice (some ⟨w.heap.size, 0, none⟩) 1 1] (w.alloc (.cells #[v] 32)) fun e w' => e = .returned (.agg (cellsB (digL m))) ∧ Below w.heap.size w w' := by
  have hB : Below w.heap.size w (w.alloc (.cells #[v] 32)) := (Below.refl _ w).alloc (Nat.le_refl _) _
  have hL : HL (w.alloc (.cells #[v] 32)) (.slice (some ⟨w.heap.size, 0, none⟩) 1 1) [m] := by
    refine ⟨_, 1, rfl, Nat.le_refl _, by decide, (fun e => by cases e), fun _ => ⟨w.heap.size, 0, rfl, fun j hj => ?_⟩⟩
    have hrow : (w.alloc (.cells #[v] 32)).heap[w.heap.size]? = some (.cells #[v] 32 (0, 0)) := heap_alloc_new w _
    match j, hj with
    | 0, _ => exact ⟨_, by rw [cell_of_row _ w.heap.size 0 _ _ _ hrow]; rfl, h.below hB⟩
  have := sums_any _ _ [m] hL (hk.below hB) (by simpa using hlen)
  refine this.mono ?_
  rintro e w' ⟨rfl, hb⟩
  exact ⟨by simp, hB.trans (hb.mono hB.size)⟩
set_option maxHeartbeats 1000000 in
theorem size_any (w : World) (g : Nat) (m : List Int) (h : HM w g m) :
    Calls Tryd.prog 23 #[.pointer (some ⟨g, 0, none⟩)] w fun e w' => e = .returned (.int .i64 (m.length : Int)) ∧ Below w.heap.size w w' := by
  have CM := hid (made_yes w g m h)
  have H := hid h
  obtain ⟨n, HN⟩ : ∃ n, Hid (m.length = n) := ⟨_, rfl⟩
  rw [HN.out]
  clear h
  go_enter Tryd.func23, Tryd.ntmps23
  go_wp2_with fail
  refine CM.out.mono ?_
  rintro e w1 ⟨rfl, hB1⟩
  have HB1 := hid hB1
  obtain ⟨rest, hs, _⟩ := H.out.below hB1
  have c80 := hs.sz
  rw [HN.out] at c80
  clear hs hB1
  go_wp2
  go_ret
  exact ⟨rfl, HB1.out⟩
theorem zero_b64 : (Tryd.prog.info? 28).map (·.zero) = some (some (.agg (cellsB (List.replicate 64 0)))) := by kernel_rfl
theorem cellsB_set2 (l : List Int) (i : Nat) (x : Int) : (cellsB l).setIfInBounds i (.int .u8 x) = cellsB (l.set i x) := by
  unfold cellsB
  rw [List.map_set]
  simp
theorem dig_get {W : List Nat} (hW : W8 W) (a r : Nat) (ha : a < 8) (hr : r < 4) : (W.flatMap (bigL 4)).getD (4 * a + r) 0 = ((W.getD a 0 / 256 ^ (3 - r) % 256 : Nat) : Int) := by
  obtain ⟨x0, x1, x2, x3, x4, x5, x6, x7, rfl, _⟩ := hW.open
  have h1 : a = 0 ∨ a = 1 ∨ a = 2 ∨ a = 3 ∨ a = 4 ∨ a = 5 ∨ a = 6 ∨ a = 7 := by omega
  have h2 : r = 0 ∨ r = 1 ∨ r = 2 ∨ r = 3 := by omega
  rcases h1 with rfl | rfl | rfl | rfl | rfl | rfl | rfl | rfl <;> rcases h2 with rfl | rfl | rfl | rfl <;> rfl
def curB (t : List Int) (i : Nat) : List Int := t.take i ++ (List.replicate 64 (0 : Int)).drop i
theorem curB_length (t : List Int) (i : Nat) (hi : i ≤ 64) (ht : t.length = 64) : (curB t i).length = 64 := by
  unfold curB
  rw [List.length_append, List.length_take, List.length_drop, List.length_replicate]
  omega
theorem curB_step (t : List Int) (i : Nat) (hi : i < 64) (ht : t.length = 64) : (curB t i).set i (t.getD i 0) = curB t (i + 1) := by
  unfold curB
  have hl : (t.take i).length = i := by rw [List.length_take]; omega
  have hz : i < (List.replicate 64 (0 : Int)).length := by rw [List.length_replicate]; omega
  have hi2 : i < t.length := by omega
  rw [List.set_append_right _ _ (by omega), hl, Nat.sub_self, List.drop_eq_getElem_cons hz, List.set_cons_zero, List.take_succ_eq_append_getElem hi2, getD_of_lt hi2, List.append_assoc]
  rfl
theorem blkOf_get (M : List Int) (k j : Nat) (hj : j < 64) : (blkOf M k).getD j 0 = M.getD (64 * k + j) 0 := by
  unfold blkOf
  simp only [List.getD, List.getElem?_take, List.getElem?_drop, if_pos hj]
def curE (t : List Int) (i : Nat) : List Int := t.take i ++ zeros32.drop i
theorem curE_length (t : List Int) (i : Nat) (hi : i ≤ 32) (ht : t.length = 32) : (curE t i).length = 32 := by
  unfold curE
  rw [List.length_append, List.length_take, List.length_drop, zeros32_length]
  omega
theorem curE_step (t : List Int) (i : Nat) (hi : i < 32) (ht : t.length = 32) : (curE t i).set i (t.getD i 0) = curE t (i + 1) := by
  unfold curE
  have hl : (t.take i).length = i := by rw [List.length_take]; omega
  have hz : i < zeros32.length := by rw [zeros32_length]; omega
  have hi2 : i < t.length := by omega
  rw [List.set_append_right _ _ (by omega), hl, Nat.sub_self, List.drop_eq_getElem_cons hz, List.set_cons_zero, List.take_succ_eq_append_getElem hi2, getD_of_lt hi2, List.append_assoc]
  rfl
set_option maxRecDepth 100000 in
set_option maxHeartbeats 4000000 in
theorem rsum_any (w : World) (v : Value) (m : List Int) (h : HB w v m) (hbig : m.length ≤ 140737488355000) : Calls Tryd.prog 22 #[v] w fun e w' => e = .returned (.agg (cellsB (digL m))) ∧ Below w.heap.size w w' := by
  obtain ⟨zd, HZD⟩ : ∃ zd, Hid (cellsB zeros32 = zd) := ⟨_, rfl⟩
  obtain ⟨W0, hW0⟩ : ∃ W0, Hid (w.alloc (.cells zd 52) = W0) := ⟨_, rfl⟩
  have HB0 : Hid (Below w.heap.size w W0) := by rw [← hW0.out]; exact (Below.refl _ w).alloc (Nat.le_refl _) _
  have HR0 : Hid (W0.heap[w.heap.size]? = some (.cells zd 52 (0, 0))) := by rw [← hW0.out]; exact heap_alloc_new w _
  have HS0 : Hid (W0.heap.size = w.heap.size + 1) := by rw [← hW0.out]; refine hid ?_; simp
  obtain ⟨p, c, ev, hlc, hcm⟩ := h.open
  unfold maxLen at hcm
  obtain ⟨n, HN⟩ : ∃ n, Hid (m.length = n) := ⟨_, rfl⟩
  rw [HN.out] at ev hlc hbig
  have HH := hid (h.below HB0.out)
  have hmb := hid h.2
  subst ev
  clear h
  go_enter Tryd.func22, Tryd.ntmps22
  have HV0 : Hid (World.ownsRow W0 W0.heap.size 5 1 (.slice none 0 0) 0 []) := World.ownsRow_nil _ _ _ _
  go_wp2_with (first | (refine wpList_alloc_digest rfl rfl ?_; rw [HZD.out, hW0.out]) | (at_builtin; refine wpList_append_HB rfl _ _ rfl W0.heap.size (.slice none 0 0) 0 [] rfl HV0.out (.slice p n c) m rfl HH.out (by rw [HN.out]; omega) (Nat.le_refl _) ?_))
  intro v3 w2 ho3 hg3
  have HB02 : Hid (Below W0.heap.size W0 w2) := (Below.refl _ W0).grown hg3 (Nat.le_refl _) (fun k e => by cases e)
  have HO2 := hid ho3
  clear ho3 hg3
  go_wp2_with fail
  refine (rpad_ok _ n (by omega)).mono ?_
  rintro e w3 ⟨v2, rfl, ho2, hB2⟩
  obtain ⟨P, HP⟩ : ∃ P, Hid (padL n = P) := ⟨_, rfl⟩
  obtain ⟨q, HQ⟩ : ∃ q, Hid (P.length = q) := ⟨_, rfl⟩
  have hq72 : q ≤ 72 := by rw [← HQ.out, ← HP.out, padL_length]; unfold padZ; omega
  have HBP : Hid (HB w3 v2 P) := by rw [← HP.out]; exact HB.of_own ho2 (padL_byt n)
  have HO3 := hid (own_later HO2.out hB2)
  have HB03 : Hid (Below W0.heap.size W0 w3) := HB02.out.trans (hB2.mono HB02.out.size)
  obtain ⟨p2, c2, e2, hl2, hm2⟩ := HBP.out.open
  rw [HQ.out] at e2
  subst e2
  clear ho2 hB2 HO2
  go_wp2_with (at_builtin; refine wpList_append_HB rfl _ _ rfl W0.heap.size _ _ _ rfl HO3.out _ _ rfl HBP.out ?q1 ?q2 ?_)
  case q1 => rw [HN.out, HQ.out]; omega
  case q2 => exact HB03.out.size
  intro v4 w4 ho4 hg4
  obtain ⟨M, HM0⟩ : ∃ M, Hid (m ++ P = M) := ⟨_, rfl⟩
  have HPM : Hid (padded m = M) := by rw [← HM0.out, ← HP.out, ← HN.out]; rfl
  have HML : Hid (M.length = n + q) := by show _ = _; rw [← HM0.out, List.length_append, HN.out, HQ.out]
  have hmod : (n + q) % 64 = 0 := by have := padL_whole n; rwa [HP.out, HQ.out] at this
  have HMB : Hid (∀ x ∈ M, 0 ≤ x ∧ x < 256) := by
    intro x hx
    rw [← HM0.out] at hx
    rcases List.mem_append.1 hx with h1 | h1
    · exact hmb.out x h1
    · exact HBP.out.2 x h1
  have hbm : HB w4 v4 M := by
    refine HB.of_own (B := W0.heap.size) (e := 5) ?_ HMB.out
    have h4 := ho4
    rw [← List.map_append, HM0.out] at h4
    rw [HML.out, ← HN.out, ← HQ.out]
    exact h4
  have HB04 : Hid (Below W0.heap.size W0 w4) := HB03.out.grown hg4 HB03.out.size (fun k e => (HO3.out.lt k e).1)
  have HB4 : Hid (Below w.heap.size w w4) := HB0.out.trans (HB04.out.mono (by have := HS0.out; omega))
  have HRR4 : Hid (w4.heap[w.heap.size]? = some (.cells zd 52 (0, 0))) := (HB04.out.block _ (by have := HS0.out; omega)).trans HR0.out
  have hq9 : 9 ≤ q := by rw [← HQ.out, ← HP.out, padL_length]; omega
  obtain ⟨b4, o4, c4, e4, hc4, hm4, hcell4⟩ := hbm.ne (by rw [HML.out]; omega)
  rw [HML.out] at e4 hc4 hcell4
  have hb4 : b4 < w4.heap.size := World.block_lt_of_cell? w4 _ (hcell4 0 (by omega))
  have HC4 := hid hcell4
  unfold maxLen at hm4
  subst e4
  clear ho4 hg4 hbm hcell4 HO3 HBP
  obtain ⟨ivc, HIV⟩ : ∃ ivc, Hid (cellsW iv = ivc) := ⟨_, rfl⟩
  obtain ⟨z8, HZ8⟩ : ∃ z8, Hid (cellsW (zerosW 8) = z8) := ⟨_, rfl⟩
  have hz8 := zero_w8
  rw [HZ8.out] at hz8
  have HZ1 := hid hz8
  have HIm : Hid ((Tryd.prog.info? 25).map (·.size) = some ivc.size) := by rw [← HIV.out]; exact size_w8
  have H1m : Hid (ivc.all (·.oneCell') = true) := by rw [← HIV.out]; exact cellsW_one _
  have HZM : Hid (z8.size = ivc.size) := by rw [← HZ8.out, ← HIV.out, cellsW_size, zerosW_length]; exact rfl
  have CI := hid (rinitial_any w4)
  clear hz8
  rw [HIV.out] at CI
  go_wp2_with fail
  refine CI.out.mono ?_
  rintro e w5 ⟨rfl, hB5⟩
  have HB5 := hid hB5
  clear hB5
  have HR : Hid ((w5.alloc (.cells z8 25)).heap[w5.heap.size]? = some (.cells z8 25 (0, 0))) := heap_alloc_new w5 _
  have HB6 := hid (below_setRow ((Below.refl _ w5).alloc (Nat.le_refl _) (.cells z8 25)) (g := w5.heap.size) (Nat.le_refl _) ivc)
  have HF0 : Hid (((w5.alloc (.cells z8 25)).setRow w5.heap.size ivc).heap[w5.heap.size]? = some (.cells (cellsW (wAt M 0)) 25 (0, 0))) := by rw [show cellsW (wAt M 0) = ivc from HIV.out]; exact setRow_heap _ _ _ _ _ _ HR.out
  go_wp2_with (first | (refine wpList_alloc_agg HZ1.out rfl rfl ?_) | (refine wpList_store_row rfl 25 _ _ rfl w5.heap.size ivc rfl rfl 25 _ HR.out HIm.out HZM.out H1m.out ?_))
  go_loopw [7] (fun i wr => ∃ k I : Nat, I = 64 * k ∧ I ≤ n + q ∧ i = .int .i64 I ∧ Hid (wr.heap[w5.heap.size]? = some (.cells (cellsW (wAt M k)) 25 (0, 0))) ∧ Hid (Below w5.heap.size w5 wr)) (fun i _ => n + q - (intOf i).toNat)
  case atStart => exact ⟨0, 0, rfl, Nat.zero_le _, rfl, HF0, HB6⟩
  case round =>
    obtain ⟨k, I, hIk, hI, rfl, HF, HBk⟩ := hrel
    obtain ⟨wo, rfl⟩ : ∃ wo, wo = wr := ⟨_, rfl⟩
    have HIK := hid hIk
    clear hIk
    have hbr : b4 < w5.heap.size := by have := HB5.out.size; omega
    have hsr := HBk.out.size
    have HCr : Hid (∀ j, j < n + q → wo.cell? ⟨b4, o4 + j, none⟩ = some (.int .u8 (M.getD j 0))) := fun j hj => ((HBk.out.cell hbr).trans (HB5.out.cell hb4)).trans (HC4.out j hj)
    have h8 := wAt_W8 M k
    by_cases hlt : I + 64 ≤ n + q
    · have hbl := blkOf_length (m := M) (k := k) (by rw [HML.out]; have := HIK.out; omega)
      have hbb := blkOf_byt HMB.out k
      have HBG : Hid (∀ j, j < 64 → M.getD (I + j) 0 = (blkOf M k).getD j 0) := fun j hj => by rw [blkOf_get M k j hj, HIK.out]
      have HW1 : Hid (wAt M (k + 1) = mixL (wAt M k) (blkOf M k)) := rfl
      obtain ⟨B, HBL⟩ : ∃ B, Hid (blkOf M k = B) := ⟨_, rfl⟩
      obtain ⟨W, HW⟩ : ∃ W, Hid (wAt M k = W) := ⟨_, rfl⟩
      rw [HBL.out] at hbl hbb HBG HW1
      rw [HW.out] at h8 HF HW1
      have H8 := hid h8
      have HBB := hid hbb
      obtain ⟨zb, HZB⟩ : ∃ zb, Hid (cellsB (List.replicate 64 0) = zb) := ⟨_, rfl⟩
      have hzb := zero_b64
      rw [HZB.out] at hzb
      have HZ2 := hid hzb
      obtain ⟨W7, hW7⟩ : ∃ W7, Hid (wo.alloc (.cells zb 28) = W7) := ⟨_, rfl⟩
      have HB7 : Hid (Below wo.heap.size wo W7) := by rw [← hW7.out]; exact (Below.refl _ wo).alloc (Nat.le_refl _) _
      have hs7 : W7.heap.size = wo.heap.size + 1 := by rw [← hW7.out]; simp
      have HR7 : Hid (W7.heap[wo.heap.size]? = some (.cells (cellsB (curB B 0)) 28 (0, 0))) := by
        rw [← hW7.out, show cellsB (curB B 0) = zb from HZB.out]
        exact heap_alloc_new wo _
      clear h8 hbb hzb
      go_wp2_with (refine wpList_alloc_agg HZ2.out rfl rfl ?_; rw [hW7.out])
      clear hW7
      go_loopw [9] (fun i wq => ∃ J : Nat, J ≤ 64 ∧ i = .int .i64 J ∧ Hid (wq.heap[wo.heap.size]? = some (.cells (cellsB (curB B J)) 28 (0, 0))) ∧ Hid (W7.grownBy wq (some wo.heap.size))) (fun i _ => 64 - (intOf i).toNat)
      case atStart => exact ⟨0, Nat.zero_le _, rfl, HR7, ⟨rfl, rfl, rfl, Nat.le_refl _, fun _ _ _ => rfl⟩⟩
      case round =>
        obtain ⟨J, hJ, rfl, HFB, HG⟩ := hrel
        have hbw : b4 < wo.heap.size := by omega
        have HB8 : Hid (Below wo.heap.size wo wr) := HB7.out.grown HG.out (by omega) (fun k e => by cases e; exact Nat.le_refl _)
        by_cases hlj : J < 64
        · have hcx : wr.cell? ⟨b4, o4 + (I + J), none⟩ = some (.int .u8 (B.getD J 0)) := by
            rw [← HBG.out J hlj]
            exact (HB8.out.cell hbw).trans (HCr.out (I + J) (by omega))
          have hcb : wr.cell? ⟨wo.heap.size, J, none⟩ = some (.int .u8 ((curB B J).getD J 0)) := by
            rw [cell_of_row wr wo.heap.size J _ _ _ HFB.out]
            have hj2 : J < (curB B J).length := by rw [curB_length B J (by omega) hbl]; omega
            simp [cellsB, List.getD, List.getElem?_eq_getElem hj2]
          obtain ⟨old, HOLD⟩ : ∃ old, Hid ((curB B J).getD J 0 = old) := ⟨_, rfl⟩
          rw [HOLD.out] at hcb
          obtain ⟨x, HX⟩ : ∃ x, Hid (B.getD J 0 = x) := ⟨_, rfl⟩
          rw [HX.out] at hcx
          have hfz : wr.frozen? ⟨wo.heap.size, J, none⟩ = false := by simp [World.frozen?, HFB.out]
          go_wp2
          refine ⟨⟨J + 1, by omega, by go_num, ?_, grown_tr HG.out (grown_sets _ _ _ _)⟩, by simp [intOf]; omega⟩
          show _ = _
          rw [← curB_step B J hlj hbl, HX.out, ← cellsB_set2]
          exact heap_setCell_same wr wo.heap.size J _ _ _ HFB.out
        · have hJ64 : J = 64 := by omega
          subst hJ64
          have HCB : Hid (curB B 64 = B) := by
            show _ = _
            unfold curB
            rw [List.take_of_length_le (by omega), List.drop_eq_nil_of_le (by rw [List.length_replicate]; omega), List.append_nil]
          rw [HCB.out] at HFB
          obtain ⟨mb, HMB2⟩ : ∃ mb, Hid (cellsB B = mb) := ⟨_, rfl⟩
          obtain ⟨mw, HMW⟩ : ∃ mw, Hid (cellsW W = mw) := ⟨_, rfl⟩
          obtain ⟨mx, HMX⟩ : ∃ mx, Hid (cellsW (mixL W B) = mx) := ⟨_, rfl⟩
          have CM := hid (rmix_any wr W B H8.out hbl HBB.out)
          rw [HMB2.out, HMW.out, HMX.out] at CM
          rw [HMB2.out] at HFB
          have HFW : Hid (wr.heap[w5.heap.size]? = some (.cells mw 25 (0, 0))) := by
            show _ = _
            rw [HB8.out.block _ (by have := World.block_lt_of_cell? wo ⟨w5.heap.size, 0, none⟩ (u := .int .u32 ((W.getD 0 0 : Nat) : Int)) (by rw [cell_of_row wo w5.heap.size 0 _ _ _ HF.out]; exact cellsW_get (by rw [H8.out.1]; decide)); exact this), ← HMW.out]
            exact HF.out
          have hmws : mw.size = 8 := by rw [← HMW.out, cellsW_size, H8.out.1]
          have hmxs : mx.size = 8 := by rw [← HMX.out, cellsW_size, H8.out.mix.1]
          have hmbs : mb.size = 64 := by rw [← HMB2.out]; simp [cellsB, hbl]
          have HIb : Hid ((Tryd.prog.info? 28).map (·.size) = some mb.size) := by rw [hmbs]; exact size_b64
          have HIw : Hid ((Tryd.prog.info? 25).map (·.size) = some mw.size) := by rw [hmws]; exact size_w8
          have HIx : Hid ((Tryd.prog.info? 25).map (·.size) = some mx.size) := by rw [hmxs]; exact size_w8
          have HWX : Hid (mw.size = mx.size) := by rw [hmws, hmxs]; exact rfl
          have H1x : Hid (mx.all (·.oneCell') = true) := by rw [← HMX.out]; exact cellsW_one _
          clear hmws hmxs hmbs
          go_wp2_with (first | (refine wpList_load_row rfl 25 _ rfl w5.heap.size rfl 25 mw (0, 0) _ HFW.out Tryd.underlying25 rfl HIw.out ?_) | (refine wpList_load_row rfl 28 _ rfl wo.heap.size rfl 28 mb (0, 0) _ HFB.out Tryd.underlying28 rfl HIb.out ?_))
          refine CM.out.mono ?_
          rintro e w8 ⟨rfl, hB8⟩
          have hw5r : w5.heap.size < wr.heap.size := by have h1 := HB8.out.size; have h2 := HG.out.size; omega
          have HF8 : Hid (w8.heap[w5.heap.size]? = some (.cells mw 25 (0, 0))) := (hB8.block _ hw5r).trans HFW.out
          have HF9 : Hid ((w8.setRow w5.heap.size mx).heap[w5.heap.size]? = some (.cells mx 25 (0, 0))) := setRow_heap _ _ _ _ _ _ HF8.out
          have HB9 := hid (below_setRow ((HBk.out.trans (HB8.out.mono HBk.out.size)).trans (hB8.mono (Nat.le_trans HBk.out.size HB8.out.size))) (g := w5.heap.size) (Nat.le_refl _) mx)
          clear hB8
          go_wp2_with (refine wpList_store_row rfl 25 _ _ rfl w5.heap.size mx rfl rfl 25 _ HF8.out HIx.out HWX.out H1x.out ?_)
          refine ⟨⟨k + 1, I + 64, by have := HIK.out; omega, by omega, by go_num, ?_, HB9⟩, by simp [intOf]; omega⟩
          show _ = _
          rw [HW1.out, HMX.out]
          exact HF9.out
    · have hIe : I = n + q := by have := HIK.out; omega
      have HWE : Hid (wAt M k = wAt (padded m) ((padded m).length / 64)) := by
        show _ = _
        have h1 : (padded m).length / 64 = k := by rw [HPM.out, HML.out]; have := HIK.out; omega
        rw [h1, HPM.out]
      obtain ⟨W, HW⟩ : ∃ W, Hid (wAt M k = W) := ⟨_, rfl⟩
      rw [HW.out] at HF h8 HWE
      have H8 := hid h8
      obtain ⟨D, HD⟩ : ∃ D, Hid (W.flatMap (bigL 4) = D) := ⟨_, rfl⟩
      have HDG : Hid (digL m = D) := by show _ = _; rw [← HD.out, HWE.out]; rfl
      have hDl : D.length = 32 := by rw [← HDG.out, digL_length]
      have hwol : w5.heap.size < wo.heap.size := World.block_lt_of_cell? wo ⟨w5.heap.size, 0, none⟩ (u := .int .u32 ((W.getD 0 0 : Nat) : Int)) (by rw [cell_of_row wo w5.heap.size 0 _ _ _ HF.out]; exact cellsW_get (by rw [H8.out.1]; decide))
      have HBo5 : Hid (Below w4.heap.size w4 wo) := HB5.out.trans (HBk.out.mono HB5.out.size)
      have HBo : Hid (Below w.heap.size w wo) := HB4.out.trans (HBo5.out.mono HB4.out.size)
      have hw4 : w.heap.size < w4.heap.size := by have := HB04.out.size; have := HS0.out; omega
      have hwwo : w.heap.size < wo.heap.size := by have := HBo5.out.size; omega
      have HRo : Hid (wo.heap[w.heap.size]? = some (.cells zd 52 (0, 0))) := (HBo5.out.block _ hw4).trans HRR4.out
      obtain ⟨W7, hW7⟩ : ∃ W7, Hid (wo.alloc (.cells zd 52) = W7) := ⟨_, rfl⟩
      have HB7 : Hid (Below wo.heap.size wo W7) := by rw [← hW7.out]; exact (Below.refl _ wo).alloc (Nat.le_refl _) _
      have HS7 : Hid (W7.heap.size = wo.heap.size + 1) := by rw [← hW7.out]; refine hid ?_; simp
      have HR7 : Hid (W7.heap[wo.heap.size]? = some (.cells (cellsB (curE D 0)) 52 (0, 0))) := by
        rw [← hW7.out, show cellsB (curE D 0) = zd from HZD.out]
        exact heap_alloc_new wo _
      have HRr7 : Hid (W7.heap[w.heap.size]? = some (.cells zd 52 (0, 0))) := (HB7.out.block _ (by omega)).trans HRo.out
      have HF7 : Hid (W7.heap[w5.heap.size]? = some (.cells (cellsW W) 25 (0, 0))) := (HB7.out.block _ hwol).trans HF.out
      clear h8 hlt
      go_wp2_with (refine wpList_alloc_digest rfl rfl ?_; rw [HZD.out, hW7.out])
      clear hW7
      go_loopw [11] (fun i wq => ∃ J : Nat, J ≤ 32 ∧ i = .int .i64 J ∧ Hid (wq.heap[wo.heap.size]? = some (.cells (cellsB (curE D J)) 52 (0, 0))) ∧ Hid (W7.grownBy wq (some wo.heap.size))) (fun i _ => 32 - (intOf i).toNat)
      case atStart => exact ⟨0, Nat.zero_le _, rfl, HR7, ⟨rfl, rfl, rfl, Nat.le_refl _, fun _ _ _ => rfl⟩⟩
      case round =>
        obtain ⟨J, hJ, rfl, HFB, HG⟩ := hrel
        by_cases hlj : J < 32
        · obtain ⟨a, r, HJ⟩ : ∃ a r, Hid (J = 4 * a + r ∧ r < 4) := ⟨J / 4, J % 4, by show _ ∧ _; omega⟩
          have ha8 : a < 8 := by have := HJ.out; omega
          have HGD := hid (dig_get H8.out a r ha8 HJ.out.2)
          rw [HD.out, ← HJ.out.1] at HGD
          obtain ⟨x, HX⟩ : ∃ x, Hid (W.getD a 0 = x) := ⟨_, rfl⟩
          rw [HX.out] at HGD
          have hxl : x < 4294967296 := by rw [← HX.out]; exact getW_lt H8.out.2 a
          have cw : wr.cell? ⟨w5.heap.size, a, none⟩ = some (.int .u32 (x : Int)) := by
            rw [cell_of_row wr w5.heap.size a _ _ _ ((HG.out.block w5.heap.size (by have := HS7.out; omega) (by simp; omega)).trans HF7.out), cellsW_get (by rw [H8.out.1]; exact ha8), HX.out]
          have hcb : wr.cell? ⟨wo.heap.size, J, none⟩ = some (.int .u8 ((curE D J).getD J 0)) := by
            rw [cell_of_row wr wo.heap.size J _ _ _ HFB.out]
            have hj2 : J < (curE D J).length := by rw [curE_length D J (by omega) hDl]; omega
            simp [cellsB, List.getD, List.getElem?_eq_getElem hj2]
          obtain ⟨old, HOLD⟩ : ∃ old, Hid ((curE D J).getD J 0 = old) := ⟨_, rfl⟩
          rw [HOLD.out] at hcb
          have hfz : wr.frozen? ⟨wo.heap.size, J, none⟩ = false := by simp [World.frozen?, HFB.out]
          have e1 : Int.tdiv (J : Int) 4 = (a : Int) := by have := HJ.out; rw [Int.tdiv_eq_ediv_of_nonneg (by omega)]; omega
          have FIN : Hid (∀ y : Int, y = D.getD J 0 → Hid ((wr.setCell ⟨wo.heap.size, J, none⟩ (.int .u8 y)).heap[wo.heap.size]? = some (.cells (cellsB (curE D (J + 1))) 52 (0, 0)))) := fun y hy => by
            rw [← curE_step D J hlj hDl, ← hy, ← cellsB_set2]
            exact heap_setCell_same wr wo.heap.size J _ _ _ HFB.out
          have hr4 : r = 0 ∨ r = 1 ∨ r = 2 ∨ r = 3 := by have := HJ.out.2; omega
          rcases hr4 with rfl | rfl | rfl | rfl
          · have e2 : Int.tmod (J : Int) 4 = 0 := by have := HJ.out; rw [Int.tmod_eq_emod_of_nonneg (by omega)]; omega
            go_wp2
            exact ⟨⟨J + 1, by omega, by go_num, FIN.out _ (by rw [HGD.out]; simp; try omega), grown_tr HG.out (grown_sets _ _ _ _)⟩, by simp [intOf]; omega⟩
          · have e2 : Int.tmod (J : Int) 4 = 1 := by have := HJ.out; rw [Int.tmod_eq_emod_of_nonneg (by omega)]; omega
            go_wp2
            exact ⟨⟨J + 1, by omega, by go_num, FIN.out _ (by rw [HGD.out]; simp; try omega), grown_tr HG.out (grown_sets _ _ _ _)⟩, by simp [intOf]; omega⟩
          · have e2 : Int.tmod (J : Int) 4 = 2 := by have := HJ.out; rw [Int.tmod_eq_emod_of_nonneg (by omega)]; omega
            go_wp2
            exact ⟨⟨J + 1, by omega, by go_num, FIN.out _ (by rw [HGD.out]; simp; try omega), grown_tr HG.out (grown_sets _ _ _ _)⟩, by simp [intOf]; omega⟩
          · have e2 : Int.tmod (J : Int) 4 = 3 := by have := HJ.out; rw [Int.tmod_eq_emod_of_nonneg (by omega)]; omega
            go_wp2
            exact ⟨⟨J + 1, by omega, by go_num, FIN.out _ (by rw [HGD.out]; simp; try omega), grown_tr HG.out (grown_sets _ _ _ _)⟩, by simp [intOf]; omega⟩
        · have hJ32 : J = 32 := by omega
          subst hJ32
          have HCE : Hid (curE D 32 = D) := by
            show _ = _
            unfold curE
            rw [List.take_of_length_le (by omega), List.drop_eq_nil_of_le (by rw [zeros32_length]; omega), List.append_nil]
          rw [HCE.out] at HFB
          obtain ⟨dm, HDM⟩ : ∃ dm, Hid (cellsB D = dm) := ⟨_, rfl⟩
          rw [HDM.out] at HFB
          have hds : dm.size = 32 := by rw [← HDM.out]; simp [cellsB, hDl]
          have SD : Hid ((Tryd.prog.info? 52).map (·.size) = some dm.size) := by rw [hds]; exact size_digest
          have OD : Hid (dm.all (·.oneCell') = true) := by
            rw [← HDM.out]
            exact all_oneCell_toArray (fun v hv => by obtain ⟨x, _, rfl⟩ := List.mem_map.1 hv; rfl)
          have ZD : Hid (zd.size = dm.size) := by rw [hds, ← HZD.out]; rfl
          have HRf : Hid (wr.heap[w.heap.size]? = some (.cells zd 52 (0, 0))) := (HG.out.block w.heap.size (by have := HS7.out; omega) (by simp; omega)).trans HRr7.out
          have HBF := hid (below_setRow (HBo.out.trans ((HB7.out.grown HG.out HB7.out.size (fun k e => by cases e; exact Nat.le_refl _)).mono HBo.out.size)) (g := w.heap.size) (Nat.le_refl _) dm)
          clear hds hlj
          go_wp2_with (first | (refine wpList_load_row rfl 52 _ rfl wo.heap.size rfl 52 dm (0, 0) _ HFB.out Tryd.underlying52 rfl SD.out ?_) | (refine wpList_store_row rfl 52 _ _ rfl w.heap.size dm rfl rfl 52 _ HRf.out SD.out ZD.out OD.out ?_))
          refine bodyPost_ret (v := .agg dm) (results_cell_row (p := 2) (ty := 52) rfl _ _ w.heap.size 52 dm (0, 0) _ rfl (setRow_heap _ _ _ _ _ _ HRf.out) Tryd.underlying52 rfl SD.out) rfl ?_
          exact ⟨by rw [HDG.out, HDM.out], HBF.out⟩
set_option maxHeartbeats 1000000 in
theorem rjoin2_any (w : World) (v : Value) (ls : List (List Int)) (h : HL w v ls) (hbig : ls.flatten.length ≤ 140737488355328) :
    Calls Tryd.prog 36 #[v] w fun e w' => ∃ v', e = .returned v' ∧ w'.ownsRow w.heap.size 5 1 v' ls.flatten.length (ls.flatten.map (Value.int .u8)) ∧ Below w.heap.size w w' := by
  obtain ⟨p, c, e, hlc, hm⟩ := h.open
  unfold maxLen at hm
  have A : Hid (0 < ls.length → ∃ b off, p = some ⟨b, off, none⟩ ∧ ∀ j, j < ls.length → ∃ u, w.cell? ⟨b, off + j, none⟩ = some u ∧ HB w u (ls.getD j [])) := by
    intro h0
    obtain ⟨b, off, c', e', _, _, hh⟩ := h.ne h0
    rw [e] at e'
    simp only [Value.slice.injEq, true_and] at e'
    exact ⟨b, off, e'.1, hh⟩
  clear h
  subst e
  obtain ⟨fl, HF⟩ : ∃ fl : List Int, Hid (fl = ls.flatten) := ⟨_, rfl⟩
  rw [← HF.out] at hbig ⊢
  obtain ⟨N, HN⟩ : ∃ N, Hid (N = fl.length) := ⟨_, rfl⟩
  rw [← HN.out] at hbig ⊢
  go_enter Tryd.func36, Tryd.ntmps36
  go_wp2
  go_loopw [3, 4] (fun o i wr => ∃ k : Nat, k ≤ ls.length ∧ i = .int .i64 k ∧ wr.ownsRow w.heap.size 5 1 o (flatTo ls k).length ((flatTo ls k).map (Value.int .u8)) ∧ Below w.heap.size w wr) (fun _ i _ => ls.length - (intOf i).toNat)
  case atStart => exact ⟨0, Nat.zero_le _, rfl, World.ownsRow_nil _ _ _ _, Below.refl _ _⟩
  case round =>
    obtain ⟨k, hk, rfl, hown, hB⟩ := hrel
    by_cases hlt : k < ls.length
    · obtain ⟨b, off, rfl, hh⟩ := A.out (by omega)
      obtain ⟨u, hu0, hb⟩ := hh k hlt
      have hu : wr.cell? ⟨b, off + k, none⟩ = some u := (hB.cell (World.block_lt_of_cell? w _ hu0)).trans hu0
      have HBu := hid (hb.below hB)
      have HS : Hid (flatTo ls (k + 1) = flatTo ls k ++ ls.getD k []) := flat_snoc ls k hlt
      have HL2 : Hid ((flatTo ls k).length + (ls.getD k []).length ≤ 140737488355328) := by
        have := flat_take_le ls (k + 1)
        rw [flat_snoc ls k hlt, List.length_append, ← HF.out, ← HN.out] at this
        exact Nat.le_trans this hbig
      have HO := hid hown
      have HBel := hid hB
      obtain ⟨lk, HK⟩ : ∃ lk, Hid (lk = ls.getD k []) := ⟨_, rfl⟩
      rw [← HK.out] at HBu HS HL2 hb
      obtain ⟨p2, c2, hu2, _, _⟩ := hb.open
      clear hh hb hu0 hown hB
      subst hu2
      go_wp2_with (at_builtin; refine wpList_append_HB rfl _ _ rfl w.heap.size _ _ _ rfl HO.out _ _ rfl HBu.out ?q1 ?q2 ?_)
      case q1 => exact HL2.out
      case q2 => exact HBel.out.size
      intro v' w2 hown2 hgr2
      have HO2 : Hid (w2.ownsRow w.heap.size 5 1 v' (flatTo ls (k + 1)).length ((flatTo ls (k + 1)).map (Value.int .u8))) := by
        show World.ownsRow _ _ _ _ _ _ _
        rw [HS.out, List.length_append, List.map_append]
        exact hown2
      have HB2 : Hid (Below w.heap.size w w2) := HBel.out.grown hgr2 HBel.out.size (fun k e => (HO.out.lt k e).1)
      clear hown2 hgr2
      go_wp2
      exact ⟨⟨k + 1, by omega, by go_num, HO2.out, HB2.out⟩, by simp [intOf]; omega⟩
    · have HK : Hid (flatTo ls k = fl) := by
        show _ = _
        unfold flatTo
        rw [List.take_of_length_le (by omega), HF.out]
      go_wp2
      go_ret
      refine ⟨_, rfl, ?_, hB⟩
      rw [HK.out, ← HN.out] at hown
      exact hown
end Go.Proofs.YtinahldjpobigaaDoor
namespace Go.Proofs.YtinahldjpobigaaDoor
open Go Go.RowKit
structure XB (B : Nat) (w : World) (vF vE : Value) (fU eU : List Value) (n : Nat) (ln : Nat → Nat) (ms : Nat → List Int) : Prop where
  f : w.ownsRow B 32 1 vF (n + 70) fU
  e : w.ownsRow B 32 1 vE n eU
  r : ∀ j, j < n → (ms j).length = ln j + 70 ∧ (∀ x ∈ ms j, 0 ≤ x ∧ x < 256) ∧ w.ownsRow B 5 1 (eU.getD j undef) (ms j).length ((ms j).map (Value.int .u8))
theorem below_thenT {A B C : World} (h1 : Below A.heap.size A B) (h2 : Below B.heap.size B C) : Below A.heap.size A C := h1.trans (h2.mono h1.size)
theorem own_blkT {w w1 : World} {B n : Nat} {e : TypeId} {v : Value} {xs : List Value} (h : w.ownsRow B e 1 v n xs) (hb : ∀ k, v.ownBlock = some k → w1.heap[k]? = w.heap[k]?) : w1.ownsRow B e 1 v n xs := by
  refine ⟨h.1, ?_⟩
  rcases h.2 with hn | ⟨g, cap, cur, rfl, h1, h2, rest⟩
  · exact .inl hn
  · exact .inr ⟨g, cap, cur, rfl, h1, (hb g rfl).trans h2, rest⟩
theorem XB.below {B n : Nat} {w w' : World} {vF vE : Value} {fU eU : List Value} {ln : Nat → Nat} {ms : Nat → List Int} (h : XB B w vF vE fU eU n ln ms) (hb : Below w.heap.size w w') : XB B w' vF vE fU eU n ln ms :=
  ⟨own_blkT h.f fun k e => hb.block _ (h.f.lt k e).2, own_blkT h.e fun k e => hb.block _ (h.e.lt k e).2, fun j hj => ⟨(h.r j hj).1, (h.r j hj).2.1, own_blkT (h.r j hj).2.2 fun k e => hb.block _ ((h.r j hj).2.2.lt k e).2⟩⟩
theorem XL.xb {B : Nat} {w : World} {vL vF vE : Value} {fU eU : List Value} {ls : List (List Int)} (h : XL B w vL vF vE fU eU ls) (hb : ∀ j, ∀ x ∈ ls.getD j [], 0 ≤ x ∧ x < 256) : XB B w vF vE fU eU ls.length (fun j => (ls.getD j []).length) (fun j => lent (ls.getD j [])) := by
  obtain ⟨h1, h2, h3, h4, h5, h6, h7⟩ := h
  refine ⟨h1, h2, fun j hj => ⟨lent_length _, lent_byt (hb j), ?_⟩⟩
  have hl : eU.length = ls.length := by have := h4.1; simpa using this
  have ho := h4.2.1 j (by omega)
  rw [getD_map_lent ls j hj] at ho
  exact ho
def cutL (n : Nat) (ln : Nat → Nat) (ms : Nat → List Int) : List (List Int) := (List.range n).map fun j => (ms j).take (ln j)
theorem cutL_length (n : Nat) (ln : Nat → Nat) (ms : Nat → List Int) : (cutL n ln ms).length = n := by simp [cutL]
theorem cutL_get (n : Nat) (ln : Nat → Nat) (ms : Nat → List Int) (j : Nat) (h : j < n) : (cutL n ln ms).getD j [] = (ms j).take (ln j) := by simp [cutL, List.getD, h]
theorem flat_len : ∀ (a b : List (List Int)), a.length = b.length → (∀ j, j < a.length → (a.getD j []).length = (b.getD j []).length) → a.flatten.length = b.flatten.length
  | [], [], _, _ => rfl
  | [], _ :: _, h, _ => by cases h
  | _ :: _, [], h, _ => by cases h
  | x :: a, y :: b, h, hh => by
    have h0 := hh 0 (by simp)
    have ih := flat_len a b (by simpa using h) fun j hj => by have := hh (j + 1) (by simp; omega); simpa using this
    simp only [List.flatten_cons, List.length_append]
    simp at h0
    omega
theorem cutL_flat {ls : List (List Int)} {ms : Nat → List Int} (h : ∀ j, j < ls.length → (ms j).length = (ls.getD j []).length + 70) : (cutL ls.length (fun j => (ls.getD j []).length) ms).flatten.length = ls.flatten.length := by
  refine flat_len _ _ (cutL_length _ _ _) fun j hj => ?_
  rw [cutL_length] at hj
  rw [cutL_get _ _ _ _ hj, List.length_take, h j hj]
  omega
theorem XB.hl {B n : Nat} {w : World} {vF vE : Value} {fU eU : List Value} {ln : Nat → Nat} {ms : Nat → List Int} (h : XB B w vF vE fU eU n ln ms) (he : ∀ j, j < n → ∃ p c, eU.getD j undef = .slice p (ln j + 70) c ∧ fU.getD j undef = .slice p (ln j) c) {p : Option Addr} {c : Nat} (hv : vF = .slice p (n + 70) c) : HL w (.slice p n c) (cutL n ln ms) := by
  obtain ⟨g, c', e, _, hc, hm, hcell⟩ := own_cells h.f (by omega)
  rw [hv] at e
  simp only [Value.slice.injEq, true_and] at e
  obtain ⟨rfl, rfl⟩ := e
  refine ⟨_, c, by rw [cutL_length], by rw [cutL_length]; omega, hm, (fun e => by cases e), fun _ => ⟨g, 0, rfl, fun j hj => ?_⟩⟩
  rw [cutL_length] at hj
  obtain ⟨q, d, e1, e2⟩ := he j hj
  obtain ⟨r1, r2, r3⟩ := h.r j hj
  refine ⟨_, by rw [Nat.zero_add]; exact hcell j (by omega), ?_⟩
  rw [cutL_get _ _ _ _ hj, e2]
  rw [e1] at r3
  obtain ⟨g2, c2, e3, _, hc2, hm2, _⟩ := own_cells r3 (by omega)
  simp only [Value.slice.injEq] at e3
  obtain ⟨rfl, _, rfl⟩ := e3
  exact own_pre r3 r2 (ln j) (by omega) (by omega)
theorem yieldsIf_load_digS {ops : Array Oper} {S : World → Prop} {op : Oper} {a : Act} (hw : Region.wanted op (yielded ops a.tmps) = true) (x : Operand) (ho : op.op = .load 52 x)
    (b o : Nat) (hx : a.eval x = .pointer (some ⟨b, o, none⟩)) (cs : List Value) (dm : Array Value) (he : cs.toArray = dm) (hS : ∀ w, S w → w.rangeAt b o cs)
    (hi : (Tryd.prog.info? 52).map (·.size) = some cs.length) : YieldsIf Tryd.prog ops S op (.agg dm) a := by
  subst he
  exact yieldsIf_load_mid hw 52 x ho b o hx cs _ hS Tryd.underlying52 rfl hi
theorem yieldsIf_load_lstS {ops : Array Oper} {S : World → Prop} {op : Oper} {a : Act} (hw : Region.wanted op (yielded ops a.tmps) = true) (x : Operand) (ho : op.op = .load 69 x)
    (b : Nat) (hx : a.eval x = .pointer (some ⟨b, 0, none⟩)) (u1 u2 u3 : Value) (hS : ∀ w, S w → w.heap[b]? = some (.cells #[u1, u2, u3] 69 (0, 0))) : YieldsIf Tryd.prog ops S op (.agg #[u1, u2, u3]) a :=
  yieldsIf_load_mid hw 69 x ho b 0 hx [u1, u2, u3] _ (fun w hw' j u hu => by rw [Nat.zero_add, cell_of_row w b j _ _ _ (hS w hw')]; simpa using hu) Tryd.underlying69 rfl size_lists
set_option maxRecDepth 100000 in
set_option maxHeartbeats 16000000 in
theorem summed_any (w : World) (v : Value) (ls : List (List Int)) (h : HL w v ls) (hn : ls.length ≤ 1048576) (hb : ∀ j, (ls.getD j []).length ≤ 1048576) (hbt : ∀ j, ∀ x ∈ ls.getD j [], 0 ≤ x ∧ x < 256) (hf : ls.flatten.length ≤ 1099511627776) (hk : KC w) :
    Calls Tryd.prog 12 #[v] w fun e w' => e = .returned (.bool true) ∧ Below w.heap.size w w' := by
  obtain ⟨zd, HZD⟩ : ∃ zd, Hid (cellsB zeros32 = zd) := ⟨_, rfl⟩
  have C1 := hid (lentLists_any w v ls h hn hb)
  have HH := hid h
  have HK := hid hk
  have HN := hid hn
  have HBL := hid hb
  have HBT := hid hbt
  have HF := hid hf
  obtain ⟨p, c, rfl, _, _⟩ := h.open
  obtain ⟨n, HNl⟩ : ∃ x, Hid (ls.length = x) := ⟨_, rfl⟩
  rw [HNl.out] at C1 hn ⊢
  have HHv : Hid (HL w (.slice p n c) ls) := by rw [← HNl.out]; exact HH
  clear h hk hb hbt hf HH
  go_enter Tryd.func12, Tryd.ntmps12
  go_wp2_with fail
  refine C1.out.mono ?_
  rintro e w1 ⟨vL, vF, vE, fU, eU, rfl, hx, hb1⟩
  have B1 := hid hb1
  have X1 := hid hx
  have XB1 := hid (hx.xb HBT.out)
  have HE := hid hx.2.2.2.2.1
  have HAP := hid hx.2.2.2.1.2.2
  have hel : Hid (eU.length = n) := by have := hx.2.2.2.1.1; rw [← HNl.out]; exact hid (by simpa using this)
  obtain ⟨pE, cE, eE⟩ := own_slice hx.2.1
  obtain ⟨pF, cF, eF, eL⟩ := hx.2.2.2.2.2.2
  rw [HNl.out] at eE eF eL XB1 HE
  subst eE eF eL
  clear hx hb1 C1
  obtain ⟨w2, HW2⟩ : ∃ x, Hid (w1.alloc (.cells #[.slice pF n cF, .slice pF (n + 70) cF, .slice pE n cE] 69) = x) := ⟨_, rfl⟩
  have b12 : Below w1.heap.size w1 w2 := by rw [← HW2.out]; exact (Below.refl _ w1).alloc (Nat.le_refl _) _
  have K2 : Hid (w2.heap[w1.heap.size]? = some (.cells #[.slice pF n cF, .slice pF (n + 70) cF, .slice pE n cE] 69 (0, 0))) := by rw [← HW2.out]; exact heap_alloc_new w1 _
  have B2 := hid (below_thenT B1.out b12)
  have XB2 := hid (XB1.out.below b12)
  have CJ := hid (rjoin2_any w2 _ ls (HHv.out.below B2.out) (by have := HF.out; omega))
  clear b12
  go_wp2_with fail
  rw [HW2.out]
  refine CJ.out.mono ?_
  rintro e w3 ⟨v3, rfl, ho3, hb3⟩
  obtain ⟨F, HFF⟩ : ∃ x, Hid (ls.flatten = x) := ⟨_, rfl⟩
  rw [HFF.out] at ho3
  have hfl : F.length ≤ 1099511627776 := by rw [← HFF.out]; exact HF.out
  have HFB : ∀ x ∈ F, 0 ≤ x ∧ x < 256 := fun x hx => by
    rw [← HFF.out, List.mem_flatten] at hx
    obtain ⟨l, hl, hx⟩ := hx
    obtain ⟨j, hj, rfl⟩ := List.mem_iff_getElem.1 hl
    exact HBT.out j x (by simpa [List.getD, List.getElem?_eq_getElem hj] using hx)
  have CS := hid (rsum_any w3 v3 F (HB.of_own ho3 HFB) (by omega))
  obtain ⟨D, HD⟩ : ∃ D, Hid (digL F = D) := ⟨_, rfl⟩
  obtain ⟨dm, HDM⟩ : ∃ dm, Hid (cellsB D = dm) := ⟨_, rfl⟩
  have HDl : Hid (D.length = 32) := by rw [← HD.out]; exact hid (digL_length _)
  rw [HD.out, HDM.out] at CS
  have B3 := hid hb3
  clear ho3 hb3 CJ
  go_wp2_with fail
  refine CS.out.mono ?_
  rintro e w4 ⟨rfl, hb4⟩
  have B24 := hid (below_thenT B3.out hb4)
  clear hb4 CS
  have hdms : dm.size = 32 := by rw [← HDM.out]; simp [cellsB, HDl.out]
  have zds : zd.size = 32 := by rw [← HZD.out]; rfl
  have ODM : Hid (dm.all (·.oneCell') = true) := by
    rw [← HDM.out]
    exact hid (all_oneCell_toArray fun v hv => by obtain ⟨x, _, rfl⟩ := List.mem_map.1 hv; rfl)
  have HR4 : Hid ((w4.alloc (.cells zd 52)).heap[w4.heap.size]? = some (.cells zd 52 (0, 0))) := hid (heap_alloc_new w4 _)
  have SZD : Hid ((Tryd.prog.info? 52).map (·.size) = some dm.size) := by rw [hdms]; exact hid (by kernel_rfl)
  obtain ⟨w5, HW5⟩ : ∃ x, Hid ((w4.alloc (.cells zd 52)).setRow w4.heap.size dm = x) := ⟨_, rfl⟩
  have B45 : Hid (Below w4.heap.size w4 w5) := by rw [← HW5.out]; exact hid (below_setRow ((Below.refl _ w4).alloc (Nat.le_refl _) _) (Nat.le_refl _) dm)
  have R5 : Hid (w5.rangeAt w4.heap.size 0 (D.map (Value.int .u8))) := by
    have e : w5.heap[w4.heap.size]? = some (.cells dm 52 (0, 0)) := by rw [← HW5.out]; exact setRow_heap _ _ _ _ _ _ HR4.out
    refine hid fun j u hu => ?_
    rw [Nat.zero_add, cell_of_row w5 _ _ _ _ _ e, ← HDM.out]
    simpa [cellsB] using hu
  have B5 := hid (below_thenT B24.out B45.out)
  have X5 := hid (XB2.out.below B5.out)
  have hD5 : Hid ((Tryd.prog.info? 52).map (·.size) = some (D.map (Value.int .u8)).length) := by rw [List.length_map, HDl.out]; exact hid (by kernel_rfl)
  have HDA : Hid ((D.map (Value.int .u8)).toArray = dm) := HDM
  go_wp2_with (first | (refine wpList_alloc_digest rfl rfl ?_; rw [HZD.out]) | (refine wpList_store_row rfl 52 _ _ rfl w4.heap.size dm rfl rfl 52 _ HR4.out SZD.out (by rw [zds, hdms]) ODM.out ?_; rw [HW5.out]) | fail)
  have K5 : Hid (w5.heap[w1.heap.size]? = some (.cells #[.slice pF n cF, .slice pF (n + 70) cF, .slice pE n cE] 69 (0, 0))) := hid ((B5.out.block _ (Array.getElem?_eq_some_iff.1 K2.out).1).trans K2.out)
  have Bw5 := hid (below_thenT B2.out B5.out)
  have X15 := hid (below_thenT (by rw [← HW2.out]; exact (Below.refl _ w1).alloc (Nat.le_refl _) _ : Below w1.heap.size w1 w2) B5.out)
  have XL5 := hid (X1.out.away (grown_below (r := none) X15.out) (fun k e => by cases e))
  have hls5 := XL5.out.hl HBT.out
  have L5 := hid hls5
  have SM := hid fun W (hW : Below w5.heap.size w5 W) => sums_any W _ ls (hls5.below hW) ((HK.out.below Bw5.out).below hW) (by have := HF.out; omega)
  rw [HFF.out, HD.out, HDM.out] at SM
  have KL := hid fun W (hW : Below w5.heap.size w5 W) => keptLists_any w.heap.size W _ _ _ _ fU eU ls (XL5.out.away (grown_below (r := none) hW) (fun k e => by cases e)) (HHv.out.below (below_thenT Bw5.out hW)) HN.out (fun j => ⟨HBL.out j, HBT.out j⟩)
  have hne : ∀ W, (binOp .neq 52 (.agg dm) (.agg dm)).run Tryd.prog W = .ok (.bool false) W := fun W => by
    have := run_neq_bytes W 32 52 Tryd.underlying52 D D HDl.out HDl.out
    rw [decide_eq_true rfl, HDM.out] at this
    exact this
  have LT1 := hid (Array.getElem?_eq_some_iff.1 K5.out).1
  have LT4 : Hid (w4.heap.size < w5.heap.size) := by rw [← HW5.out]; exact hid (by simp [World.setRow])
  have CF := hid (fun (W : World) (hW : W.heap[w1.heap.size]? = some (.cells #[.slice pF n cF, .slice pF (n + 70) cF, .slice pE n cE] 69 (0, 0))) => (cell_of_row W w1.heap.size 0 _ _ _ hW).trans (show _ = some (Value.slice pF n cF) from rfl))
  clear hls5
  go_wp2_with fail
  refine wp_region_held_drew (S := (fun W : World => W.heap[w1.heap.size]? = some (.cells #[.slice pF n cF, .slice pF (n + 70) cF, .slice pE n cE] 69 (0, 0)) ∧ W.rangeAt w4.heap.size 0 (D.map (Value.int .u8)))) (by kernel_rfl) ⟨K5.out, R5.out⟩ (fun hHeld => ?_)
  have HS := hid hHeld
  clear hHeld
  change wpAnyH _ _ _ _ _ _ _ _ (World.drew _)
  have d5 : Hid (Below w5.heap.size w5 w5.drew) := (Dr.one w5 1).below _
  refine wpAnyH_take (i := 0) (v := ?_) rfl (by kernel_rfl) (by kernel_rfl) (by kernel_rfl) (fun _ _ _ h => h) (Or.inl ⟨by rfl, ?q0⟩) HS.out ?_
  case q0 => intro w hSw; obtain ⟨hk1, hr1⟩ := hSw; have hc0 := CF.out _ hk1; go_simp; rfl
  simp only [Act.put, List.getElem_toArray, List.getElem_cons_zero, List.getElem_cons_succ, List.setIfInBounds_toArray, List.set_cons_zero, List.set_cons_succ]
  refine wpAnyH_take (i := 1) (v := ?_) rfl (by kernel_rfl) (by kernel_rfl) (by kernel_rfl) (fun _ _ _ h => h) (Or.inl ⟨by rfl, ?q1⟩) HS.out ?_
  case q1 => intro w hSw; obtain ⟨hk1, hr1⟩ := hSw; have hc0 := CF.out _ hk1; go_simp; rfl
  simp only [Act.put, List.getElem_toArray, List.getElem_cons_zero, List.getElem_cons_succ, List.setIfInBounds_toArray, List.set_cons_zero, List.set_cons_succ]
  refine wpAnyH_take (i := 3) rfl (by kernel_rfl) (by kernel_rfl) (by kernel_rfl) (fun _ _ _ h => h) (yieldsIf_load_digS (by rfl) _ rfl w4.heap.size 0 rfl (D.map (Value.int .u8)) dm HDA.out (fun _ hw => hw.2) hD5.out) HS.out ?_
  simp only [Act.put, List.getElem_toArray, List.getElem_cons_zero, List.getElem_cons_succ, List.setIfInBounds_toArray, List.set_cons_zero, List.set_cons_succ]
  refine wpAnyH_ready (rs := [2]) (by kernel_rfl) (by simp) ?_
  refine AllReadyH.cons rfl (fun K hK => ?_) AllReadyH.nil
  replace hK := hid hK
  go_simp
  refine (SM.out _ d5.out).mono ?_
  rintro e w6 ⟨rfl, hb6⟩
  have b6 := hid (d5.out.trans (show Below w5.heap.size w5.drew w6 from hb6))
  clear hb6 HS
  have HS : Hid (w6.heap[w1.heap.size]? = some (.cells #[.slice pF n cF, .slice pF (n + 70) cF, .slice pE n cE] 69 (0, 0)) ∧ w6.rangeAt w4.heap.size 0 (D.map (Value.int .u8))) := hid ⟨(b6.out.block _ LT1.out).trans K5.out, fun j u hu => (b6.out.cell (p := ⟨w4.heap.size, 0 + j, none⟩) LT4.out).trans (R5.out j u hu)⟩
  refine hK.out _ _ HS.out (fun _ => ?_)
  clear hK K
  try (simp only [Act.put, List.getElem_toArray, List.getElem_cons_zero, List.getElem_cons_succ, List.setIfInBounds_toArray, List.set_cons_zero, List.set_cons_succ])
  refine wpAnyH_take (i := 4) (v := ?_) rfl (by kernel_rfl) (by kernel_rfl) (by kernel_rfl) (fun _ _ _ h => h) (Or.inl ⟨by rfl, ?q4⟩) HS.out ?_
  case q4 => intro w hSw; obtain ⟨hk1, hr1⟩ := hSw; have hc0 := CF.out _ hk1; have := hne w; go_simp; rfl
  simp only [Act.put, List.getElem_toArray, List.getElem_cons_zero, List.getElem_cons_succ, List.setIfInBounds_toArray, List.set_cons_zero, List.set_cons_succ]
  refine wpAnyH_take (i := 5) (v := ?_) rfl (by kernel_rfl) (by kernel_rfl) (by kernel_rfl) (fun _ _ _ h => h) (Or.inl ⟨by rfl, ?q5⟩) HS.out ?_
  case q5 => intro w hSw; obtain ⟨hk1, hr1⟩ := hSw; have hc0 := CF.out _ hk1; go_simp; rfl
  simp only [Act.put, List.getElem_toArray, List.getElem_cons_zero, List.getElem_cons_succ, List.setIfInBounds_toArray, List.set_cons_zero, List.set_cons_succ]
  refine wpAnyH_take (i := 6) (v := ?_) rfl (by kernel_rfl) (by kernel_rfl) (by kernel_rfl) (fun _ _ _ h => h) (Or.inl ⟨by rfl, ?q6⟩) HS.out ?_
  case q6 => intro w hSw; obtain ⟨hk1, hr1⟩ := hSw; have hc0 := CF.out _ hk1; go_simp; rfl
  simp only [Act.put, List.getElem_toArray, List.getElem_cons_zero, List.getElem_cons_succ, List.setIfInBounds_toArray, List.set_cons_zero, List.set_cons_succ]
  refine wpAnyH_take (i := 7) (v := ?_) rfl (by kernel_rfl) (by kernel_rfl) (by kernel_rfl) (fun _ _ _ h => h) (Or.inl ⟨by rfl, ?q7⟩) HS.out ?_
  case q7 => intro w hSw; obtain ⟨hk1, hr1⟩ := hSw; have hc0 := CF.out _ hk1; go_simp; rfl
  simp only [Act.put, List.getElem_toArray, List.getElem_cons_zero, List.getElem_cons_succ, List.setIfInBounds_toArray, List.set_cons_zero, List.set_cons_succ]
  refine wpAnyH_take (i := 9) rfl (by kernel_rfl) (by kernel_rfl) (by kernel_rfl) (fun _ _ _ h => h) (yieldsIf_load_digS (by rfl) _ rfl w4.heap.size 0 rfl (D.map (Value.int .u8)) dm HDA.out (fun _ hw => hw.2) hD5.out) HS.out ?_
  simp only [Act.put, List.getElem_toArray, List.getElem_cons_zero, List.getElem_cons_succ, List.setIfInBounds_toArray, List.set_cons_zero, List.set_cons_succ]
  refine wpAnyH_ready (rs := [8]) (by kernel_rfl) (by simp) ?_
  refine AllReadyH.cons rfl (fun K hK => ?_) AllReadyH.nil
  replace hK := hid hK
  go_simp
  refine (SM.out _ b6.out).mono ?_
  rintro e w7 ⟨rfl, hb7⟩
  have b7 := hid (below_thenT b6.out hb7)
  clear hb7 HS
  have HS : Hid (w7.heap[w1.heap.size]? = some (.cells #[.slice pF n cF, .slice pF (n + 70) cF, .slice pE n cE] 69 (0, 0)) ∧ w7.rangeAt w4.heap.size 0 (D.map (Value.int .u8))) := hid ⟨(b7.out.block _ LT1.out).trans K5.out, fun j u hu => (b7.out.cell (p := ⟨w4.heap.size, 0 + j, none⟩) LT4.out).trans (R5.out j u hu)⟩
  refine hK.out _ _ HS.out (fun _ => ?_)
  clear hK K
  try (simp only [Act.put, List.getElem_toArray, List.getElem_cons_zero, List.getElem_cons_succ, List.setIfInBounds_toArray, List.set_cons_zero, List.set_cons_succ])
  refine wpAnyH_take (i := 10) (v := ?_) rfl (by kernel_rfl) (by kernel_rfl) (by kernel_rfl) (fun _ _ _ h => h) (Or.inl ⟨by rfl, ?q10⟩) HS.out ?_
  case q10 => intro w hSw; obtain ⟨hk1, hr1⟩ := hSw; have hc0 := CF.out _ hk1; have := hne w; go_simp; rfl
  simp only [Act.put, List.getElem_toArray, List.getElem_cons_zero, List.getElem_cons_succ, List.setIfInBounds_toArray, List.set_cons_zero, List.set_cons_succ]
  refine wpAnyH_take (i := 11) (v := ?_) rfl (by kernel_rfl) (by kernel_rfl) (by kernel_rfl) (fun _ _ _ h => h) (Or.inl ⟨by rfl, ?q11⟩) HS.out ?_
  case q11 => intro w hSw; obtain ⟨hk1, hr1⟩ := hSw; have hc0 := CF.out _ hk1; go_simp; rfl
  simp only [Act.put, List.getElem_toArray, List.getElem_cons_zero, List.getElem_cons_succ, List.setIfInBounds_toArray, List.set_cons_zero, List.set_cons_succ]
  refine wpAnyH_take (i := 12) (v := ?_) rfl (by kernel_rfl) (by kernel_rfl) (by kernel_rfl) (fun _ _ _ h => h) (Or.inl ⟨by rfl, ?q12⟩) HS.out ?_
  case q12 => intro w hSw; obtain ⟨hk1, hr1⟩ := hSw; have hc0 := CF.out _ hk1; go_simp; rfl
  simp only [Act.put, List.getElem_toArray, List.getElem_cons_zero, List.getElem_cons_succ, List.setIfInBounds_toArray, List.set_cons_zero, List.set_cons_succ]
  refine wpAnyH_take (i := 13) rfl (by kernel_rfl) (by kernel_rfl) (by kernel_rfl) (fun _ _ _ h => h) (yieldsIf_load_lstS (by rfl) _ rfl w1.heap.size rfl _ _ _ (fun _ hw => hw.1)) HS.out ?_
  simp only [Act.put, List.getElem_toArray, List.getElem_cons_zero, List.getElem_cons_succ, List.setIfInBounds_toArray, List.set_cons_zero, List.set_cons_succ]
  refine wpAnyH_take (i := 14) (v := ?_) rfl (by kernel_rfl) (by kernel_rfl) (by kernel_rfl) (fun _ _ _ h => h) (Or.inl ⟨by rfl, ?q14⟩) HS.out ?_
  case q14 => intro w hSw; obtain ⟨hk1, hr1⟩ := hSw; have hc0 := CF.out _ hk1; go_simp; rfl
  simp only [Act.put, List.getElem_toArray, List.getElem_cons_zero, List.getElem_cons_succ, List.setIfInBounds_toArray, List.set_cons_zero, List.set_cons_succ]
  refine wpAnyH_ready (rs := [15]) (by kernel_rfl) (by simp) ?_
  refine AllReadyH.cons rfl (fun K hK => ?_) AllReadyH.nil
  replace hK := hid hK
  go_simp
  refine (KL.out _ b7.out).mono ?_
  rintro e w8 ⟨rfl, hb8⟩
  have b8 := hid (below_thenT b7.out hb8)
  clear hb8 HS
  have HS : Hid (w8.heap[w1.heap.size]? = some (.cells #[.slice pF n cF, .slice pF (n + 70) cF, .slice pE n cE] 69 (0, 0)) ∧ w8.rangeAt w4.heap.size 0 (D.map (Value.int .u8))) := hid ⟨(b8.out.block _ LT1.out).trans K5.out, fun j u hu => (b8.out.cell (p := ⟨w4.heap.size, 0 + j, none⟩) LT4.out).trans (R5.out j u hu)⟩
  refine hK.out _ _ HS.out (fun _ => ?_)
  clear hK K
  try (simp only [Act.put, List.getElem_toArray, List.getElem_cons_zero, List.getElem_cons_succ, List.setIfInBounds_toArray, List.set_cons_zero, List.set_cons_succ])
  refine wpAnyH_take (i := 16) (v := ?_) rfl (by kernel_rfl) (by kernel_rfl) (by kernel_rfl) (fun _ _ _ h => h) (Or.inl ⟨by rfl, ?q16⟩) HS.out ?_
  case q16 => intro w hSw; obtain ⟨hk1, hr1⟩ := hSw; have hc0 := CF.out _ hk1; go_simp; rfl
  simp only [Act.put, List.getElem_toArray, List.getElem_cons_zero, List.getElem_cons_succ, List.setIfInBounds_toArray, List.set_cons_zero, List.set_cons_succ]
  refine wpAnyH_take (i := 17) (v := ?_) rfl (by kernel_rfl) (by kernel_rfl) (by kernel_rfl) (fun _ _ _ h => h) (Or.inl ⟨by rfl, ?q17⟩) HS.out ?_
  case q17 => intro w hSw; obtain ⟨hk1, hr1⟩ := hSw; have hc0 := CF.out _ hk1; go_simp; rfl
  simp only [Act.put, List.getElem_toArray, List.getElem_cons_zero, List.getElem_cons_succ, List.setIfInBounds_toArray, List.set_cons_zero, List.set_cons_succ]
  refine wpAnyH_done (by kernel_rfl) ?_ _
  have X8 := hid (X5.out.below b8.out)
  have K8 := hid HS.out.1
  have B8 := hid (below_thenT Bw5.out b8.out)
  clear HS SM KL CF R5 hne
  go_wp2
  go_loopw [5] (fun i wr => ∃ I : Nat, I ≤ n ∧ i = .int .i64 (I : Int) ∧ ∃ ms, Hid (XB w.heap.size wr (.slice pF (n + 70) cF) (.slice pE n cE) fU eU n (fun j => (ls.getD j []).length) ms) ∧ Hid (wr.heap[w1.heap.size]? = some (.cells #[.slice pF n cF, .slice pF (n + 70) cF, .slice pE n cE] 69 (0, 0))) ∧ Hid (Below w.heap.size w wr)) (fun i _ => n - (intOf i).toNat)
  case atStart => exact ⟨0, Nat.zero_le _, rfl, _, X8, K8, B8⟩
  case round =>
    clear X8 K8 B8
    obtain ⟨I, hI, rfl, ms, XR, KR, BR⟩ := hrel
    obtain ⟨y0, y1, y2, _, _, _⟩ := three_cells KR.out
    by_cases hlt : I < n
    · obtain ⟨gE, cE', eE, _, _, hmE, hcE⟩ := own_cells XR.out.e (by omega)
      simp only [Value.slice.injEq, true_and] at eE
      obtain ⟨rfl, rfl⟩ := eE
      unfold maxLen at hmE
      have hcell := hcE I hlt
      obtain ⟨q1, q2, hy⟩ := XR.out.r I hlt
      obtain ⟨pe, ce, e1, _⟩ := HE.out I hlt
      rw [e1] at hcell hy
      have HY := hid hy
      have hml : (ms I).length ≤ 1048576 + 70 := by have := HBL.out I; omega
      have CO := hid (over_byt wr _ _ (ms I) hy q2 (by omega))
      obtain ⟨LI, HLI⟩ : ∃ x, Hid ((ls.getD I []).length = x) := ⟨_, rfl⟩
      rw [HLI.out] at hcell CO
      have Q1 := hid q1
      have E1 := hid e1
      clear hcE hy q1 q2 e1
      go_wp2_with fail
      refine CO.out.mono ?_
      rintro e w2' ⟨rfl, ⟨l', hl1, hl2, hl3⟩, hg2⟩
      rw [← HLI.out] at hl3 hg2
      have bk := own_BT HY.out
      have K2' : Hid (w2'.heap[w1.heap.size]? = some (.cells #[.slice pF n cF, .slice pF (n + 70) cF, .slice (some ⟨gE, 0, none⟩) n cE] 69 (0, 0))) := by
        show _ = _
        rw [hg2.block w1.heap.size (Array.getElem?_eq_some_iff.1 KR.out).1 (fun e => own_block_ne HY.out KR.out (by decide) e.symm)]
        exact KR.out
      have X2' : Hid (XB w.heap.size w2' (.slice pF (n + 70) cF) (.slice (some ⟨gE, 0, none⟩) n cE) fU eU n (fun j => (ls.getD j []).length) (fun j => if j = I then l' else ms j)) := by
        refine ⟨own_away XR.out.f hg2 (fun k e => by obtain ⟨cur, fz, hb⟩ := bk k e; exact own_block_ne XR.out.f hb (by decide)), own_away XR.out.e hg2 (fun k e => by obtain ⟨cur, fz, hb⟩ := bk k e; exact own_block_ne XR.out.e hb (by decide)), fun j hj => ?_⟩
        by_cases hji : j = I
        · subst hji
          simp only [if_true]
          exact ⟨hl1.trans Q1.out, hl2, by rw [E1.out, hl1]; exact hl3⟩
        · simp only [if_neg hji]
          obtain ⟨r1, r2, r3⟩ := XR.out.r j hj
          refine ⟨r1, r2, r3.kept hg2 ?_⟩
          have := HAP.out j I (by rw [hel.out]; exact hj) (by rw [hel.out]; exact hlt) hji
          rw [E1.out] at this
          exact this
      have B2' : Hid (Below w.heap.size w w2') := hid (BR.out.grown hg2 BR.out.size (fun k e => (HY.out.lt k e).1))
      clear hg2 hl3 bk CO hl1 hl2
      go_wp2
      exact ⟨⟨I + 1, by omega, by go_num, _, X2', K2', B2'⟩, by simp [intOf]; omega⟩
    · have hI' : I = n := by omega
      have hcut := cutL_flat (ls := ls) (ms := ms) (fun j hj => (XR.out.r j (by rw [← HNl.out]; exact hj)).1)
      rw [HNl.out] at hcut
      have hll := XR.out.hl (fun j hj => HE.out j hj) rfl
      obtain ⟨M, HM⟩ : ∃ x, Hid (cutL n (fun j => (ls.getD j []).length) ms = x) := ⟨_, rfl⟩
      rw [HM.out] at hcut hll
      have HLL := hid hll
      have hMf : M.flatten.length ≤ 1099511627776 := by have := HF.out; omega
      have dR : Hid (Below wr.heap.size wr wr.drew) := (Dr.one wr 1).below _
      have HBM : Hid (∀ x ∈ M.flatten, 0 ≤ x ∧ x < 256) := by
        rw [← HM.out]
        refine hid fun x hx => ?_
        obtain ⟨l, hl, hx⟩ := List.mem_flatten.1 hx
        obtain ⟨j, hj, rfl⟩ := List.mem_map.1 hl
        exact (XR.out.r j (List.mem_range.1 hj)).2.1 x (List.mem_of_mem_take hx)
      have CA := hid (sums_any wr.drew _ M (hll.below dR.out) ((HK.out.below BR.out).below dR.out) (by omega))
      obtain ⟨E, HEE⟩ : ∃ D, Hid (digL M.flatten = D) := ⟨_, rfl⟩
      obtain ⟨em, HEM⟩ : ∃ dm, Hid (cellsB E = dm) := ⟨_, rfl⟩
      rw [HEE.out, HEM.out] at CA
      have heq : ∀ W, (binOp .eql 52 (.agg em) (.agg em)).run Tryd.prog W = .ok (.bool true) W := fun W => by
        have := run_eql_bytes W 32 52 Tryd.underlying52 E E (by rw [← HEE.out, digL_length]) (by rw [← HEE.out, digL_length])
        rw [decide_eq_true rfl, HEM.out] at this
        exact this
      have Y0 := hid y0
      have LT := hid (Array.getElem?_eq_some_iff.1 KR.out).1
      clear hll y1 y2 hcut hlt
      go_wp2_with fail
      refine wp_region_held_drew (S := (fun W : World => W.cell? ⟨w1.heap.size, 0, none⟩ = some (.slice pF n cF))) (by kernel_rfl) Y0.out (fun hHeld => ?_)
      have HS := hid hHeld
      clear hHeld
      change wpAnyH _ _ _ _ _ _ _ _ (World.drew _)
      refine wpAnyH_take (i := 0) (v := ?_) rfl (by kernel_rfl) (by kernel_rfl) (by kernel_rfl) (fun _ _ _ h => h) (Or.inl ⟨by rfl, ?q0⟩) HS.out ?_
      case q0 => intro w hSw; have hc0 := hSw; go_simp; rfl
      simp only [Act.put, List.getElem_toArray, List.getElem_cons_zero, List.getElem_cons_succ, List.setIfInBounds_toArray, List.set_cons_zero, List.set_cons_succ]
      refine wpAnyH_take (i := 1) (v := ?_) rfl (by kernel_rfl) (by kernel_rfl) (by kernel_rfl) (fun _ _ _ h => h) (Or.inl ⟨by rfl, ?q1⟩) HS.out ?_
      case q1 => intro w hSw; have hc0 := hSw; go_simp; rfl
      simp only [Act.put, List.getElem_toArray, List.getElem_cons_zero, List.getElem_cons_succ, List.setIfInBounds_toArray, List.set_cons_zero, List.set_cons_succ]
      refine wpAnyH_take (i := 3) (v := ?_) rfl (by kernel_rfl) (by kernel_rfl) (by kernel_rfl) (fun _ _ _ h => h) (Or.inl ⟨by rfl, ?q3⟩) HS.out ?_
      case q3 => intro w hSw; have hc0 := hSw; go_simp; rfl
      simp only [Act.put, List.getElem_toArray, List.getElem_cons_zero, List.getElem_cons_succ, List.setIfInBounds_toArray, List.set_cons_zero, List.set_cons_succ]
      refine wpAnyH_take (i := 4) (v := ?_) rfl (by kernel_rfl) (by kernel_rfl) (by kernel_rfl) (fun _ _ _ h => h) (Or.inl ⟨by rfl, ?q4⟩) HS.out ?_
      case q4 => intro w hSw; have hc0 := hSw; go_simp; rfl
      simp only [Act.put, List.getElem_toArray, List.getElem_cons_zero, List.getElem_cons_succ, List.setIfInBounds_toArray, List.set_cons_zero, List.set_cons_succ]
      refine wpAnyH_ready (rs := [2]) (by kernel_rfl) (by simp) ?_
      refine AllReadyH.cons rfl (fun K hK => ?_) AllReadyH.nil
      replace hK := hid hK
      go_simp
      refine CA.out.mono ?_
      rintro e w6 ⟨rfl, hb6⟩
      have b6 := hid (dR.out.trans (show Below wr.heap.size wr.drew w6 from hb6))
      have CJ := hid (rjoin2_any w6 _ M (HLL.out.below b6.out) (by omega))
      clear hb6 HS CA
      have HS : Hid (w6.cell? ⟨w1.heap.size, 0, none⟩ = some (.slice pF n cF)) := hid ((b6.out.cell (p := ⟨w1.heap.size, 0, none⟩) LT.out).trans Y0.out)
      refine hK.out _ _ HS.out (fun _ => ?_)
      clear hK K
      try (simp only [Act.put, List.getElem_toArray, List.getElem_cons_zero, List.getElem_cons_succ, List.setIfInBounds_toArray, List.set_cons_zero, List.set_cons_succ])
      refine wpAnyH_ready (rs := [5]) (by kernel_rfl) (by simp) ?_
      refine AllReadyH.cons rfl (fun K hK => ?_) AllReadyH.nil
      replace hK := hid hK
      go_simp
      refine CJ.out.mono ?_
      rintro e w7 ⟨v7, rfl, ho7, hb7⟩
      have b7 := hid (below_thenT b6.out hb7)
      have CT := hid (rsum_any w7 v7 M.flatten (HB.of_own ho7 HBM.out) (by omega))
      rw [HEE.out, HEM.out] at CT
      clear hb7 ho7 HS CJ
      have HS : Hid (w7.cell? ⟨w1.heap.size, 0, none⟩ = some (.slice pF n cF)) := hid ((b7.out.cell (p := ⟨w1.heap.size, 0, none⟩) LT.out).trans Y0.out)
      refine hK.out _ _ HS.out (fun _ => ?_)
      clear hK K
      try (simp only [Act.put, List.getElem_toArray, List.getElem_cons_zero, List.getElem_cons_succ, List.setIfInBounds_toArray, List.set_cons_zero, List.set_cons_succ])
      refine wpAnyH_ready (rs := [6]) (by kernel_rfl) (by simp) ?_
      refine AllReadyH.cons rfl (fun K hK => ?_) AllReadyH.nil
      replace hK := hid hK
      go_simp
      refine CT.out.mono ?_
      rintro e w8 ⟨rfl, hb8⟩
      have b8 := hid (below_thenT b7.out hb8)
      clear hb8 HS CT
      have HS : Hid (w8.cell? ⟨w1.heap.size, 0, none⟩ = some (.slice pF n cF)) := hid ((b8.out.cell (p := ⟨w1.heap.size, 0, none⟩) LT.out).trans Y0.out)
      refine hK.out _ _ HS.out (fun _ => ?_)
      clear hK K
      try (simp only [Act.put, List.getElem_toArray, List.getElem_cons_zero, List.getElem_cons_succ, List.setIfInBounds_toArray, List.set_cons_zero, List.set_cons_succ])
      refine wpAnyH_take (i := 7) (v := ?_) rfl (by kernel_rfl) (by kernel_rfl) (by kernel_rfl) (fun _ _ _ h => h) (Or.inl ⟨by rfl, ?q7⟩) HS.out ?_
      case q7 => intro w hSw; have hc0 := hSw; have := heq w; go_simp; rfl
      simp only [Act.put, List.getElem_toArray, List.getElem_cons_zero, List.getElem_cons_succ, List.setIfInBounds_toArray, List.set_cons_zero, List.set_cons_succ]
      refine wpAnyH_take (i := 8) (v := ?_) rfl (by kernel_rfl) (by kernel_rfl) (by kernel_rfl) (fun _ _ _ h => h) (Or.inl ⟨by rfl, ?q8⟩) HS.out ?_
      case q8 => intro w hSw; have hc0 := hSw; go_simp; rfl
      simp only [Act.put, List.getElem_toArray, List.getElem_cons_zero, List.getElem_cons_succ, List.setIfInBounds_toArray, List.set_cons_zero, List.set_cons_succ]
      refine wpAnyH_done (by kernel_rfl) ?_ _
      have B9 := hid (BR.out.trans (b8.out.mono BR.out.size))
      go_wp2
      go_ret
      exact ⟨rfl, B9.out⟩
end Go.Proofs.YtinahldjpobigaaDoor
namespace Go.Proofs.YtinahldjpobigaaDoor
open Go Go.RowKit Go.ChangeShapes Go.WideShapes Go.ChangeAt
def shaLaid : List (String × DataW Unit) := [("strongroom/sha.constants", Rows.laid_strongroom_sha_constants)]
theorem gK : Tryd.prog.globalNamed "strongroom/sha.constants" = some 0 := by kernel_rfl
theorem tK : (Tryd.prog.globals[0]?).map (·.type) = some 59 := by kernel_rfl
theorem cK : Tryd.prog.cellsOf 24 = 1 := by kernel_rfl
theorem dK : (Rows.laid_strongroom_sha_constants : DataW Unit) = .agg (kW.map fun x : Nat => .lit (.int .u32 (x : Int))) := by kernel_rfl
theorem kc_of_laid {W : World} (h : laidMetH Tryd.prog shaLaid W) : KC W := by
  rw [MakeChecks.laidMetH_plain _ _ _ (by kernel_rfl)] at h
  obtain ⟨ps, ⟨g0, t0, cs0, f0, p0, q0, hg0, ht0, hv0, hd0, _, _⟩, _, _⟩ := h
  obtain rfl := Option.some.inj (gK.symm.trans hg0)
  obtain rfl := Option.some.inj (tK.symm.trans ht0)
  obtain ⟨xs, m, rfl, hx, hlen, hn, hel⟩ := DataW.trod_array Tryd.underlying59 hd0
  intro t ht
  have h1 := hel t ht
  have hxt : xs[t]? = some xs[t] := List.getElem?_eq_getElem (by omega)
  rw [cK, hxt] at h1
  obtain ⟨k, e1, e2, _⟩ := DataW.trod_int Tryd.underlying24 h1
  simp only [Prod.mk.injEq] at hx
  have hd := hx.1
  rw [dK] at hd
  simp only [DataW.agg.injEq] at hd
  have hd2 : (kW.map fun x : Nat => (DataW.lit (.int .u32 (x : Int)) : DataW Unit))[t]? = (xs.map (·.1))[t]? := by rw [hd]
  have hkt : t < kW.length := by rw [kW_length]; exact ht
  rw [List.getElem?_map, List.getElem?_map, hxt, List.getElem?_eq_getElem hkt] at hd2
  simp only [Option.map_some, Option.some.injEq, e2, DataW.lit.injEq, Lit.int.injEq, true_and] at hd2
  have hv := World.var?_cell hg0 hv0 t
  have hcs : cs0[t]? = some (.int .u32 k) := by
    have : ((cs0.toList.drop (t * 1)).take 1)[0]? = some (.int .u32 k) := by rw [e1]; rfl
    simpa using this
  rw [hv, hcs, ← hd2]
  simp [List.getD, List.getElem?_eq_getElem hkt]
end Go.Proofs.YtinahldjpobigaaDoor
namespace Go.Proofs.YtinahldjpobigaaDoor
open Go.ChangeShapes Go.WideShapes Go.ChangeAt Go.RowKit
theorem handed_cond_and {H : Type} {enc : TypeId × Value → H} {a : Assume} {C : Checked} {os : Os} {f : FuncId} {fn : Func} {s : OpenSpec} {k : (H : Type) → List (DataW H) → Bool} (hk : s.cond = some k) {F : Stop.Interp} {conds : List PathCond} {apart fresh handsOn again : Bool} {X : World → Array Value → Prop}
    (hX : ∀ (w w' : World) (args : Array Value), w.heap = w'.heap → X w args → X w' args)
    (own : ownKnob C.prog.godebug = none) (started : os.Started) (noInit : C.prog.inits.idxOf? f = none) (hfn : C.prog.funcs[f]? = some fn)
    (witness : ∃ (w : World) (tape : Tape) (i : Input), w.os = os ∧ (w.forCall tape i).Shaped C.prog ∧ i.vars = [] ∧ Input.okWide C.prog (w.forCall tape i) .any w.heap.size f i ∧
      ((s.pre enc C.prog fn conds apart (w.forCall tape i).memory i.args ∧ X (w.forCall tape i).memory i.args) ∧ sizedMet enc C.prog fn s apart (w.forCall tape i).memory i.args) ∧ a.holds C.prog (lone (Frame.enter C.prog f i.args .normal) [] (w.forCall tape i)))
    (contract : ∀ (W : World) (base : Nat) (args : Array Value) (ds gs : List (DataW H)) (before : List MemPlace),
      (∀ (j : Nat) t v, fn.params[j]? = some t → args[j]? = some v → Value.okWide C.prog W .any base t v) →
      DataW.Whole enc C.prog fn.params.toList s.vars apart W args.toList ds gs before → k H (ds ++ gs) = true → X W args →
      Calls C.prog f args W fun e W' => ∃ v, e = .returned v ∧ (s.at F).post enc C.prog fn apart fresh handsOn again W args v W') :
    ReturnsInHanded a C os f .any (fun w args => (s.pre enc C.prog fn conds apart w args ∧ X w args) ∧ sizedMet enc C.prog fn s apart w args) ((s.at F).post enc C.prog fn apart fresh handsOn again) := by
  refine returnsInHanded_of_calls own started noInit witness ?_
  intro w tape i _ _ _ hok hpre hholds
  obtain ⟨_, _, _, fn', hfn', _, _, _, _, hval⟩ := hok
  have e : fn' = fn := Option.some.inj (hfn'.symm.trans hfn)
  subst e
  obtain ⟨⟨hp, hx⟩, _⟩ := hpre
  obtain ⟨ds, gs, before, hw, hc, hkk⟩ := (OpenSpec.pre_some hk conds apart _ _).1 hp
  have hw' := DataW.Whole.of_heap (w' := w.forCall tape i) (by rfl) hw
  refine (contract (w.forCall tape i) w.heap.size i.args ds gs before hval hw' hkk (hX _ _ _ (by rfl) hx)).mono fun e W' ⟨v, he, hp⟩ => ?_
  subst he
  exact ChangeSpec.post_blind hp
theorem witness_cond {H : Type} {enc : TypeId × Value → H} {C : Checked} {os : Os} {f : FuncId} {fn : Func} {s : OpenSpec} {k : (H : Type) → List (DataW H) → Bool} (hk : s.cond = some k) {conds : List PathCond} {apart : Bool} {X : World → Array Value → Prop} (modest : Bool) (w0 : World) (args : Array Value) (fuel : Nat) (hos : w0.os = os)
    (hsh : (w0.forCall (fun _ _ => 0) ⟨#[], args, []⟩).Shaped C.prog)
    (hok : Input.okWideB C.prog (w0.forCall (fun _ _ => 0) ⟨#[], args, []⟩) f ⟨#[], args, []⟩ = true)
    {x : List (DataW H) × List (DataW H) × List MemPlace} (hx : DataW.whole enc C.prog (w0.forCall (fun _ _ => 0) ⟨#[], args, []⟩).memory fn.params.toList s.vars apart args.toList fuel = some x)
    (hconds : conds.all (PathCond.test C.prog ⟨fn.params.toList, x.1, s.bare.plain.varTypes C.prog, x.2.1⟩) = true) (hkk : k H (x.1 ++ x.2.1) = true)
    (hsz : s.bare.sizedB enc C.prog fn apart (w0.forCall (fun _ _ => 0) ⟨#[], args, []⟩).memory args fuel = true)
    (hX : X (w0.forCall (fun _ _ => 0) ⟨#[], args, []⟩).memory args) :
    ∃ (w : World) (tape : Tape) (i : Input), w.os = os ∧ (w.forCall tape i).Shaped C.prog ∧ i.vars = [] ∧ Input.okWide C.prog (w.forCall tape i) .any w.heap.size f i ∧
      ((s.pre enc C.prog fn conds apart (w.forCall tape i).memory i.args ∧ X (w.forCall tape i).memory i.args) ∧ sizedMet enc C.prog fn s apart (w.forCall tape i).memory i.args) ∧ ({ modest := modest } : Assume).holds C.prog (lone (Frame.enter C.prog f i.args .normal) [] (w.forCall tape i)) :=
  ⟨w0, fun _ _ => 0, ⟨#[], args, []⟩, hos, hsh, (Input.okWide_of_okWideB (base := 0) hok).1, (Input.okWide_of_okWideB hok).2,
    ⟨⟨(OpenSpec.pre_some hk conds apart _ _).2 ⟨x.1, x.2.1, x.2.2, DataW.Whole_of_whole hx, hconds, hkk⟩, hX⟩, sizedMet_of_sizedB hsz⟩, by
    simp only [Assume.holds]
    exact ⟨by simp, by simp, fun _ => Modest.zero, by simp, by simp⟩⟩
variable {H : Type} {enc : TypeId × Value → H} {W : World}
structure Sa where
  on : Int
  cl : Int
  v : Value
  l : List Int
def Sa.cs (o : Sa) : List Value := [.int .i64 o.on, .int .i64 o.cl, o.v]
def Sa.zz : Sa := ⟨0, 0, undef, []⟩
def HSa (w : World) (v : Value) (os : List Sa) : Prop :=
  (∃ (p : Option Addr) (c : Nat), v = .slice p os.length c ∧ os.length ≤ c ∧ c ≤ maxLen ∧ (0 < os.length → ∃ b off, p = some ⟨b, off, none⟩ ∧ ∀ i, i < os.length → ∀ j u, (os.getD i Sa.zz).cs[j]? = some u → w.cell? ⟨b, off + i * 3 + j, none⟩ = some u)) ∧ ∀ i, i < os.length → HB w (os.getD i Sa.zz).v (os.getD i Sa.zz).l ∧ (os.getD i Sa.zz).l.length ≤ 1048576 ∧ (-9223372036854775808 ≤ (os.getD i Sa.zz).on ∧ (os.getD i Sa.zz).on ≤ 9223372036854775807)
theorem bulk_memK {H : Type} {d : DataW H} : ∀ {l : List (DataW H)}, d ∈ l → Rows.uptoBulk d ≤ Rows.uptoBulkAll l
  | [], h => by cases h
  | x :: r, h => by
    rcases List.mem_cons.1 h with rfl | h
    · simp only [Rows.uptoBulkAll]; omega
    · have := bulk_memK h
      simp only [Rows.uptoBulkAll]; omega
theorem bulk_posK {H : Type} (d : DataW H) : 1 ≤ Rows.uptoBulk d := by
  cases d with
  | lit l => cases l <;> simp [Rows.uptoBulk]
  | _ => simp [Rows.uptoBulk]
theorem bulk_lenK {H : Type} {n : Nat} : ∀ (l : List (DataW H)), (∀ d ∈ l, n ≤ Rows.uptoBulk d) → l.length * n ≤ Rows.uptoBulkAll l
  | [], _ => by simp
  | x :: r, h => by
    have h1 := h x (by simp)
    have h2 := bulk_lenK r (fun d hd => h d (by simp [hd]))
    simp only [Rows.uptoBulkAll, List.length_cons]
    rw [Nat.add_mul]
    omega
theorem open_bytK {base fuel : Nat} {cs : List Value} {x : DataW H × List MemPlace} (h : DataW.trod enc Tryd.prog W base (fun _ => true) true fuel 32 cs = some x) : ∃ v l, cs = [v] ∧ HB W v l ∧ l.length ≤ Rows.uptoBulk x.1 := by
  obtain ⟨d, p⟩ := x
  obtain ⟨q, c', l, hcs, h1, h2, h3, h4, h5, h6⟩ := open_row Tryd.underlying32 Tryd.underlying5 Opn.cells_u8 h
  exact ⟨_, l, hcs, ⟨⟨q, c', rfl, h1, h2, h3, h4⟩, byte_wf h5⟩, by show l.length ≤ Rows.uptoBulk d; omega⟩
theorem open_intK {base fuel : Nat} {cs : List Value} {x : DataW H × List MemPlace} (h : DataW.trod enc Tryd.prog W base (fun _ => true) true fuel 3 cs = some x) : ∃ z : Int, cs = [.int .i64 z] ∧ -9223372036854775808 ≤ z ∧ z ≤ 9223372036854775807 := by
  obtain ⟨z, e1, _, w1⟩ := DataW.trod_int Tryd.underlying3 h
  have := bounds_i64 w1
  exact ⟨z, e1, by omega, by omega⟩
theorem part_bulkK {xs : List (DataW H × List MemPlace)} {i : Nat} {x : DataW H × List MemPlace} (h : xs[i]? = some x) : Rows.uptoBulk x.1 ≤ Rows.uptoBulkAll (xs.map (·.1)) :=
  bulk_memK (List.mem_map.2 ⟨x, List.mem_of_getElem? h, rfl⟩)
theorem part_ofK {cs : List Value} {o n : Nat} {l : List Value} (h : (cs.drop o).take n = l) (hn : l.length = n) (m : List Value) (hm : cs.drop (o + n) = m) : cs.drop o = l ++ m := by
  rw [← List.take_append_drop n (cs.drop o), h, List.drop_drop, hm]
theorem Opn.cells_sa : Tryd.prog.cellsOf 45 = 3 := by kernel_rfl
theorem Opn.cells_intK : Tryd.prog.cellsOf 3 = 1 := by kernel_rfl
theorem Opn.cells_bytesK : Tryd.prog.cellsOf 32 = 1 := by kernel_rfl
set_option maxRecDepth 100000 in
theorem open_saL {base fuel : Nat} {cs : List Value} {x : DataW H × List MemPlace} (hm : DataW.trod enc Tryd.prog W base (fun _ => true) true fuel 45 cs = some x) (hB : Rows.uptoBulk x.1 ≤ 1048576) :
    (∃ o : Sa, (HB W o.v o.l ∧ o.l.length ≤ 1048576 ∧ (-9223372036854775808 ≤ o.on ∧ o.on ≤ 9223372036854775807)) ∧ cs = o.cs) ∧ 4 ≤ Rows.uptoBulk x.1 := by
  obtain ⟨xs, n, rfl, rfl, hl, hxl, hf⟩ := DataW.trod_struct Tryd.underlying45 hm
  rw [Opn.cells_sa] at hl
  have g : ∀ (i : Nat) (f : Field), _ → DataW.trod enc Tryd.prog W base (fun _ => true) true n f.type ((cs.drop f.offset).take (Tryd.prog.cellsOf f.type)) = xs[i]? := fun i f hi => hf i f hi
  have hx : ∀ i, i < 3 → ∃ x, xs[i]? = some x := fun i hi => ⟨_, List.getElem?_eq_getElem (by rw [hxl]; exact hi)⟩
  obtain ⟨x0, e0⟩ := hx 0 (by omega)
  have f0 : DataW.trod enc Tryd.prog W base (fun _ => true) true n 3 ((cs.drop 0).take (Tryd.prog.cellsOf 3)) = xs[0]? := g 0 _ rfl
  obtain ⟨x1, e1⟩ := hx 1 (by omega)
  have f1 : DataW.trod enc Tryd.prog W base (fun _ => true) true n 3 ((cs.drop 1).take (Tryd.prog.cellsOf 3)) = xs[1]? := g 1 _ rfl
  obtain ⟨x2, e2⟩ := hx 2 (by omega)
  have f2 : DataW.trod enc Tryd.prog W base (fun _ => true) true n 32 ((cs.drop 2).take (Tryd.prog.cellsOf 32)) = xs[2]? := g 2 _ rfl
  rw [e0, Opn.cells_intK] at f0
  rw [e1, Opn.cells_intK] at f1
  rw [e2, Opn.cells_bytesK] at f2
  obtain ⟨on, q0, on1, on2⟩ := open_intK f0
  obtain ⟨cl, q1, _⟩ := open_intK f1
  obtain ⟨v, l, q2, hv, lv⟩ := open_bytK f2
  have b2 := part_bulkK e2
  have hB' : Rows.uptoBulkAll (xs.map (·.1)) + 1 ≤ 1048576 := by
    have : Rows.uptoBulk (.agg (xs.map (·.1))) ≤ 1048576 := hB
    simpa only [Rows.uptoBulk] using this
  refine ⟨⟨⟨on, cl, v, l⟩, ⟨hv, by show l.length ≤ 1048576; omega, on1, on2⟩, ?_⟩, ?_⟩
  · have h3 : cs.drop 3 = [] := List.drop_eq_nil_of_le (by omega)
    have h2 := part_ofK q2 rfl _ h3
    have h1 := part_ofK q1 rfl _ h2
    have h0 := part_ofK q0 rfl _ h1
    rw [List.drop_zero] at h0
    rw [h0]
    rfl
  · show 4 ≤ Rows.uptoBulk (.agg (xs.map (·.1)))
    simp only [Rows.uptoBulk]
    have := bulk_lenK (n := 1) (xs.map (·.1)) (fun d _ => bulk_posK d)
    rw [List.length_map, hxl] at this
    have h4 : (3 : Nat) * 1 ≤ Rows.uptoBulkAll (xs.map (·.1)) := this
    omega
theorem open_HSa {base : Nat} {v : Value} {d : DataW H} {p : List MemPlace} (h : DataW.Trod enc Tryd.prog W base (fun _ => true) true 39 v d p) (hv : ∃ a n c, v = .slice a n c) (hB : Rows.uptoBulk d ≤ 1048576) : ∃ os, HSa W v os ∧ os.length ≤ 300000 := by
  obtain ⟨a, n, c, rfl⟩ := hv
  obtain ⟨fuel, hf⟩ := h
  rcases Go.Deep.open_slice Tryd.underlying39 hf with ⟨hcs, hx⟩ | ⟨a, len, cap, m, n, D, Pl, hcs, hb, hl, hm, hmm, hx, hel⟩
  · simp only [Value.cells, List.cons.injEq, and_true] at hcs
    rw [hcs]
    exact ⟨[], ⟨⟨none, 0, rfl, Nat.le_refl _, Nat.zero_le _, fun h => absurd h (by simp)⟩, fun d hd => by simp at hd⟩, by simp⟩
  · simp only [Value.cells, List.cons.injEq, and_true] at hcs
    rw [hcs]
    simp only [if_true] at hmm
    subst hmm
    simp only [Prod.mk.injEq] at hx
    obtain ⟨rfl, _⟩ := hx
    have hBe : ∀ i, i < len → Rows.uptoBulk (D i) ≤ 1048576 := fun i hi => by
      have h1 : Rows.uptoBulk (D i) ≤ Rows.uptoBulkAll ((List.range len).map D) := bulk_memK (List.mem_map.2 ⟨i, List.mem_range.2 hi, rfl⟩)
      simp only [Rows.uptoBulk] at hB
      omega
    have each : ∀ i, i < len → ∃ o : Sa, (HB W o.v o.l ∧ o.l.length ≤ 1048576 ∧ (-9223372036854775808 ≤ o.on ∧ o.on ≤ 9223372036854775807)) ∧ (∀ j u, o.cs[j]? = some u → W.cell? ((a.add (i * 3)).add j) = some u) ∧ 4 ≤ Rows.uptoBulk (D i) := by
      intro i hi
      obtain ⟨cs', h1, h2⟩ := hel i (by omega)
      rw [Opn.cells_sa] at h1
      obtain ⟨⟨o, d1, d2⟩, d3⟩ := open_saL h2 (hBe i hi)
      obtain ⟨_, _, hc⟩ := World.cells?_some h1
      refine ⟨o, d1, fun j u hj => ?_, d3⟩
      have hj2 : j < 3 := (List.getElem?_eq_some_iff.1 hj).1
      rw [hc j hj2, d2]
      exact hj
    have hch : ∃ T : Nat → Sa, ∀ i, i < len → (HB W (T i).v (T i).l ∧ (T i).l.length ≤ 1048576 ∧ (-9223372036854775808 ≤ (T i).on ∧ (T i).on ≤ 9223372036854775807)) ∧ (∀ j u, (T i).cs[j]? = some u → W.cell? ((a.add (i * 3)).add j) = some u) ∧ 4 ≤ Rows.uptoBulk (D i) := by
      refine ⟨fun i => if hi : i < len then Classical.choose (each i hi) else Sa.zz, fun i hi => ?_⟩
      simp only [hi, dif_pos]
      exact Classical.choose_spec (each i hi)
    obtain ⟨T, hT⟩ := hch
    have hlen : ((List.range len).map T).length = len := by simp
    have hget : ∀ i, i < len → ((List.range len).map T).getD i Sa.zz = T i := fun i hi => by simp [List.getD, hi]
    have h5 : len * 4 ≤ Rows.uptoBulkAll ((List.range len).map D) := by
      have := bulk_lenK (n := 4) ((List.range len).map D) (fun d hd => by
        obtain ⟨i, hi, rfl⟩ := List.mem_map.1 hd
        exact (hT i (List.mem_range.1 hi)).2.2)
      simpa using this
    have hB2 := hB
    simp only [Rows.uptoBulk] at hB2
    refine ⟨(List.range len).map T, ⟨⟨some a, _, by rw [hlen], by rw [hlen]; exact hl, hm, fun h0 => ?_⟩, fun i hi => ?_⟩, by rw [hlen]; omega⟩
    · rw [hlen] at h0
      obtain ⟨b, off, sp⟩ := a
      have hsp : sp = none := by
        have := (hT 0 h0).2.1 0 _ rfl
        simpa [Addr.add] using World.cell?_spot this
      subst hsp
      refine ⟨b, off, rfl, fun i hi => ?_⟩
      rw [hlen] at hi
      rw [hget i hi]
      intro j u hj
      have := (hT i hi).2.1 j u hj
      rwa [Go.WideShapes.add_plain, Go.WideShapes.add_plain] at this
    · rw [hlen] at hi
      rw [hget i hi]
      exact (hT i hi).1
end Go.Proofs.YtinahldjpobigaaDoor
namespace Go.Proofs.YtinahldjpobigaaDoor
open Go.ChangeShapes Go.WideShapes Go.ChangeAt Go.RowKit
variable {H : Type} {enc : TypeId × Value → H} {W : World}
structure Sc where
  cl : Int
  ws : List Nat
  bl : List Int
  n : Int
  v : Value
  ls : List (List Int)
def Sc.cs (o : Sc) : List Value := [.int .i64 o.cl] ++ (o.ws.map (fun x : Nat => Value.int .u32 (x : Int)) ++ (o.bl.map (Value.int .u8) ++ [.int .i64 o.n, o.v]))
def Sc.ok (o : Sc) : Prop := W8 o.ws ∧ (o.bl.length = 64 ∧ ∀ x ∈ o.bl, 0 ≤ x ∧ x < 256) ∧ (-9223372036854775808 ≤ o.n ∧ o.n ≤ 9223372036854775807) ∧ o.ls.flatten.length + o.ls.length + 1 ≤ 1048576
theorem Sc.len {o : Sc} (h : o.ok) : o.cs.length = 75 := by
  simp [Sc.cs, h.1.1, h.2.1.1]
def Sc.zz : Sc := ⟨0, [], [], 0, undef, []⟩
def HSc (w : World) (v : Value) (os : List Sc) : Prop :=
  (∃ (p : Option Addr) (c : Nat), v = .slice p os.length c ∧ os.length ≤ c ∧ c ≤ maxLen ∧ (0 < os.length → ∃ b off, p = some ⟨b, off, none⟩ ∧ ∀ i, i < os.length → ∀ j u, (os.getD i Sc.zz).cs[j]? = some u → w.cell? ⟨b, off + i * 75 + j, none⟩ = some u)) ∧ ∀ i, i < os.length → (os.getD i Sc.zz).ok ∧ HL w (os.getD i Sc.zz).v (os.getD i Sc.zz).ls
theorem Opn.cells_w8 : Tryd.prog.cellsOf 25 = 8 := by kernel_rfl
theorem Opn.cells_b64 : Tryd.prog.cellsOf 28 = 64 := by kernel_rfl
theorem Opn.cells_u32S : Tryd.prog.cellsOf 24 = 1 := by kernel_rfl
theorem Opn.cells_listsS : Tryd.prog.cellsOf 27 = 1 := by kernel_rfl
theorem open_b64 {base fuel : Nat} {cs : List Value} {x : DataW H × List MemPlace} (h : DataW.trod enc Tryd.prog W base (fun _ => true) true fuel 28 cs = some x) : ∃ d : List Int, (d.length = 64 ∧ ∀ x ∈ d, 0 ≤ x ∧ x < 256) ∧ cs = d.map (Value.int .u8) := by
  obtain ⟨xs, m, rfl, rfl, hl, hxl, hx⟩ := DataW.trod_array Tryd.underlying28 h
  rw [Opn.cells_b64] at hl
  have each : ∀ j, j < 64 → ∃ k : Int, (0 ≤ k ∧ k < 256) ∧ cs[j]? = some (.int .u8 k) := fun j hj => by
    have hj2 := hx j hj
    rw [Opn.cells_u8, List.getElem?_eq_getElem (by omega)] at hj2
    obtain ⟨z, e1, _, w1⟩ := DataW.trod_int Tryd.underlying5 hj2
    refine ⟨z, by have := bounds_u8 w1; omega, ?_⟩
    have e2 : ((cs.drop (j * 1)).take 1)[0]? = some (.int .u8 z) := by rw [e1]; rfl
    rw [List.getElem?_take, if_pos (by decide), List.getElem?_drop] at e2
    simpa using e2
  refine ⟨(List.range 64).map fun j => if hj : j < 64 then Classical.choose (each j hj) else 0, ⟨by simp, fun y hy => ?_⟩, ?_⟩
  · obtain ⟨j, hj, rfl⟩ := List.mem_map.1 hy
    have hj' := List.mem_range.1 hj
    simp only [hj', dif_pos]
    exact (Classical.choose_spec (each j hj')).1
  · rw [List.map_map]
    refine List.ext_getElem? fun j => ?_
    by_cases hj : j < 64
    · rw [(Classical.choose_spec (each j hj)).2]
      simp [hj]
    · rw [List.getElem?_eq_none (by omega), List.getElem?_eq_none (by simp; omega)]
theorem open_w8 {base fuel : Nat} {cs : List Value} {x : DataW H × List MemPlace} (h : DataW.trod enc Tryd.prog W base (fun _ => true) true fuel 25 cs = some x) : ∃ d : List Nat, W8 d ∧ cs = d.map (fun x : Nat => Value.int .u32 (x : Int)) := by
  obtain ⟨xs, m, rfl, rfl, hl, hxl, hx⟩ := DataW.trod_array Tryd.underlying25 h
  rw [Opn.cells_w8] at hl
  have each : ∀ j, j < 8 → ∃ k : Nat, k < 4294967296 ∧ cs[j]? = some (.int .u32 (k : Int)) := fun j hj => by
    have hj2 := hx j hj
    rw [Opn.cells_u32S, List.getElem?_eq_getElem (by omega)] at hj2
    obtain ⟨z, e1, _, w1⟩ := DataW.trod_int Tryd.underlying24 hj2
    have hz : 0 ≤ z ∧ z < 4294967296 := by
      simp [Lit.wf, IntKind.min, IntKind.max, IntKind.signed, IntKind.bits] at w1
      omega
    refine ⟨z.toNat, by omega, ?_⟩
    have e2 : ((cs.drop (j * 1)).take 1)[0]? = some (.int .u32 z) := by rw [e1]; rfl
    rw [List.getElem?_take, if_pos (by decide), List.getElem?_drop] at e2
    rw [Int.toNat_of_nonneg hz.1]
    simpa using e2
  refine ⟨(List.range 8).map fun j => if hj : j < 8 then Classical.choose (each j hj) else 0, ⟨by simp, fun y hy => ?_⟩, ?_⟩
  · obtain ⟨j, hj, rfl⟩ := List.mem_map.1 hy
    have hj' := List.mem_range.1 hj
    simp only [hj', dif_pos]
    exact (Classical.choose_spec (each j hj')).1
  · rw [List.map_map]
    refine List.ext_getElem? fun j => ?_
    by_cases hj : j < 8
    · rw [(Classical.choose_spec (each j hj)).2]
      simp [hj]
    · rw [List.getElem?_eq_none (by omega), List.getElem?_eq_none (by simp; omega)]
theorem open_lstK {base fuel : Nat} {cs : List Value} {x : DataW H × List MemPlace} (h : DataW.trod enc Tryd.prog W base (fun _ => true) true fuel 27 cs = some x) : ∃ v ls, cs = [v] ∧ HL W v ls ∧ ls.flatten.length + ls.length + 1 ≤ Rows.uptoBulk x.1 := by
  obtain ⟨d, p⟩ := x
  obtain ⟨v, hv, hc⟩ : ∃ v : Value, (∃ a n c, v = .slice a n c) ∧ cs = [v] := by
    rcases Go.Deep.open_slice Tryd.underlying27 h with ⟨hcs, _⟩ | ⟨a, len, cap, m, n, D, Pl, hcs, _⟩
    · exact ⟨_, ⟨_, _, _, rfl⟩, hcs⟩
    · exact ⟨_, ⟨_, _, _, rfl⟩, hcs⟩
  obtain ⟨ls, h1, h2⟩ := open_HL (base := base) (v := v) (d := d) (p := p) ⟨fuel, by
    obtain ⟨a, n, c, rfl⟩ := hv
    subst hc
    exact h⟩ hv
  exact ⟨v, ls, hc, h1, h2⟩
theorem Opn.cells_sc : Tryd.prog.cellsOf 30 = 75 := by kernel_rfl
set_option maxRecDepth 100000 in
theorem open_scL {base fuel : Nat} {cs : List Value} {x : DataW H × List MemPlace} (hm : DataW.trod enc Tryd.prog W base (fun _ => true) true fuel 30 cs = some x) (hB : Rows.uptoBulk x.1 ≤ 1048576) :
    (∃ o : Sc, (o.ok ∧ HL W o.v o.ls) ∧ cs = o.cs) ∧ 4 ≤ Rows.uptoBulk x.1 := by
  obtain ⟨xs, n, rfl, rfl, hl, hxl, hf⟩ := DataW.trod_struct Tryd.underlying30 hm
  rw [Opn.cells_sc] at hl
  have g : ∀ (i : Nat) (f : Field), _ → DataW.trod enc Tryd.prog W base (fun _ => true) true n f.type ((cs.drop f.offset).take (Tryd.prog.cellsOf f.type)) = xs[i]? := fun i f hi => hf i f hi
  have hx : ∀ i, i < 5 → ∃ x, xs[i]? = some x := fun i hi => ⟨_, List.getElem?_eq_getElem (by rw [hxl]; exact hi)⟩
  obtain ⟨x0, e0⟩ := hx 0 (by omega)
  have f0 : DataW.trod enc Tryd.prog W base (fun _ => true) true n 3 ((cs.drop 0).take (Tryd.prog.cellsOf 3)) = xs[0]? := g 0 _ rfl
  obtain ⟨x1, e1⟩ := hx 1 (by omega)
  have f1 : DataW.trod enc Tryd.prog W base (fun _ => true) true n 25 ((cs.drop 1).take (Tryd.prog.cellsOf 25)) = xs[1]? := g 1 _ rfl
  obtain ⟨x2, e2⟩ := hx 2 (by omega)
  have f2 : DataW.trod enc Tryd.prog W base (fun _ => true) true n 28 ((cs.drop 9).take (Tryd.prog.cellsOf 28)) = xs[2]? := g 2 _ rfl
  obtain ⟨x3, e3⟩ := hx 3 (by omega)
  have f3 : DataW.trod enc Tryd.prog W base (fun _ => true) true n 3 ((cs.drop 73).take (Tryd.prog.cellsOf 3)) = xs[3]? := g 3 _ rfl
  obtain ⟨x4, e4⟩ := hx 4 (by omega)
  have f4 : DataW.trod enc Tryd.prog W base (fun _ => true) true n 27 ((cs.drop 74).take (Tryd.prog.cellsOf 27)) = xs[4]? := g 4 _ rfl
  rw [e0, Opn.cells_intK] at f0
  rw [e1, Opn.cells_w8] at f1
  rw [e2, Opn.cells_b64] at f2
  rw [e3, Opn.cells_intK] at f3
  rw [e4, Opn.cells_listsS] at f4
  obtain ⟨cl, q0, _⟩ := open_intK f0
  obtain ⟨ws, h8, q1⟩ := open_w8 f1
  obtain ⟨bl, h64, q2⟩ := open_b64 f2
  obtain ⟨m, q3, m1, m2⟩ := open_intK f3
  obtain ⟨v, ls, q4, hv, lv⟩ := open_lstK f4
  have b4 := part_bulkK e4
  have hB' : Rows.uptoBulkAll (xs.map (·.1)) + 1 ≤ 1048576 := by
    have : Rows.uptoBulk (.agg (xs.map (·.1))) ≤ 1048576 := hB
    simpa only [Rows.uptoBulk] using this
  refine ⟨⟨⟨cl, ws, bl, m, v, ls⟩, ⟨⟨h8, h64, ⟨m1, m2⟩, by show ls.flatten.length + ls.length + 1 ≤ 1048576; omega⟩, hv⟩, ?_⟩, ?_⟩
  · have h5 : cs.drop 75 = [] := List.drop_eq_nil_of_le (by omega)
    have h4 := part_ofK q4 rfl _ h5
    have h3 := part_ofK q3 rfl _ h4
    have h2 := part_ofK q2 (by simp [h64.1]) _ h3
    have h1 := part_ofK q1 (by simp [h8.1]) _ h2
    have h0 := part_ofK q0 rfl _ h1
    rw [List.drop_zero] at h0
    rw [h0]
    simp [Sc.cs]
  · show 4 ≤ Rows.uptoBulk (.agg (xs.map (·.1)))
    simp only [Rows.uptoBulk]
    have := bulk_lenK (n := 1) (xs.map (·.1)) (fun d _ => bulk_posK d)
    rw [List.length_map, hxl] at this
    have h4 : (5 : Nat) * 1 ≤ Rows.uptoBulkAll (xs.map (·.1)) := this
    omega
theorem open_HSc {base : Nat} {v : Value} {d : DataW H} {p : List MemPlace} (h : DataW.Trod enc Tryd.prog W base (fun _ => true) true 22 v d p) (hv : ∃ a n c, v = .slice a n c) (hB : Rows.uptoBulk d ≤ 1048576) : ∃ os, HSc W v os ∧ os.length ≤ 300000 := by
  obtain ⟨a, n, c, rfl⟩ := hv
  obtain ⟨fuel, hf⟩ := h
  rcases Go.Deep.open_slice Tryd.underlying22 hf with ⟨hcs, hx⟩ | ⟨a, len, cap, m, n, D, Pl, hcs, hb, hl, hm, hmm, hx, hel⟩
  · simp only [Value.cells, List.cons.injEq, and_true] at hcs
    rw [hcs]
    exact ⟨[], ⟨⟨none, 0, rfl, Nat.le_refl _, Nat.zero_le _, fun h => absurd h (by simp)⟩, fun d hd => by simp at hd⟩, by simp⟩
  · simp only [Value.cells, List.cons.injEq, and_true] at hcs
    rw [hcs]
    simp only [if_true] at hmm
    subst hmm
    simp only [Prod.mk.injEq] at hx
    obtain ⟨rfl, _⟩ := hx
    have hBe : ∀ i, i < len → Rows.uptoBulk (D i) ≤ 1048576 := fun i hi => by
      have h1 : Rows.uptoBulk (D i) ≤ Rows.uptoBulkAll ((List.range len).map D) := bulk_memK (List.mem_map.2 ⟨i, List.mem_range.2 hi, rfl⟩)
      simp only [Rows.uptoBulk] at hB
      omega
    have each : ∀ i, i < len → ∃ o : Sc, (o.ok ∧ HL W o.v o.ls) ∧ (∀ j u, o.cs[j]? = some u → W.cell? ((a.add (i * 75)).add j) = some u) ∧ 4 ≤ Rows.uptoBulk (D i) := by
      intro i hi
      obtain ⟨cs', h1, h2⟩ := hel i (by omega)
      rw [Opn.cells_sc] at h1
      obtain ⟨⟨o, d1, d2⟩, d3⟩ := open_scL h2 (hBe i hi)
      obtain ⟨_, _, hc⟩ := World.cells?_some h1
      refine ⟨o, d1, fun j u hj => ?_, d3⟩
      have hj2 : j < 75 := by have := (List.getElem?_eq_some_iff.1 hj).1; rwa [Sc.len d1.1] at this
      rw [hc j hj2, d2]
      exact hj
    have hch : ∃ T : Nat → Sc, ∀ i, i < len → ((T i).ok ∧ HL W (T i).v (T i).ls) ∧ (∀ j u, (T i).cs[j]? = some u → W.cell? ((a.add (i * 75)).add j) = some u) ∧ 4 ≤ Rows.uptoBulk (D i) := by
      refine ⟨fun i => if hi : i < len then Classical.choose (each i hi) else Sc.zz, fun i hi => ?_⟩
      simp only [hi, dif_pos]
      exact Classical.choose_spec (each i hi)
    obtain ⟨T, hT⟩ := hch
    have hlen : ((List.range len).map T).length = len := by simp
    have hget : ∀ i, i < len → ((List.range len).map T).getD i Sc.zz = T i := fun i hi => by simp [List.getD, hi]
    have h5 : len * 4 ≤ Rows.uptoBulkAll ((List.range len).map D) := by
      have := bulk_lenK (n := 4) ((List.range len).map D) (fun d hd => by
        obtain ⟨i, hi, rfl⟩ := List.mem_map.1 hd
        exact (hT i (List.mem_range.1 hi)).2.2)
      simpa using this
    have hB2 := hB
    simp only [Rows.uptoBulk] at hB2
    refine ⟨(List.range len).map T, ⟨⟨some a, _, by rw [hlen], by rw [hlen]; exact hl, hm, fun h0 => ?_⟩, fun i hi => ?_⟩, by rw [hlen]; omega⟩
    · rw [hlen] at h0
      obtain ⟨b, off, sp⟩ := a
      have hsp : sp = none := by
        have := (hT 0 h0).2.1 0 (.int .i64 (T 0).cl) rfl
        simpa [Addr.add] using World.cell?_spot this
      subst hsp
      refine ⟨b, off, rfl, fun i hi => ?_⟩
      rw [hlen] at hi
      rw [hget i hi]
      intro j u hj
      have := (hT i hi).2.1 j u hj
      rwa [Go.WideShapes.add_plain, Go.WideShapes.add_plain] at this
    · rw [hlen] at hi
      rw [hget i hi]
      exact (hT i hi).1
end Go.Proofs.YtinahldjpobigaaDoor
